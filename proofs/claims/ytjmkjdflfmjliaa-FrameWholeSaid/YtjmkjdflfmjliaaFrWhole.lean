/- The walk of the fifth law of frames: of frames one behind the other, cut off anywhere, the whole ones are told. -/
import Derived.Test.YtjmkjdflfmjliaaFrIs
import Derived.OwnWalk
namespace Go.Proofs.Ytjmkjdflfmjliaa.Fr
open Go.RowKit

theorem info_int : (Try.prog.info? 3).map (fun i => (i.zero, i.size, i.bytes)) = some (some (.int .i64 0), 1, 8) := by kernel_rfl
/-- where the first so many frames end -/
def ends (zs : List Fm) (k : Nat) : List Value := (List.range k).map fun j => .int .i64 (pos (zs.take (j + 1)) : Nat)
theorem ends_succ (zs : List Fm) (k : Nat) : ends zs (k + 1) = ends zs k ++ [.int .i64 (pos (zs.take (k + 1)) : Nat)] := by simp [ends, List.range_succ]
theorem ends_len (zs : List Fm) (k : Nat) : (ends zs k).length = k := by simp [ends]
theorem ends_at (zs : List Fm) (k j : Nat) (h : j < k) : (ends zs k)[j]? = some (.int .i64 (pos (zs.take (j + 1)) : Nat)) := by simp [ends, h]
theorem take_one (zs : List Fm) (k : Nat) (h : k < zs.length) : zs.take (k + 1) = zs.take k ++ [atF zs k] := by
  rw [List.take_succ_eq_append_getElem h]; unfold atF; rw [List.getElem?_eq_getElem h]; rfl
theorem pos_few (zs : List Fm) (h : ∀ j, j < zs.length → (atF zs j).2.size ≤ 200) : ∀ k, k ≤ zs.length → pos (zs.take k) ≤ 216 * k := by
  intro k
  induction k with
  | zero => intro _; simp [pos]
  | succ k ih =>
    intro hk
    have h1 := ih (by omega)
    have h2 := h k (by omega)
    rw [take_one zs k (by omega), pos_snoc]
    omega
theorem pos_mono (zs : List Fm) (k : Nat) (h : k < zs.length) : pos (zs.take k) < pos (zs.take (k + 1)) := by rw [take_one zs k h, pos_snoc]; omega

theorem pos_le (zs : List Fm) (a b : Nat) (h : a ≤ b) : pos (zs.take a) ≤ pos (zs.take b) := by
  have e : zs.take b = zs.take a ++ (zs.take b).drop a := by
    conv => lhs; rw [← List.take_append_drop a (zs.take b)]
    rw [List.take_take, Nat.min_eq_left h]
  rw [e, pos_append]; omega
/-- how many of the frames are whole -/
theorem whole_j (zs : List Fm) (c : Nat) : ∃ j, j ≤ zs.length ∧ pos (zs.take j) ≤ c ∧ (j < zs.length → c < pos (zs.take (j + 1))) := by
  have h : ∀ k, k ≤ zs.length → ∃ j, j ≤ k ∧ pos (zs.take j) ≤ c ∧ (j < k → c < pos (zs.take (j + 1))) := by
    intro k
    induction k with
    | zero => exact fun _ => ⟨0, by omega, by simp [pos], fun h => absurd h (by omega)⟩
    | succ k ih =>
      intro hk
      obtain ⟨j, h1, h2, h3⟩ := ih (by omega)
      by_cases hj : j < k
      · exact ⟨j, by omega, h2, fun _ => h3 hj⟩
      · obtain rfl : j = k := by omega
        by_cases hc : pos (zs.take (j + 1)) ≤ c
        · exact ⟨j + 1, by omega, hc, fun h => absurd h (by omega)⟩
        · exact ⟨j, by omega, h2, fun _ => by omega⟩
  exact h zs.length (Nat.le_refl _)
theorem own_ints {w : World} {base n : Nat} {e : TypeId} {v : Value} {xs : List Value} (h : w.ownsRow base e 1 v n xs) :
    ∃ a cap, v = .slice a n cap ∧ (0 < n → ∃ g, a = some ⟨g, 0, none⟩ ∧ g < w.heap.size ∧ ∀ (j : Nat) (u : Value), xs[j]? = some u → w.cell? ⟨g, j, none⟩ = some u) := by
  rcases h.2 with ⟨rfl, rfl⟩ | ⟨g, cap, cur, rfl, hb, hg, hc, hm, _⟩
  · exact ⟨none, 0, rfl, fun h => absurd h (by omega)⟩
  · refine ⟨_, cap, rfl, fun _ => ⟨g, rfl, (Array.getElem?_eq_some_iff.1 hg).1, fun j u hu => ?_⟩⟩
    have h0 := h.cells (g := g) rfl j u hu
    have ad : (⟨g, 0, none⟩ : Addr).add j = ⟨g, j, none⟩ := by unfold Addr.add; split <;> simp_all
    rw [ad] at h0
    exact h0

/-- frames that came in -/
structure In (a : Option Addr) (n cap : Nat) (zs : List Fm) (w : World) : Prop where
  len_is : zs.length = n
  frs : Frs a zs w
  low : ∀ j, j < n → (atF zs j).1 < 9223372036854775808
  cap_is : n ≤ cap

set_option maxHeartbeats 8000000 in
set_option maxRecDepth 100000 in
theorem whole_some (b o n cap : Nat) (zs : List Fm) (cut : Nat) (hcut : cut < 65536) (w : World) (hp : In (some ⟨b, o, none⟩) n cap zs w) :
    Calls Try.prog 7 #[.slice (some ⟨b, o, none⟩) n cap, .int .u16 cut] w fun e w' => e = .returned (.bool true) ∧ Below w.heap.size w w' := by
  have HI := Lib.hid hp
  have HN := Lib.hid hp.len_is
  have hcap := hp.cap_is
  clear hp
  obtain ⟨i0, hi, hz0, hz1, hz2⟩ := info_parts info_int
  go_enter Try.func7, Try.ntmps7
  go_wp2_with fail
  refine (few_any (some ⟨b, o, none⟩) n cap zs HN.out w HI.out.frs).mono ?_
  rintro e w1 ⟨⟨f, rfl, hf⟩, rfl⟩
  cases f with
  | false =>
    clear hf
    go_wp2_with fail
    refine (awake_any w).mono ?_
    rintro e w1 ⟨rfl, b1⟩
    go_wp2_with fail
    go_ret
    exact ⟨rfl, b1⟩
  | true =>
    obtain ⟨h20, h200⟩ := hf rfl
    clear hf
    have H200 := Lib.hid h200
    rw [HN.out] at h20
    clear h200
    go_wp2_with fail
    go_loopw [5, 6, 7] (fun all v i wr => ∃ k : Nat, k ≤ n ∧ i = .int .i64 k ∧ all = .string (cat (zs.take k)) ∧ Hid (wr.ownsRow w.heap.size 3 1 v k (ends zs k)) ∧ Hid (∀ j, j < k → 1 ≤ (atF zs j).1) ∧ Hid (Below w.heap.size w wr)) (fun _ _ i _ => n - (intOf i).toNat)
    case atStart => exact ⟨0, by omega, rfl, rfl, World.ownsRow_nil _ _ _ _, fun j hj => absurd hj (by omega), Below.refl _ _⟩
    case round =>
      obtain ⟨k, hk, rfl, rfl, HO, HJ, HB⟩ := hrel
      have hown := HO.out
      have hsz : (cat (zs.take k)).size ≤ 5000 := by rw [cat_size]; have := pos_few zs H200.out k (by rw [HN.out]; exact hk); omega
      by_cases hlt : k < n
      · obtain ⟨b', o', hbo, hbl, g⟩ := (HI.out.frs.later HB.out).at_ (by rw [HN.out]; omega)
        obtain ⟨rfl, rfl⟩ : b' = b ∧ o' = o := by injection hbo with h; injection h with h1 h2; exact ⟨h1.symm, h2.symm⟩
        obtain ⟨c0, c1⟩ := g k (by rw [HN.out]; omega)
        have hq2 := HI.out.low k hlt
        have hd := H200.out k (by rw [HN.out]; omega)
        have HT := Lib.hid (take_one zs k (by rw [HN.out]; exact hlt))
        clear g hbo
        obtain ⟨q, hq⟩ : ∃ q, q = (atF zs k).1 := ⟨_, rfl⟩
        obtain ⟨d, hdd⟩ : ∃ d, d = (atF zs k).2 := ⟨_, rfl⟩
        rw [← hq] at c0 hq2
        rw [← hdd] at c1 hd
        have HQ := Lib.hid hq
        have HD := Lib.hid hdd
        clear hq hdd
        by_cases hq1 : q < 1
        · have P := fput_any q d hq2 (by omega)
          have hp : pt q d = (⟨#[]⟩, 1) := by unfold pt; rw [if_pos hq1]
          rw [hp] at P
          have HP := Lib.hid P
          have d1 : decide (q < 1) = true := by simpa using hq1
          clear P hp
          go_wp2_with fail
          go_region_with (go_at_call 9; refine (HP.out _).mono ?_; rintro e w2 ⟨rfl, hb2⟩)
          all_goals
            have hb3 : Below wr.heap.size wr w2 := (Below.refl _ _).drew.trans hb2
            have c2 := (hb3.cell (p := ⟨b', o' + k * 2, none⟩) hbl).trans c0
            have B2 := Lib.hid (HB.out.trans (hb3.mono HB.out.size))
            clear hb2 hb3 c0 c1
            go_wp2_with fail
            refine (awake_any w2).mono ?_
            rintro e w3 ⟨rfl, b3⟩
            have B3 := Lib.hid (B2.out.trans (b3.mono B2.out.size))
            clear b3
            go_wp2_with fail
            go_ret
            exact ⟨rfl, B3.out⟩
        · obtain ⟨m, rfl⟩ := Int.eq_ofNat_of_zero_le (show 0 ≤ q by omega)
          have P := fput_ok m d (by omega) (by omega) (by omega)
          have d1 : decide ((m : Int) < 1) = false := by simp; omega
          have hF := fbS_size m d
          have hcat : cat (zs.take (k + 1)) = cat (zs.take k) ++ fbS m d := by
            rw [HT.out, cat_snoc, ← HQ.out, ← HD.out]; rfl
          have hpos : pos (zs.take (k + 1)) = (cat (zs.take k)).size + (fbS m d).size := by
            rw [HT.out, pos_snoc, ← HD.out, cat_size, fbS_size]
          generalize fbS m d = F at *
          have HP := Lib.hid P
          have HC := Lib.hid hcat
          have HS := Lib.hid hpos
          have hF2 : F.size ≤ 300 := by omega
          have HE := Lib.hid (ends_succ zs k)
          have HJ2 : Hid (∀ j, j < k + 1 → 1 ≤ (atF zs j).1) := by
            intro j hj
            by_cases e : j = k
            · subst e; rw [← HQ.out]; omega
            · exact HJ.out j (by omega)
          clear P hcat hpos hF
          generalize cat (zs.take k) = A at *
          go_wp2_with fail
          go_region_with (go_at_call 9; refine (HP.out _).mono ?_; rintro e w2 ⟨rfl, hb2⟩)
          all_goals
            have hb3 : Below wr.heap.size wr w2 := (Below.refl _ _).drew.trans hb2
            have c2 := (hb3.cell (p := ⟨b', o' + k * 2, none⟩) hbl).trans c0
            have B2 := Lib.hid (HB.out.trans (hb3.mono HB.out.size))
            have hown2 := own_later hown hb3
            clear hb2 hb3 c0 c1 hown
            go_wp2_with (at_builtin; refine wpList_append_own _ rfl _ _ 45 rfl w.heap.size 3 i0 (.int .i64 0) 1 8 Try.underlying45 hi hz0 hz1 hz2 rfl (by decide) _ _ _ rfl (hown2.alloc _) ⟨w2.heap.size, 0, none⟩ 1 1 [.int .i64 ((A.size : Int) + (F.size : Int))] rfl rfl ?_ ?_ ?_ ?_ ?_ ?_)
            · exact Go.cell_one_new w2 (.int .i64 ((A.size : Int) + (F.size : Int))) 3
            · intro u hu; simp at hu; subst hu; rfl
            · unfold maxLen; omega
            · omega
            · have := B2.out.size; simp; omega
            · intro v' w3 hown' hgrow _
              have R1 : Hid (w3.ownsRow w.heap.size 3 1 v' (k + 1) (ends zs (k + 1))) := by
                show World.ownsRow _ _ _ _ _ _ _
                rw [HE.out, HS.out]; push_cast; exact hown'
              have R2 : Hid (Below w.heap.size w w3) := (B2.out.alloc B2.out.size _).grown hgrow (by have := B2.out.size; simp; omega) (fun k hk => (hown2.lt k hk).1)
              clear hown' hgrow hown2 c2
              go_wp2_with fail
              go_roundw
              case rel => exact ⟨k + 1, by omega, by go_num, by rw [HC.out], R1, HJ2, R2⟩
              case measure => simp [intOf]; omega
      · obtain rfl : k = n := by omega
        have hall : zs.take k = zs := List.take_of_length_le (by rw [HN.out]; exact Nat.le_refl _)
        rw [hall] at hsz ⊢
        have hmay : ∀ x ∈ zs, May x := by
          intro x hx
          obtain ⟨j, hj, rfl⟩ := List.getElem_of_mem hx
          have e : atF zs j = zs[j] := by unfold atF; rw [List.getElem?_eq_getElem hj]; rfl
          rw [← e]
          have := H200.out j hj
          exact ⟨HJ.out j (by rw [← HN.out]; exact hj), HI.out.low j (by rw [← HN.out]; exact hj), by omega⟩
        have hps := cat_size zs
        obtain ⟨c, hc, hcl⟩ : ∃ c : Nat, (cut : Int) % (((cat zs).size : Int) + 1) = (c : Int) ∧ c ≤ (cat zs).size := by
          refine ⟨cut % ((cat zs).size + 1), ?_, by have := Nat.mod_lt cut (show (cat zs).size + 1 > 0 by omega); omega⟩
          rw [Int.natCast_emod]; push_cast; rfl
        obtain ⟨j, hj, hj1, hj2⟩ := whole_j zs c
        obtain ⟨w1, w2⟩ := whole zs c j hmay (by omega) hj hj1 hj2
        have A := fun w => fall_any ((cat zs).extract 0 c) (by rw [ByteArray.size_extract]; omega) w
        rw [w1, w2] at A
        have HA := Lib.hid A
        have hjl : (zs.take j).length = j := by rw [List.length_take]; omega
        have HJL := Lib.hid hjl
        rw [HN.out] at hj
        have HNX : Hid (j < k → c < pos (zs.take (j + 1))) := by rw [HN.out] at hj2; exact hj2
        have HPL := Lib.hid (pos_le zs)
        have HEA := Lib.hid (ends_at zs k)
        clear A w1 w2 hjl hmay hj2 hall hps
        generalize cat zs = X at *
        obtain ⟨ae, ce, rfl, hae⟩ := own_ints hown
        have HAE := Lib.hid hae
        clear hae
        have hpj := hj1
        generalize hpp : pos (zs.take j) = pj at *
        have HPP := Lib.hid hpp
        clear hpp
        go_wp2_with fail
        refine (HA.out wr).mono ?_
        rintro e w2 ⟨v, rfl, own2, b2⟩
        have own2 := own2
        rw [HJL.out] at own2
        obtain ⟨am, cm, rfl, hcm, hmm, frm⟩ := own_frs HJL.out own2
        have HFM := Lib.hid frm
        have B2 := Lib.hid (HB.out.trans (b2.mono HB.out.size))
        have b2 := Lib.hid b2
        clear own2 frm hown
        by_cases hpc : pj = c
        · subst hpc
          rw [if_pos rfl]
          go_wp2_with fail
          go_loop [14, 15, 16] (fun a' b' i' => ∃ x : Nat, x ≤ j ∧ a' = .int .i64 x ∧ b' = .int .i64 (pos (zs.take x) : Nat) ∧ i' = .int .i64 x) (fun _ _ i' => j - (intOf i').toNat)
          case atStart => exact ⟨0, by omega, rfl, by simp [pos], rfl⟩
          case round =>
            obtain ⟨x, hx, rfl, rfl, rfl⟩ := hrel
            by_cases hxj : x < j
            · obtain ⟨g, rfl, hg, hcell⟩ := HAE.out (by omega)
              have e1 := (b2.out.cell (p := ⟨g, x, none⟩) hg).trans (hcell x _ (HEA.out x (by omega)))
              have hle := HPL.out (x + 1) j (by omega)
              rw [HPP.out] at hle
              have HY := Lib.hid (rfl : pos (zs.take (x + 1)) = pos (zs.take (x + 1)))
              clear hcell hg
              generalize hyy : pos (zs.take (x + 1)) = y at e1 hle
              have HYY := Lib.hid hyy
              clear hyy
              go_wp2_with fail
              go_round
              case rel => exact ⟨x + 1, by omega, by go_num, by rw [HYY.out], by go_num⟩
              case measure => simp [intOf]; omega
            · obtain rfl : x = j := by omega
              rw [HPP.out]
              by_cases hxk : x < k
              · obtain ⟨g, rfl, hg, hcell⟩ := HAE.out (by omega)
                have e1 := (b2.out.cell (p := ⟨g, x, none⟩) hg).trans (hcell x _ (HEA.out x (by omega)))
                have hgt := HNX.out hxk
                clear hcell hg
                generalize pos (zs.take (x + 1)) = y at e1 hgt
                go_wp2_with fail
                refine (same_any am (some ⟨b, o, none⟩) cm cap x (zs.take x) HJL.out (by omega) w2 HFM.out ((HI.out.frs.later B2.out).take x)).mono ?_
                rintro e w3 ⟨rfl, b3⟩
                have B3 := Lib.hid (B2.out.trans (b3.mono B2.out.size))
                clear b3
                go_wp2_with fail
                refine (awake_any w3).mono ?_
                rintro e w4 ⟨rfl, b4⟩
                have B4 := Lib.hid (B3.out.trans (b4.mono B3.out.size))
                clear b4
                go_wp2_with fail
                go_ret
                exact ⟨rfl, B4.out⟩
              · obtain rfl : x = k := by omega
                go_wp2_with fail
                refine (same_any am (some ⟨b, o, none⟩) cm cap x (zs.take x) HJL.out (by omega) w2 HFM.out ((HI.out.frs.later B2.out).take x)).mono ?_
                rintro e w3 ⟨rfl, b3⟩
                have B3 := Lib.hid (B2.out.trans (b3.mono B2.out.size))
                clear b3
                go_wp2_with fail
                refine (awake_any w3).mono ?_
                rintro e w4 ⟨rfl, b4⟩
                have B4 := Lib.hid (B3.out.trans (b4.mono B3.out.size))
                clear b4
                go_wp2_with fail
                go_ret
                exact ⟨rfl, B4.out⟩
        · rw [if_neg hpc]
          have q1 : ((pj : Int) == (c : Int)) = false := by simp; omega
          go_wp2_with fail
          go_loop [14, 15, 16] (fun a' b' i' => ∃ x : Nat, x ≤ j ∧ a' = .int .i64 x ∧ b' = .int .i64 (pos (zs.take x) : Nat) ∧ i' = .int .i64 x) (fun _ _ i' => j - (intOf i').toNat)
          case atStart => exact ⟨0, by omega, rfl, by simp [pos], rfl⟩
          case round =>
            obtain ⟨x, hx, rfl, rfl, rfl⟩ := hrel
            by_cases hxj : x < j
            · obtain ⟨g, rfl, hg, hcell⟩ := HAE.out (by omega)
              have e1 := (b2.out.cell (p := ⟨g, x, none⟩) hg).trans (hcell x _ (HEA.out x (by omega)))
              have hle := HPL.out (x + 1) j (by omega)
              rw [HPP.out] at hle
              have HY := Lib.hid (rfl : pos (zs.take (x + 1)) = pos (zs.take (x + 1)))
              clear hcell hg
              generalize hyy : pos (zs.take (x + 1)) = y at e1 hle
              have HYY := Lib.hid hyy
              clear hyy
              go_wp2_with fail
              go_round
              case rel => exact ⟨x + 1, by omega, by go_num, by rw [HYY.out], by go_num⟩
              case measure => simp [intOf]; omega
            · obtain rfl : x = j := by omega
              rw [HPP.out]
              by_cases hxk : x < k
              · obtain ⟨g, rfl, hg, hcell⟩ := HAE.out (by omega)
                have e1 := (b2.out.cell (p := ⟨g, x, none⟩) hg).trans (hcell x _ (HEA.out x (by omega)))
                have hgt := HNX.out hxk
                clear hcell hg
                generalize pos (zs.take (x + 1)) = y at e1 hgt
                go_wp2_with fail
                refine (same_any am (some ⟨b, o, none⟩) cm cap x (zs.take x) HJL.out (by omega) w2 HFM.out ((HI.out.frs.later B2.out).take x)).mono ?_
                rintro e w3 ⟨rfl, b3⟩
                have B3 := Lib.hid (B2.out.trans (b3.mono B2.out.size))
                clear b3
                go_wp2_with fail
                refine (awake_any w3).mono ?_
                rintro e w4 ⟨rfl, b4⟩
                have B4 := Lib.hid (B3.out.trans (b4.mono B3.out.size))
                clear b4
                go_wp2_with fail
                go_ret
                exact ⟨rfl, B4.out⟩
              · obtain rfl : x = k := by omega
                go_wp2_with fail
                refine (same_any am (some ⟨b, o, none⟩) cm cap x (zs.take x) HJL.out (by omega) w2 HFM.out ((HI.out.frs.later B2.out).take x)).mono ?_
                rintro e w3 ⟨rfl, b3⟩
                have B3 := Lib.hid (B2.out.trans (b3.mono B2.out.size))
                clear b3
                go_wp2_with fail
                refine (awake_any w3).mono ?_
                rintro e w4 ⟨rfl, b4⟩
                have B4 := Lib.hid (B3.out.trans (b4.mono B3.out.size))
                clear b4
                go_wp2_with fail
                go_ret
                exact ⟨rfl, B4.out⟩
end Go.Proofs.Ytjmkjdflfmjliaa.Fr
