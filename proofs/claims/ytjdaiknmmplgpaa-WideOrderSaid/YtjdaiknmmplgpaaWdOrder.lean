/- The walk of the third law: the order of durations does not matter. -/
import Derived.Test.YtjdaiknmmplgpaaWdSums
import Derived.OwnWalk
namespace Go.Proofs.Ytjdaiknmmplgpaa.Wd
open Go.RowKit

theorem info_int : (Try.prog.info? 3).map (fun i => (i.zero, i.size, i.bytes)) = some (some (.int .i64 0), 1, 8) := by kernel_rfl

theorem row_own {w : World} {base : Nat} {e : TypeId} {v : Value} {n : Nat} {xs : List Int} (h : w.ownsRow base e 1 v n (xs.map (Value.int .i64))) :
    ∃ a cap, v = .slice a n cap ∧ Row a n xs w := by
  have h1 := h.1
  rw [List.length_map, Nat.mul_one] at h1
  rcases h.2 with ⟨rfl, rfl⟩ | ⟨g, cap, cur, rfl, hb, hg, _⟩
  · exact ⟨none, 0, rfl, h1, fun hl => absurd hl (by omega)⟩
  · refine ⟨_, cap, rfl, h1, fun _ => ⟨g, 0, rfl, (Array.getElem?_eq_some_iff.1 hg).1, fun j hj => ?_⟩⟩
    have := h.cells (g := g) rfl j (Value.int .i64 (xs[j]?.getD 0)) (by rw [List.getElem?_map, List.getElem?_eq_getElem (by omega)]; rfl)
    rw [show (⟨g, 0, none⟩ : Addr).add j = ⟨g, 0 + j, none⟩ from by unfold Addr.add; split <;> simp_all] at this
    exact this
theorem own_next {w1 : World} {base : Nat} {v' : Value} {zs : List Int} {m : Nat} (hm : m < zs.length)
    (hown' : w1.ownsRow base 3 1 v' (zs.length - (m + 1) + 1) ((((zs.map (Value.int .i64)).drop (m + 1)).reverse) ++ [.int .i64 (zs[m]?.getD 0)])) :
    w1.ownsRow base 3 1 v' (zs.length - m) ((zs.drop m).reverse.map (Value.int .i64)) := by
  rw [rev_snoc zs m hm, List.map_append, show zs.length - m = zs.length - (m + 1) + 1 by omega, List.map_reverse, List.map_drop]
  exact hown'

set_option maxHeartbeats 4000000 in
set_option maxRecDepth 100000 in
theorem order_long (a : Option Addr) (len cap : Nat) (w : World) (hl : 60 < len) :
    Calls Try.prog 5 #[.slice a len cap] w fun e w' => e = .returned (.bool true) ∧ Below w.heap.size w w' := by
  go_enter Try.func5, Try.ntmps5
  go_wp2_with fail
  refine (awake_any _).mono ?_
  rintro e w1 ⟨rfl, hl1⟩
  go_wp2_with fail
  go_ret
  exact ⟨rfl, hl1⟩

set_option maxHeartbeats 8000000 in
set_option maxRecDepth 100000 in
theorem order_any (a : Option Addr) (len cap : Nat) (zs : List Int) (w : World) (hz : Row a len zs w) (hl : len ≤ 60) :
    Calls Try.prog 5 #[.slice a len cap] w fun e w' => e = .returned (.bool true) ∧ Below w.heap.size w w' := by
  have hzl := hz.len_is
  subst hzl
  have HZ := Lib.hid hz
  clear hz
  obtain ⟨i0, hi0, hz0, hz1, hz2⟩ := info_parts info_int
  go_enter Try.func5, Try.ntmps5
  go_wp2_with fail
  go_loopw [3, 4] (fun v i wr => ∃ n : Nat, n ≤ zs.length ∧ i = .int .i64 ((n : Int) - 1) ∧ Hid (wr.ownsRow w.heap.size 3 1 v (zs.length - n) ((zs.drop n).reverse.map (Value.int .i64))) ∧ Hid (Below w.heap.size w wr)) (fun _ i _ => (intOf i + 1).toNat)
  case atStart =>
    refine ⟨zs.length, by omega, rfl, ?_, Below.refl _ _⟩
    show World.ownsRow _ _ _ _ _ _ _
    rw [Nat.sub_self, List.drop_length]
    exact World.ownsRow_nil _ _ _ _
  case round =>
    obtain ⟨n, hn, rfl, HO, HBL⟩ := hrel
    cases n with
    | succ m =>
      have hm : ((m + 1 : Nat) : Int) - 1 = (m : Int) := by omega
      rw [hm]
      clear hm
      obtain ⟨b, off, rfl, hbs, hcell⟩ := (HZ.out.later HBL.out).at_ (by omega)
      have hc := hcell m (by omega)
      have HNX := Lib.hid (fun v' w1 => own_next (w1 := w1) (v' := v') (base := w.heap.size) (zs := zs) (m := m) (by omega))
      generalize zs[m]?.getD 0 = z at hc HNX
      have hown := HO.out
      clear hcell
      go_wp2_with (first
        | (at_builtin; refine wpList_append_own _ rfl _ _ 24 rfl w.heap.size 3 i0 (.int .i64 0) 1 8 Try.underlying24 hi0 hz0 hz1 hz2 rfl (by decide) _ _ _ rfl (hown.alloc _) ⟨wr.heap.size, 0, none⟩ 1 1 [.int .i64 z] rfl rfl ?c1 ?c2 ?c3 ?c4 ?c5 ?_)
        | fail)
      case c1 =>
        intro j u hj
        match j, hj with
        | 0, hj => simp at hj; subst hj; simp [Addr.add]
      case c2 => intro u hu; simp at hu; subst hu; rfl
      case c3 => unfold maxLen; omega
      case c4 => omega
      case c5 => have := HBL.out.size; simp; omega
      · intro v' w1 hown' hgrow _
        have R1 : Hid (w1.ownsRow w.heap.size 3 1 v' (zs.length - m) ((zs.drop m).reverse.map (Value.int .i64))) := HNX.out v' w1 hown'
        have R2 : Hid (Below w.heap.size w w1) := (HBL.out.alloc HBL.out.size _).grown hgrow (by have := HBL.out.size; simp; omega) (fun k hk => (hown.lt k hk).1)
        clear hown' hgrow hown hc
        go_wp2_with fail
        go_roundw
        case rel => exact ⟨m, by omega, rfl, R1, R2⟩
        case measure => simp [intOf]
    | zero =>
      generalize wr = wo at *
      obtain ⟨a', cap', rfl, hR⟩ := row_own HO.out
      rw [Nat.sub_zero, List.drop_zero] at hR
      have HR := Lib.hid hR
      clear hR HO
      have s0 := HBL.out.size
      go_wp2_with fail
      refine (of_any _ _ _ zs _ (HZ.out.later HBL.out) (by omega)).mono ?_
      rintro e w1 ⟨rfl, hb1⟩
      rw [ofT_sum zs (by omega)]
      have hX := Bx.start w1 23 (.int .i64 (hi (sumD zs))) (.int .i64 (lo (sumD zs)))
      have hBX : Below wo.heap.size wo (w1.alloc (.cells #[.int .i64 (hi (sumD zs)), .int .i64 (lo (sumD zs))] 23)) := hb1.alloc hb1.size _
      have HS1 := Lib.hid hb1.size
      clear hb1
      go_wp2_with fail
      generalize World.alloc w1 _ = W at hX hBX ⊢
      go_loopw [6] (fun i wx => ∃ k : Nat, k ≤ zs.length ∧ i = .int .i64 k ∧ Hid (Bx wx w1.heap.size (.int .i64 (hi (sumD (zs.drop k)))) (.int .i64 (lo (sumD (zs.drop k))))) ∧ Hid (Below wo.heap.size wo wx)) (fun i _ => zs.length - (intOf i).toNat)
      case atStart => exact ⟨0, by omega, rfl, hX, hBX⟩
      case round =>
        obtain ⟨k, hk, rfl, HX, HBX⟩ := hrel
        have HBW : Hid (Below w.heap.size w wr) := HBL.out.trans (HBX.out.mono s0)
        have c0 := HX.out.c0
        have c1 := HX.out.c1
        by_cases hkl : k < zs.length
        · obtain ⟨b, off, rfl, hbs, hcell⟩ := (HZ.out.later HBW.out).at_ (by omega)
          have hc := hcell k hkl
          have HSB := Lib.hid (subT_drop zs k hkl)
          have HT := Lib.hid (tot_split (sumD_ge (zs.drop k)) (by have := sumD_le (zs.drop k); have := List.length_drop (i := k) (l := zs); omega))
          generalize zs[k]?.getD 0 = z at hc HSB
          clear hcell
          generalize hi (sumD (zs.drop k)) = H at *
          generalize lo (sumD (zs.drop k)) = L at *
          have HXd : Hid (Bx wr.drew w1.heap.size (.int .i64 H) (.int .i64 L)) := HX.out.later ((Below.refl _ _).drew)
          have HBXd : Hid (Below wo.heap.size wo wr.drew) := HBX.out.drew
          go_wp2_with fail
          go_region_with (go_at_call 10; refine (sub_any _ _ _ _).mono ?_; rintro e w2 ⟨rfl, hb2⟩; have HX' := HXd.out.later hb2; have HBX' : Hid (Below wo.heap.size wo w2) := HBXd.out.trans (hb2.mono HBXd.out.size); have d0 := HX'.c0; have d1 := HX'.c1; have d2 := HX'.f0; have d3 := HX'.f1; clear hb2; rw [HT.out, HSB.out])
          all_goals
            go_wp2_with fail
            go_roundw
            case rel => exact ⟨k + 1, by omega, by go_num, HX'.set _ _, (HBX'.out.setCell HS1.out _).setCell HS1.out _⟩
            case measure => simp [intOf]; omega
        · obtain rfl : k = zs.length := by omega
          have z0 : hi (sumD (zs.drop zs.length)) = 0 := by rw [List.drop_length]; decide
          have z1 : lo (sumD (zs.drop zs.length)) = 0 := by rw [List.drop_length]; decide
          rw [z0, z1] at HX
          clear c0 c1 z0 z1
          have hr := ofT_sum zs.reverse (by rw [List.length_reverse]; omega)
          rw [sumD_reverse] at hr
          have hf := ofT_sum zs (by omega)
          have HE := Lib.hid hr
          have HF := Lib.hid hf
          clear hr hf
          go_wp2_with fail
          refine (of_any _ _ _ zs.reverse _ (HR.out.later HBX.out) (by omega)).mono ?_
          rintro e w2 ⟨rfl, hb2⟩
          rw [HE.out]
          have HX2 : Hid (Bx _ _ _ _) := HX.out.later hb2
          have HB2 : Hid (Below w.heap.size w w2) := HBW.out.trans (hb2.mono HBW.out.size)
          clear hb2
          go_wp2_with fail
          refine (of_any _ _ _ zs _ (HZ.out.later HB2.out) (by omega)).mono ?_
          rintro e w3 ⟨rfl, hb3⟩
          rw [HF.out]
          have HX3 : Hid (Bx _ _ _ _) := HX2.out.later hb3
          have HB3 : Hid (Below w.heap.size w w3) := HB2.out.trans (hb3.mono HB2.out.size)
          clear hb3
          have c0 := HX3.out.c0
          have c1 := HX3.out.c1
          go_wp2_with fail
          refine (awake_any _).mono ?_
          rintro e w4 ⟨rfl, hb4⟩
          go_wp2_with fail
          go_ret
          exact ⟨rfl, HB3.out.trans (hb4.mono HB3.out.size)⟩
end Go.Proofs.Ytjdaiknmmplgpaa.Wd
