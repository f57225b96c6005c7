/- The document's disk: Append. (Made by wip/tools/mkDkRp.py.) -/
import Derived.Test.YtlmhghcoohalaaaDkRd
namespace Go.Proofs.Ytlmhghcoohalaaa.Dk
set_option linter.unusedSimpArgs false
open Go.RowKit

theorem RdAt.drewN {base X : Nat} {s : St} {v : Value} {L : List Fi} {w : World} (h : RdAt base w X s v L) (n : Nat) : RdAt base (w.drewN n) X s v L := ⟨h.blk, h.ge, h.row, h.perm⟩
theorem bs_app (l : List UInt8) (t : ByteArray) : (⟨l.toArray⟩ : ByteArray) ++ t = ⟨(l ++ t.data.toList).toArray⟩ := by
  apply ba_ext
  simp [ByteArray.data_append]

set_option maxHeartbeats 6400000 in
set_option maxRecDepth 100000 in
theorem rapp_any (base X : Nat) (s : St) (v : Value) (L : List Fi) (n t : ByteArray) (w : World) (h : RdAt base w X s v L) (ho : Ok s) (hl : Lim s) (hn : n.size ≤ 1000000) (ht : t.size ≤ 17592186044416) :
    Calls Try.prog 31 #[.pointer (some ⟨X, 0, none⟩), .string n, .string t] w fun e w' => e = .returned (.int .i64 (app s n t).2) ∧ Rd base w' X (app s n t).1 ∧ Kp base X TF w w' := by
  have hfew := ho.few
  rw [← h.perm.length_eq] at hfew
  have HF := Lib.hid (rfind_any base X s v L n w h (by omega))
  have HU := Lib.hid (fun q => rused_any base X s v L (w.drewN q) (h.drewN q) ho)
  have HN := Lib.hid (rname_any n hn)
  have hfound := h.found ho n
  have c2 := blk_cell (i := 2) h.blk rfl
  have HD := Lib.hid h
  cases hon : s.on with
  | false =>
    have HR : Hid (app s n t = (s, 9)) := by show _ = _; unfold app; simp [hon]
    rw [HR.out]
    rw [hon] at c2
    clear h hfound
    generalize fidx L n = q at *
    go_enter Try.func31, Try.ntmps31
    go_wp2_with fail
    refine HF.out.mono ?_
    rintro e w1 ⟨rfl, rfl⟩
    go_wp2_with fail
    go_ret
    exact ⟨rfl, ⟨_, _, HD.out⟩, Kp.refl _ _ _ _⟩
  | true =>
    rw [hon] at c2
    cases hnb : nameB n with
    | false =>
      have HR : Hid (app s n t = (s, 1)) := by show _ = _; unfold app; simp [hon, hnb]
      rw [HR.out]
      rw [hnb] at HN
      clear h hfound
      generalize fidx L n = q at *
      go_enter Try.func31, Try.ntmps31
      go_wp2_with fail
      refine HF.out.mono ?_
      rintro e w1 ⟨rfl, rfl⟩
      go_wp2_with fail
      refine (HN.out _).mono ?_
      rintro e w1 ⟨rfl, rfl⟩
      go_wp2_with fail
      go_ret
      exact ⟨rfl, ⟨_, _, HD.out⟩, Kp.refl _ _ _ _⟩
    | true =>
      rw [hnb] at HN
      have hr0 := ho.room0
      have hr1 := ho.room1
      have hu := hl.used
      have hful := ho.full
      have c1 := blk_cell (i := 1) h.blk rfl
      obtain ⟨a, cap, rfl, _, hcap, _⟩ := row3_slice h.row
      have c0 := blk_cell (i := 0) h.blk rfl
      have hsub : IntKind.i64.wrap (s.room - (used s.fs : Int)) = s.room - (used s.fs : Int) := by rw [IntKind.wrap_i64]; omega
      have HSUB := Lib.hid hsub
      clear hsub
      by_cases hroom : s.room - used s.fs < t.size
      · have HR : Hid (app s n t = (s, 5)) := by show _ = _; unfold app; simp [hon, hnb, hroom]
        rw [HR.out]
        have hdec : decide (s.room - (used s.fs : Int) < (t.size : Int)) = true := decide_eq_true hroom
        have HDEC := Lib.hid hdec
        clear h hfound hdec
        generalize fidx L n = q at *
        go_enter Try.func31, Try.ntmps31
        go_wp2_with fail
        refine HF.out.mono ?_
        rintro e w1 ⟨rfl, rfl⟩
        go_wp2_with fail
        refine (HN.out _).mono ?_
        rintro e w1 ⟨rfl, rfl⟩
        have hsub := HSUB.out
        go_wp2_with fail
        go_quiet ((go_at_call 15; exact Calls.quiet_of_same ((HU.out _).mono (fun _ _ h => ⟨h.1, h.2.symm⟩))))
        clear hsub
        go_wp2_with fail
        go_ret
        exact ⟨rfl, ⟨_, _, HD.out.drewN _⟩, Kp.of_below (drewN_below (Below.refl _ _) _)⟩
      · have hdec : decide (s.room - (used s.fs : Int) < (t.size : Int)) = false := decide_eq_false hroom
        have HDEC := Lib.hid hdec
        rcases hfound with ⟨hh, hi, _⟩ | ⟨hh, k, hi, hk, hnk⟩
        · rw [hi] at HF
          by_cases h64 : 64 ≤ L.length
          · have h64' : s.fs.length = 64 := by rw [← h.perm.length_eq]; omega
            have HR : Hid (app s n t = (s, 5)) := by show _ = _; unfold app; simp [hon, hnb, hh, h64']
            rw [HR.out]
            clear h hdec h64'
            go_enter Try.func31, Try.ntmps31
            go_wp2_with fail
            refine HF.out.mono ?_
            rintro e w1 ⟨rfl, rfl⟩
            go_wp2_with fail
            refine (HN.out _).mono ?_
            rintro e w1 ⟨rfl, rfl⟩
            have hsub := HSUB.out
            go_wp2_with fail
            go_quiet ((go_at_call 15; exact Calls.quiet_of_same ((HU.out _).mono (fun _ _ h => ⟨h.1, h.2.symm⟩))))
            clear hsub
            go_wp2_with fail
            go_ret
            exact ⟨rfl, ⟨_, _, HD.out.drewN _⟩, Kp.of_below (drewN_below (Below.refl _ _) _)⟩
          · have h64' : ¬ s.fs.length = 64 := by rw [← h.perm.length_eq]; omega
            have HR : Hid (app s n t = (begun { s with fs := (ins s.fs (pos s.fs n) ⟨n, [], 0⟩).set (pos s.fs n) ⟨n, [] ++ t.data.toList, 0⟩ }, if goes s then 0 else 9)) := by
              show _ = _
              have hat : at_ (ins s.fs (pos s.fs n) ⟨n, [], 0⟩) (pos s.fs n) = ⟨n, [], 0⟩ := at_some (ins_at (pos_le _ _) _)
              unfold app; simp [hon, hnb, hh, h64', hroom, hat]
            clear h hdec
            go_enter Try.func31, Try.ntmps31
            go_wp2_with fail
            refine HF.out.mono ?_
            rintro e w1 ⟨rfl, rfl⟩
            go_wp2_with fail
            refine (HN.out _).mono ?_
            rintro e w1 ⟨rfl, rfl⟩
            have hsub := HSUB.out
            go_wp2_with fail
            go_quiet ((go_at_call 15; exact Calls.quiet_of_same ((HU.out _).mono (fun _ _ h => ⟨h.1, h.2.symm⟩))))
            clear hsub c0 c1 c2
            have h1 := HD.out.drewN nq
            have k1 : Kp base X TF w (w.drewN nq) := Kp.of_below (drewN_below (Below.refl _ _) nq)
            generalize w.drewN nq = W at h1 k1 ⊢
            have c0 := blk_cell (i := 0) h1.blk rfl
            have hbw : base ≤ W.heap.size := by have := h1.ge; have := lt_of_block h1.blk; omega
            obtain ⟨v5, w5, r1, o5, g5⟩ := app_file base _ _ _ (⟨n, [], 0⟩ : Fi) W h1.row (by omega) hbw 39
            have hX5 : w5.heap[X]? = W.heap[X]? := g5.block X (lt_of_block h1.blk) (fun e => by
              obtain ⟨_, cs5, hh5⟩ := row_tag h1.row e.symm
              rw [h1.blk] at hh5; cases hh5)
            have k5 : Kp base X TF W w5 := Kp.of_grown g5 (fun q hq => by
              obtain ⟨hb5, cs5, hh5⟩ := row_tag h1.row hq
              exact ⟨hb5, fun o ho => by rw [hh5] at ho; cases ho; exact ⟨_, by simp, rfl⟩⟩)
            have hblk5 := hX5.trans h1.blk
            have d0 := blk_cell (i := 0) hblk5 rfl
            have fz := blk_free hblk5 0
            obtain ⟨ua, uc, rfl, _⟩ := row3_slice o5
            have hx2 := heap_setCell_same w5 X 0 _ _ (.slice ua (L.length + 1) uc) hblk5
            have h2 : RdAt base (w5.setCell ⟨X, 0, none⟩ (.slice ua (L.length + 1) uc)) X { s with fs := ins s.fs (pos s.fs n) ⟨n, [], 0⟩ } (.slice ua (L ++ [(⟨n, [], 0⟩ : Fi)]).length uc) (L ++ [⟨n, [], 0⟩]) :=
              ⟨by rw [List.length_append, List.length_singleton]; exact hx2, h1.ge, by
                rw [List.length_append, List.length_singleton, fcs_append, fcs_one]
                exact row_at o5 fun j cs _ hc => by
                  rw [heap_setCell_other _ _ _ _ (ne_of_tag hc hblk5 (by decide))]; exact hc,
                (List.perm_append_comm).trans ((HD.out.perm.cons _).trans (ins_perm _ _ _).symm)⟩
            have k2 : Kp base X TF w (w5.setCell ⟨X, 0, none⟩ (.slice ua (L.length + 1) uc)) := (k1.trans k5).setB h1.ge 0 _
            have H2 := Lib.hid h2
            have K2 := Lib.hid k2
            have HP2 : Hid ((ins s.fs (pos s.fs n) ⟨n, [], 0⟩)[pos s.fs n]? = some ⟨n, [], 0⟩) := ins_at (pos_le _ _) _
            have HKL : Hid ((L ++ [(⟨n, [], 0⟩ : Fi)])[L.length]? = some ⟨n, [], 0⟩) := by show _ = _; simp
            clear h1 k1 o5 g5 hX5 k5 hblk5 hx2 h2 k2 hbw
            go_wp2_with (at_builtin; refine Lib.wpList_append_run _ rfl _ _ _ _ rfl _ _ rfl rfl _ _ r1 ?_)
            generalize w5.setCell ⟨X, 0, none⟩ (.slice ua (L.length + 1) uc) = W2 at H2 K2 ⊢
            clear d0 fz
            obtain ⟨g, cap2, hv, hlt, c0, q0, q1, q2⟩ := H2.out.reads HKL.out
            injection hv with e1 _ e3
            have hlt' : (((L.length) : Nat) : Int) < ((L ++ [(⟨n, [], 0⟩ : Fi)]).length : Int) := by omega
            have h2 := H2.out
            subst e1 e3
            obtain ⟨hgb, cs, hgg⟩ := h2.at_ hlt
            have hgX : X ≠ g := ne_of_tag h2.blk hgg (by decide)
            have fz := blk_free hgg ((L.length) * 3 + 1)
            have hput := h2.put (w' := W2.setCell ⟨g, (L.length) * 3 + 1, none⟩ (.string ⟨((⟨n, [] ++ t.data.toList, 0⟩ : Fi)).bs.toArray⟩)) (t := { s with fs := (ins s.fs (pos s.fs n) ⟨n, [], 0⟩).set (pos s.fs n) (⟨n, [] ++ t.data.toList, 0⟩ : Fi) }) ((⟨n, [] ++ t.data.toList, 0⟩ : Fi)) (by rw [fcs_bs (y := (⟨n, [] ++ t.data.toList, 0⟩ : Fi)) HKL.out rfl rfl]; exact row3_set h2.row ((L.length) * 3 + 1) _) (heap_setCell_other _ _ _ _ hgX) rfl rfl rfl rfl (set_perm _ h2.perm HKL.out HP2.out)
            have kput := K2.out.setT hgg hgb (by simp) (i := (L.length) * 3 + 1) (.string ⟨((⟨n, [] ++ t.data.toList, 0⟩ : Fi)).bs.toArray⟩)
            have HXB := Lib.hid (bs_app ((⟨n, [], 0⟩ : Fi)).bs t)
            have HC := Lib.hid (rcrashes_at base X _ _ _ _ hput.drew hl.ops ho.fuse0 ho.fuse1)
            have HPK := Lib.hid kput.drew
            clear h2 hgg hput kput hlt
            have hll : (L ++ [(⟨n, [], 0⟩ : Fi)]).length = L.length + 1 := by simp
            rw [hll] at c0 hlt' HC
            generalize L.length = len at *
            go_wp2_with fail
            go_region
            rw [HXB.out]
            go_wp2_with fail
            refine HC.out.mono ?_
            rintro e w9 ⟨rfl, h9, k9⟩
            have H9 := Lib.hid h9
            have K9 := Lib.hid (HPK.out.trans (k9.mono (by simp)))
            clear h9 k9
            rcases goes_some s with hg | hg
            · have hg2 : goes { s with fs := (ins s.fs (pos s.fs n) ⟨n, [], 0⟩).set (pos s.fs n) (⟨n, [] ++ t.data.toList, 0⟩ : Fi) } = false := hg
              rw [hg2]
              go_wp2_with fail
              go_ret
              refine ⟨?_, ?_, K9.out⟩
              · rw [HR.out]; show _ = Ending.returned (.int .i64 (if goes s then 0 else 9)); rw [hg]; rfl
              · rw [HR.out]; exact ⟨_, _, H9.out⟩
            · have hg2 : goes { s with fs := (ins s.fs (pos s.fs n) ⟨n, [], 0⟩).set (pos s.fs n) (⟨n, [] ++ t.data.toList, 0⟩ : Fi) } = true := hg
              rw [hg2]
              go_wp2_with fail
              go_ret
              refine ⟨?_, ?_, K9.out⟩
              · rw [HR.out]; show _ = Ending.returned (.int .i64 (if goes s then 0 else 9)); rw [hg]; rfl
              · rw [HR.out]; exact ⟨_, _, H9.out⟩
        · rw [hi] at HF
          have hp := (at_has ho.sorted hh).1
          have hkl := (List.getElem?_eq_some_iff.1 hk).1
          have HR : Hid (app s n t = (begun { s with fs := s.fs.set (pos s.fs n) { at_ s.fs (pos s.fs n) with bs := (at_ s.fs (pos s.fs n)).bs ++ t.data.toList } }, if goes s then 0 else 9)) := by
            show _ = _; unfold app; simp [hon, hnb, hh, hroom]
          have HK := Lib.hid hk
          have HP := Lib.hid hp
          clear h hdec hi hk hp
          go_enter Try.func31, Try.ntmps31
          go_wp2_with fail
          refine HF.out.mono ?_
          rintro e w1 ⟨rfl, rfl⟩
          go_wp2_with fail
          refine (HN.out _).mono ?_
          rintro e w1 ⟨rfl, rfl⟩
          have hsub := HSUB.out
          go_wp2_with fail
          go_quiet ((go_at_call 15; exact Calls.quiet_of_same ((HU.out _).mono (fun _ _ h => ⟨h.1, h.2.symm⟩))))
          clear hsub c0 c1 c2
          have h1 := HD.out.drewN nq
          have k1 : Kp base X TF w (w.drewN nq) := Kp.of_below (drewN_below (Below.refl _ _) nq)
          generalize w.drewN nq = W2 at h1 k1 ⊢
          have H2 := Lib.hid h1
          have K2 := Lib.hid k1
          clear h1 k1
          have hcat : ¬ 9223372036854775807 < (at_ s.fs (pos s.fs n)).bs.length + t.size := by have := used_mem (List.mem_of_getElem? HP.out); omega
          obtain ⟨g, cap2, hv, hlt, c0, q0, q1, q2⟩ := H2.out.reads HK.out
          injection hv with e1 _ e3
          have hlt' : (((k) : Nat) : Int) < ((L).length : Int) := by omega
          have h2 := H2.out
          subst e1 e3
          obtain ⟨hgb, cs, hgg⟩ := h2.at_ hlt
          have hgX : X ≠ g := ne_of_tag h2.blk hgg (by decide)
          have fz := blk_free hgg ((k) * 3 + 1)
          have hput := h2.put (w' := W2.setCell ⟨g, (k) * 3 + 1, none⟩ (.string ⟨({ at_ s.fs (pos s.fs n) with bs := (at_ s.fs (pos s.fs n)).bs ++ t.data.toList }).bs.toArray⟩)) (t := { s with fs := (s.fs).set (pos s.fs n) { at_ s.fs (pos s.fs n) with bs := (at_ s.fs (pos s.fs n)).bs ++ t.data.toList } }) ({ at_ s.fs (pos s.fs n) with bs := (at_ s.fs (pos s.fs n)).bs ++ t.data.toList }) (by rw [fcs_bs (y := { at_ s.fs (pos s.fs n) with bs := (at_ s.fs (pos s.fs n)).bs ++ t.data.toList }) HK.out rfl rfl]; exact row3_set h2.row ((k) * 3 + 1) _) (heap_setCell_other _ _ _ _ hgX) rfl rfl rfl rfl (set_perm _ h2.perm HK.out HP.out)
          have kput := K2.out.setT hgg hgb (by simp) (i := (k) * 3 + 1) (.string ⟨({ at_ s.fs (pos s.fs n) with bs := (at_ s.fs (pos s.fs n)).bs ++ t.data.toList }).bs.toArray⟩)
          have HXB := Lib.hid (bs_app (at_ s.fs (pos s.fs n)).bs t)
          have HC := Lib.hid (rcrashes_at base X _ _ _ _ hput.drew hl.ops ho.fuse0 ho.fuse1)
          have HPK := Lib.hid kput.drew
          clear h2 hgg hput kput hlt
          generalize L.length = len at *
          go_wp2_with fail
          go_region
          rw [HXB.out]
          go_wp2_with fail
          refine HC.out.mono ?_
          rintro e w9 ⟨rfl, h9, k9⟩
          have H9 := Lib.hid h9
          have K9 := Lib.hid (HPK.out.trans (k9.mono (by simp)))
          clear h9 k9
          rcases goes_some s with hg | hg
          · have hg2 : goes { s with fs := (s.fs).set (pos s.fs n) { at_ s.fs (pos s.fs n) with bs := (at_ s.fs (pos s.fs n)).bs ++ t.data.toList } } = false := hg
            rw [hg2]
            go_wp2_with fail
            go_ret
            refine ⟨?_, ?_, K9.out⟩
            · rw [HR.out]; show _ = Ending.returned (.int .i64 (if goes s then 0 else 9)); rw [hg]; rfl
            · rw [HR.out]; exact ⟨_, _, H9.out⟩
          · have hg2 : goes { s with fs := (s.fs).set (pos s.fs n) { at_ s.fs (pos s.fs n) with bs := (at_ s.fs (pos s.fs n)).bs ++ t.data.toList } } = true := hg
            rw [hg2]
            go_wp2_with fail
            go_ret
            refine ⟨?_, ?_, K9.out⟩
            · rw [HR.out]; show _ = Ending.returned (.int .i64 (if goes s then 0 else 9)); rw [hg]; rfl
            · rw [HR.out]; exact ⟨_, _, H9.out⟩
end Go.Proofs.Ytlmhghcoohalaaa.Dk
