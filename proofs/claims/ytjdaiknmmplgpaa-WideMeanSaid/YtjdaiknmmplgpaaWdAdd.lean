/- One duration more, and one less: what the program does. -/
import Derived.Test.YtjdaiknmmplgpaaWdNum
import Derived.StillTailTactics
import Derived.RegionTactic
import Derived.ChangeAlike
import Derived.BigRegion
import Derived.Deep.QuietTactic
import Derived.BigQuiet
namespace Go.Proofs.Ytjdaiknmmplgpaa.Wd
open Go.RowKit

theorem drewN_below {B : Nat} {a w : World} (h : Below B a w) (n : Nat) : Below B a (w.drewN n) := h.trans ⟨rfl, rfl, rfl, Nat.le_refl _, fun _ _ => rfl⟩
theorem drewN_alloc (w : World) (o : Obj) (n : Nat) : (w.alloc o).drewN n = (w.drewN n).alloc o := rfl
theorem may_hi {h l : Int} (hm : may h l = true) : hi (tot h l) = h ∧ lo (tot h l) = l := by
  unfold may at hm
  obtain ⟨a, b, c, d⟩ := of_decide_eq_true hm
  exact ⟨hi_tot a b c d, lo_tot a b c d⟩
theorem may_not {h l : Int} (hm : may h l = false) : tot h l = 0 := by
  unfold may at hm
  have := of_decide_eq_false hm
  unfold tot; rw [if_neg this]

set_option maxHeartbeats 800000 in
set_option maxRecDepth 100000 in
theorem counted_at (h l : Int) (w : World) :
    Calls Try.prog 20 #[.agg #[.int .i64 h, .int .i64 l]] w fun e w' => e = .returned (.agg #[.int .i64 (hi (tot h l)), .int .i64 (lo (tot h l))]) ∧
      w' = ((w.alloc (.cells #[.int .i64 h, .int .i64 l] 23)).alloc (.cells #[.int .i64 (hi (tot h l)), .int .i64 (lo (tot h l))] 23)).alloc (.cells #[.int .i64 h, .int .i64 l] 23) := by
  go_enter Try.func20, Try.ntmps20
  go_wp2_with fail
  refine (may_at h l _).mono ?_
  rintro e w1 ⟨rfl, rfl⟩
  rcases hm : may h l with _ | _
  · go_wp2
    rw [may_not hm]
    exact bodyPost_ret (v := .agg #[.int .i64 0, .int .i64 0]) (by simp [results, Try.results20, go_sem]) rfl ⟨rfl, rfl⟩
  · go_wp2
    rw [(may_hi hm).1, (may_hi hm).2]
    exact bodyPost_ret (v := .agg #[.int .i64 h, .int .i64 l]) (by simp [results, Try.results20, go_sem]) rfl ⟨rfl, rfl⟩

set_option maxHeartbeats 800000 in
set_option maxRecDepth 100000 in
theorem right_at (h l : Int) (w : World) :
    Calls Try.prog 22 #[.agg #[.int .i64 h, .int .i64 l]] w fun e w' => e = .returned (.agg #[.int .i64 (hi (tot h l)), .int .i64 (lo (tot h l))]) ∧
      w' = ((w.alloc (.cells #[.int .i64 h, .int .i64 l] 23)).alloc (.cells #[.int .i64 (hi (tot h l)), .int .i64 (lo (tot h l))] 23)).alloc (.cells #[.int .i64 h, .int .i64 l] 23) := by
  go_enter Try.func22, Try.ntmps22
  go_wp2_with fail
  refine (rmay_at h l _).mono ?_
  rintro e w1 ⟨rfl, rfl⟩
  rcases hm : may h l with _ | _
  · go_wp2
    rw [may_not hm]
    exact bodyPost_ret (v := .agg #[.int .i64 0, .int .i64 0]) (by simp [results, Try.results22, go_sem]) rfl ⟨rfl, rfl⟩
  · go_wp2
    rw [(may_hi hm).1, (may_hi hm).2]
    exact bodyPost_ret (v := .agg #[.int .i64 h, .int .i64 l]) (by simp [results, Try.results22, go_sem]) rfl ⟨rfl, rfl⟩

set_option maxHeartbeats 1600000 in
set_option maxRecDepth 100000 in
theorem add_any (h l d : Int) (w : World) :
    Calls Try.prog 8 #[.agg #[.int .i64 h, .int .i64 l], .int .i64 d] w fun e w' => e = .returned (.agg #[.int .i64 (hi (addT (tot h l) d)), .int .i64 (lo (addT (tot h l) d))]) ∧ Below w.heap.size w w' := by
  have t0 := tot_ge h l
  have t1 := tot_le h l
  go_enter Try.func8, Try.ntmps8
  go_wp2_with fail
  refine (counted_at h l _).mono ?_
  rintro e w1 ⟨rfl, rfl⟩
  have h0 := hi_ge t0
  have h1 := hi_le t1
  have l0 := lo_ge (tot h l)
  have l1 := lo_lt (tot h l)
  have d0 := dur_ge d
  have d1 := dur_le d
  have hN : hi (tot h l) * 4611686018427387904 + lo (tot h l) = tot h l := by unfold hi lo; omega
  generalize hT : tot h l = T at *
  generalize hH : hi T = H at *
  generalize hL : lo T = L at *
  have HT := Lib.hid hT
  clear hT
  go_wp2_with fail
  go_quiet ((first | (go_at_call 21; refine Calls.quiet_of_same ((dur_any _ _).mono fun _ _ h => ⟨h.1, h.2.symm⟩))))
  obtain ⟨w0, hw0, hs, hb⟩ : ∃ w0, w.drewN nq = w0 ∧ w.heap.size = w0.heap.size ∧ Below w.heap.size w w0 := ⟨_, rfl, rfl, drewN_below (Below.refl _ _) nq⟩
  simp only [drewN_alloc]
  rw [hw0, hs]
  clear hw0
  have HS := Lib.hid hs
  clear hs
  go_wp2_with fail
  refine (may_at _ _ _).mono ?_
  rintro e w1 ⟨rfl, rfl⟩
  rcases hm : may (H + (L + dur d) / 4611686018427387904) ((L + dur d) % 4611686018427387904) with _ | _
  · have hr : addT T d = 19807040633177770416813375487 := by
      unfold may at hm
      have := of_decide_eq_false hm
      unfold addT; split <;> omega
    have HR := Lib.hid hr
    clear hr
    go_wp2
    refine bodyPost_ret (v := .agg #[.int .i64 4294967296, .int .i64 4611686018427387903]) (by simp [results, Try.results8, go_sem]) rfl ⟨by rw [HT.out, HR.out]; rfl, ?_⟩
    rw [HS.out] at hb ⊢
    exact (((((hb.alloc (by simp) _).alloc (by simp) _).alloc (by simp; try omega) _).alloc (by simp; try omega) _).alloc (by simp; try omega) _).alloc (by simp; try omega) _
  · have hr : addT T d = T + dur d := by
      unfold may at hm
      have := of_decide_eq_true hm
      unfold addT; split <;> omega
    have hr1 : hi (T + dur d) = H + (L + dur d) / 4611686018427387904 := by unfold hi; omega
    have hr2 : lo (T + dur d) = (L + dur d) % 4611686018427387904 := by unfold lo; omega
    have HR := Lib.hid hr
    have HR1 := Lib.hid hr1
    have HR2 := Lib.hid hr2
    clear hr hr1 hr2
    go_wp2
    refine bodyPost_ret (v := .agg #[.int .i64 (H + (L + dur d) / 4611686018427387904), .int .i64 ((L + dur d) % 4611686018427387904)]) (by simp [results, Try.results8, go_sem]) rfl ⟨by rw [HT.out, HR.out, HR1.out, HR2.out], ?_⟩
    rw [HS.out] at hb ⊢
    exact (((((hb.alloc (by simp) _).alloc (by simp) _).alloc (by simp; try omega) _).alloc (by simp; try omega) _).alloc (by simp; try omega) _).alloc (by simp; try omega) _

set_option maxHeartbeats 3200000 in
set_option maxRecDepth 100000 in
theorem radd_any (h l d : Int) (w : World) :
    Calls Try.prog 9 #[.agg #[.int .i64 h, .int .i64 l], .int .i64 d] w fun e w' => e = .returned (.agg #[.int .i64 (hi (addT (tot h l) d)), .int .i64 (lo (addT (tot h l) d))]) ∧ Below w.heap.size w w' := by
  have t0 := tot_ge h l
  have t1 := tot_le h l
  have HA0 : Hid (hi (addT (tot h l) d) = (addT (tot h l) d) / 4611686018427387904 ∧ lo (addT (tot h l) d) = (addT (tot h l) d) % 4611686018427387904) := ⟨rfl, rfl⟩
  have hA : addT (tot h l) d = if 19807040633177770416813375487 < tot h l + dur d then 19807040633177770416813375487 else tot h l + dur d := rfl
  generalize hi (addT (tot h l) d) = AH at HA0 ⊢
  generalize lo (addT (tot h l) d) = AL at HA0 ⊢
  generalize addT (tot h l) d = A at HA0 hA
  go_enter Try.func9, Try.ntmps9
  go_wp2_with fail
  refine (right_at h l _).mono ?_
  rintro e w1 ⟨rfl, rfl⟩
  have h0 := hi_ge t0
  have h1 := hi_le t1
  have l0 := lo_ge (tot h l)
  have l1 := lo_lt (tot h l)
  have d0 := dur_ge d
  have d1 := dur_le d
  have hN : hi (tot h l) * 4611686018427387904 + lo (tot h l) = tot h l := by unfold hi lo; omega
  generalize hD : dur d = D at *
  generalize hT : tot h l = T at *
  generalize hH : hi T = H at *
  generalize hL : lo T = L at *
  have HD := Lib.hid hD
  have HA := Lib.hid hA
  clear hT hH hL hD hA
  have hb := Below.refl w.heap.size w
  go_wp2_with fail
  refine (rclamp_any _ _ _ _).mono ?_
  rintro e w1 ⟨rfl, rfl⟩
  change Hid (cl d 0 4611686018427387904 = D) at HD
  rw [HD.out]
  clear HD
  go_wp2
  all_goals
    refine bodyPost_ret (v := .agg #[.int .i64 AH, .int .i64 AL]) (by simp [results, Try.results9, go_sem]; simp only [beq_iff_eq, beq_eq_false_iff_ne, ne_eq] at *; have a1 := HA.out; have a2 := HA0.out; constructor <;> (split at a1 <;> omega)) rfl ⟨rfl, ?_⟩
    exact ((((hb.alloc (by simp) _).alloc (by simp) _).alloc (by simp; try omega) _).alloc (by simp; try omega) _).alloc (by simp; try omega) _

set_option maxHeartbeats 3200000 in
set_option maxRecDepth 100000 in
theorem rsub_any (h l d : Int) (w : World) :
    Calls Try.prog 11 #[.agg #[.int .i64 h, .int .i64 l], .int .i64 d] w fun e w' => e = .returned (.agg #[.int .i64 (hi (subT (tot h l) d)), .int .i64 (lo (subT (tot h l) d))]) ∧ Below w.heap.size w w' := by
  have t0 := tot_ge h l
  have t1 := tot_le h l
  have HA0 : Hid (hi (subT (tot h l) d) = (subT (tot h l) d) / 4611686018427387904 ∧ lo (subT (tot h l) d) = (subT (tot h l) d) % 4611686018427387904) := ⟨rfl, rfl⟩
  have hA : subT (tot h l) d = if tot h l - dur d < 0 then 0 else tot h l - dur d := rfl
  generalize hi (subT (tot h l) d) = AH at HA0 ⊢
  generalize lo (subT (tot h l) d) = AL at HA0 ⊢
  generalize subT (tot h l) d = A at HA0 hA
  go_enter Try.func11, Try.ntmps11
  go_wp2_with fail
  refine (right_at h l _).mono ?_
  rintro e w1 ⟨rfl, rfl⟩
  have h0 := hi_ge t0
  have h1 := hi_le t1
  have l0 := lo_ge (tot h l)
  have l1 := lo_lt (tot h l)
  have d0 := dur_ge d
  have d1 := dur_le d
  have hN : hi (tot h l) * 4611686018427387904 + lo (tot h l) = tot h l := by unfold hi lo; omega
  generalize hD : dur d = D at *
  generalize hT : tot h l = T at *
  generalize hH : hi T = H at *
  generalize hL : lo T = L at *
  have HD := Lib.hid hD
  have HA := Lib.hid hA
  clear hT hH hL hD hA
  have hb := Below.refl w.heap.size w
  go_wp2_with fail
  refine (rclamp_any _ _ _ _).mono ?_
  rintro e w1 ⟨rfl, rfl⟩
  change Hid (cl d 0 4611686018427387904 = D) at HD
  rw [HD.out]
  clear HD
  go_wp2
  all_goals
    refine bodyPost_ret (v := .agg #[.int .i64 AH, .int .i64 AL]) (by simp [results, Try.results11, go_sem]; simp only [beq_iff_eq, beq_eq_false_iff_ne, ne_eq] at *; have a1 := HA.out; have a2 := HA0.out; constructor <;> (split at a1 <;> omega)) rfl ⟨rfl, ?_⟩
    exact ((((hb.alloc (by simp) _).alloc (by simp) _).alloc (by simp; try omega) _).alloc (by simp; try omega) _).alloc (by simp; try omega) _
end Go.Proofs.Ytjdaiknmmplgpaa.Wd
