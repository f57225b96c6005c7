/- One duration less: what the program does; and what is less. -/
import Derived.Test.YtjdaiknmmplgpaaWdAdd
import Derived.Deep.RegionWith
namespace Go.Proofs.Ytjdaiknmmplgpaa.Wd
open Go.RowKit

set_option maxHeartbeats 3200000 in
set_option maxRecDepth 100000 in
theorem sub_any (h l d : Int) (w : World) :
    Calls Try.prog 10 #[.agg #[.int .i64 h, .int .i64 l], .int .i64 d] w fun e w' => e = .returned (.agg #[.int .i64 (hi (subT (tot h l) d)), .int .i64 (lo (subT (tot h l) d))]) ∧ Below w.heap.size w w' := by
  have t0 := tot_ge h l
  have t1 := tot_le h l
  have hA : subT (tot h l) d = if tot h l - dur d < 0 then 0 else tot h l - dur d := rfl
  have hcnt : ∀ H' L' : Int, H' * 4611686018427387904 + L' = tot h l - dur d → 0 ≤ L' → L' < 4611686018427387904 → tot H' L' = subT (tot h l) d := by
    intro H' L' e0 e1 e2
    rw [hA]
    have d0 := dur_ge d
    generalize tot h l = T at *
    unfold tot
    repeat' split
    all_goals omega
  generalize subT (tot h l) d = A at hcnt hA ⊢
  have HC := Lib.hid hcnt
  clear hcnt hA
  go_enter Try.func10, Try.ntmps10
  go_wp2_with fail
  refine (counted_at h l _).mono ?_
  rintro e w1 ⟨rfl, rfl⟩
  have h0 := hi_ge t0
  have h1 := hi_le t1
  have l0 := lo_ge (tot h l)
  have l1 := lo_lt (tot h l)
  have d0 := dur_ge d
  have d1 := dur_le d
  have hN : hi (tot h l) * 4611686018427387904 + lo (tot h l) = tot h l := by unfold hi lo; omega
  generalize hT : tot h l = T at *
  generalize hH : hi T = H at *
  generalize hL : lo T = L at *
  clear hT hH hL
  have hb := Below.refl w.heap.size w
  go_wp2_with fail
  refine wp_region_still_tail 6 (by kernel_rfl) (by kernel_rfl) ?_
  simp only [List.take_succ_cons, List.take_zero, List.drop_succ_cons, List.drop_zero]
  change wpStill _ _ (World.drew _) _ _ _
  repeat still_step
  still_call ((dur_any _ _).mono fun _ _ h => ⟨h.1, h.2.symm⟩)
  repeat still_step
  refine wpStill_nil ?_
  change wpList _ _ _ _ _ (World.drew _)
  generalize dur d = D at *
  go_wp2_with fail
  all_goals
    refine (counted_at _ _ _).mono ?_
    rintro e w1 ⟨rfl, rfl⟩
    rw [HC.out _ _ (by omega) (by omega) (by omega)]
    go_wp2
  all_goals
    refine bodyPost_ret (v := .agg #[.int .i64 (hi A), .int .i64 (lo A)]) (by simp [results, Try.results10, go_sem]) rfl ⟨rfl, ?_⟩
    exact ((((((((hb.alloc (by simp; try omega) _).alloc (by simp; try omega) _).alloc (by simp; try omega) _).alloc (by simp; try omega) _).alloc (by simp; try omega) _).alloc (by simp; try omega) _).alloc (by simp; try omega) _).alloc (by simp; try omega) _).drew

/-- whether one sum is less than another -/
theorem lt_split {n m : Int} : (if hi n = hi m then lo n < lo m else hi n < hi m) ↔ n < m := by
  unfold hi lo
  split <;> omega

set_option maxHeartbeats 3200000 in
set_option maxRecDepth 100000 in
theorem rless_any (h l g k : Int) (w : World) :
    Calls Try.prog 17 #[.agg #[.int .i64 h, .int .i64 l], .agg #[.int .i64 g, .int .i64 k]] w fun e w' => e = .returned (.bool (decide (tot h l < tot g k))) ∧ Below w.heap.size w w' := by
  have hs := lt_split (n := tot h l) (m := tot g k)
  have HS : Hid (decide (tot h l < tot g k) = decide (if hi (tot h l) = hi (tot g k) then lo (tot h l) < lo (tot g k) else hi (tot h l) < hi (tot g k))) := by
    show _ = _
    rw [decide_eq_decide]; exact hs.symm
  generalize decide (tot h l < tot g k) = A at HS ⊢
  clear hs
  have hb := Below.refl w.heap.size w
  go_enter Try.func17, Try.ntmps17
  go_wp2_with fail
  refine (right_at h l _).mono ?_
  rintro e w1 ⟨rfl, rfl⟩
  go_wp2_with fail
  refine (right_at g k _).mono ?_
  rintro e w1 ⟨rfl, rfl⟩
  generalize hi (tot h l) = H at *
  generalize lo (tot h l) = L at *
  generalize hi (tot g k) = G at *
  generalize lo (tot g k) = K at *
  go_wp2
  all_goals
    go_ret
    refine ⟨ret_bool ?_, ((((((((hb.alloc (by simp; try omega) _).alloc (by simp; try omega) _).alloc (by simp; try omega) _).alloc (by simp; try omega) _).alloc (by simp; try omega) _).alloc (by simp; try omega) _).alloc (by simp; try omega) _).alloc (by simp; try omega) _)⟩
    simp only [bne_iff_ne, bne_eq_false_iff_eq, ne_eq] at *
    rw [HS.out, decide_eq_decide]
    split <;> omega

set_option maxHeartbeats 3200000 in
set_option maxRecDepth 100000 in
theorem less_any (h l g k : Int) (w : World) :
    Calls Try.prog 16 #[.agg #[.int .i64 h, .int .i64 l], .agg #[.int .i64 g, .int .i64 k]] w fun e w' => e = .returned (.bool (decide (tot h l < tot g k))) ∧ Below w.heap.size w w' := by
  have hs := lt_split (n := tot h l) (m := tot g k)
  have HS : Hid (decide (tot h l < tot g k) = decide (if hi (tot h l) = hi (tot g k) then lo (tot h l) < lo (tot g k) else hi (tot h l) < hi (tot g k))) := by
    show _ = _
    rw [decide_eq_decide]; exact hs.symm
  generalize decide (tot h l < tot g k) = A at HS ⊢
  clear hs
  have hb := Below.refl w.heap.size w
  go_enter Try.func16, Try.ntmps16
  go_wp2_with fail
  go_region_with (go_at_call 20; refine (counted_at _ _ _).mono ?_; rintro e w1 ⟨rfl, rfl⟩)
  all_goals
    generalize hi (tot h l) = H at *
    generalize lo (tot h l) = L at *
    generalize hi (tot g k) = G at *
    generalize lo (tot g k) = K at *
    go_wp2
  all_goals
    go_ret
    refine ⟨ret_bool ?_, ((((((((hb.alloc (by simp; try omega) _).alloc (by simp; try omega) _).alloc (by simp; try omega) _).alloc (by simp; try omega) _).alloc (by simp; try omega) _).alloc (by simp; try omega) _).alloc (by simp; try omega) _).alloc (by simp; try omega) _).drew⟩
    simp only [bne_iff_ne, bne_eq_false_iff_eq, ne_eq] at *
    rw [HS.out, decide_eq_decide]
    split <;> omega
end Go.Proofs.Ytjdaiknmmplgpaa.Wd
