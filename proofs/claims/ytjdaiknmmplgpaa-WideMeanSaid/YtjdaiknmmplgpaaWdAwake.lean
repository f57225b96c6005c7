/- What must come, whatever the arguments are. -/
import Derived.Test.YtjdaiknmmplgpaaWdRMean
import Derived.Test.YtjdaiknmmplgpaaWdOf
namespace Go.Proofs.Ytjdaiknmmplgpaa.Wd
open Go.RowKit

set_option maxHeartbeats 3200000 in
set_option maxRecDepth 100000 in
theorem awake_any (w : World) : Calls Try.prog 7 #[] w fun e w' => e = .returned (.bool true) ∧ Below w.heap.size w w' := by
  have v1 : hi (ofT [4611686018427387904, 1]) = 1 := by decide
  have v2 : lo (ofT [4611686018427387904, 1]) = 1 := by decide
  have v3 : hi (subT (tot 1 1) 2) = 0 := by decide
  have v4 : lo (subT (tot 1 1) 2) = 4611686018427387903 := by decide
  have v5 : meanT (tot 1 1) 2 = 2305843009213693952 := by decide
  have v6 : decide (tot 0 5 < tot 1 1) = true := by decide
  have v7 : may 1 1 = true := by decide
  have v8 : may 0 (-1) = false := by decide
  have hb := Below.refl w.heap.size w
  go_enter Try.func7, Try.ntmps7
  go_wp2_with fail
  refine (of_any _ _ _ [4611686018427387904, 1] _ ?_ (by omega)).mono ?_
  · refine ⟨rfl, fun _ => ⟨w.heap.size, 0, rfl, by simp, fun j hj => ?_⟩⟩
    rcases (show j = 0 ∨ j = 1 by omega) with rfl | rfl <;> simp
  rintro e w1 ⟨rfl, hb1⟩
  have HBL : Hid (Below w.heap.size w w1) := (hb.alloc (Nat.le_refl _) _).trans (hb1.mono (by simp))
  clear hb1 hb
  rw [v1, v2]
  have HS : Hid (Bx _ _ _ _) := Bx.start w1 23 (.int .i64 1) (.int .i64 1)
  have HBL2 : Hid (Below w.heap.size w (w1.alloc (.cells #[.int .i64 1, .int .i64 1] 23))) := HBL.out.alloc HBL.out.size _
  go_wp2_with fail
  refine (sub_any _ _ _ _).mono ?_
  rintro e w2 ⟨rfl, hb1⟩
  have HS2 : Hid (Bx _ _ _ _) := HS.out.later hb1
  have HBL3 : Hid (Below w.heap.size w w2) := HBL2.out.trans (hb1.mono HBL2.out.size)
  have d0 := HS2.out.c0
  have d1 := HS2.out.c1
  clear hb1
  rw [v3, v4]
  go_wp2_with fail
  refine (mean_any _ _ _ (by omega) _).mono ?_
  rintro e w3 ⟨rfl, hb1⟩
  have HS3 : Hid (Bx _ _ _ _) := HS2.out.later hb1
  have HBL4 : Hid (Below w.heap.size w w3) := HBL3.out.trans (hb1.mono HBL3.out.size)
  clear hb1 d0 d1
  have d0 := HS3.out.c0
  have d1 := HS3.out.c1
  rw [v5]
  go_wp2_with fail
  refine (less_any _ _ _ _ _).mono ?_
  rintro e w4 ⟨rfl, hb1⟩
  have HS4 : Hid (Bx _ _ _ _) := HS3.out.later hb1
  have HBL5 : Hid (Below w.heap.size w w4) := HBL4.out.trans (hb1.mono HBL4.out.size)
  clear hb1 d0 d1
  have d0 := HS4.out.c0
  have d1 := HS4.out.c1
  rw [v6]
  go_wp2_with fail
  refine (may_at _ _ _).mono ?_
  rintro e w5 ⟨rfl, rfl⟩
  rw [v7]
  go_wp2_with fail
  refine (may_at _ _ _).mono ?_
  rintro e w6 ⟨rfl, rfl⟩
  rw [v8]
  go_wp2_with fail
  go_ret
  exact ⟨rfl, (HBL5.out.alloc HBL5.out.size _).alloc (by have := HBL5.out.size; simp; omega) _⟩
end Go.Proofs.Ytjdaiknmmplgpaa.Wd
