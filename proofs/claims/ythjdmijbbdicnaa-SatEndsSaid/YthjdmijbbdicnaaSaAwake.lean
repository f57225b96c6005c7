/- What the laws ask of a few constants first: true. -/
import Derived.Test.YthjdmijbbdicnaaSaSpan
namespace Go.Proofs.Ythjdmijbbdicnaa.Sa
open Go.RowKit

set_option maxHeartbeats 800000 in
set_option maxRecDepth 100000 in
theorem awake_any (w : World) :
    Calls Try.prog 17 #[] w fun e w' => e = .returned (.bool true) ∧ Below w.heap.size w w' := by
  have R1 : Hid (held (9223372036854775807 + 1) = 9223372036854775807) := by unfold Hid; decide
  have R2 : Hid (held (-9223372036854775808 - 1) = -9223372036854775808) := by unfold Hid; decide
  have R3 : Hid (held (2 + 3) = 5) := by unfold Hid; decide
  have R4 : Hid (cl 9 0 4 = 4) := by unfold Hid; decide
  have R5 : Hid (held (3 + cl 4 0 4611686018427387904) = 7) := by unfold Hid; decide
  have R6 : Hid (cl (-1) 0 4611686018427387904 = 0) := by unfold Hid; decide
  go_enter Try.func17, Try.ntmps17
  go_wp2_with fail
  refine (add_any 9223372036854775807 1 (by omega) (by omega) (by omega) (by omega) w).mono ?_
  rintro e w1 ⟨rfl, rfl⟩
  simp only [R1.out]
  go_wp2_with fail
  refine (sub_any (-9223372036854775808) 1 (by omega) (by omega) (by omega) (by omega) w).mono ?_
  rintro e w1 ⟨rfl, rfl⟩
  simp only [R2.out]
  go_wp2_with fail
  refine (add_any 2 3 (by omega) (by omega) (by omega) (by omega) w).mono ?_
  rintro e w1 ⟨rfl, rfl⟩
  simp only [R3.out]
  go_wp2_with fail
  refine (clamp_any 9 0 4 w).mono ?_
  rintro e w1 ⟨rfl, rfl⟩
  simp only [R4.out]
  go_wp2_with fail
  refine (end_any 0 0 0 0 3 4 _ _ false (by omega) (by omega) w).mono ?_
  rintro e w1 ⟨rfl, hb1⟩
  simp only [R5.out]
  go_wp2_with fail
  refine (kept_any 0 0 0 2 0 (-1) _ _ false w1).mono ?_
  rintro e w2 ⟨rfl, hb2⟩
  simp only [R6.out]
  go_wp2
  go_ret
  exact ⟨rfl, hb1.trans (hb2.mono hb1.size)⟩
end Go.Proofs.Ythjdmijbbdicnaa.Sa
