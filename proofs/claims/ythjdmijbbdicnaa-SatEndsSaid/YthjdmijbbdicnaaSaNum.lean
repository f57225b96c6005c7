/- Numbers held at their ends: what the program and what the document do. -/
import Derived.Test.YthjdmijbbdicnaaRows
import Derived.WalkKit
import Derived.ProofKit
import Derived.Below
import Derived.Lib.Hide
namespace Go.Proofs.Ythjdmijbbdicnaa.Sa
open Go.RowKit

/-- n held at lo and hi -/
def cl (n lo hi : Int) : Int := if n < lo ∨ hi < lo then lo else if hi < n then hi else n
/-- held at the ends -/
def held (n : Int) : Int := if 9223372036854775807 < n then 9223372036854775807 else if n < -9223372036854775808 then -9223372036854775808 else n
theorem held_ge (n : Int) : -9223372036854775808 ≤ held n := by unfold held; repeat' split
                                                                all_goals omega
theorem held_le (n : Int) : held n ≤ 9223372036854775807 := by unfold held; repeat' split
                                                               all_goals omega
theorem wf64 {n : Int} (h : (Lit.int .i64 n).wf = true) : -9223372036854775808 ≤ n ∧ n ≤ 9223372036854775807 := by
  simp [Lit.wf, IntKind.min, IntKind.max, IntKind.signed, IntKind.bits] at h
  omega
theorem ret_int {a b : Int} (h : a = b) : Ending.returned (.int .i64 a) = .returned (.int .i64 b) := by rw [h]

set_option maxHeartbeats 800000 in
set_option maxRecDepth 100000 in
theorem clamp_any (n lo hi : Int) (w : World) :
    Calls Try.prog 11 #[.int .i64 n, .int .i64 lo, .int .i64 hi] w fun e w' => e = .returned (.int .i64 (cl n lo hi)) ∧ w = w' := by
  go_enter Try.func11, Try.ntmps11
  go_wp2
  all_goals
    go_ret
    refine ⟨ret_int ?_, rfl⟩
    unfold cl
    repeat' split
    all_goals omega

set_option maxHeartbeats 800000 in
set_option maxRecDepth 100000 in
theorem rclamp_any (n lo hi : Int) (w : World) :
    Calls Try.prog 12 #[.int .i64 n, .int .i64 lo, .int .i64 hi] w fun e w' => e = .returned (.int .i64 (cl n lo hi)) ∧ w = w' := by
  go_enter Try.func12, Try.ntmps12
  go_wp2
  all_goals
    go_ret
    refine ⟨ret_int ?_, rfl⟩
    unfold cl
    repeat' split
    all_goals omega

set_option maxHeartbeats 800000 in
set_option maxRecDepth 100000 in
theorem add_any (a b : Int) (a0 : -9223372036854775808 ≤ a) (a1 : a ≤ 9223372036854775807) (b0 : -9223372036854775808 ≤ b) (b1 : b ≤ 9223372036854775807) (w : World) :
    Calls Try.prog 7 #[.int .i64 a, .int .i64 b] w fun e w' => e = .returned (.int .i64 (held (a + b))) ∧ w = w' := by
  go_enter Try.func7, Try.ntmps7
  go_wp2_with fail
  all_goals
    refine (clamp_any _ _ _ w).mono ?_
    rintro e w1 ⟨rfl, rfl⟩
    generalize hc : cl _ _ _ = c
    have hr : a + c = held (a + b) := by
      subst hc
      unfold cl held
      repeat' split
      all_goals omega
    have r0 := held_ge (a + b)
    have r1 := held_le (a + b)
    rw [← hr] at r0 r1
    have HR := Lib.hid hr
    clear hr hc
    go_wp2
    go_ret
    exact ⟨ret_int HR.out, rfl⟩

set_option maxHeartbeats 800000 in
set_option maxRecDepth 100000 in
theorem sub_any (a b : Int) (a0 : -9223372036854775808 ≤ a) (a1 : a ≤ 9223372036854775807) (b0 : -9223372036854775808 ≤ b) (b1 : b ≤ 9223372036854775807) (w : World) :
    Calls Try.prog 9 #[.int .i64 a, .int .i64 b] w fun e w' => e = .returned (.int .i64 (held (a - b))) ∧ w = w' := by
  go_enter Try.func9, Try.ntmps9
  go_wp2_with fail
  all_goals
    refine (clamp_any _ _ _ w).mono ?_
    rintro e w1 ⟨rfl, rfl⟩
    generalize hc : cl _ _ _ = c
    have hr : a - c = held (a - b) := by
      subst hc
      unfold cl held
      repeat' split
      all_goals omega
    have r0 := held_ge (a - b)
    have r1 := held_le (a - b)
    rw [← hr] at r0 r1
    have HR := Lib.hid hr
    clear hr hc
    go_wp2
    go_ret
    exact ⟨ret_int HR.out, rfl⟩

set_option maxHeartbeats 800000 in
set_option maxRecDepth 100000 in
theorem radd_any (a b : Int) (a0 : -9223372036854775808 ≤ a) (a1 : a ≤ 9223372036854775807) (b0 : -9223372036854775808 ≤ b) (b1 : b ≤ 9223372036854775807) (w : World) :
    Calls Try.prog 8 #[.int .i64 a, .int .i64 b] w fun e w' => e = .returned (.int .i64 (held (a + b))) ∧ w = w' := by
  go_enter Try.func8, Try.ntmps8
  go_wp2
  all_goals
    go_ret
    refine ⟨ret_int ?_, rfl⟩
    unfold held
    repeat' split
    all_goals omega

set_option maxHeartbeats 800000 in
set_option maxRecDepth 100000 in
theorem rsub_any (a b : Int) (a0 : -9223372036854775808 ≤ a) (a1 : a ≤ 9223372036854775807) (b0 : -9223372036854775808 ≤ b) (b1 : b ≤ 9223372036854775807) (w : World) :
    Calls Try.prog 10 #[.int .i64 a, .int .i64 b] w fun e w' => e = .returned (.int .i64 (held (a - b))) ∧ w = w' := by
  go_enter Try.func10, Try.ntmps10
  go_wp2
  all_goals
    go_ret
    refine ⟨ret_int ?_, rfl⟩
    unfold held
    repeat' split
    all_goals omega

end Go.Proofs.Ythjdmijbbdicnaa.Sa
