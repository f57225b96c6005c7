/- Numbers held at their ends: what the program and what the document do. -/
import Derived.Test.YtngmcefbljkgaaaRows
import Derived.WalkKit
import Derived.ProofKit
import Derived.Below
import Derived.Lib.Hide
namespace Go.Proofs.Ytngmcefbljkgaaa.Sa
open Go.RowKit

/-- n held at lo and hi -/
def cl (n lo hi : Int) : Int := if n < lo ∨ hi < lo then lo else if hi < n then hi else n
/-- held at the ends -/
def held (n : Int) : Int := if 9223372036854775807 < n then 9223372036854775807 else if n < -9223372036854775808 then -9223372036854775808 else n
theorem held_ge (n : Int) : -9223372036854775808 ≤ held n := by unfold held; repeat' split
                                                                all_goals omega
theorem held_le (n : Int) : held n ≤ 9223372036854775807 := by unfold held; repeat' split
                                                               all_goals omega
theorem wf64 {n : Int} (h : (Lit.int .i64 n).wf = true) : -9223372036854775808 ≤ n ∧ n ≤ 9223372036854775807 := by
  simp [Lit.wf, IntKind.min, IntKind.max, IntKind.signed, IntKind.bits] at h
  omega
theorem ret_int {a b : Int} (h : a = b) : Ending.returned (.int .i64 a) = .returned (.int .i64 b) := by rw [h]

set_option maxHeartbeats 800000 in
set_option maxRecDepth 100000 in
theorem clamp_any (n lo hi : Int) (w : World) :
    Calls Try.prog 22 #[.int .i64 n, .int .i64 lo, .int .i64 hi] w fun e w' => e = .returned (.int .i64 (cl n lo hi)) ∧ w = w' := by
  go_enter Try.func22, Try.ntmps22
  go_wp2
  all_goals
    go_ret
    refine ⟨ret_int ?_, rfl⟩
    unfold cl
    repeat' split
    all_goals omega

set_option maxHeartbeats 800000 in
set_option maxRecDepth 100000 in
theorem rclamp_any (n lo hi : Int) (w : World) :
    Calls Try.prog 23 #[.int .i64 n, .int .i64 lo, .int .i64 hi] w fun e w' => e = .returned (.int .i64 (cl n lo hi)) ∧ w = w' := by
  go_enter Try.func23, Try.ntmps23
  go_wp2
  all_goals
    go_ret
    refine ⟨ret_int ?_, rfl⟩
    unfold cl
    repeat' split
    all_goals omega

end Go.Proofs.Ytngmcefbljkgaaa.Sa
