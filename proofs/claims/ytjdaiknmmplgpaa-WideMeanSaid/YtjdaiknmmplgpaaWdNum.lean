/- Sums of two words as plain numbers, and numbers held at two. -/
import Derived.Test.YtjdaiknmmplgpaaRows
import Derived.WalkKit
import Derived.ProofKit
import Derived.Below
import Derived.Lib.Hide
namespace Go.Proofs.Ytjdaiknmmplgpaa.Wd
open Go.RowKit

/-- n held at lo and hi -/
def cl (n lo hi : Int) : Int := if n < lo ∨ hi < lo then lo else if hi < n then hi else n
/-- what a duration counts as -/
def dur (d : Int) : Int := cl d 0 4611686018427387904
theorem dur_ge (d : Int) : 0 ≤ dur d := by
  unfold dur cl
  repeat' split
  all_goals omega
theorem dur_le (d : Int) : dur d ≤ 4611686018427387904 := by
  unfold dur cl
  repeat' split
  all_goals omega
/-- whether a sum may be -/
def may (h l : Int) : Bool := decide (0 ≤ h ∧ h ≤ 4294967296 ∧ 0 ≤ l ∧ l < 4611686018427387904)
/-- what a sum counts as, as one number -/
def tot (h l : Int) : Int := if 0 ≤ h ∧ h ≤ 4294967296 ∧ 0 ≤ l ∧ l < 4611686018427387904 then h * 4611686018427387904 + l else 0
def hi (n : Int) : Int := n / 4611686018427387904
def lo (n : Int) : Int := n % 4611686018427387904
/-- a sum as a value -/
def sv (n : Int) : Value := .agg #[.int .i64 (hi n), .int .i64 (lo n)]
/-- with a duration more, and less -/
def addT (n d : Int) : Int := if 19807040633177770416813375487 < n + dur d then 19807040633177770416813375487 else n + dur d
def subT (n d : Int) : Int := if n - dur d < 0 then 0 else n - dur d
theorem tot_ge (h l : Int) : 0 ≤ tot h l := by unfold tot; split <;> omega
theorem tot_le (h l : Int) : tot h l ≤ 19807040633177770416813375487 := by unfold tot; split <;> omega
theorem tot_at {h l : Int} (h0 : 0 ≤ h) (h1 : h ≤ 4294967296) (l0 : 0 ≤ l) (l1 : l < 4611686018427387904) : tot h l = h * 4611686018427387904 + l := by
  unfold tot; rw [if_pos ⟨h0, h1, l0, l1⟩]
theorem hi_tot {h l : Int} (h0 : 0 ≤ h) (h1 : h ≤ 4294967296) (l0 : 0 ≤ l) (l1 : l < 4611686018427387904) : hi (tot h l) = h := by
  rw [tot_at h0 h1 l0 l1]; unfold hi; omega
theorem lo_tot {h l : Int} (h0 : 0 ≤ h) (h1 : h ≤ 4294967296) (l0 : 0 ≤ l) (l1 : l < 4611686018427387904) : lo (tot h l) = l := by
  rw [tot_at h0 h1 l0 l1]; unfold lo; omega
theorem hi_ge {n : Int} (h : 0 ≤ n) : 0 ≤ hi n := by unfold hi; omega
theorem hi_le {n : Int} (h : n ≤ 19807040633177770416813375487) : hi n ≤ 4294967296 := by unfold hi; omega
theorem lo_ge (n : Int) : 0 ≤ lo n := by unfold lo; omega
theorem lo_lt (n : Int) : lo n < 4611686018427387904 := by unfold lo; omega
theorem tot_split {n : Int} (h : 0 ≤ n) (h2 : n ≤ 19807040633177770416813375487) : tot (hi n) (lo n) = n := by
  rw [tot_at (hi_ge h) (hi_le h2) (lo_ge n) (lo_lt n)]; unfold hi lo; omega
theorem addT_ge {n : Int} (h : 0 ≤ n) (d : Int) : 0 ≤ addT n d := by
  have := dur_ge d
  unfold addT; split <;> omega
theorem addT_le (n d : Int) : addT n d ≤ 19807040633177770416813375487 := by unfold addT; split <;> omega
theorem subT_ge (n d : Int) : 0 ≤ subT n d := by unfold subT; split <;> omega
theorem subT_le {n : Int} (h : n ≤ 19807040633177770416813375487) (d : Int) : subT n d ≤ 19807040633177770416813375487 := by
  have := dur_ge d
  unfold subT; split <;> omega
theorem wf64 {n : Int} (h : (Lit.int .i64 n).wf = true) : -9223372036854775808 ≤ n ∧ n ≤ 9223372036854775807 := by
  simp [Lit.wf, IntKind.min, IntKind.max, IntKind.signed, IntKind.bits] at h
  omega
theorem ret_int {a b : Int} (h : a = b) : Ending.returned (.int .i64 a) = .returned (.int .i64 b) := by rw [h]
theorem ret_bool {a b : Bool} (h : a = b) : Ending.returned (.bool a) = .returned (.bool b) := by rw [h]

set_option maxHeartbeats 800000 in
set_option maxRecDepth 100000 in
theorem clamp_any (n lo hi : Int) (w : World) :
    Calls Try.prog 26 #[.int .i64 n, .int .i64 lo, .int .i64 hi] w fun e w' => e = .returned (.int .i64 (cl n lo hi)) ∧ w = w' := by
  go_enter Try.func26, Try.ntmps26
  go_wp2
  all_goals
    go_ret
    refine ⟨ret_int ?_, rfl⟩
    unfold cl
    repeat' split
    all_goals omega

set_option maxHeartbeats 800000 in
set_option maxRecDepth 100000 in
theorem rclamp_any (n lo hi : Int) (w : World) :
    Calls Try.prog 23 #[.int .i64 n, .int .i64 lo, .int .i64 hi] w fun e w' => e = .returned (.int .i64 (cl n lo hi)) ∧ w = w' := by
  go_enter Try.func23, Try.ntmps23
  go_wp2
  all_goals
    go_ret
    refine ⟨ret_int ?_, rfl⟩
    unfold cl
    repeat' split
    all_goals omega

theorem dur_any (n : Int) (w : World) :
    Calls Try.prog 21 #[.int .i64 n] w fun e w' => e = .returned (.int .i64 (dur n)) ∧ w = w' := by
  go_enter Try.func21, Try.ntmps21
  go_wp2_with fail
  refine (clamp_any _ _ _ w).mono ?_
  rintro e w1 ⟨rfl, rfl⟩
  go_wp2
  go_ret
  exact ⟨rfl, rfl⟩

set_option maxHeartbeats 800000 in
set_option maxRecDepth 100000 in
theorem may_at (h l : Int) (w : World) :
    Calls Try.prog 18 #[.agg #[.int .i64 h, .int .i64 l]] w fun e w' => e = .returned (.bool (may h l)) ∧ w' = w.alloc (.cells #[.int .i64 h, .int .i64 l] 23) := by
  go_enter Try.func18, Try.ntmps18
  go_wp2
  all_goals
    go_ret
    refine ⟨ret_bool ?_, rfl⟩
    unfold may
    simp [*]
    try omega

set_option maxHeartbeats 800000 in
set_option maxRecDepth 100000 in
theorem rmay_at (h l : Int) (w : World) :
    Calls Try.prog 19 #[.agg #[.int .i64 h, .int .i64 l]] w fun e w' => e = .returned (.bool (may h l)) ∧ w' = w.alloc (.cells #[.int .i64 h, .int .i64 l] 23) := by
  go_enter Try.func19, Try.ntmps19
  go_wp2
  all_goals
    go_ret
    refine ⟨ret_bool ?_, rfl⟩
    unfold may
    simp [*]
    try omega
end Go.Proofs.Ytjdaiknmmplgpaa.Wd
