/- The walks of the laws of plain numbers. -/
import Derived.Test.YthjdmijbbdicnaaSaAwake
namespace Go.Proofs.Ythjdmijbbdicnaa.Sa
open Go.RowKit

theorem held_in {n : Int} (h0 : -9223372036854775808 ≤ n) (h1 : n ≤ 9223372036854775807) : held n = n := by
  unfold held
  repeat' split
  all_goals omega
theorem held_mono {m n : Int} (h : m ≤ n) : held m ≤ held n := by
  unfold held
  repeat' split
  all_goals omega

set_option maxHeartbeats 800000 in
set_option maxRecDepth 100000 in
theorem exact_any (a b : Int) (a0 : -9223372036854775808 ≤ a) (a1 : a ≤ 9223372036854775807) (b0 : -9223372036854775808 ≤ b) (b1 : b ≤ 9223372036854775807) (w : World) :
    Calls Try.prog 4 #[.int .i64 a, .int .i64 b] w fun e w' => e = .returned (.bool true) ∧ Below w.heap.size w w' := by
  go_enter Try.func4, Try.ntmps4
  go_wp2_with fail
  refine (add_any (a / 4) (b / 4) (by omega) (by omega) (by omega) (by omega) w).mono ?_
  rintro e w1 ⟨rfl, rfl⟩
  rw [held_in (n := a / 4 + b / 4) (by omega) (by omega)]
  go_wp2_with fail
  refine (sub_any (a / 4) (b / 4) (by omega) (by omega) (by omega) (by omega) w).mono ?_
  rintro e w1 ⟨rfl, rfl⟩
  rw [held_in (n := a / 4 - b / 4) (by omega) (by omega)]
  go_wp2_with fail
  refine (add_any (a / 4) (b / 4) (by omega) (by omega) (by omega) (by omega) w).mono ?_
  rintro e w1 ⟨rfl, rfl⟩
  rw [held_in (n := a / 4 + b / 4) (by omega) (by omega)]
  go_wp2_with fail
  refine (sub_any (a / 4 + b / 4) (b / 4) (by omega) (by omega) (by omega) (by omega) w).mono ?_
  rintro e w1 ⟨rfl, rfl⟩
  rw [show a / 4 + b / 4 - b / 4 = a / 4 by omega, held_in (n := a / 4) (by omega) (by omega)]
  go_wp2_with fail
  refine (add_any a 0 (by omega) (by omega) (by omega) (by omega) w).mono ?_
  rintro e w1 ⟨rfl, rfl⟩
  rw [show a + 0 = a by omega, held_in (n := a) (by omega) (by omega)]
  go_wp2_with fail
  refine (sub_any a 0 (by omega) (by omega) (by omega) (by omega) w).mono ?_
  rintro e w1 ⟨rfl, rfl⟩
  rw [show a - 0 = a by omega, held_in (n := a) (by omega) (by omega)]
  go_wp2_with fail
  refine (add_any a b (by omega) (by omega) (by omega) (by omega) w).mono ?_
  rintro e w1 ⟨rfl, rfl⟩
  go_wp2_with fail
  refine (add_any b a (by omega) (by omega) (by omega) (by omega) w).mono ?_
  rintro e w1 ⟨rfl, rfl⟩
  rw [show b + a = a + b by omega]
  go_wp2_with fail
  refine (awake_any w).mono ?_
  rintro e w1 ⟨rfl, hb⟩
  go_wp2
  go_ret
  exact ⟨rfl, hb⟩

theorem cl_low {n lo hi : Int} (h : n < lo) : cl n lo hi = lo := by unfold cl; rw [if_pos (.inl h)]
theorem cl_high {n lo hi : Int} (h : lo ≤ hi) (h1 : hi < n) : cl n lo hi = hi := by
  unfold cl
  rw [if_neg (by omega), if_pos h1]
theorem cl_mid {n lo hi : Int} (h0 : lo ≤ n) (h1 : n ≤ hi) : cl n lo hi = n := by
  unfold cl
  rw [if_neg (by omega), if_neg (by omega)]

set_option maxHeartbeats 800000 in
set_option maxRecDepth 100000 in
theorem order_any (a b c : Int) (a0 : -9223372036854775808 ≤ a) (a1 : a ≤ 9223372036854775807) (b0 : -9223372036854775808 ≤ b) (b1 : b ≤ 9223372036854775807) (c0 : -9223372036854775808 ≤ c) (c1 : c ≤ 9223372036854775807) (w : World) :
    Calls Try.prog 5 #[.int .i64 a, .int .i64 b, .int .i64 c] w fun e w' => e = .returned (.bool true) ∧ Below w.heap.size w w' := by
  rcases Int.lt_trichotomy a b with hab | hab | hab
  ·
    have m1 : held (a + c) ≤ held (b + c) := held_mono (by omega)
    have m2 : held (a - c) ≤ held (b - c) := held_mono (by omega)
    have m3 : held (c - b) ≤ held (c - a) := held_mono (by omega)
    by_cases h1 : c < a
    ·
      have E := cl_low (hi := b) h1
      go_enter Try.func5, Try.ntmps5
      go_wp2_with fail
      refine (clamp_any c a b w).mono ?_
      rintro e w1 ⟨rfl, rfl⟩
      rw [E]
      go_wp2_with fail
      refine (add_any a c (by omega) (by omega) (by omega) (by omega) w).mono ?_
      rintro e w1 ⟨rfl, rfl⟩
      go_wp2_with fail
      refine (add_any b c (by omega) (by omega) (by omega) (by omega) w).mono ?_
      rintro e w1 ⟨rfl, rfl⟩
      go_wp2_with fail
      refine (sub_any a c (by omega) (by omega) (by omega) (by omega) w).mono ?_
      rintro e w1 ⟨rfl, rfl⟩
      go_wp2_with fail
      refine (sub_any b c (by omega) (by omega) (by omega) (by omega) w).mono ?_
      rintro e w1 ⟨rfl, rfl⟩
      go_wp2_with fail
      refine (sub_any c b (by omega) (by omega) (by omega) (by omega) w).mono ?_
      rintro e w1 ⟨rfl, rfl⟩
      go_wp2_with fail
      refine (sub_any c a (by omega) (by omega) (by omega) (by omega) w).mono ?_
      rintro e w1 ⟨rfl, rfl⟩
      go_wp2_with fail
      refine (clamp_any a a b w).mono ?_
      rintro e w1 ⟨rfl, rfl⟩
      rw [cl_mid (n := a) (lo := a) (hi := b) (by omega) (by omega)]
      go_wp2_with fail
      refine (awake_any w).mono ?_
      rintro e w1 ⟨rfl, hb⟩
      go_wp2
      go_ret
      exact ⟨rfl, hb⟩
    by_cases h2 : b < c
    ·
      have E := cl_high (lo := a) (by omega) h2
      go_enter Try.func5, Try.ntmps5
      go_wp2_with fail
      refine (clamp_any c a b w).mono ?_
      rintro e w1 ⟨rfl, rfl⟩
      rw [E]
      go_wp2_with fail
      refine (add_any a c (by omega) (by omega) (by omega) (by omega) w).mono ?_
      rintro e w1 ⟨rfl, rfl⟩
      go_wp2_with fail
      refine (add_any b c (by omega) (by omega) (by omega) (by omega) w).mono ?_
      rintro e w1 ⟨rfl, rfl⟩
      go_wp2_with fail
      refine (sub_any a c (by omega) (by omega) (by omega) (by omega) w).mono ?_
      rintro e w1 ⟨rfl, rfl⟩
      go_wp2_with fail
      refine (sub_any b c (by omega) (by omega) (by omega) (by omega) w).mono ?_
      rintro e w1 ⟨rfl, rfl⟩
      go_wp2_with fail
      refine (sub_any c b (by omega) (by omega) (by omega) (by omega) w).mono ?_
      rintro e w1 ⟨rfl, rfl⟩
      go_wp2_with fail
      refine (sub_any c a (by omega) (by omega) (by omega) (by omega) w).mono ?_
      rintro e w1 ⟨rfl, rfl⟩
      go_wp2_with fail
      refine (clamp_any b a b w).mono ?_
      rintro e w1 ⟨rfl, rfl⟩
      rw [cl_mid (n := b) (lo := a) (hi := b) (by omega) (by omega)]
      go_wp2_with fail
      refine (awake_any w).mono ?_
      rintro e w1 ⟨rfl, hb⟩
      go_wp2
      go_ret
      exact ⟨rfl, hb⟩
    have E := cl_mid (n := c) (lo := a) (hi := b) (by omega) (by omega)
    go_enter Try.func5, Try.ntmps5
    go_wp2_with fail
    refine (clamp_any c a b w).mono ?_
    rintro e w1 ⟨rfl, rfl⟩
    rw [E]
    go_wp2_with fail
    refine (add_any a c (by omega) (by omega) (by omega) (by omega) w).mono ?_
    rintro e w1 ⟨rfl, rfl⟩
    go_wp2_with fail
    refine (add_any b c (by omega) (by omega) (by omega) (by omega) w).mono ?_
    rintro e w1 ⟨rfl, rfl⟩
    go_wp2_with fail
    refine (sub_any a c (by omega) (by omega) (by omega) (by omega) w).mono ?_
    rintro e w1 ⟨rfl, rfl⟩
    go_wp2_with fail
    refine (sub_any b c (by omega) (by omega) (by omega) (by omega) w).mono ?_
    rintro e w1 ⟨rfl, rfl⟩
    go_wp2_with fail
    refine (sub_any c b (by omega) (by omega) (by omega) (by omega) w).mono ?_
    rintro e w1 ⟨rfl, rfl⟩
    go_wp2_with fail
    refine (sub_any c a (by omega) (by omega) (by omega) (by omega) w).mono ?_
    rintro e w1 ⟨rfl, rfl⟩
    go_wp2_with fail
    refine (clamp_any c a b w).mono ?_
    rintro e w1 ⟨rfl, rfl⟩
    rw [cl_mid (n := c) (lo := a) (hi := b) (by omega) (by omega)]
    go_wp2_with fail
    refine (awake_any w).mono ?_
    rintro e w1 ⟨rfl, hb⟩
    go_wp2
    go_ret
    exact ⟨rfl, hb⟩
  ·
    subst hab
    have m1 : held (a + c) ≤ held (a + c) := held_mono (by omega)
    have m2 : held (a - c) ≤ held (a - c) := held_mono (by omega)
    have m3 : held (c - a) ≤ held (c - a) := held_mono (by omega)
    by_cases h1 : c < a
    ·
      have E := cl_low (hi := a) h1
      go_enter Try.func5, Try.ntmps5
      go_wp2_with fail
      refine (clamp_any c a a w).mono ?_
      rintro e w1 ⟨rfl, rfl⟩
      rw [E]
      go_wp2_with fail
      refine (add_any a c (by omega) (by omega) (by omega) (by omega) w).mono ?_
      rintro e w1 ⟨rfl, rfl⟩
      go_wp2_with fail
      refine (add_any a c (by omega) (by omega) (by omega) (by omega) w).mono ?_
      rintro e w1 ⟨rfl, rfl⟩
      go_wp2_with fail
      refine (sub_any a c (by omega) (by omega) (by omega) (by omega) w).mono ?_
      rintro e w1 ⟨rfl, rfl⟩
      go_wp2_with fail
      refine (sub_any a c (by omega) (by omega) (by omega) (by omega) w).mono ?_
      rintro e w1 ⟨rfl, rfl⟩
      go_wp2_with fail
      refine (sub_any c a (by omega) (by omega) (by omega) (by omega) w).mono ?_
      rintro e w1 ⟨rfl, rfl⟩
      go_wp2_with fail
      refine (sub_any c a (by omega) (by omega) (by omega) (by omega) w).mono ?_
      rintro e w1 ⟨rfl, rfl⟩
      go_wp2_with fail
      refine (clamp_any a a a w).mono ?_
      rintro e w1 ⟨rfl, rfl⟩
      rw [cl_mid (n := a) (lo := a) (hi := a) (by omega) (by omega)]
      go_wp2_with fail
      refine (awake_any w).mono ?_
      rintro e w1 ⟨rfl, hb⟩
      go_wp2
      go_ret
      exact ⟨rfl, hb⟩
    by_cases h2 : a < c
    ·
      have E := cl_high (lo := a) (by omega) h2
      go_enter Try.func5, Try.ntmps5
      go_wp2_with fail
      refine (clamp_any c a a w).mono ?_
      rintro e w1 ⟨rfl, rfl⟩
      rw [E]
      go_wp2_with fail
      refine (add_any a c (by omega) (by omega) (by omega) (by omega) w).mono ?_
      rintro e w1 ⟨rfl, rfl⟩
      go_wp2_with fail
      refine (add_any a c (by omega) (by omega) (by omega) (by omega) w).mono ?_
      rintro e w1 ⟨rfl, rfl⟩
      go_wp2_with fail
      refine (sub_any a c (by omega) (by omega) (by omega) (by omega) w).mono ?_
      rintro e w1 ⟨rfl, rfl⟩
      go_wp2_with fail
      refine (sub_any a c (by omega) (by omega) (by omega) (by omega) w).mono ?_
      rintro e w1 ⟨rfl, rfl⟩
      go_wp2_with fail
      refine (sub_any c a (by omega) (by omega) (by omega) (by omega) w).mono ?_
      rintro e w1 ⟨rfl, rfl⟩
      go_wp2_with fail
      refine (sub_any c a (by omega) (by omega) (by omega) (by omega) w).mono ?_
      rintro e w1 ⟨rfl, rfl⟩
      go_wp2_with fail
      refine (clamp_any a a a w).mono ?_
      rintro e w1 ⟨rfl, rfl⟩
      rw [cl_mid (n := a) (lo := a) (hi := a) (by omega) (by omega)]
      go_wp2_with fail
      refine (awake_any w).mono ?_
      rintro e w1 ⟨rfl, hb⟩
      go_wp2
      go_ret
      exact ⟨rfl, hb⟩
    have E := cl_mid (n := c) (lo := a) (hi := a) (by omega) (by omega)
    go_enter Try.func5, Try.ntmps5
    go_wp2_with fail
    refine (clamp_any c a a w).mono ?_
    rintro e w1 ⟨rfl, rfl⟩
    rw [E]
    go_wp2_with fail
    refine (add_any a c (by omega) (by omega) (by omega) (by omega) w).mono ?_
    rintro e w1 ⟨rfl, rfl⟩
    go_wp2_with fail
    refine (add_any a c (by omega) (by omega) (by omega) (by omega) w).mono ?_
    rintro e w1 ⟨rfl, rfl⟩
    go_wp2_with fail
    refine (sub_any a c (by omega) (by omega) (by omega) (by omega) w).mono ?_
    rintro e w1 ⟨rfl, rfl⟩
    go_wp2_with fail
    refine (sub_any a c (by omega) (by omega) (by omega) (by omega) w).mono ?_
    rintro e w1 ⟨rfl, rfl⟩
    go_wp2_with fail
    refine (sub_any c a (by omega) (by omega) (by omega) (by omega) w).mono ?_
    rintro e w1 ⟨rfl, rfl⟩
    go_wp2_with fail
    refine (sub_any c a (by omega) (by omega) (by omega) (by omega) w).mono ?_
    rintro e w1 ⟨rfl, rfl⟩
    go_wp2_with fail
    refine (clamp_any c a a w).mono ?_
    rintro e w1 ⟨rfl, rfl⟩
    rw [cl_mid (n := c) (lo := a) (hi := a) (by omega) (by omega)]
    go_wp2_with fail
    refine (awake_any w).mono ?_
    rintro e w1 ⟨rfl, hb⟩
    go_wp2
    go_ret
    exact ⟨rfl, hb⟩
  ·
    have m1 : held (b + c) ≤ held (a + c) := held_mono (by omega)
    have m2 : held (b - c) ≤ held (a - c) := held_mono (by omega)
    have m3 : held (c - a) ≤ held (c - b) := held_mono (by omega)
    by_cases h1 : c < b
    ·
      have E := cl_low (hi := a) h1
      go_enter Try.func5, Try.ntmps5
      go_wp2_with fail
      refine (clamp_any c b a w).mono ?_
      rintro e w1 ⟨rfl, rfl⟩
      rw [E]
      go_wp2_with fail
      refine (add_any b c (by omega) (by omega) (by omega) (by omega) w).mono ?_
      rintro e w1 ⟨rfl, rfl⟩
      go_wp2_with fail
      refine (add_any a c (by omega) (by omega) (by omega) (by omega) w).mono ?_
      rintro e w1 ⟨rfl, rfl⟩
      go_wp2_with fail
      refine (sub_any b c (by omega) (by omega) (by omega) (by omega) w).mono ?_
      rintro e w1 ⟨rfl, rfl⟩
      go_wp2_with fail
      refine (sub_any a c (by omega) (by omega) (by omega) (by omega) w).mono ?_
      rintro e w1 ⟨rfl, rfl⟩
      go_wp2_with fail
      refine (sub_any c a (by omega) (by omega) (by omega) (by omega) w).mono ?_
      rintro e w1 ⟨rfl, rfl⟩
      go_wp2_with fail
      refine (sub_any c b (by omega) (by omega) (by omega) (by omega) w).mono ?_
      rintro e w1 ⟨rfl, rfl⟩
      go_wp2_with fail
      refine (clamp_any b b a w).mono ?_
      rintro e w1 ⟨rfl, rfl⟩
      rw [cl_mid (n := b) (lo := b) (hi := a) (by omega) (by omega)]
      go_wp2_with fail
      refine (awake_any w).mono ?_
      rintro e w1 ⟨rfl, hb⟩
      go_wp2
      go_ret
      exact ⟨rfl, hb⟩
    by_cases h2 : a < c
    ·
      have E := cl_high (lo := b) (by omega) h2
      go_enter Try.func5, Try.ntmps5
      go_wp2_with fail
      refine (clamp_any c b a w).mono ?_
      rintro e w1 ⟨rfl, rfl⟩
      rw [E]
      go_wp2_with fail
      refine (add_any b c (by omega) (by omega) (by omega) (by omega) w).mono ?_
      rintro e w1 ⟨rfl, rfl⟩
      go_wp2_with fail
      refine (add_any a c (by omega) (by omega) (by omega) (by omega) w).mono ?_
      rintro e w1 ⟨rfl, rfl⟩
      go_wp2_with fail
      refine (sub_any b c (by omega) (by omega) (by omega) (by omega) w).mono ?_
      rintro e w1 ⟨rfl, rfl⟩
      go_wp2_with fail
      refine (sub_any a c (by omega) (by omega) (by omega) (by omega) w).mono ?_
      rintro e w1 ⟨rfl, rfl⟩
      go_wp2_with fail
      refine (sub_any c a (by omega) (by omega) (by omega) (by omega) w).mono ?_
      rintro e w1 ⟨rfl, rfl⟩
      go_wp2_with fail
      refine (sub_any c b (by omega) (by omega) (by omega) (by omega) w).mono ?_
      rintro e w1 ⟨rfl, rfl⟩
      go_wp2_with fail
      refine (clamp_any a b a w).mono ?_
      rintro e w1 ⟨rfl, rfl⟩
      rw [cl_mid (n := a) (lo := b) (hi := a) (by omega) (by omega)]
      go_wp2_with fail
      refine (awake_any w).mono ?_
      rintro e w1 ⟨rfl, hb⟩
      go_wp2
      go_ret
      exact ⟨rfl, hb⟩
    have E := cl_mid (n := c) (lo := b) (hi := a) (by omega) (by omega)
    go_enter Try.func5, Try.ntmps5
    go_wp2_with fail
    refine (clamp_any c b a w).mono ?_
    rintro e w1 ⟨rfl, rfl⟩
    rw [E]
    go_wp2_with fail
    refine (add_any b c (by omega) (by omega) (by omega) (by omega) w).mono ?_
    rintro e w1 ⟨rfl, rfl⟩
    go_wp2_with fail
    refine (add_any a c (by omega) (by omega) (by omega) (by omega) w).mono ?_
    rintro e w1 ⟨rfl, rfl⟩
    go_wp2_with fail
    refine (sub_any b c (by omega) (by omega) (by omega) (by omega) w).mono ?_
    rintro e w1 ⟨rfl, rfl⟩
    go_wp2_with fail
    refine (sub_any a c (by omega) (by omega) (by omega) (by omega) w).mono ?_
    rintro e w1 ⟨rfl, rfl⟩
    go_wp2_with fail
    refine (sub_any c a (by omega) (by omega) (by omega) (by omega) w).mono ?_
    rintro e w1 ⟨rfl, rfl⟩
    go_wp2_with fail
    refine (sub_any c b (by omega) (by omega) (by omega) (by omega) w).mono ?_
    rintro e w1 ⟨rfl, rfl⟩
    go_wp2_with fail
    refine (clamp_any c b a w).mono ?_
    rintro e w1 ⟨rfl, rfl⟩
    rw [cl_mid (n := c) (lo := b) (hi := a) (by omega) (by omega)]
    go_wp2_with fail
    refine (awake_any w).mono ?_
    rintro e w1 ⟨rfl, hb⟩
    go_wp2
    go_ret
    exact ⟨rfl, hb⟩
end Go.Proofs.Ythjdmijbbdicnaa.Sa
