/- The walks of the steps: what the program's and the document's steps of a number come to; how a sum ends. -/
import Derived.Test.YtjmkjdflfmjliaaRows
import Derived.Test.YtjmkjdflfmjliaaCrMath
import Derived.WalkKit
import Derived.WalkSpells
import Derived.WalkLawsBesides
import Derived.Lib.Hide
import Derived.Laws.BitsAllLaws
namespace Go.Proofs.Ytjmkjdflfmjliaa.Cr
open Go.RowKit

theorem low1 (x : Nat) (hx : x < 4294967296) : bits .and .u32 (x : Int) 1 = ((x % 2 : Nat) : Int) := by
  have := u32_and_nat x 1 hx (by decide)
  rw [Nat.and_one_is_mod] at this
  exact this
theorem cast_eq_one (x : Nat) (h : x % 2 = 1) : ((((x % 2 : Nat) : Int)) == 1) = true := by simp; omega
theorem cast_ne_one (x : Nat) (h : ¬x % 2 = 1) : ((((x % 2 : Nat) : Int)) == 1) = false := by simp; omega

theorem wrap64_small {m : Nat} (h : m < 4294967296) : wrap64 (m : Int) = m := by unfold wrap64; omega

set_option maxHeartbeats 400000 in
theorem steps_any (n k : Nat) (hn : n < 4294967296) (hk : k ≤ 1000) (w : World) :
    Calls Try.prog 32 #[.int .u32 n, .int .i64 k] w fun e w' => e = .returned (.int .u32 (sts k n)) ∧ w = w' := by
  go_enter Try.func32, Try.ntmps32
  go_wp2
  go_loop [0, 7] (fun n' i => ∃ (j x : Nat), j ≤ k ∧ x < 4294967296 ∧ n' = .int .u32 x ∧ i = .int .i64 j ∧ Hid (sts (k - j) x = sts k n)) (fun _ i => k - (intOf i).toNat)
  case atStart => exact ⟨0, n, by omega, hn, rfl, rfl, rfl⟩
  case round =>
    obtain ⟨j, x, hj, hx, rfl, rfl, HS⟩ := hrel
    by_cases hlt : j < k
    · have e2 : k - j = (k - (j + 1)) + 1 := by omega
      have HS' : Hid (sts (k - (j + 1)) (st x) = sts k n) := by have h := HS.out; rw [e2] at h; exact h
      clear e2
      by_cases ho : x % 2 = 1
      · have e : st x = x / 2 ^^^ 2197175160 := by unfold st; rw [if_pos ho]
        have HE := Lib.hid e
        clear e
        have hb : bits .xor .u32 ((x : Int) / 2) 2197175160 = ((x / 2 ^^^ 2197175160 : Nat) : Int) := u32_xor_nat (x / 2) 2197175160 (by omega) (by decide)
        have ha : (bits .and .u32 (x : Int) 1 == 1) = true := by rw [low1 x hx]; exact cast_eq_one x ho
        go_wp2
        go_round
        case rel => exact ⟨j + 1, st x, by omega, st_lt hx, by rw [HE.out], by go_num, HS'⟩
        case measure => simp [intOf]; omega
      · have e : st x = x / 2 := by unfold st; rw [if_neg ho]
        have HE := Lib.hid e
        clear e
        have ha : (bits .and .u32 (x : Int) 1 == 1) = false := by rw [low1 x hx]; exact cast_ne_one x ho
        go_wp2
        go_round
        case rel => exact ⟨j + 1, st x, by omega, st_lt hx, by rw [HE.out]; simp, by go_num, HS'⟩
        case measure => simp [intOf]; omega
    · obtain rfl : j = k := by omega
      go_wp2
      go_ret
      have h := HS.out
      rw [Nat.sub_self] at h
      exact ⟨by rw [← h]; rfl, rfl⟩

set_option maxHeartbeats 400000 in
theorem eight_any (n : Nat) (hn : n < 4294967296) (w : World) :
    Calls Try.prog 33 #[.int .u32 n] w fun e w' => e = .returned (.int .u32 (sts 8 n)) ∧ w = w' := by
  go_enter Try.func33, Try.ntmps33
  go_wp2
  go_loop [0, 3] (fun n' i => ∃ (j x : Nat), j ≤ 8 ∧ x < 4294967296 ∧ n' = .int .u32 x ∧ i = .int .i64 j ∧ Hid (sts (8 - j) x = sts 8 n)) (fun _ i => 8 - (intOf i).toNat)
  case atStart => exact ⟨0, n, by omega, hn, rfl, rfl, rfl⟩
  case round =>
    obtain ⟨j, x, hj, hx, rfl, rfl, HS⟩ := hrel
    by_cases hlt : j < 8
    · have e2 : 8 - j = (8 - (j + 1)) + 1 := by omega
      have HS' : Hid (sts (8 - (j + 1)) (st x) = sts 8 n) := by have h := HS.out; rw [e2] at h; exact h
      clear e2
      by_cases ho : x % 2 = 1
      · have e : st x = x / 2 ^^^ 2197175160 := by unfold st; rw [if_pos ho]
        have HE := Lib.hid e
        clear e
        have hb : bits .xor .u32 ((x : Int) / 2) 2197175160 = ((x / 2 ^^^ 2197175160 : Nat) : Int) := u32_xor_nat (x / 2) 2197175160 (by omega) (by decide)
        have ha : ((x : Int) % 2 == 1) = true := by simp; omega
        go_wp2
        go_round
        case rel => exact ⟨j + 1, st x, by omega, st_lt hx, by rw [HE.out], by go_num, HS'⟩
        case measure => simp [intOf]; omega
      · have e : st x = x / 2 := by unfold st; rw [if_neg ho]
        have HE := Lib.hid e
        clear e
        have ha : ((x : Int) % 2 == 1) = false := by simp; omega
        go_wp2
        go_round
        case rel => exact ⟨j + 1, st x, by omega, st_lt hx, by rw [HE.out]; simp, by go_num, HS'⟩
        case measure => simp [intOf]; omega
    · obtain rfl : j = 8 := by omega
      go_wp2
      go_ret
      have h := HS.out
      rw [Nat.sub_self] at h
      exact ⟨by rw [← h]; rfl, rfl⟩

theorem end_any (n : Nat) (hn : n < 4294967296) (w : World) :
    Calls Try.prog 29 #[.int .u32 n] w fun e w' => e = .returned (.int .i64 ((n ^^^ 4294967295 : Nat) : Int)) ∧ w = w' := by
  have hb : bits .xor .u32 4294967295 (n : Int) = ((n ^^^ 4294967295 : Nat) : Int) := by
    rw [Nat.xor_comm]; exact u32_xor_nat 4294967295 n (by decide) hn
  have hlt : n ^^^ 4294967295 < 4294967296 := xor_lt hn (by decide)
  go_enter Try.func29, Try.ntmps29
  go_wp2
  go_ret
  refine ⟨?_, rfl⟩
  show Ending.returned (Value.int .i64 (wrap64 (bits BinOp.xor IntKind.u32 IntKind.u32.max (n : Int)))) = _
  rw [show IntKind.u32.max = 4294967295 from rfl, hb, wrap64_small hlt]
end Go.Proofs.Ytjmkjdflfmjliaa.Cr
