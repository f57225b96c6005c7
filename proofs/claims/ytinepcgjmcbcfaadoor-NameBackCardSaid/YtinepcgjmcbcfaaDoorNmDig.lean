/- The walks of digits: what the document's functions write and read. -/
import Derived.Test.YtinepcgjmcbcfaaDoorVaKit
import Derived.Test.YtinepcgjmcbcfaaDoorNmMath
import Derived.Deep.LoopGhost
namespace Go.Proofs.YtinepcgjmcbcfaaDoor.Nm
open Go.RowKit
open Va (str str_app conv_one)
open Go.Lib (decDigits)

theorem ten_at (k : Nat) (h : k < 10) (hs : k < (⟨#[48, 49, 50, 51, 52, 53, 54, 55, 56, 57]⟩ : ByteArray).size) : ((⟨#[48, 49, 50, 51, 52, 53, 54, 55, 56, 57]⟩ : ByteArray)[k]'hs).toNat = 48 + k := by
  have : k = 0 ∨ k = 1 ∨ k = 2 ∨ k = 3 ∨ k = 4 ∨ k = 5 ∨ k = 6 ∨ k = 7 ∨ k = 8 ∨ k = 9 := by omega
  rcases this with rfl | rfl | rfl | rfl | rfl | rfl | rfl | rfl | rfl | rfl <;> rfl

theorem ten_byte (k : Nat) (h : k < 10) (hs : k < (⟨#[48, 49, 50, 51, 52, 53, 54, 55, 56, 57]⟩ : ByteArray).size) : (⟨#[48, 49, 50, 51, 52, 53, 54, 55, 56, 57]⟩ : ByteArray)[k]'hs = UInt8.ofNat (48 + k) := by
  apply UInt8.toNat_inj.1
  rw [ten_at k h hs, dig_nat k h]

set_option maxHeartbeats 400000 in
theorem dec_any (u : Nat) (h0 : 1 ≤ u) (h1 : u < 9223372036854775808) (w : World) :
    Calls Tryd.prog 17 #[.int .i64 u] w fun e w' => e = .returned (str (decDigits u)) ∧ Below w.heap.size w w' := by
  go_enter Tryd.func17, Tryd.ntmps17
  go_wp2
  go_loopw [0, 3] (fun u' s' wr => ∃ (x : Nat) (post : List UInt8), x < 9223372036854775808 ∧ u' = .int .i64 x ∧ s' = str post ∧ (if x = 0 then [] else decDigits x) ++ post = decDigits u ∧ Below w.heap.size w wr) (fun u' _ _ => (intOf u').toNat)
  case atStart => exact ⟨u, [], h1, rfl, rfl, by rw [if_neg (by omega), List.append_nil], Below.refl _ _⟩
  case round =>
    obtain ⟨x, post, hx, rfl, rfl, hd, hb⟩ := hrel
    have hl : post.length ≤ 19 := by
      have e := congrArg List.length hd
      have := dec_19 u h1
      rw [List.length_append] at e; omega
    have HD := Lib.hid hd
    clear hd
    have hB := hb.size
    by_cases hz : x = 0
    · subst hz
      go_wp2
      go_ret
      exact ⟨by rw [← HD.out]; simp, hb⟩
    · have hcv := conv_one wr (((⟨#[48, 49, 50, 51, 52, 53, 54, 55, 56, 57]⟩ : ByteArray)[x % 10]'(by show x % 10 < 10; omega)).toNat : Int) (Int.natCast_nonneg _) (Int.ofNat_le.2 (Nat.le_of_lt_succ (UInt8.toNat_lt _))) 1
      have ht := ten_byte (x % 10) (by omega) (by show x % 10 < 10; omega)
      have HT := Lib.hid ht
      clear ht
      go_wp2
      go_roundw
      case rel =>
        refine ⟨x / 10, UInt8.ofNat (48 + x % 10) :: post, by omega, by simp, ?_, ?_, hb.alloc (by omega) _⟩
        · have e := HT.out
          have h := str_app [UInt8.ofNat (48 + x % 10)] post
          rw [← e] at h ⊢
          exact h
        · rw [← HD.out, if_neg hz]
          by_cases h10 : x < 10
          · rw [if_pos (by omega), dec_low x h10, Nat.mod_eq_of_lt h10]; rfl
          · rw [if_neg (by omega), dec_step x (by omega), List.append_assoc]; rfl
      case measure => simp [intOf]; omega
end Go.Proofs.YtinepcgjmcbcfaaDoor.Nm
