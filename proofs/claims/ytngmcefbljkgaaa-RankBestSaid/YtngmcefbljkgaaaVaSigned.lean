/- What the program and the document read of numbers that may be below 0: the same, for every text. -/
import Derived.Test.YtngmcefbljkgaaaVaSign
namespace Go.Proofs.Ytngmcefbljkgaaa.Va
open Go.RowKit

/-- what bytes begin with: a number that may be below 0, how many bytes it has, and the error's number -/
def takeS (s : List UInt8) : Int × Nat × Nat :=
  match fst 10 s with
  | some k => if (k ≠ 0 ∧ (s.getD k 0).toNat = 0) ∨ (k = 9 ∧ 1 < (s.getD k 0).toNat) then (0, 0, 2) else (zag (vk s (k + 1)), k + 1, 0)
  | none => if s.length < 10 then (0, 0, 3) else (0, 0, 2)

theorem takeS_bad {k : Nat} {s : List UInt8} (h : fst 10 s = some k) (hz : (k ≠ 0 ∧ (s.getD k 0).toNat = 0) ∨ (k = 9 ∧ 1 < (s.getD k 0).toNat)) : takeS s = (0, 0, 2) := by
  unfold takeS; rw [h]; simp only []; rw [if_pos hz]
theorem takeS_ok {k : Nat} {s : List UInt8} (h : fst 10 s = some k) (hz : ¬ ((k ≠ 0 ∧ (s.getD k 0).toNat = 0) ∨ (k = 9 ∧ 1 < (s.getD k 0).toNat))) : takeS s = (zag (vk s (k + 1)), k + 1, 0) := by
  unfold takeS; rw [h]; simp only []; rw [if_neg hz]
theorem takeS_short {s : List UInt8} (h : fst 10 s = none) (hl : s.length < 10) : takeS s = (0, 0, 3) := by
  unfold takeS; rw [h]; simp only []; rw [if_pos hl]
theorem takeS_long {s : List UInt8} (h : fst 10 s = none) (hl : ¬ s.length < 10) : takeS s = (0, 0, 2) := by
  unfold takeS; rw [h]; simp only []; rw [if_neg hl]

theorem and_one (u : Nat) (h : u < 18446744073709551616) : bits .and .u64 (u : Int) 1 = ((u % 2 : Nat) : Int) := by
  have e := bits_mask .u64 64 (by decide) (fun n h0 h1 => by rw [IntKind.wrap_u64]; omega) 1 (by decide) (u : Int) (by omega) (by omega)
  simpa using e

theorem xor_neg (b : Nat) (hb : b < 9223372036854775808) : bits .xor .i64 (-1) (b : Int) = -(b : Int) - 1 := by
  have h1 : BitVec.ofInt 64 (-1) = BitVec.allOnes 64 := by decide
  have h2 : (BitVec.ofInt 64 (b : Int)).toNat = b := by
    rw [BitVec.ofInt_natCast, BitVec.toNat_ofNat]; exact Nat.mod_eq_of_lt (by omega)
  show IntKind.i64.wrap ((BitVec.ofInt 64 (-1) ^^^ BitVec.ofInt 64 (b : Int)).toNat : Int) = _
  rw [h1, BitVec.allOnes_xor, BitVec.toNat_not, h2, IntKind.wrap_i64]
  omega

theorem vk_lt (l : List UInt8) (k : Nat) : vk l k < 18446744073709551616 := Nat.mod_lt _ (by decide)

end Go.Proofs.Ytngmcefbljkgaaa.Va
