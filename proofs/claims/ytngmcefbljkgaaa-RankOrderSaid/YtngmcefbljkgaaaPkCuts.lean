/- How a text and a flag are cut off what is left. -/
import Derived.Test.YtngmcefbljkgaaaPkRest
namespace Go.Proofs.Ytngmcefbljkgaaa.Pk
open Go.RowKit
open Va (takeR takeS)

theorem first_byte {s : ByteArray} {c : UInt8} {r : List UInt8} (h : s.data.toList = c :: r) : s.extract 0 1 = ⟨#[c]⟩ ∧ 1 ≤ s.size := by
  have hl := byte_len' s
  rw [h] at hl
  simp at hl
  refine ⟨?_, by omega⟩
  apply ByteArray.ext
  rw [ByteArray.data_extract]
  apply Array.toList_inj.1
  rw [Array.toList_extract, h]
  simp [List.extract]

theorem rdFlag_nil {s : ByteArray} (h : s.data.toList = []) : rdFlag s 0 = (false, s, 3) := by unfold rdFlag; rw [if_pos rfl, h]
theorem rdFlag_zero {s : ByteArray} {c : UInt8} {r : List UInt8} (h : s.data.toList = c :: r) (z : c.toNat = 0) : rdFlag s 0 = (false, s.extract 1 s.size, 0) := by
  unfold rdFlag; rw [if_pos rfl, h]; simp only []; rw [if_pos z]
theorem rdFlag_one {s : ByteArray} {c : UInt8} {r : List UInt8} (h : s.data.toList = c :: r) (z : c.toNat = 1) : rdFlag s 0 = (true, s.extract 1 s.size, 0) := by
  unfold rdFlag; rw [if_pos rfl, h]; simp only []; rw [if_neg (by omega), if_pos z]
theorem rdFlag_else {s : ByteArray} {c : UInt8} {r : List UInt8} (h : s.data.toList = c :: r) (z0 : c.toNat ≠ 0) (z1 : c.toNat ≠ 1) : rdFlag s 0 = (false, s, 2) := by
  unfold rdFlag; rw [if_pos rfl, h]; simp only []; rw [if_neg z0, if_neg z1]

end Go.Proofs.Ytngmcefbljkgaaa.Pk
