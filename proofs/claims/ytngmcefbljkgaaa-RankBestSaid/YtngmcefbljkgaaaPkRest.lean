/- What is left to be read: how its methods cut a part off. -/
import Derived.Test.YtngmcefbljkgaaaPkKit
import Derived.Deep.OwnRows
import Derived.Lib.BufferWrite
namespace Go.Proofs.Ytngmcefbljkgaaa.Pk
open Go.RowKit
open Va (takeR takeS)

theorem cut_bx {W : World} {R n : Nat} {s : ByteArray} {b : Value} (h : Bx W R (.string s) b) {w' : World} (hw : w' = W.setCell ⟨R, 0, none⟩ (.string (s.extract n s.size))) : Bx w' R (.string (s.extract n s.size)) b ∧ But R W w' := by
  subst hw; exact ⟨h.set0 _, (But.refl R W).setCell (p := ⟨R, 0, none⟩) rfl _⟩

theorem takeR_le (s : List UInt8) : (takeR 9 s).2.1 ≤ s.length := by
  rcases Va.takeR_back s with ⟨_, _, h, _⟩ | ⟨_, _, h⟩
  · exact h
  · rw [h]; exact Nat.zero_le _
theorem takeS_le (s : List UInt8) : (takeS s).2.1 ≤ s.length := by
  rcases Va.takeS_back s with ⟨_, _, h, _⟩ | ⟨_, _, h⟩
  · exact h
  · rw [h]; exact Nat.zero_le _
theorem takeR_err (s : List UInt8) : (takeR 9 s).2.2 ≤ 3 := by
  unfold takeR; split <;> split <;> simp
theorem takeS_err (s : List UInt8) : (takeS s).2.2 ≤ 3 := by
  unfold takeS; split <;> split <;> simp

/-- what is taken of bytes: a number; one with a sign -/
def tkN (s : ByteArray) : Int × Nat × Nat := (((takeR 9 s.data.toList).1 : Nat), (takeR 9 s.data.toList).2.1, (takeR 9 s.data.toList).2.2)
def tkS (s : ByteArray) : Int × Nat × Nat := takeS s.data.toList

/-- a number that is read: it, what is left, the first error -/
def rdNum (t : Int × Nat × Nat) (s : ByteArray) (e : Nat) : Int × ByteArray × Nat :=
  if e = 0 then (if t.2.2 = 0 then (t.1, s.extract t.2.1 s.size, 0) else (0, s, t.2.2)) else (0, s, e)

/-- a text that is read -/
def rdText (most : Int) (s : ByteArray) (e : Nat) : ByteArray × ByteArray × Nat :=
  if e = 0 then
    (if (takeR 9 s.data.toList).2.2 = 0 then
      (if ((takeR 9 s.data.toList).1 : Int) > most then (⟨#[]⟩, s, 12)
      else if (takeR 9 s.data.toList).1 > s.size - (takeR 9 s.data.toList).2.1 then (⟨#[]⟩, s, 3)
      else (s.extract (takeR 9 s.data.toList).2.1 ((takeR 9 s.data.toList).2.1 + (takeR 9 s.data.toList).1), s.extract ((takeR 9 s.data.toList).2.1 + (takeR 9 s.data.toList).1) s.size, 0))
    else (⟨#[]⟩, s, (takeR 9 s.data.toList).2.2))
  else (⟨#[]⟩, s, e)

/-- a flag that is read -/
def rdFlag (s : ByteArray) (e : Nat) : Bool × ByteArray × Nat :=
  if e = 0 then
    (match s.data.toList with
    | [] => (false, s, 3)
    | c :: _ => if c.toNat = 0 then (false, s.extract 1 s.size, 0) else if c.toNat = 1 then (true, s.extract 1 s.size, 0) else (false, s, 2))
  else (false, s, e)

theorem extract_from (s : ByteArray) (a b : Nat) (h : a + b ≤ s.size) : (s.extract a s.size).extract 0 b = s.extract a (a + b) ∧ (s.extract a s.size).extract b (s.extract a s.size).size = s.extract (a + b) s.size := by
  constructor
  · apply ByteArray.ext; simp [ByteArray.data_extract]; rw [Nat.min_eq_left h]
  · apply ByteArray.ext; simp [ByteArray.data_extract]; rw [show min (a + (s.size - a)) s.size = s.size by omega]

end Go.Proofs.Ytngmcefbljkgaaa.Pk
