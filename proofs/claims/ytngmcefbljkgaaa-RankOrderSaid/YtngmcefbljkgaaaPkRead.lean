/- A reader's methods: what each reads of what is left, and the first error; of nil: zero values. -/
import Derived.Test.YtngmcefbljkgaaaPkCuts
namespace Go.Proofs.Ytngmcefbljkgaaa.Pk
open Go.RowKit
open Va (takeR takeS)

/-- a reader: what is left, and the first error -/
def Rd (W : World) (R : Nat) (s : ByteArray) (e : Nat) : Prop := Bx W R (.string s) (.int .i64 (e : Nat))
/-- what a call of a reader leaves -/
def Went (R : Nat) (x : ByteArray × Nat) (w w' : World) : Prop := Rd w' R x.1 x.2 ∧ But R w w'

theorem beq_cast (e : Nat) : ((e : Int) == 0) = (e == 0) := by rw [Bool.eq_iff_iff]; simp

/-- what End tells -/
def endE (s : ByteArray) (e : Nat) : Nat := if e = 0 ∧ 0 < s.size then 2 else e

end Go.Proofs.Ytngmcefbljkgaaa.Pk
