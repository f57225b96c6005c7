/- Bits that are changed, in plain bytes: which bytes they make, and that their sum is another one. (What XCrFinds has of it, without walks.) -/
import Derived.Test.YtjmkjdflfmjliaaCrMath
namespace Go.Proofs.Ytjmkjdflfmjliaa.Cr

/-- which bits of the i-th byte are changed -/
def eb (bs i : Nat) : UInt8 := UInt8.ofNat (bs / 2 ^ (8 * i) % 256)
/-- the bytes behind the first i changes -/
def chg (l : List UInt8) (k bs : Nat) : Nat → List UInt8
  | 0 => l
  | i + 1 => (chg l k bs i).set (k + i) ((chg l k bs i).getD (k + i) 0 ^^^ eb bs i)
theorem chg_len (l : List UInt8) (k bs i : Nat) : (chg l k bs i).length = l.length := by
  induction i with
  | zero => rfl
  | succ i ih => simp [chg, ih]

theorem getD_append_at (p t : List UInt8) (i : Nat) : (p ++ t).getD (p.length + i) 0 = t.getD i 0 := by
  simp [List.getD_eq_getElem?_getD, List.getElem?_append_right]
theorem set_append_at (p t : List UInt8) (i : Nat) (c : UInt8) : (p ++ t).set (p.length + i) c = p ++ t.set i c := by
  rw [List.set_append_right _ _ (by omega)]; simp
theorem four_at (l : List UInt8) (k : Nat) (h : k + 4 ≤ l.length) : ∃ p a b c d q, l = p ++ ([a, b, c, d] ++ q) ∧ p.length = k := by
  refine ⟨l.take k, l[k], l[k+1], l[k+2], l[k+3], l.drop (k + 4), ?_, by simp; omega⟩
  conv => lhs; rw [← List.take_append_drop k l]
  congr 1
  rw [List.drop_eq_getElem_cons (by omega), List.drop_eq_getElem_cons (by omega), List.drop_eq_getElem_cons (by omega), List.drop_eq_getElem_cons (by omega)]
  rfl
theorem chg_four (p q : List UInt8) (a b c d : UInt8) (bs : Nat) : chg (p ++ ([a, b, c, d] ++ q)) p.length bs 4 = p ++ ([a ^^^ eb bs 0, b ^^^ eb bs 1, c ^^^ eb bs 2, d ^^^ eb bs 3] ++ q) := by
  simp only [chg, getD_append_at, set_append_at]
  rfl
theorem eb_zero {bs i : Nat} (h : eb bs i = 0) : bs / 2 ^ (8 * i) % 256 = 0 := by
  have := congrArg UInt8.toNat h
  unfold eb at this
  rw [UInt8.toNat_ofNat'] at this
  simpa using this
theorem xor_same {a e : UInt8} (h : a ^^^ e = a) : e = 0 := by
  have h1 : a ^^^ (a ^^^ e) = a ^^^ a := by rw [h]
  rw [← UInt8.xor_assoc, UInt8.xor_self] at h1
  simpa using h1
/-- the changed bytes have another sum -/
theorem chg_sum (l : List UInt8) (k bs : Nat) (h : k + 4 ≤ l.length) (hb : 0 < bs) (h2 : bs < 4294967296) : sumB 0 (chg l k bs 4) ≠ sumB 0 l := by
  obtain ⟨p, a, b, c, d, q, rfl, rfl⟩ := four_at l k h
  rw [chg_four]
  intro he
  obtain ⟨e0, e1, e2, e3⟩ := finds 0 (by decide) p q _ _ _ _ _ _ _ _ he
  have z0 := eb_zero (xor_same e0)
  have z1 := eb_zero (xor_same e1)
  have z2 := eb_zero (xor_same e2)
  have z3 := eb_zero (xor_same e3)
  simp only [Nat.mul_zero, Nat.pow_zero, Nat.div_one, Nat.mul_one] at z0 z1 z2 z3
  simp only [show 8 * 2 = 16 from rfl, show 8 * 3 = 24 from rfl] at z2 z3
  omega

theorem chg_append (p t : List UInt8) (j bs i : Nat) : chg (p ++ t) (p.length + j) bs i = p ++ chg t j bs i := by
  induction i with
  | zero => rfl
  | succ i ih =>
    show (chg (p ++ t) (p.length + j) bs i).set (p.length + j + i) ((chg (p ++ t) (p.length + j) bs i).getD (p.length + j + i) 0 ^^^ eb bs i) = p ++ (chg t j bs i).set (j + i) ((chg t j bs i).getD (j + i) 0 ^^^ eb bs i)
    rw [ih, Nat.add_assoc, getD_append_at, set_append_at]
end Go.Proofs.Ytjmkjdflfmjliaa.Cr
