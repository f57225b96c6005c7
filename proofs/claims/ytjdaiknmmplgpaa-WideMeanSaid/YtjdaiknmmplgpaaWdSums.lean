/- Sums of durations without ends: the numbers alone. -/
import Derived.Test.YtjdaiknmmplgpaaWdTwo
namespace Go.Proofs.Ytjdaiknmmplgpaa.Wd
open Go.RowKit

/-- the sum of what durations count as -/
def sumD : List Int → Int
  | [] => 0
  | z :: zs => dur z + sumD zs
theorem sumD_ge (zs : List Int) : 0 ≤ sumD zs := by
  induction zs with
  | nil => simp [sumD]
  | cons z zs ih => have := dur_ge z; simp only [sumD]; omega
theorem sumD_le (zs : List Int) : sumD zs ≤ 4611686018427387904 * (zs.length : Int) := by
  induction zs with
  | nil => simp [sumD]
  | cons z zs ih => have := dur_le z; simp only [sumD, List.length_cons]; omega
theorem sumD_append (xs ys : List Int) : sumD (xs ++ ys) = sumD xs + sumD ys := by
  induction xs with
  | nil => simp [sumD]
  | cons x xs ih => simp only [List.cons_append, sumD, ih]; omega
theorem sumD_reverse (zs : List Int) : sumD zs.reverse = sumD zs := by
  induction zs with
  | nil => rfl
  | cons z zs ih => rw [List.reverse_cons, sumD_append, ih]; simp only [sumD]; omega
theorem foldl_sum (zs : List Int) (n : Int) (h0 : 0 ≤ n) (h : n + sumD zs ≤ 19807040633177770416813375487) : zs.foldl addT n = n + sumD zs := by
  induction zs generalizing n with
  | nil => simp [sumD]
  | cons z zs ih =>
    have a := dur_ge z
    have b := sumD_ge zs
    simp only [sumD] at h
    have e : addT n z = n + dur z := by unfold addT; rw [if_neg (by omega)]
    rw [List.foldl_cons, e, ih _ (by omega) (by omega)]
    simp only [sumD]; omega
theorem ofT_sum (zs : List Int) (h : zs.length ≤ 1000) : ofT zs = sumD zs := by
  have := sumD_le zs
  unfold ofT
  rw [foldl_sum zs 0 (by decide) (by omega)]; omega
theorem sumD_drop (zs : List Int) (k : Nat) (h : k < zs.length) : sumD (zs.drop k) = dur (zs[k]?.getD 0) + sumD (zs.drop (k + 1)) := by
  rw [List.drop_eq_getElem_cons h, List.getElem?_eq_getElem h]
  rfl
theorem sumD_take (zs : List Int) (k : Nat) (h : k < zs.length) : sumD (zs.take (k + 1)) = sumD (zs.take k) + dur (zs[k]?.getD 0) := by
  rw [List.take_succ_eq_append_getElem h, sumD_append, List.getElem?_eq_getElem h]
  simp [sumD]
theorem subT_drop (zs : List Int) (k : Nat) (h : k < zs.length) : subT (sumD (zs.drop k)) (zs[k]?.getD 0) = sumD (zs.drop (k + 1)) := by
  have e := sumD_drop zs k h
  have := sumD_ge (zs.drop (k + 1))
  unfold subT
  rw [if_neg (by omega)]; omega
theorem rev_snoc (zs : List Int) (k : Nat) (h : k < zs.length) : (zs.drop k).reverse = (zs.drop (k + 1)).reverse ++ [zs[k]?.getD 0] := by
  rw [List.drop_eq_getElem_cons h, List.reverse_cons, List.getElem?_eq_getElem h]
  rfl

/-- between the least and the greatest -/
structure Btw (zs : List Int) (k : Nat) (lo hi : Int) : Prop where
  low : lo * (k : Int) ≤ sumD (zs.take k)
  high : sumD (zs.take k) ≤ hi * (k : Int)
  l0 : 0 ≤ lo
  l1 : lo ≤ 4611686018427387904
  h0 : 0 ≤ hi
  h1 : hi ≤ 4611686018427387904
theorem Btw.start (zs : List Int) : Btw zs 0 4611686018427387904 0 := by
  refine ⟨?_, ?_, by decide, by decide, by decide, by decide⟩ <;> simp [sumD]
theorem Btw.next {zs : List Int} {k : Nat} {lo hi lo' hi' : Int} (h : Btw zs k lo hi) (hk : k < zs.length) (a1 : lo' ≤ lo) (a2 : lo' ≤ dur (zs[k]?.getD 0)) (a3 : 0 ≤ lo') (b1 : hi ≤ hi') (b2 : dur (zs[k]?.getD 0) ≤ hi') (b3 : hi' ≤ 4611686018427387904) :
    Btw zs (k + 1) lo' hi' := by
  have e := sumD_take zs k hk
  have m1 : lo' * (k : Int) ≤ lo * (k : Int) := Int.mul_le_mul_of_nonneg_right a1 (by omega)
  have m2 : hi * (k : Int) ≤ hi' * (k : Int) := Int.mul_le_mul_of_nonneg_right b1 (by omega)
  have x1 := h.low
  have x2 := h.high
  have x3 := h.l1
  have x4 := h.h0
  refine ⟨?_, ?_, a3, by omega, by omega, b3⟩
  · rw [e, Int.natCast_add, Int.mul_add]; simp only [Int.natCast_one, Int.mul_one]; omega
  · rw [e, Int.natCast_add, Int.mul_add]; simp only [Int.natCast_one, Int.mul_one]; omega
theorem Btw.mean {zs : List Int} {lo hi : Int} (h : Btw zs zs.length lo hi) (hl : 1 ≤ zs.length) (hz : zs.length ≤ 1000) : lo ≤ meanT (ofT zs) zs.length ∧ meanT (ofT zs) zs.length ≤ hi := by
  have a := h.low
  have b := h.high
  have := h.h1
  rw [List.take_of_length_le (Nat.le_refl _)] at a b
  rw [ofT_sum zs hz]
  have q1 : lo ≤ sumD zs / (zs.length : Int) := (Int.le_ediv_iff_mul_le (by omega)).2 a
  have q2 : sumD zs / (zs.length : Int) ≤ hi := by
    have : sumD zs / (zs.length : Int) < hi + 1 := by
      rw [Int.ediv_lt_iff_lt_mul (by omega), Int.add_mul, Int.one_mul]; omega
    omega
  unfold meanT
  rw [if_neg (by omega), if_neg (by omega)]
  exact ⟨q1, q2⟩
theorem dur_cases (z : Int) : (z < 0 → dur z = 0) ∧ (4611686018427387904 < z → dur z = 4611686018427387904) ∧ (0 ≤ z → z ≤ 4611686018427387904 → dur z = z) := by
  unfold dur cl
  refine ⟨fun h => ?_, fun h => ?_, fun h h2 => ?_⟩ <;> (repeat' split) <;> omega
end Go.Proofs.Ytjdaiknmmplgpaa.Wd
