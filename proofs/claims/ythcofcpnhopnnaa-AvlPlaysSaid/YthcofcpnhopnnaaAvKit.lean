/- Maps in order, plainly, as the document does it; pairs in memory; what a call leaves as it was. -/
import Derived.Test.YthcofcpnhopnnaaRows
import Derived.WalkKit
import Derived.ProofKit
import Derived.Below
import Derived.Lib.Hide
import Derived.OwnWalk
import Derived.Deep.OwnRows
import Derived.Laws.OwnMore
import Derived.Lib.AppendZeros
import Derived.RegionTactic
import Derived.ChangeAlike
import Derived.BigRegion
import Derived.Deep.QuietTactic
import Derived.BigQuiet
import Derived.Deep.RegionHeld3
set_option linter.unusedSimpArgs false
namespace Go.Proofs.Ythcofcpnhopnnaa.Av
open Go.RowKit

/-! Plainly. -/
/-- a key with its value -/
abbrev Pr := Int × Int
/-- how many keys stand ahead of a key -/
def pos (l : List Pr) (key : Int) : Nat := (l.takeWhile fun p => decide (p.1 < key)).length
/-- does the key stand at its place? -/
def isAt (l : List Pr) (key : Int) : Bool := match l[pos l key]? with | some p => p.1 == key | none => false
def putM (l : List Pr) (key value : Int) : List Pr := l.take (pos l key) ++ (key, value) :: l.drop (pos l key + if isAt l key then 1 else 0)
def dropM (l : List Pr) (key : Int) : List Pr := l.filter fun p => p.1 != key
def getM (l : List Pr) (key : Int) : Option Int := (l.find? fun p => p.1 == key).map (·.2)
/-- rising, each key once -/
def Sorted (l : List Pr) : Prop := l.Pairwise fun p q => p.1 < q.1

theorem pos_le (l : List Pr) (key : Int) : pos l key ≤ l.length := by
  unfold pos
  induction l with
  | nil => exact Nat.le_refl _
  | cons p l ih =>
    rw [List.takeWhile_cons]
    split
    · simp only [List.length_cons]; omega
    · simp
theorem pos_lt {l : List Pr} {key : Int} {i : Nat} {p : Pr} (hi : i < pos l key) (h : l[i]? = some p) : p.1 < key := by
  unfold pos at hi
  induction l generalizing i with
  | nil => simp at h
  | cons q l ih =>
    rw [List.takeWhile_cons] at hi
    split at hi
    · rename_i hq
      cases i with
      | zero =>
        obtain rfl : q = p := by simpa using h
        simpa using hq
      | succ i =>
        exact ih (i := i) (by simp only [List.length_cons] at hi; omega) (by simpa using h)
    · simp at hi
theorem pos_ge {l : List Pr} {key : Int} {p : Pr} (h : l[pos l key]? = some p) : ¬ p.1 < key := by
  unfold pos at h
  induction l with
  | nil => simp at h
  | cons q l ih =>
    rw [List.takeWhile_cons] at h
    split at h
    · exact ih (by simpa using h)
    · rename_i hq
      obtain rfl : q = p := by simpa using h
      simpa using hq
theorem pos_is {l : List Pr} {key : Int} {k : Nat} (hk : k ≤ l.length) (h1 : ∀ i p, i < k → l[i]? = some p → p.1 < key) (h2 : ∀ p, l[k]? = some p → ¬ p.1 < key) : pos l key = k := by
  rcases Nat.lt_trichotomy (pos l key) k with h | h | h
  · obtain ⟨p, hp⟩ : ∃ p, l[pos l key]? = some p := ⟨_, List.getElem?_eq_getElem (by omega)⟩
    exact absurd (h1 _ p h hp) (pos_ge hp)
  · exact h
  · have := pos_le l key
    obtain ⟨p, hp⟩ : ∃ p, l[k]? = some p := ⟨_, List.getElem?_eq_getElem (by omega)⟩
    exact absurd (pos_lt h hp) (h2 p hp)

/-! What a call leaves as it was: all blocks but one. -/
structure But (B : Nat) (w w' : World) : Prop where
  os : w'.os = w.os
  tape : w'.tape = w.tape
  output : w'.output = w.output
  size : w.heap.size ≤ w'.heap.size
  block : ∀ k, k < w.heap.size → k ≠ B → w'.heap[k]? = w.heap[k]?
theorem But.refl (B : Nat) (w : World) : But B w w := ⟨rfl, rfl, rfl, Nat.le_refl _, fun _ _ _ => rfl⟩
theorem But.of_below {B : Nat} {w w' : World} (h : Below w.heap.size w w') : But B w w' := ⟨h.os, h.tape, h.output, h.size, fun k hk _ => h.block k hk⟩
theorem But.trans {B : Nat} {a b c : World} (h : But B a b) (k : But B b c) : But B a c :=
  ⟨k.os.trans h.os, k.tape.trans h.tape, k.output.trans h.output, Nat.le_trans h.size k.size, fun i hi hn => (k.block i (Nat.lt_of_lt_of_le hi h.size) hn).trans (h.block i hi hn)⟩
theorem But.setCell {B : Nat} {a w : World} (h : But B a w) {p : Addr} (hp : p.block = B) (u : Value) : But B a (w.setCell p u) :=
  h.trans ⟨rfl, rfl, rfl, by simp, fun k _ hn => Below.heap_setCell _ _ _ _ (by omega)⟩
theorem grown_of {W W' : World} (h : Below W.heap.size W W') : W.grownBy W' none := ⟨h.os, h.tape, h.output, h.size, fun k hk _ => h.block k hk⟩
theorem own_later {w w' : World} {base : Nat} {e : TypeId} {size : Nat} {v : Value} {n : Nat} {xs : List Value} (h : w.ownsRow base e size v n xs) (hb : Below w.heap.size w w') : w'.ownsRow base e size v n xs := by
  refine h.kept (row := none) (grown_of hb) ?_
  cases h : v.ownBlock with
  | none => exact .inl rfl
  | some g => exact .inr (by simp)
theorem own_but {W W' : World} {base size n R : Nat} {e : TypeId} {v : Value} {xs : List Value} (h : W.ownsRow base e size v n xs) (hb : But R W W') (hR : R < base) : W'.ownsRow base e size v n xs := by
  refine ⟨h.1, ?_⟩
  rcases h.2 with h2 | ⟨g, cap, cur, h1, h2, h3, h4⟩
  · exact .inl h2
  · exact .inr ⟨g, cap, cur, h1, h2, (hb.block g (Array.getElem?_eq_some_iff.1 h3).1 (by omega)).trans h3, h4⟩
theorem own_mono {W : World} {b0 b1 size n : Nat} {e : TypeId} {v : Value} {xs : List Value} (h : W.ownsRow b1 e size v n xs) (hb : b0 ≤ b1) : W.ownsRow b0 e size v n xs := by
  refine ⟨h.1, ?_⟩
  rcases h.2 with h2 | ⟨g, cap, cur, h1, h2, h3⟩
  · exact .inl h2
  · exact .inr ⟨g, cap, cur, h1, by omega, h3⟩
theorem below_low {A B : Nat} {W W' : World} (h : Below B W W') (hab : A ≤ B) : Below A W W' := ⟨h.os, h.tape, h.output, h.size, fun k hk => h.block k (by omega)⟩

/-! Pairs in memory. -/
def prs : List Pr → List Value
  | [] => []
  | p :: l => .int .i64 p.1 :: .int .i64 p.2 :: prs l
theorem prs_len : ∀ l : List Pr, (prs l).length = l.length * 2
  | [] => rfl
  | p :: l => by show (prs l).length + 1 + 1 = (l.length + 1) * 2; rw [prs_len l]; omega
theorem prs_append : ∀ a b : List Pr, prs (a ++ b) = prs a ++ prs b
  | [], _ => rfl
  | p :: a, b => by show _ :: _ :: prs (a ++ b) = _; rw [prs_append a b]; rfl
theorem prs_at : ∀ (l : List Pr) (j : Nat) (p : Pr), l[j]? = some p → (prs l)[j * 2]? = some (.int .i64 p.1) ∧ (prs l)[j * 2 + 1]? = some (.int .i64 p.2)
  | [], j, p, h => by simp at h
  | q :: l, 0, p, h => by
    obtain rfl : q = p := by simpa using h
    exact ⟨rfl, rfl⟩
  | q :: l, j + 1, p, h => by
    have := prs_at l j p (by simpa using h)
    show (_ :: _ :: prs l)[(j + 1) * 2]? = _ ∧ (_ :: _ :: prs l)[(j + 1) * 2 + 1]? = _
    rw [show (j + 1) * 2 = j * 2 + 1 + 1 by omega]
    simpa using this
theorem one_cell : ∀ (l : List Pr), ∀ u ∈ prs l, u.oneCell' = true
  | [], u, h => by cases h
  | p :: l, u, h => by
    rcases List.mem_cons.1 h with rfl | h
    · rfl
    · rcases List.mem_cons.1 h with rfl | h
      · rfl
      · exact one_cell l u h
theorem add_n (b o i : Nat) : (⟨b, o, none⟩ : Addr).add i = ⟨b, o + i, none⟩ := by unfold Addr.add; split <;> simp_all
/-- pairs that stand in memory one behind the other; or none -/
structure Prs (a : Option Addr) (len : Nat) (xs : List Pr) (W : World) : Prop where
  len_is : xs.length = len
  at_ : 0 < len → ∃ b off, a = some ⟨b, off, none⟩ ∧ b < W.heap.size ∧ ∀ i v, (prs xs)[i]? = some v → W.cell? ⟨b, off + i, none⟩ = some v
theorem Prs.later {a : Option Addr} {len : Nat} {xs : List Pr} {W W' : World} (h : Prs a len xs W) (hb : Below W.heap.size W W') : Prs a len xs W' :=
  ⟨h.len_is, fun hl => by
    obtain ⟨b, off, h1, h2, h3⟩ := h.at_ hl
    exact ⟨b, off, h1, Nat.lt_of_lt_of_le h2 hb.size, fun i v hv => (hb.cell (p := ⟨b, off + i, none⟩) h2).trans (h3 i v hv)⟩⟩
theorem Prs.nil (a : Option Addr) (W : World) : Prs a 0 [] W := ⟨rfl, fun h => by omega⟩
theorem prs_take (l : List Pr) (k : Nat) : prs (l.take k) = (prs l).take (k * 2) := by
  induction l generalizing k with
  | nil => simp [prs]
  | cons p l ih =>
    cases k with
    | zero => simp [prs]
    | succ k =>
      rw [show (k + 1) * 2 = k * 2 + 1 + 1 by omega]
      show _ :: _ :: prs (l.take k) = _
      rw [ih k]; rfl
theorem prs_drop (l : List Pr) (k : Nat) : prs (l.drop k) = (prs l).drop (k * 2) := by
  induction l generalizing k with
  | nil => simp [prs]
  | cons p l ih =>
    cases k with
    | zero => simp
    | succ k =>
      rw [show (k + 1) * 2 = k * 2 + 1 + 1 by omega]
      exact ih k
theorem Prs.take {b off len : Nat} {xs : List Pr} {W : World} (h : Prs (some ⟨b, off, none⟩) len xs W) (k : Nat) (hk : k ≤ len) : Prs (some ⟨b, off, none⟩) k (xs.take k) W :=
  ⟨by rw [List.length_take, h.len_is]; omega, fun hl => by
    obtain ⟨b', off', h1, h2, h3⟩ := h.at_ (by omega)
    refine ⟨b', off', h1, h2, fun i v hv => h3 i v ?_⟩
    rw [prs_take, List.getElem?_take] at hv
    split at hv
    · exact hv
    · cases hv⟩
theorem Prs.drop {b off len : Nat} {xs : List Pr} {W : World} (h : Prs (some ⟨b, off, none⟩) len xs W) (k : Nat) : Prs (some ⟨b, off + k * 2, none⟩) (len - k) (xs.drop k) W :=
  ⟨by rw [List.length_drop, h.len_is], fun hl => by
    obtain ⟨b', off', h1, h2, h3⟩ := h.at_ (by omega)
    injection h1 with h1; injection h1 with e1 e2
    subst e1 e2
    refine ⟨b, off + k * 2, rfl, h2, fun i v hv => ?_⟩
    rw [prs_drop, List.getElem?_drop] at hv
    have := h3 _ v hv
    rw [← Nat.add_assoc] at this
    exact this⟩
theorem Prs.drop0 {b len : Nat} {xs : List Pr} {W : World} (h : Prs (some ⟨b, 0, none⟩) len xs W) (k : Nat) : Prs (some ⟨b, k * 2, none⟩) (len - k) (xs.drop k) W := by
  have := h.drop k
  rw [Nat.zero_add] at this
  exact this
/-- the two cells of a pair -/
theorem Prs.two {b off len : Nat} {xs : List Pr} {W : World} (h : Prs (some ⟨b, off, none⟩) len xs W) {j : Nat} {p : Pr} (hj : xs[j]? = some p) : W.cell? ⟨b, off + j * 2, none⟩ = some (.int .i64 p.1) ∧ W.cell? ⟨b, off + j * 2 + 1, none⟩ = some (.int .i64 p.2) := by
  have hlt : j < xs.length := (List.getElem?_eq_some_iff.1 hj).1
  obtain ⟨b', off', h1, _, h3⟩ := h.at_ (by rw [← h.len_is]; omega)
  injection h1 with h1; injection h1 with e1 e2
  subst e1 e2
  obtain ⟨q1, q2⟩ := prs_at xs j p hj
  exact ⟨h3 _ _ q1, by have := h3 _ _ q2; rw [← Nat.add_assoc] at this; exact this⟩
/-- a row of the call's own, as it is read -/
theorem row_prs {W : World} {base n : Nat} {e : TypeId} {v : Value} {l : List Pr} (hn : l.length = n) (h : W.ownsRow base e 2 v n (prs l)) :
    ∃ a cap, v = .slice a n cap ∧ Prs a n l W ∧ n ≤ cap ∧ ((a = none ∧ cap = 0) ∨ ∃ g, a = some ⟨g, 0, none⟩ ∧ base ≤ g) := by
  subst hn
  rcases h.2 with ⟨rfl, h0⟩ | ⟨g, cap, cur, rfl, hb, hg, hnc, _, _, htake⟩
  · have h1 := h.1
    have hl : l = [] := by
      cases l with
      | nil => rfl
      | cons p l => simp at h0
    subst hl
    exact ⟨none, 0, rfl, Prs.nil _ _, Nat.le_refl _, .inl ⟨rfl, rfl⟩⟩
  · refine ⟨_, cap, rfl, ⟨rfl, fun _ => ⟨g, 0, rfl, (Array.getElem?_eq_some_iff.1 hg).1, fun i u hu => ?_⟩⟩, hnc, .inr ⟨g, rfl, hb⟩⟩
    have hc : W.cell? ⟨g, 0 + i, none⟩ = cur[i]? := by rw [Nat.zero_add]; simp [World.cell?, hg]
    rw [hc]
    rw [← htake, List.getElem?_take] at hu
    split at hu
    · simpa using hu
    · cases hu
end Go.Proofs.Ythcofcpnhopnnaa.Av
