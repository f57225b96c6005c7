/- Acts that came in, plainly and in memory; what all puts come to. -/
import Derived.Test.YthcofcpnhopnnaaAvAwake
set_option linter.unusedSimpArgs false
namespace Go.Proofs.Ythcofcpnhopnnaa.Av
open Go.RowKit

/-- acts one behind the other -/
structure ActsIn (a : Option Addr) (len : Nat) (l : List (Int × Int × Int)) (W : World) : Prop where
  len_is : l.length = len
  at_ : 0 < len → ∃ b off, a = some ⟨b, off, none⟩ ∧ b < W.heap.size ∧ ∀ i x, l[i]? = some x → W.cell? ⟨b, off + i * 3, none⟩ = some (.int .i64 x.1) ∧ W.cell? ⟨b, off + i * 3 + 1, none⟩ = some (.int .i64 x.2.1) ∧ W.cell? ⟨b, off + i * 3 + 2, none⟩ = some (.int .i64 x.2.2)
theorem ActsIn.later {a : Option Addr} {len : Nat} {l : List (Int × Int × Int)} {W W' : World} (h : ActsIn a len l W) (hb : Below W.heap.size W W') : ActsIn a len l W' :=
  ⟨h.len_is, fun h0 => by
    obtain ⟨b, off, h1, h2, h3⟩ := h.at_ h0
    refine ⟨b, off, h1, Nat.lt_of_lt_of_le h2 hb.size, fun i x hx => ?_⟩
    obtain ⟨e1, e2, e3⟩ := h3 i x hx
    exact ⟨(hb.cell (p := ⟨b, off + i * 3, none⟩) h2).trans e1, (hb.cell (p := ⟨b, off + i * 3 + 1, none⟩) h2).trans e2, (hb.cell (p := ⟨b, off + i * 3 + 2, none⟩) h2).trans e3⟩⟩

/-! Plainly: what is put. -/
theorem mem_put {l : List Pr} (hs : Sorted l) (k v : Int) (p : Pr) : p ∈ putM l k v ↔ p = (k, v) ∨ (p ∈ l ∧ p.1 ≠ k) := by
  cases hat : isAt l k with
  | true =>
    obtain ⟨a, x, b, rfl⟩ := isAt_split hat
    rw [sorted_mid] at hs
    obtain ⟨_, _, s3, s4⟩ := hs
    rw [putM_here s3]
    simp only [List.mem_append, List.mem_cons]
    constructor
    · rintro (h | rfl | h)
      · exact .inr ⟨.inl h, by have := s3 p h; omega⟩
      · exact .inl rfl
      · exact .inr ⟨.inr (.inr h), by have := s4 p h; omega⟩
    · rintro (rfl | ⟨h | rfl | h, hn⟩)
      · exact .inr (.inl rfl)
      · exact .inl h
      · exact absurd rfl hn
      · exact .inr (.inr h)
  | false =>
    have hne : ∀ q ∈ l, q.1 ≠ k := fun q hq he => by
      have := isAt_of_mem (key := k) (u := q.2) hs (by rw [← he]; exact hq)
      rw [hat] at this; cases this
    have hput : p ∈ putM l k v ↔ p = (k, v) ∨ p ∈ l := by
      have e : putM l k v = l.take (pos l k) ++ (k, v) :: l.drop (pos l k) := by unfold putM; rw [hat]; rfl
      have hm : p ∈ l ↔ p ∈ l.take (pos l k) ∨ p ∈ l.drop (pos l k) := by
        conv => lhs; rw [← List.take_append_drop (pos l k) l]
        exact List.mem_append
      rw [e, hm]
      simp only [List.mem_append, List.mem_cons]
      constructor
      · rintro (h | h | h)
        · exact .inr (.inl h)
        · exact .inl h
        · exact .inr (.inr h)
      · rintro (h | h | h)
        · exact .inr (.inl h)
        · exact .inl h
        · exact .inr (.inr h)
    rw [hput]
    constructor
    · rintro (h | h)
      · exact .inl h
      · exact .inr ⟨h, hne p h⟩
    · rintro (h | ⟨h, _⟩)
      · exact .inl h
      · exact .inr h
abbrev Ac := Int × Int × Int
/-- what all puts come to; the last of them first -/
def putR : List Ac → List Pr
  | [] => []
  | x :: r => putM (putR r) x.2.1 x.2.2
def putA (l : List Ac) : List Pr := putR l.reverse
theorem putA_snoc {l : List Ac} {k : Nat} {x : Ac} (h : l[k]? = some x) : putA (l.take (k + 1)) = putM (putA (l.take k)) x.2.1 x.2.2 := by
  obtain ⟨hk, he⟩ := List.getElem?_eq_some_iff.1 h
  unfold putA
  rw [List.take_succ_eq_append_getElem hk, he, List.reverse_append]
  rfl
theorem putR_len : ∀ l : List Ac, (putR l).length ≤ l.length
  | [] => Nat.le_refl _
  | x :: r => by
    have := putR_len r
    show (putM (putR r) x.2.1 x.2.2).length ≤ r.length + 1
    rw [putM_len]
    split <;> omega
theorem putA_len (l : List Ac) : (putA l).length ≤ l.length := by
  have := putR_len l.reverse
  rw [List.length_reverse] at this
  exact this
/-- the value that a key was put with last -/
def lastR : List Ac → Int → Option Int
  | [], _ => none
  | x :: r, k => if x.2.1 = k then some x.2.2 else lastR r k
def lastA (l : List Ac) (k : Int) : Option Int := lastR l.reverse k
theorem putR_is : ∀ l : List Ac, Sorted (putR l) ∧ (∀ p ∈ putR l, lastR l p.1 = some p.2) ∧ ∀ x ∈ l, ∃ v, (x.2.1, v) ∈ putR l
  | [] => ⟨List.Pairwise.nil, (fun p hp => nomatch hp), (fun x hx => nomatch hx)⟩
  | x :: r => by
    obtain ⟨h1, h2, h3⟩ := putR_is r
    refine ⟨sorted_put h1 _ _, fun p hp => ?_, fun y hy => ?_⟩
    · rcases (mem_put h1 _ _ p).1 hp with rfl | ⟨hp, hn⟩
      · show (if x.2.1 = x.2.1 then _ else _) = _
        rw [if_pos rfl]
      · show (if x.2.1 = p.1 then _ else _) = _
        rw [if_neg (fun e => hn e.symm)]
        exact h2 p hp
    · by_cases hk : y.2.1 = x.2.1
      · exact ⟨x.2.2, (mem_put h1 _ _ _).2 (.inl (by rw [hk]))⟩
      · rcases List.mem_cons.1 hy with rfl | hy
        · exact absurd rfl hk
        · obtain ⟨v, hv⟩ := h3 y hy
          exact ⟨v, (mem_put h1 _ _ _).2 (.inr ⟨hv, hk⟩)⟩
/-- rising, each with the value that it was put with last -/
def GoodL (acts : List Ac) (l : List Pr) : Prop := Sorted l ∧ ∀ p ∈ l, lastA acts p.1 = some p.2
theorem good_put (acts : List Ac) : GoodL acts (putA acts) := ⟨(putR_is _).1, (putR_is _).2.1⟩
theorem good_pre {acts : List Ac} {l q : List Pr} (h : GoodL acts l) (hq : q <+: l) : GoodL acts q := by
  obtain ⟨r, rfl⟩ := hq
  exact ⟨(List.pairwise_append.1 h.1).1, fun p hp => h.2 p (List.mem_append_left _ hp)⟩
/-- each key that was put is there -/
theorem got_put {acts : List Ac} {k : Nat} {x : Ac} (h : acts[k]? = some x) : ∃ v, getM (putA acts) x.2.1 = some v := by
  obtain ⟨v, hv⟩ := (putR_is acts.reverse).2.2 x (List.mem_reverse.2 (List.mem_of_getElem? h))
  obtain ⟨a, b, hab⟩ := List.append_of_mem hv
  have hs := (putR_is acts.reverse).1
  unfold putA
  rw [hab] at hs ⊢
  exact ⟨v, getM_here (sorted_mid.1 hs).2.2.1⟩
/-- a search from the last act on -/
def NoneFrom (acts : List Ac) (j : Nat) (k : Int) : Prop := ∀ i x, j ≤ i → acts[i]? = some x → x.2.1 ≠ k
theorem lastR_none : ∀ (l : List Ac) (k : Int), (∀ x ∈ l, x.2.1 ≠ k) → lastR l k = none
  | [], _, _ => rfl
  | x :: r, k, h => by
    show (if x.2.1 = k then _ else _) = _
    rw [if_neg (h x (List.mem_cons_self ..))]
    exact lastR_none r k (fun y hy => h y (List.mem_cons_of_mem _ hy))
theorem lastR_app : ∀ (a b : List Ac) (k : Int), (∀ x ∈ a, x.2.1 ≠ k) → lastR (a ++ b) k = lastR b k
  | [], _, _, _ => rfl
  | x :: r, b, k, h => by
    show (if x.2.1 = k then _ else lastR (r ++ b) k) = _
    rw [if_neg (h x (List.mem_cons_self ..))]
    exact lastR_app r b k (fun y hy => h y (List.mem_cons_of_mem _ hy))
theorem lastA_none {acts : List Ac} {k : Int} (h : NoneFrom acts 0 k) : lastA acts k = none :=
  lastR_none _ _ fun x hx => by
    obtain ⟨i, hi⟩ := List.getElem?_of_mem (List.mem_reverse.1 hx)
    exact h i x (Nat.zero_le _) hi
theorem lastA_at {acts : List Ac} {j : Nat} {k : Int} {x : Ac} (h : NoneFrom acts (j + 1) k) (hx : acts[j]? = some x) (hk : x.2.1 = k) : lastA acts k = some x.2.2 := by
  obtain ⟨hj, he⟩ := List.getElem?_eq_some_iff.1 hx
  have e : acts = acts.take j ++ (x :: acts.drop (j + 1)) := by rw [← he, ← List.drop_eq_getElem_cons hj, List.take_append_drop]
  unfold lastA
  rw [e, List.reverse_append, List.reverse_cons, List.append_assoc, lastR_app]
  · show (if x.2.1 = k then _ else _) = _
    rw [if_pos hk]
  · intro y hy
    obtain ⟨i, hi⟩ := List.getElem?_of_mem (List.mem_reverse.1 hy)
    rw [List.getElem?_drop] at hi
    exact h _ y (by omega) hi
theorem noneFrom_step {acts : List Ac} {j : Nat} {k : Int} {x : Ac} (h : NoneFrom acts (j + 1) k) (hx : acts[j]? = some x) (hk : x.2.1 ≠ k) : NoneFrom acts j k := fun i y hi hy => by
  rcases Nat.lt_or_eq_of_le hi with hlt | rfl
  · exact h i y hlt hy
  · rw [hx] at hy; cases hy; exact hk
theorem noneFrom_all (acts : List Ac) (k : Int) : NoneFrom acts acts.length k := fun i x hi hx => by
  have := (List.getElem?_eq_some_iff.1 hx).1; omega
/-- the last key so far; 0 of none -/
theorem sorted_snoc {l : List Pr} {x : Pr} (hs : Sorted l) : Sorted (l ++ [x]) ↔ l = [] ∨ lastK l < x.1 := by
  rcases List.eq_nil_or_concat l with rfl | ⟨m, y, rfl⟩
  · exact ⟨fun _ => .inl rfl, fun _ => List.pairwise_singleton _ _⟩
  · rw [List.concat_eq_append] at *
    have e : lastK (m ++ [y]) = y.1 := by unfold lastK; simp
    rw [e]
    constructor
    · intro h
      refine .inr ((List.pairwise_append.1 h).2.2 y (by simp) x (by simp))
    · rintro (h | h)
      · simp at h
      · refine List.pairwise_append.2 ⟨hs, List.pairwise_singleton _ _, fun p hp q hq => ?_⟩
        rw [List.mem_singleton.1 hq]
        rcases List.mem_append.1 hp with hp | hp
        · have := (List.pairwise_append.1 hs).2.2 p hp y (by simp)
          omega
        · rw [List.mem_singleton.1 hp]; exact h
theorem lastK_snoc (l : List Pr) (x : Pr) : lastK (l ++ [x]) = x.1 := by unfold lastK; simp
end Go.Proofs.Ythcofcpnhopnnaa.Av
