/- Trees whose halves are at most one apart, plainly: their pairs in order, what becomes of these in either half, and how many there are at least. -/
import Derived.Test.YthcofcpnhopnnaaAvR3
set_option linter.unusedSimpArgs false
namespace Go.Proofs.Ythcofcpnhopnnaa.Av
open Go.RowKit

/-- all keys are below; above -/
def Lo (l : List Pr) (k : Int) : Prop := ∀ p ∈ l, p.1 < k
def Hi (l : List Pr) (k : Int) : Prop := ∀ p ∈ l, k < p.1
theorem sorted_mid {a b : List Pr} {k v : Int} : Sorted (a ++ (k, v) :: b) ↔ Sorted a ∧ Sorted b ∧ Lo a k ∧ Hi b k := by
  unfold Sorted
  rw [List.pairwise_append, List.pairwise_cons]
  constructor
  · rintro ⟨h1, ⟨h2, h3⟩, h4⟩
    exact ⟨h1, h3, fun p hp => h4 p hp (k, v) (List.mem_cons_self ..), fun p hp => h2 p hp⟩
  · rintro ⟨h1, h2, h3, h4⟩
    refine ⟨h1, ⟨fun p hp => h4 p hp, h2⟩, fun p hp q hq => ?_⟩
    have := h3 p hp
    rcases List.mem_cons.1 hq with rfl | hq
    · exact this
    · have := h4 q hq; omega
theorem pos_nil (key : Int) : pos [] key = 0 := rfl
theorem pos_lo {a : List Pr} {key : Int} (h : Lo a key) (b : List Pr) : pos (a ++ b) key = a.length + pos b key := by
  unfold pos
  induction a with
  | nil => simp
  | cons p a ih =>
    rw [List.cons_append, List.takeWhile_cons, if_pos (by simpa using h p (List.mem_cons_self ..)), List.length_cons, ih (fun q hq => h q (List.mem_cons_of_mem _ hq))]
    simp only [List.length_cons]; omega
theorem pos_hi {a b : List Pr} {key k v : Int} (hk : key < k ∨ key = k) : pos (a ++ (k, v) :: b) key = pos a key := by
  unfold pos
  induction a with
  | nil => rw [List.nil_append, List.takeWhile_cons, if_neg (by simp; omega)]; rfl
  | cons p a ih =>
    rw [List.cons_append, List.takeWhile_cons, List.takeWhile_cons]
    split
    · simp only [List.length_cons]; omega
    · rfl
theorem isAt_left {a b : List Pr} {key k v : Int} (hk : key < k) : isAt (a ++ (k, v) :: b) key = isAt a key := by
  unfold isAt
  rw [pos_hi (.inl hk)]
  have hp := pos_le a key
  rcases Nat.lt_or_eq_of_le hp with h | h
  · rw [List.getElem?_append_left h]
  · rw [h, List.getElem?_append_right (Nat.le_refl _), Nat.sub_self]
    have : a[a.length]? = none := List.getElem?_eq_none (Nat.le_refl _)
    rw [this]
    simp; omega
theorem pos_all {a : List Pr} {key : Int} (h : Lo a key) : pos a key = a.length := by
  have := pos_lo h []
  rw [List.append_nil, pos_nil] at this
  omega
theorem isAt_here {a b : List Pr} {k v : Int} (ha : Lo a k) : isAt (a ++ (k, v) :: b) k = true := by
  unfold isAt
  rw [pos_hi (.inr rfl), pos_all ha, List.getElem?_append_right (Nat.le_refl _), Nat.sub_self]
  simp
theorem isAt_right {a b : List Pr} {key k v : Int} (ha : Lo a k) (hk : k < key) : isAt (a ++ (k, v) :: b) key = isAt b key := by
  have hl : Lo (a ++ [(k, v)]) key := fun p hp => by
    rcases List.mem_append.1 hp with hp | hp
    · have := ha p hp; omega
    · rw [List.mem_singleton.1 hp]; exact hk
  have e : a ++ (k, v) :: b = (a ++ [(k, v)]) ++ b := by simp
  unfold isAt
  rw [e, pos_lo hl, List.getElem?_append_right (by omega), Nat.add_sub_cancel_left]
theorem putM_left {a b : List Pr} {key k v value : Int} (hk : key < k) : putM (a ++ (k, v) :: b) key value = putM a key value ++ (k, v) :: b := by
  unfold putM
  rw [isAt_left hk, pos_hi (.inl hk)]
  have hp := pos_le a key
  have hd : pos a key + (if isAt a key = true then 1 else 0) ≤ a.length := by
    by_cases h : isAt a key = true
    · rw [if_pos h]
      rcases Nat.lt_or_eq_of_le hp with h2 | h2
      · omega
      · exfalso
        unfold isAt at h
        rw [h2, List.getElem?_eq_none (Nat.le_refl _)] at h
        cases h
    · rw [if_neg h]; omega
  rw [List.take_append_of_le_length hp, List.drop_append_of_le_length hd]
  simp
theorem putM_here {a b : List Pr} {k v value : Int} (ha : Lo a k) : putM (a ++ (k, v) :: b) k value = a ++ (k, value) :: b := by
  unfold putM
  rw [isAt_here ha, pos_hi (.inr rfl), pos_all ha, if_pos rfl, List.take_left, List.drop_append]
  simp
theorem putM_right {a b : List Pr} {key k v value : Int} (ha : Lo a k) (hk : k < key) : putM (a ++ (k, v) :: b) key value = a ++ (k, v) :: putM b key value := by
  have hl : Lo (a ++ [(k, v)]) key := fun p hp => by
    rcases List.mem_append.1 hp with hp | hp
    · have := ha p hp; omega
    · rw [List.mem_singleton.1 hp]; exact hk
  have e : a ++ (k, v) :: b = (a ++ [(k, v)]) ++ b := by simp
  have hp : pos (a ++ (k, v) :: b) key = (a ++ [(k, v)]).length + pos b key := by rw [e]; exact pos_lo hl b
  unfold putM
  rw [isAt_right ha hk, hp, e, List.take_length_add_append, Nat.add_assoc, List.drop_length_add_append]
  simp
theorem putM_nil (key value : Int) : putM [] key value = [(key, value)] := rfl
theorem isAt_nil (key : Int) : isAt [] key = false := rfl
theorem drop_lo {a : List Pr} {k : Int} (h : Lo a k) : dropM a k = a := List.filter_eq_self.2 fun p hp => by have := h p hp; simp; omega
theorem drop_hi {a : List Pr} {k : Int} (h : Hi a k) : dropM a k = a := List.filter_eq_self.2 fun p hp => by have := h p hp; simp; omega
theorem lo_mono {a : List Pr} {k j : Int} (h : Lo a k) (hj : k ≤ j) : Lo a j := fun p hp => by have := h p hp; omega
theorem hi_mono {a : List Pr} {k j : Int} (h : Hi a k) (hj : j ≤ k) : Hi a j := fun p hp => by have := h p hp; omega
theorem dropM_app (a b : List Pr) (key : Int) : dropM (a ++ b) key = dropM a key ++ dropM b key := List.filter_append ..
theorem dropM_left {a b : List Pr} {key k v : Int} (hb : Hi b k) (hk : key < k) : dropM (a ++ (k, v) :: b) key = dropM a key ++ (k, v) :: b := by
  rw [dropM_app]
  congr 1
  exact drop_hi (fun p hp => by
    rcases List.mem_cons.1 hp with rfl | hp
    · exact hk
    · have := hb p hp; omega)
theorem dropM_here {a b : List Pr} {k v : Int} (ha : Lo a k) (hb : Hi b k) : dropM (a ++ (k, v) :: b) k = a ++ b := by
  rw [dropM_app, drop_lo ha]
  congr 1
  show ((k, v) :: b).filter _ = b
  rw [List.filter_cons, if_neg (by simp)]
  exact drop_hi hb
theorem dropM_right {a b : List Pr} {key k v : Int} (ha : Lo a k) (hk : k < key) : dropM (a ++ (k, v) :: b) key = a ++ (k, v) :: dropM b key := by
  rw [dropM_app, drop_lo (lo_mono ha (by omega))]
  congr 1
  show ((k, v) :: b).filter _ = _
  rw [List.filter_cons, if_pos (by simp; omega)]
  rfl
theorem getM_app (a b : List Pr) (key : Int) : getM (a ++ b) key = (getM a key).or (getM b key) := by
  unfold getM
  rw [List.find?_append]
  cases a.find? (fun p => p.1 == key) <;> rfl
theorem getM_lo {a : List Pr} {k : Int} (h : Lo a k) : getM a k = none := by
  unfold getM
  rw [List.find?_eq_none.2 (fun p hp => by have := h p hp; simp; omega)]; rfl
theorem getM_hi {a : List Pr} {k : Int} (h : Hi a k) : getM a k = none := by
  unfold getM
  rw [List.find?_eq_none.2 (fun p hp => by have := h p hp; simp; omega)]; rfl
theorem getM_left {a b : List Pr} {key k v : Int} (hb : Hi b k) (hk : key < k) : getM (a ++ (k, v) :: b) key = getM a key := by
  rw [getM_app, getM_cons, if_neg (by omega), getM_hi (hi_mono hb (by omega))]
  cases getM a key <;> rfl
theorem getM_here {a b : List Pr} {k v : Int} (ha : Lo a k) : getM (a ++ (k, v) :: b) k = some v := by
  rw [getM_app, getM_cons, if_pos rfl, getM_lo ha]; rfl
theorem getM_right {a b : List Pr} {key k v : Int} (ha : Lo a k) (hk : k < key) : getM (a ++ (k, v) :: b) key = getM b key := by
  rw [getM_app, getM_cons, if_neg (by omega), getM_lo (lo_mono ha (by omega))]; rfl
/-- does it change how many there are? -/
theorem putM_len (l : List Pr) (key value : Int) : (putM l key value).length = l.length + (if isAt l key then 0 else 1) := by
  have hp := pos_le l key
  unfold putM
  rw [List.length_append, List.length_cons, List.length_take, List.length_drop]
  by_cases h : isAt l key = true
  · have : pos l key < l.length := by
      rcases Nat.lt_or_eq_of_le hp with h2 | h2
      · exact h2
      · exfalso
        unfold isAt at h
        rw [h2, List.getElem?_eq_none (Nat.le_refl _)] at h
        cases h
    rw [if_pos h, if_pos h]; omega
  · rw [if_neg h, if_neg h]; omega

/-! Trees. -/
inductive T where
  | nil : T
  | nd : T → Int → Int → T → T
/-- the pairs in order -/
def T.toL : T → List Pr
  | .nil => []
  | .nd a k v b => a.toL ++ (k, v) :: b.toL
/-- how deep -/
def T.ht : T → Nat
  | .nil => 0
  | .nd a _ _ b => max a.ht b.ht + 1
/-- the halves of each node are at most one apart -/
def T.Bal : T → Prop
  | .nil => True
  | .nd a _ _ b => a.Bal ∧ b.Bal ∧ a.ht ≤ b.ht + 1 ∧ b.ht ≤ a.ht + 1
theorem least_le_of {m n : Nat} (h : m ≤ n) : least m ≤ least n := by
  induction h with
  | refl => exact Nat.le_refl _
  | step _ ih => exact Nat.le_trans ih (least_mono _)
/-- a tree of a depth has at least so many -/
theorem T.least : ∀ t : T, t.Bal → Av.least t.ht ≤ t.toL.length
  | .nil, _ => Nat.le_refl _
  | .nd a k v b, h => by
    obtain ⟨h1, h2, h3, h4⟩ := h
    have i1 := T.least a h1
    have i2 := T.least b h2
    show Av.least (max a.ht b.ht + 1) ≤ (a.toL ++ (k, v) :: b.toL).length
    rw [List.length_append, List.length_cons]
    have key : ∀ m n : Nat, n ≤ m → m ≤ n + 1 → Av.least m + Av.least n + 1 ≥ Av.least (m + 1) := by
      intro m n hnm hmn
      cases m with
      | zero => show Av.least 0 + Av.least n + 1 ≥ 1; omega
      | succ m =>
        have : Av.least m ≤ Av.least n := least_le_of (by omega)
        show Av.least (m + 1) + Av.least n + 1 ≥ Av.least (m + 1) + Av.least m + 1
        omega
    rcases Nat.le_total a.ht b.ht with h | h
    · rw [Nat.max_eq_right h]
      have := key b.ht a.ht h (by omega)
      omega
    · rw [Nat.max_eq_left h]
      have := key a.ht b.ht h (by omega)
      omega
theorem T.ht_pos {t : T} (h : t.toL ≠ []) : 1 ≤ t.ht := by
  cases t with
  | nil => exact absurd rfl h
  | nd a k v b => show 1 ≤ max _ _ + 1; omega
/-- turning round a node leaves the pairs -/
theorem T.turn_right (a : T) (k v : Int) (b : T) (j u : Int) (c : T) : (T.nd (.nd a k v b) j u c).toL = (T.nd a k v (.nd b j u c)).toL := by
  simp [T.toL]
end Go.Proofs.Ythcofcpnhopnnaa.Av
