/- The document's disk in memory: its block, the row of its files; what the two disks leave of each other. -/
import Derived.Test.YtlmhghcoohalaaaDkAct
namespace Go.Proofs.Ytlmhghcoohalaaa.Dk
open Go.RowKit

/-- a file's three cells, and a list's -/
def fc (f : Fi) : List Value := [.string f.nm, .string ⟨f.bs.toArray⟩, .int .i64 (f.su : Int)]
def fcs : List Fi → List Value
  | [] => []
  | f :: r => fc f ++ fcs r
theorem fcs_len : ∀ L : List Fi, (fcs L).length = L.length * 3
  | [] => rfl
  | f :: r => by rw [fcs, List.length_append, fcs_len r]; simp [fc]; omega
theorem fcs_append : ∀ L M : List Fi, fcs (L ++ M) = fcs L ++ fcs M
  | [], _ => rfl
  | f :: r, M => by rw [List.cons_append, fcs, fcs_append r M, fcs, List.append_assoc]
theorem fcs_one (f : Fi) : fcs [f] = fc f := by simp [fcs]
theorem fcs_at : ∀ (L : List Fi) (k : Nat) (f : Fi), L[k]? = some f → (fcs L)[k * 3]? = some (.string f.nm) ∧ (fcs L)[k * 3 + 1]? = some (.string ⟨f.bs.toArray⟩) ∧ (fcs L)[k * 3 + 2]? = some (.int .i64 (f.su : Int))
  | [], k, f, h => by simp at h
  | g :: r, 0, f, h => by simp at h; subst h; simp [fcs, fc]
  | g :: r, k + 1, f, h => by
    obtain ⟨h1, h2, h3⟩ := fcs_at r k f (by simpa using h)
    have e : ∀ i, (fcs (g :: r))[(k + 1) * 3 + i]? = (fcs r)[k * 3 + i]? := fun i => by
      rw [fcs, List.getElem?_append_right (by simp [fc]; omega)]
      congr 1; simp [fc]; omega
    exact ⟨by rw [show (k + 1) * 3 = (k + 1) * 3 + 0 from rfl, e]; exact h1, by rw [e]; exact h2, by rw [e]; exact h3⟩
theorem fcs_set : ∀ (L : List Fi) (k : Nat) (g : Fi), k < L.length → fcs (L.set k g) = (((fcs L).set (k * 3) (.string g.nm)).set (k * 3 + 1) (.string ⟨g.bs.toArray⟩)).set (k * 3 + 2) (.int .i64 (g.su : Int))
  | [], _, _, h => by simp at h
  | f :: r, 0, g, _ => by simp [fcs, fc]
  | f :: r, k + 1, g, h => by
    have ih := fcs_set r k g (by simpa using h)
    have hl : (fc f).length = 3 := rfl
    rw [List.set_cons_succ, fcs, ih, fcs]
    have e : ∀ (xs : List Value) (i : Nat) (u : Value), (fc f ++ xs).set ((k + 1) * 3 + i) u = fc f ++ xs.set (k * 3 + i) u := fun xs i u => by
      rw [List.set_append_right _ _ (by rw [hl]; omega), hl, show (k + 1) * 3 + i - 3 = k * 3 + i by omega]
    have e0 := e (fcs r) 0 (.string g.nm)
    rw [Nat.add_zero, Nat.add_zero] at e0
    rw [e0, e, e]
    rfl
theorem fcs_take : ∀ (L : List Fi) (k : Nat), (fcs L).take (k * 3) = fcs (L.take k)
  | [], k => by simp [fcs]
  | f :: r, 0 => by simp [fcs]
  | f :: r, k + 1 => by
    rw [List.take_succ_cons, fcs, fcs, ← fcs_take r k, List.take_append, List.take_of_length_le (by simp [fc]; omega)]
    congr 2; simp [fc]; omega

/-- a row of such as a slice -/
theorem row3_slice {w : World} {base : Nat} {e : TypeId} {n : Nat} {v : Value} {xs : List Value} (h : w.ownsRow base e 3 v n xs) : ∃ a cap, v = .slice a n cap ∧ n ≤ cap ∧ cap ≤ 9223372036854775807 ∧ (0 < n → ∃ g, a = some ⟨g, 0, none⟩ ∧ base ≤ g ∧ g < w.heap.size ∧ (∃ cs : Array Value, w.heap[g]? = some (.cells cs e (0, 0)) ∧ n * 3 ≤ cs.size) ∧ ∀ j u, xs[j]? = some u → w.cell? ⟨g, j, none⟩ = some u) := by
  rcases h.2 with ⟨rfl, rfl⟩ | ⟨g, cap, cur, rfl, hb, hgg, hn, hm, hcs, ht⟩
  · exact ⟨none, 0, rfl, Nat.le_refl _, by omega, fun h => absurd h (by omega)⟩
  · refine ⟨_, cap, rfl, hn, by unfold maxLen at hm; omega, fun _ => ⟨g, rfl, hb, lt_of_block hgg, ⟨cur, hgg, by rw [hcs]; exact Nat.mul_le_mul_right 3 hn⟩, fun j u hu => ?_⟩⟩
    rw [cell_of_row w g j cur e (0, 0) hgg]
    rw [← ht, List.getElem?_take] at hu
    split at hu
    · simpa using hu
    · cases hu
/-- a cell of a row is written -/
theorem row3_set {w : World} {base : Nat} {e : TypeId} {n cap g : Nat} {xs : List Value} (h : w.ownsRow base e 3 (.slice (some ⟨g, 0, none⟩) n cap) n xs) (i : Nat) (u : Value) :
    (w.setCell ⟨g, i, none⟩ u).ownsRow base e 3 (.slice (some ⟨g, 0, none⟩) n cap) n (xs.set i u) := by
  rcases h.2 with ⟨h', _⟩ | ⟨g', cap', cur, h', hb, hgg, hn, hm, hcs, ht⟩
  · simp at h'
  · simp only [Value.slice.injEq, Option.some.injEq, Addr.mk.injEq, and_true, true_and] at h'
    obtain ⟨rfl, rfl⟩ := h'
    refine ⟨by rw [List.length_set]; exact h.1, .inr ⟨g, cap, _, rfl, hb, heap_setCell_same w g i cur e u hgg, hn, hm, by rw [Array.size_setIfInBounds]; exact hcs, ?_⟩⟩
    rw [Array.toList_setIfInBounds, List.take_set, ht]

structure RdAt (base : Nat) (w : World) (X : Nat) (s : St) (v : Value) (L : List Fi) : Prop where
  blk : w.heap[X]? = some (.cells #[v, .int .i64 s.room, .bool s.on, .int .i64 s.fuse, .int .i64 (s.ops : Int)] 41 (0, 0))
  ge : base ≤ X
  row : w.ownsRow base 49 3 v L.length (fcs L)
  perm : L.Perm s.fs
def Rd (base : Nat) (w : World) (X : Nat) (s : St) : Prop := ∃ v L, RdAt base w X s v L
abbrev TF : List TypeId := [49]

theorem RdAt.kept {base X : Nat} {w w' : World} {s : St} {v : Value} {L : List Fi} (h : RdAt base w X s v L)
    (hk : ∀ k cs t, w.heap[k]? = some (Obj.cells cs t (0, 0)) → (k = X ∨ t = 49) → w'.heap[k]? = some (Obj.cells cs t (0, 0))) : RdAt base w' X s v L :=
  ⟨hk _ _ _ h.blk (.inl rfl), h.ge, row_at h.row fun _ _ _ hc => hk _ _ _ hc (.inr rfl), h.perm⟩
theorem RdAt.later {base X : Nat} {w w' : World} {s : St} {v : Value} {L : List Fi} (h : RdAt base w X s v L) (hb : Below w.heap.size w w') : RdAt base w' X s v L :=
  h.kept fun k _ _ hc _ => (hb.block k (lt_of_block hc)).trans hc
theorem Rd.later {base X : Nat} {w w' : World} {s : St} (h : Rd base w X s) (hb : Below w.heap.size w w') : Rd base w' X s := by
  obtain ⟨v, L, h⟩ := h; exact ⟨v, L, h.later hb⟩
/-- what another disk's call leaves -/
theorem RdAt.disk {base base' X B : Nat} {w w' : World} {s : St} {v v' : Value} {L : List Fi} {L' : List En} {t : St} (h : RdAt base w X s v L) (hk : Kp base' B TS w w') (hd : DkAt base' w B t v' L') : RdAt base w' X s v L := by
  refine h.kept fun k cs u hc hkt => hk.at_ hc ?_ ?_
  · refine ne_of_tag hc hd.blk ?_
    rcases hkt with rfl | rfl
    · rw [h.blk] at hc; cases hc; decide
    · decide
  · rcases hkt with rfl | rfl
    · rw [h.blk] at hc; cases hc; decide
    · decide
/-- what the document's calls leave of a disk -/
theorem DkAt.ref {base base' X B : Nat} {w w' : World} {s : St} {v v' : Value} {L : List En} {L' : List Fi} {t : St} (hd : DkAt base w B s v L) (hk : Kp base' X TF w w') (h : RdAt base' w X t v' L') : DkAt base w' B s v L := by
  refine hd.kept fun k cs u hc hkt => hk.at_ hc ?_ ?_
  · refine ne_of_tag hc h.blk ?_
    rcases hkt with rfl | ht
    · rw [hd.blk] at hc; cases hc; decide
    · intro e; subst e; exact absurd ht (by decide)
  · rcases hkt with rfl | ht
    · rw [hd.blk] at hc; cases hc; decide
    · intro e; simp at e; subst e; exact absurd ht (by decide)

/-- a file's cells, as the walk reads them -/
theorem RdAt.reads {base X : Nat} {s : St} {v : Value} {L : List Fi} {w : World} (h : RdAt base w X s v L) {k : Nat} {f : Fi} (hf : L[k]? = some f) :
    ∃ g cap, v = .slice (some ⟨g, 0, none⟩) L.length cap ∧ k < L.length ∧ w.cell? ⟨X, 0, none⟩ = some (.slice (some ⟨g, 0, none⟩) L.length cap) ∧
      w.cell? ⟨g, k * 3, none⟩ = some (.string f.nm) ∧ w.cell? ⟨g, k * 3 + 1, none⟩ = some (.string ⟨f.bs.toArray⟩) ∧ w.cell? ⟨g, k * 3 + 2, none⟩ = some (.int .i64 (f.su : Int)) := by
  obtain ⟨a, cap, rfl, _, _, hc⟩ := row3_slice h.row
  have hlt : k < L.length := (List.getElem?_eq_some_iff.1 hf).1
  obtain ⟨g, rfl, _, _, _, hg⟩ := hc (by omega)
  obtain ⟨h1, h2, h3⟩ := fcs_at L k f hf
  exact ⟨g, cap, rfl, hlt, blk_cell h.blk rfl, hg _ _ h1, hg _ _ h2, hg _ _ h3⟩

/-- where a file is; -1: nowhere -/
def fidx (L : List Fi) (n : ByteArray) : Int := match L.findIdx? (fun f => decide (f.nm = n)) with | some k => (k : Int) | none => -1
theorem fidx_at {L : List Fi} {n : ByteArray} {k : Nat} {f : Fi} (hk : L[k]? = some f) (hj : ∀ (j : Nat) (y : Fi), j < k → L[j]? = some y → y.nm ≠ n) (hx : f.nm = n) : fidx L n = (k : Int) := by
  unfold fidx
  have : L.findIdx? (fun f => decide (f.nm = n)) = some k := by
    obtain ⟨h1, h2⟩ := List.getElem?_eq_some_iff.1 hk
    rw [List.findIdx?_eq_some_iff_getElem]
    refine ⟨h1, by rw [h2]; simpa using hx, fun j hjk => ?_⟩
    have := hj j _ hjk (List.getElem?_eq_getElem (by omega))
    simpa using this
  rw [this]
theorem fidx_none {L : List Fi} {n : ByteArray} (hj : ∀ f ∈ L, f.nm ≠ n) : fidx L n = -1 := by
  unfold fidx
  have : L.findIdx? (fun f => decide (f.nm = n)) = none := by
    rw [List.findIdx?_eq_none_iff]
    intro x hx
    simpa using hj x hx
  rw [this]
theorem at_uniq {fs : List Fi} (hs : Sorted fs) {n : ByteArray} {f : Fi} (hf : f ∈ fs) (hn : f.nm = n) : f = at_ fs (pos fs n) := by
  have hh : has fs n = true := has_iff.2 ⟨f, hf, hn⟩
  obtain ⟨h1, h2⟩ := at_has hs hh
  obtain ⟨j, hj⟩ := List.getElem?_of_mem hf
  obtain ⟨j1, j2⟩ := List.getElem?_eq_some_iff.1 hj
  obtain ⟨i1, i2⟩ := List.getElem?_eq_some_iff.1 h1
  rcases Nat.lt_trichotomy j (pos fs n) with h' | h' | h'
  · have := List.pairwise_iff_getElem.1 hs _ _ j1 i1 h'; rw [i2, j2, h2, hn] at this; exact absurd this (lt_irrefl _)
  · subst h'; rw [h1] at hj; cases hj; rfl
  · have := List.pairwise_iff_getElem.1 hs _ _ i1 j1 h'; rw [i2, j2, h2, hn] at this; exact absurd this (lt_irrefl _)
theorem RdAt.found {base X : Nat} {w : World} {s : St} {v : Value} {L : List Fi} (h : RdAt base w X s v L) (ho : Ok s) (n : ByteArray) :
    (has s.fs n = false ∧ fidx L n = -1 ∧ ∀ f ∈ L, f.nm ≠ n) ∨ (has s.fs n = true ∧ ∃ k : Nat, fidx L n = (k : Int) ∧ L[k]? = some (at_ s.fs (pos s.fs n)) ∧ (at_ s.fs (pos s.fs n)).nm = n) := by
  cases hh : has s.fs n with
  | false =>
    have hn := fun f (hf : f ∈ L) => not_has.1 hh f (h.perm.mem_iff.1 hf)
    exact .inl ⟨rfl, fidx_none hn, hn⟩
  | true =>
    obtain ⟨h1, h2⟩ := at_has ho.sorted hh
    refine .inr ⟨rfl, ?_⟩
    have hm : at_ s.fs (pos s.fs n) ∈ L := h.perm.mem_iff.2 (List.mem_of_getElem? h1)
    obtain ⟨k, hk⟩ := List.getElem?_of_mem hm
    refine ⟨k, fidx_at hk (fun j y hj hy e => ?_) h2, hk, h2⟩
    have hyu := at_uniq ho.sorted (h.perm.mem_iff.1 (List.mem_of_getElem? hy)) e
    have hnd : L.Pairwise fun x y => x.nm ≠ y.nm := h.perm.symm.pairwise (List.Pairwise.imp (fun h => lt_ne h) ho.sorted) (fun h => Ne.symm h)
    obtain ⟨j1, j2⟩ := List.getElem?_eq_some_iff.1 hy
    obtain ⟨i1, i2⟩ := List.getElem?_eq_some_iff.1 hk
    have := List.pairwise_iff_getElem.1 hnd _ _ j1 i1 hj
    rw [j2, i2, hyu] at this
    exact this rfl
theorem used_perm {L M : List Fi} (h : L.Perm M) : used L = used M := by unfold used; exact (h.map _).sum_nat
theorem used_snocF {L : List Fi} {k : Nat} {f : Fi} (he : L[k]? = some f) : used (L.take (k + 1)) = used (L.take k) + f.bs.length := by
  obtain ⟨hk, rfl⟩ := List.getElem?_eq_some_iff.1 he
  rw [List.take_succ_eq_append_getElem hk]
  unfold used
  rw [List.map_append, List.sum_append]
  simp
theorem used_takeF (L : List Fi) (k : Nat) : used (L.take k) ≤ used L := by
  have : used L = used (L.take k ++ L.drop k) := by rw [List.take_append_drop]
  rw [this]; unfold used; rw [List.map_append, List.sum_append]; omega
end Go.Proofs.Ytlmhghcoohalaaa.Dk
