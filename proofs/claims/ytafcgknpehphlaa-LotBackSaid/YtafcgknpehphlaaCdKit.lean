/- Words for walks over records: a block of cells that may be written, as a list. -/
import Derived.Test.YtafcgknpehphlaaCdName
namespace Go.Proofs.Ytafcgknpehphlaa.Cd
open Go.RowKit
open Pk (But)

/-- a block whose first cells are these, and may be written -/
structure Blk (W : World) (B : Nat) (l : List Value) : Prop where
  lt : B < W.heap.size
  cells : ∀ i v, l[i]? = some v → W.cell? ⟨B, i, none⟩ = some v
  free : ∀ i v, l[i]? = some v → W.frozen? ⟨B, i, none⟩ = false
theorem Blk.start (w : World) (ty : TypeId) (l : List Value) : Blk (w.alloc (.cells ⟨l⟩ ty)) w.heap.size l := by
  refine ⟨by simp, fun i v h => ?_, fun i v h => ?_⟩
  · have := World.cell?_alloc_mark w ⟨l⟩ ty (0, 0) i
    rw [this]
    simpa using h
  · simp only [World.frozen?, heap_alloc_new]
    simp
theorem Blk.later {W W' : World} {B : Nat} {l : List Value} (h : Blk W B l) (hb : Below W.heap.size W W') : Blk W' B l :=
  ⟨Nat.lt_of_lt_of_le h.lt hb.size, fun i v e => (hb.cell (p := ⟨B, i, none⟩) h.lt).trans (h.cells i v e), fun i v e => (hb.frozen (p := ⟨B, i, none⟩) h.lt).trans (h.free i v e)⟩
theorem Blk.but {W W' : World} {B C : Nat} {l : List Value} (h : Blk W B l) (hb : But C W W') (hn : B ≠ C) : Blk W' B l :=
  ⟨Nat.lt_of_lt_of_le h.lt hb.size, fun i v e => (hb.cell (p := ⟨B, i, none⟩) h.lt hn).trans (h.cells i v e), fun i v e => (hb.frozen (p := ⟨B, i, none⟩) h.lt hn).trans (h.free i v e)⟩
theorem Blk.set {W : World} {B : Nat} {l : List Value} (h : Blk W B l) (i : Nat) (v : Value) : Blk (W.setCell ⟨B, i, none⟩ v) B (l.set i v) := by
  refine ⟨by simpa using h.lt, fun j u e => ?_, fun j u e => ?_⟩
  · by_cases hij : i = j
    · subst hij
      have hi : i < l.length := by
        have := (List.getElem?_eq_some_iff.1 e).1
        simpa using this
      rw [List.getElem?_set_self hi] at e
      injection e with e
      subst e
      exact World.cell?_setCell_same W _ _ (h.cells i _ (List.getElem?_eq_getElem hi))
    · rw [List.getElem?_set_ne hij] at e
      exact (World.cell?_setCell_other W _ _ _ (by intro g; injection g with _ g; exact hij g)).trans (h.cells j u e)
  · rw [World.frozen?_setCell]
    have hj : j < l.length := by
      have := (List.getElem?_eq_some_iff.1 e).1
      simpa using this
    exact h.free j _ (List.getElem?_eq_getElem hj)
theorem Blk.other {W : World} {B : Nat} {l : List Value} (h : Blk W B l) {p : Addr} (hp : B ≠ p.block) (v : Value) : Blk (W.setCell p v) B l :=
  h.but (C := p.block) ((But.refl _ W).setCell rfl v) hp

theorem But.new {R : Nat} {a w : World} (h : But R a w) {p : Addr} (hp : a.heap.size ≤ p.block) (v : Value) : But R a (w.setCell p v) :=
  ⟨h.os, h.tape, h.output, Nat.le_trans h.size (by simp), fun k hk hn => (Below.heap_setCell _ _ _ _ (by omega)).trans (h.block k hk hn)⟩

/-- the cells of a record -/
def recL (x : Rec) : List Value := [.int .i64 x.tr, .int .i64 x.id, .int .i64 x.pa, .int .i64 x.rv, .string x.sv, .string x.op, .int .i64 x.st, .int .i64 x.du, .bool x.gn]
/-- the nine cells of a list, each for itself -/
theorem Blk.nine {W : World} {B : Nat} {v0 v1 v2 v3 v4 v5 v6 v7 v8 : Value} (h : Blk W B [v0, v1, v2, v3, v4, v5, v6, v7, v8]) :
    W.cell? ⟨B, 0, none⟩ = some v0 ∧ W.cell? ⟨B, 1, none⟩ = some v1 ∧ W.cell? ⟨B, 2, none⟩ = some v2 ∧ W.cell? ⟨B, 3, none⟩ = some v3 ∧ W.cell? ⟨B, 4, none⟩ = some v4 ∧ W.cell? ⟨B, 5, none⟩ = some v5 ∧ W.cell? ⟨B, 6, none⟩ = some v6 ∧ W.cell? ⟨B, 7, none⟩ = some v7 ∧ W.cell? ⟨B, 8, none⟩ = some v8 :=
  ⟨h.cells 0 _ rfl, h.cells 1 _ rfl, h.cells 2 _ rfl, h.cells 3 _ rfl, h.cells 4 _ rfl, h.cells 5 _ rfl, h.cells 6 _ rfl, h.cells 7 _ rfl, h.cells 8 _ rfl⟩
theorem Blk.nineF {W : World} {B : Nat} {v0 v1 v2 v3 v4 v5 v6 v7 v8 : Value} (h : Blk W B [v0, v1, v2, v3, v4, v5, v6, v7, v8]) :
    W.frozen? ⟨B, 0, none⟩ = false ∧ W.frozen? ⟨B, 1, none⟩ = false ∧ W.frozen? ⟨B, 2, none⟩ = false ∧ W.frozen? ⟨B, 3, none⟩ = false ∧ W.frozen? ⟨B, 4, none⟩ = false ∧ W.frozen? ⟨B, 5, none⟩ = false ∧ W.frozen? ⟨B, 6, none⟩ = false ∧ W.frozen? ⟨B, 7, none⟩ = false ∧ W.frozen? ⟨B, 8, none⟩ = false :=
  ⟨h.free 0 _ rfl, h.free 1 _ rfl, h.free 2 _ rfl, h.free 3 _ rfl, h.free 4 _ rfl, h.free 5 _ rfl, h.free 6 _ rfl, h.free 7 _ rfl, h.free 8 _ rfl⟩
/-- a struct of nine cells that is stored -/
def st9 (W : World) (B : Nat) (v0 v1 v2 v3 v4 v5 v6 v7 v8 : Value) : World :=
  ((((((((W.setCell ⟨B, 0, none⟩ v0).setCell ⟨B, 1, none⟩ v1).setCell ⟨B, 2, none⟩ v2).setCell ⟨B, 3, none⟩ v3).setCell ⟨B, 4, none⟩ v4).setCell ⟨B, 5, none⟩ v5).setCell ⟨B, 6, none⟩ v6).setCell ⟨B, 7, none⟩ v7).setCell ⟨B, 8, none⟩ v8
theorem Blk.setNine {W : World} {B : Nat} {u0 u1 u2 u3 u4 u5 u6 u7 u8 : Value} (h : Blk W B [u0, u1, u2, u3, u4, u5, u6, u7, u8]) (v0 v1 v2 v3 v4 v5 v6 v7 v8 : Value) :
    Blk (st9 W B v0 v1 v2 v3 v4 v5 v6 v7 v8) B [v0, v1, v2, v3, v4, v5, v6, v7, v8] := by
  have h0 := h.set 0 v0
  have h1 := h0.set 1 v1
  have h2 := h1.set 2 v2
  have h3 := h2.set 3 v3
  have h4 := h3.set 4 v4
  have h5 := h4.set 5 v5
  have h6 := h5.set 6 v6
  have h7 := h6.set 7 v7
  have h8 := h7.set 8 v8
  simp only [List.set_cons_zero, List.set_cons_succ] at h8
  unfold st9
  exact h8
theorem but_new9 {R B : Nat} {a w : World} (h : But R a w) (hB : a.heap.size ≤ B) (v0 v1 v2 v3 v4 v5 v6 v7 v8 : Value) : But R a (st9 w B v0 v1 v2 v3 v4 v5 v6 v7 v8) := by
  unfold st9
  iterate 9 refine But.new ?_ hB _
  exact h
theorem below_new {K : Nat} {a w : World} (h : Below K a w) {p : Addr} (hp : K ≤ p.block) (v : Value) : Below K a (w.setCell p v) :=
  h.trans ⟨rfl, rfl, rfl, by simp, fun k hk => Below.heap_setCell _ _ _ _ (by omega)⟩
theorem below_new9 {K B : Nat} {a w : World} (h : Below K a w) (hB : K ≤ B) (v0 v1 v2 v3 v4 v5 v6 v7 v8 : Value) : Below K a (st9 w B v0 v1 v2 v3 v4 v5 v6 v7 v8) := by
  unfold st9
  iterate 9 refine below_new ?_ hB _
  exact h
theorem But.own {B : Nat} {a w : World} (h : But B a w) {i : Nat} (v : Value) : But B a (w.setCell ⟨B, i, none⟩ v) := h.setCell (p := ⟨B, i, none⟩) rfl v
theorem but_own9 (B : Nat) (w : World) (v0 v1 v2 v3 v4 v5 v6 v7 v8 : Value) : But B w (st9 w B v0 v1 v2 v3 v4 v5 v6 v7 v8) := by
  unfold st9
  iterate 9 refine But.own ?_ _
  exact But.refl B w
end Go.Proofs.Ytafcgknpehphlaa.Cd
