/- Two blocks of nine cells, and what becomes of them. -/
import Derived.Test.YthjdmijbbdicnaaSaNums
import Derived.Deep.RegionHeld3
namespace Go.Proofs.Ythjdmijbbdicnaa.Sa
open Go.RowKit

/-- nine cells of a block -/
def Nine (W : World) (b : Nat) (v0 v1 v2 v3 v4 v5 v6 v7 v8 : Value) : Prop := W.cell? ⟨b, 0, none⟩ = some v0 ∧ W.cell? ⟨b, 1, none⟩ = some v1 ∧ W.cell? ⟨b, 2, none⟩ = some v2 ∧ W.cell? ⟨b, 3, none⟩ = some v3 ∧ W.cell? ⟨b, 4, none⟩ = some v4 ∧ W.cell? ⟨b, 5, none⟩ = some v5 ∧ W.cell? ⟨b, 6, none⟩ = some v6 ∧ W.cell? ⟨b, 7, none⟩ = some v7 ∧ W.cell? ⟨b, 8, none⟩ = some v8
theorem Nine.later {W W' : World} {b : Nat} {v0 v1 v2 v3 v4 v5 v6 v7 v8 : Value} (h : Nine W b v0 v1 v2 v3 v4 v5 v6 v7 v8) (hb : b < W.heap.size) (hl : Below W.heap.size W W') : Nine W' b v0 v1 v2 v3 v4 v5 v6 v7 v8 := by
  obtain ⟨h0, h1, h2, h3, h4, h5, h6, h7, h8⟩ := h
  exact ⟨(hl.cell hb).trans h0, (hl.cell hb).trans h1, (hl.cell hb).trans h2, (hl.cell hb).trans h3, (hl.cell hb).trans h4, (hl.cell hb).trans h5, (hl.cell hb).trans h6, (hl.cell hb).trans h7, (hl.cell hb).trans h8⟩
theorem nine_new (w : World) (ty : TypeId) (v0 v1 v2 v3 v4 v5 v6 v7 v8 : Value) : Nine (w.alloc (.cells #[v0, v1, v2, v3, v4, v5, v6, v7, v8] ty)) w.heap.size v0 v1 v2 v3 v4 v5 v6 v7 v8 := by
  unfold Nine
  simp
/-- two blocks of nine cells, the first the very first that was made -/
def Two (w W : World) (v0 v1 v2 v3 v4 v5 v6 v7 v8 u0 u1 u2 u3 u4 u5 u6 u7 u8 : Value) : Prop :=
  (W.cell? ⟨w.heap.size, 0, none⟩ = some v0 ∧ W.cell? ⟨w.heap.size, 1, none⟩ = some v1 ∧ W.cell? ⟨w.heap.size, 2, none⟩ = some v2 ∧ W.cell? ⟨w.heap.size, 3, none⟩ = some v3 ∧ W.cell? ⟨w.heap.size, 4, none⟩ = some v4 ∧ W.cell? ⟨w.heap.size, 5, none⟩ = some v5 ∧ W.cell? ⟨w.heap.size, 6, none⟩ = some v6 ∧ W.cell? ⟨w.heap.size, 7, none⟩ = some v7 ∧ W.cell? ⟨w.heap.size, 8, none⟩ = some v8) ∧ (W.cell? ⟨w.heap.size + 1 + 1 + 1, 0, none⟩ = some u0 ∧ W.cell? ⟨w.heap.size + 1 + 1 + 1, 1, none⟩ = some u1 ∧ W.cell? ⟨w.heap.size + 1 + 1 + 1, 2, none⟩ = some u2 ∧ W.cell? ⟨w.heap.size + 1 + 1 + 1, 3, none⟩ = some u3 ∧ W.cell? ⟨w.heap.size + 1 + 1 + 1, 4, none⟩ = some u4 ∧ W.cell? ⟨w.heap.size + 1 + 1 + 1, 5, none⟩ = some u5 ∧ W.cell? ⟨w.heap.size + 1 + 1 + 1, 6, none⟩ = some u6 ∧ W.cell? ⟨w.heap.size + 1 + 1 + 1, 7, none⟩ = some u7 ∧ W.cell? ⟨w.heap.size + 1 + 1 + 1, 8, none⟩ = some u8) ∧ w.heap.size + 1 + 1 + 1 < W.heap.size ∧ Below w.heap.size w W
theorem Two.later {w W W' : World} {v0 v1 v2 v3 v4 v5 v6 v7 v8 u0 u1 u2 u3 u4 u5 u6 u7 u8 : Value} (h : Two w W v0 v1 v2 v3 v4 v5 v6 v7 v8 u0 u1 u2 u3 u4 u5 u6 u7 u8) (hl : Below W.heap.size W W') : Two w W' v0 v1 v2 v3 v4 v5 v6 v7 v8 u0 u1 u2 u3 u4 u5 u6 u7 u8 := by
  obtain ⟨h1, h2, h3, h4⟩ := h
  have h1' : Nine W w.heap.size v0 v1 v2 v3 v4 v5 v6 v7 v8 := h1
  have h2' : Nine W (w.heap.size + 1 + 1 + 1) u0 u1 u2 u3 u4 u5 u6 u7 u8 := h2
  have e := hl.size
  exact ⟨h1'.later (by omega) hl, h2'.later (by omega) hl, by omega, h4.trans (hl.mono h4.size)⟩
theorem Two.start (w : World) (ty : TypeId) (k1 k2 : Obj) (v0 v1 v2 v3 v4 v5 v6 v7 v8 u0 u1 u2 u3 u4 u5 u6 u7 u8 : Value) :
    Two w ((((w.alloc (.cells #[v0, v1, v2, v3, v4, v5, v6, v7, v8] ty)).alloc k1).alloc k2).alloc (.cells #[u0, u1, u2, u3, u4, u5, u6, u7, u8] ty)).drew v0 v1 v2 v3 v4 v5 v6 v7 v8 u0 u1 u2 u3 u4 u5 u6 u7 u8 := by
  have b1 : Below w.heap.size w (((w.alloc (.cells #[v0, v1, v2, v3, v4, v5, v6, v7, v8] ty)).alloc k1).alloc k2) := (((Below.refl _ _).alloc (Nat.le_refl _) _).alloc (by simp) _).alloc (by simp; omega) _
  have b2 : Below (w.alloc (.cells #[v0, v1, v2, v3, v4, v5, v6, v7, v8] ty)).heap.size (w.alloc (.cells #[v0, v1, v2, v3, v4, v5, v6, v7, v8] ty)) (((w.alloc (.cells #[v0, v1, v2, v3, v4, v5, v6, v7, v8] ty)).alloc k1).alloc k2) := ((Below.refl _ _).alloc (Nat.le_refl _) _).alloc (by simp) _
  have n1 := (nine_new w ty v0 v1 v2 v3 v4 v5 v6 v7 v8).later (by simp) b2
  have sz : (((w.alloc (.cells #[v0, v1, v2, v3, v4, v5, v6, v7, v8] ty)).alloc k1).alloc k2).heap.size = w.heap.size + 1 + 1 + 1 := by simp
  generalize ((w.alloc (.cells #[v0, v1, v2, v3, v4, v5, v6, v7, v8] ty)).alloc k1).alloc k2 = W at b1 n1 sz
  have b3 : Below W.heap.size W (W.alloc (.cells #[u0, u1, u2, u3, u4, u5, u6, u7, u8] ty)).drew := ((Below.refl _ _).alloc (Nat.le_refl _) _).drew
  have n2 := nine_new W ty u0 u1 u2 u3 u4 u5 u6 u7 u8
  rw [sz] at n2
  exact ⟨n1.later (by omega) b3, n2, by show _ < (W.alloc _).heap.size; simp [sz], b1.trans (b3.mono (by omega))⟩

/-- one block of nine cells, the very first that was made -/
def One (w W : World) (v0 v1 v2 v3 v4 v5 v6 v7 v8 : Value) : Prop :=
  (W.cell? ⟨w.heap.size, 0, none⟩ = some v0 ∧ W.cell? ⟨w.heap.size, 1, none⟩ = some v1 ∧ W.cell? ⟨w.heap.size, 2, none⟩ = some v2 ∧ W.cell? ⟨w.heap.size, 3, none⟩ = some v3 ∧ W.cell? ⟨w.heap.size, 4, none⟩ = some v4 ∧ W.cell? ⟨w.heap.size, 5, none⟩ = some v5 ∧ W.cell? ⟨w.heap.size, 6, none⟩ = some v6 ∧ W.cell? ⟨w.heap.size, 7, none⟩ = some v7 ∧ W.cell? ⟨w.heap.size, 8, none⟩ = some v8) ∧ w.heap.size < W.heap.size ∧ Below w.heap.size w W
theorem One.later {w W W' : World} {v0 v1 v2 v3 v4 v5 v6 v7 v8 : Value} (h : One w W v0 v1 v2 v3 v4 v5 v6 v7 v8) (hl : Below W.heap.size W W') : One w W' v0 v1 v2 v3 v4 v5 v6 v7 v8 := by
  obtain ⟨h1, h2, h3⟩ := h
  have h1' : Nine W w.heap.size v0 v1 v2 v3 v4 v5 v6 v7 v8 := h1
  have e := hl.size
  exact ⟨h1'.later (by omega) hl, by omega, h3.trans (hl.mono h3.size)⟩
theorem One.start (w : World) (ty : TypeId) (v0 v1 v2 v3 v4 v5 v6 v7 v8 : Value) : One w (w.alloc (.cells #[v0, v1, v2, v3, v4, v5, v6, v7, v8] ty)).drew v0 v1 v2 v3 v4 v5 v6 v7 v8 := by
  have n1 := (nine_new w ty v0 v1 v2 v3 v4 v5 v6 v7 v8).later (by simp) ((Below.refl _ _).drew)
  exact ⟨n1, by show _ < (w.alloc _).heap.size; simp, ((Below.refl _ _).alloc (Nat.le_refl _) _).drew⟩
end Go.Proofs.Ythjdmijbbdicnaa.Sa
