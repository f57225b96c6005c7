/- Words for the walks of layer 5: what becomes of blocks of one and of two cells that are written; chains of parts; parts that came in. -/
import Derived.Test.YtafcgknpehphlaaVaBackMath
namespace Go.Proofs.Ytafcgknpehphlaa.Pk
open Go.RowKit

/-- all that was there is as it was, but for one block -/
structure But (B : Nat) (w w' : World) : Prop where
  os : w'.os = w.os
  tape : w'.tape = w.tape
  output : w'.output = w.output
  size : w.heap.size ≤ w'.heap.size
  block : ∀ k, k < w.heap.size → k ≠ B → w'.heap[k]? = w.heap[k]?
theorem But.refl (B : Nat) (w : World) : But B w w := ⟨rfl, rfl, rfl, Nat.le_refl _, fun _ _ _ => rfl⟩
theorem But.of_below {B : Nat} {w w' : World} (h : Below w.heap.size w w') : But B w w' := ⟨h.os, h.tape, h.output, h.size, fun k hk _ => h.block k hk⟩
theorem But.trans {B : Nat} {a b c : World} (h : But B a b) (k : But B b c) : But B a c :=
  ⟨k.os.trans h.os, k.tape.trans h.tape, k.output.trans h.output, Nat.le_trans h.size k.size, fun i hi hn => (k.block i (Nat.lt_of_lt_of_le hi h.size) hn).trans (h.block i hi hn)⟩
theorem But.then {B : Nat} {a b c : World} (h : But B a b) (k : Below b.heap.size b c) : But B a c := h.trans (But.of_below k)
theorem But.below {B B0 : Nat} {w w' : World} (h : But B w w') (hB : B0 ≤ B) (h0 : B0 ≤ w.heap.size) : Below B0 w w' :=
  ⟨h.os, h.tape, h.output, h.size, fun k hk => h.block k (by omega) (by omega)⟩
theorem But.drew {B : Nat} {a w : World} (h : But B a w) : But B a w.drew := ⟨h.os, h.tape, h.output, h.size, h.block⟩
theorem But.setCell {B : Nat} {a w : World} (h : But B a w) {p : Addr} (hp : p.block = B) (u : Value) : But B a (w.setCell p u) :=
  h.trans ⟨rfl, rfl, rfl, by simp [World.setCell], fun k _ hn => Below.heap_setCell _ _ _ _ (by omega)⟩
theorem But.alloc {B : Nat} {a w : World} (h : But B a w) (o : Obj) : But B a (w.alloc o) := h.then ((Below.refl _ _).alloc (Nat.le_refl _) o)
theorem But.cell {B : Nat} {w w' : World} (h : But B w w') {p : Addr} (hp : p.block < w.heap.size) (hn : p.block ≠ B) : w'.cell? p = w.cell? p := World.cell?_of_block (w := w) (h.block p.block hp hn)
theorem But.frozen {B : Nat} {w w' : World} (h : But B w w') {p : Addr} (hp : p.block < w.heap.size) (hn : p.block ≠ B) : w'.frozen? p = w.frozen? p := World.frozen?_of_block (w := w) (h.block p.block hp hn)

/-- a block of one cell that may be written -/
structure Cl (W : World) (B : Nat) (a : Value) : Prop where
  c0 : W.cell? ⟨B, 0, none⟩ = some a
  f0 : W.frozen? ⟨B, 0, none⟩ = false
  lt : B < W.heap.size
theorem Cl.but {W W' : World} {B C : Nat} {a : Value} (h : Cl W B a) (hb : But C W W') (hn : B ≠ C) : Cl W' B a :=
  ⟨(hb.cell (p := ⟨B, 0, none⟩) h.lt hn).trans h.c0, (hb.frozen (p := ⟨B, 0, none⟩) h.lt hn).trans h.f0, Nat.lt_of_lt_of_le h.lt hb.size⟩
theorem Cl.later {W W' : World} {B : Nat} {a : Value} (h : Cl W B a) (hl : Below W.heap.size W W') : Cl W' B a :=
  ⟨(hl.cell (p := ⟨B, 0, none⟩) h.lt).trans h.c0, (hl.frozen (p := ⟨B, 0, none⟩) h.lt).trans h.f0, Nat.lt_of_lt_of_le h.lt hl.size⟩
theorem byte_len' (s : ByteArray) : s.data.toList.length = s.size := by simp
theorem Cl.start (w : World) (ty : TypeId) (a : Value) : Cl (w.alloc (.cells #[a] ty)) w.heap.size a := by
  refine ⟨?_, ?_, ?_⟩ <;> simp
theorem Cl.set {W : World} {B : Nat} {a : Value} (h : Cl W B a) (u : Value) : Cl (W.setCell ⟨B, 0, none⟩ u) B u :=
  ⟨World.cell?_setCell_same W _ _ h.c0, by rw [World.frozen?_setCell]; exact h.f0, by simpa using h.lt⟩

/-- a block of two cells that may be written -/
structure Bx (W : World) (B : Nat) (a b : Value) : Prop where
  c0 : W.cell? ⟨B, 0, none⟩ = some a
  c1 : W.cell? ⟨B, 1, none⟩ = some b
  f0 : W.frozen? ⟨B, 0, none⟩ = false
  f1 : W.frozen? ⟨B, 1, none⟩ = false
  lt : B < W.heap.size
theorem Bx.but {W W' : World} {B C : Nat} {a b : Value} (h : Bx W B a b) (hb : But C W W') (hn : B ≠ C) : Bx W' B a b :=
  ⟨(hb.cell (p := ⟨B, 0, none⟩) h.lt hn).trans h.c0, (hb.cell (p := ⟨B, 1, none⟩) h.lt hn).trans h.c1, (hb.frozen (p := ⟨B, 0, none⟩) h.lt hn).trans h.f0, (hb.frozen (p := ⟨B, 1, none⟩) h.lt hn).trans h.f1, Nat.lt_of_lt_of_le h.lt hb.size⟩
theorem Bx.later {W W' : World} {B : Nat} {a b : Value} (h : Bx W B a b) (hl : Below W.heap.size W W') : Bx W' B a b :=
  ⟨(hl.cell (p := ⟨B, 0, none⟩) h.lt).trans h.c0, (hl.cell (p := ⟨B, 1, none⟩) h.lt).trans h.c1, (hl.frozen (p := ⟨B, 0, none⟩) h.lt).trans h.f0, (hl.frozen (p := ⟨B, 1, none⟩) h.lt).trans h.f1, Nat.lt_of_lt_of_le h.lt hl.size⟩
theorem Bx.start (w : World) (ty : TypeId) (a b : Value) : Bx (w.alloc (.cells #[a, b] ty)) w.heap.size a b := by
  refine ⟨?_, ?_, ?_, ?_, ?_⟩ <;> simp
theorem Bx.set0 {W : World} {B : Nat} {a b : Value} (h : Bx W B a b) (u : Value) : Bx (W.setCell ⟨B, 0, none⟩ u) B u b :=
  ⟨World.cell?_setCell_same W _ _ h.c0, (World.cell?_setCell_other W _ _ _ (by intro h; injection h with _ h; cases h)).trans h.c1, by rw [World.frozen?_setCell]; exact h.f0, by rw [World.frozen?_setCell]; exact h.f1, by simpa using h.lt⟩
theorem Bx.set1 {W : World} {B : Nat} {a b : Value} (h : Bx W B a b) (u : Value) : Bx (W.setCell ⟨B, 1, none⟩ u) B a u :=
  ⟨(World.cell?_setCell_other W _ _ _ (by intro h; injection h with _ h; cases h)).trans h.c0, World.cell?_setCell_same W _ _ h.c1, by rw [World.frozen?_setCell]; exact h.f0, by rw [World.frozen?_setCell]; exact h.f1, by simpa using h.lt⟩

/-- parts one behind the other; the last one stands first -/
def cat : List ByteArray → List UInt8
  | [] => []
  | x :: r => cat r ++ x.data.toList

/-- parts that are linked, the last one first; all of them were laid behind a block -/
def Chain (W : World) (B : Nat) : Option Addr → List ByteArray → Prop
  | p, [] => p = none
  | p, x :: r => ∃ b q, p = some ⟨b, 0, none⟩ ∧ B < b ∧ b < W.heap.size ∧ W.cell? ⟨b, 0, none⟩ = some (.string x) ∧ W.cell? ⟨b, 1, none⟩ = some (.int .i64 ((cat (x :: r)).length : Nat)) ∧ W.cell? ⟨b, 2, none⟩ = some (.pointer q) ∧ Chain W B q r
theorem Chain.later {W W' : World} {B : Nat} (h : ∀ k, B < k → k < W.heap.size → W'.heap[k]? = W.heap[k]?) (hs : W.heap.size ≤ W'.heap.size) : ∀ {l : List ByteArray} {p : Option Addr}, Chain W B p l → Chain W' B p l
  | [], _, hc => hc
  | _ :: _, _, ⟨b, q, h1, h2, h3, h4, h5, h6, h7⟩ =>
    ⟨b, q, h1, h2, Nat.lt_of_lt_of_le h3 hs, (World.cell?_of_block (w := W) (a := ⟨b, 0, none⟩) (h b h2 h3)).trans h4, (World.cell?_of_block (w := W) (a := ⟨b, 1, none⟩) (h b h2 h3)).trans h5, (World.cell?_of_block (w := W) (a := ⟨b, 2, none⟩) (h b h2 h3)).trans h6, Chain.later h hs h7⟩

/-- a writer that has written parts -/
structure Wr (W : World) (B : Nat) (p : Option Addr) (l : List ByteArray) : Prop where
  cl : Cl W B (.pointer p)
  ch : Chain W B p l
theorem Wr.later {W W' : World} {B : Nat} {p : Option Addr} {l : List ByteArray} (h : Wr W B p l) (hb : Below W.heap.size W W') : Wr W' B p l :=
  ⟨h.cl.later hb, h.ch.later (fun k _ hk => hb.block k hk) hb.size⟩
theorem Wr.but {W W' : World} {B C : Nat} {p : Option Addr} {l : List ByteArray} (h : Wr W B p l) (hb : But C W W') (hn : C < B) : Wr W' B p l :=
  ⟨h.cl.but hb (by omega), h.ch.later (fun k hk hs => hb.block k hs (by omega)) hb.size⟩
theorem Wr.start (w : World) (ty : TypeId) : Wr (w.alloc (.cells #[.pointer none] ty)) w.heap.size none [] := ⟨Cl.start w ty _, rfl⟩

end Go.Proofs.Ytafcgknpehphlaa.Pk
