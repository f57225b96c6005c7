/- What the laws of layer 12 want of the program's map, whatever it is made of; and how it stands beside the document's. -/
import Derived.Test.YthcofcpnhopnnaaAvTree
set_option linter.unusedSimpArgs false
namespace Go.Proofs.Ythcofcpnhopnnaa.Av
open Go.RowKit

/-- the type of a block's cells -/
def tg : Obj → Option TypeId
  | .cells _ t _ => some t
  | _ => none
/-- all that was there is as it was, but for one block, and blocks of some types, from a number on -/
structure Kp (base B : Nat) (ts : List TypeId) (w w' : World) : Prop where
  os : w'.os = w.os
  tape : w'.tape = w.tape
  output : w'.output = w.output
  size : w.heap.size ≤ w'.heap.size
  block : ∀ k o, w.heap[k]? = some o → (k < base ∨ (k ≠ B ∧ ∀ t ∈ ts, tg o ≠ some t)) → w'.heap[k]? = some o
theorem Kp.refl (base B : Nat) (ts : List TypeId) (w : World) : Kp base B ts w w := ⟨rfl, rfl, rfl, Nat.le_refl _, fun _ _ h _ => h⟩
theorem Kp.trans {base B : Nat} {ts : List TypeId} {a b c : World} (h : Kp base B ts a b) (k : Kp base B ts b c) : Kp base B ts a c :=
  ⟨k.os.trans h.os, k.tape.trans h.tape, k.output.trans h.output, Nat.le_trans h.size k.size, fun i o ho hn => k.block i o (h.block i o ho hn) hn⟩
theorem Kp.below {base B : Nat} {ts : List TypeId} {w w' : World} (h : Kp base B ts w w') (hs : base ≤ w.heap.size) : Below base w w' :=
  ⟨h.os, h.tape, h.output, h.size, fun k hk => by rw [h.block k w.heap[k] (Array.getElem?_eq_getElem (by omega)) (.inl hk)]; exact (Array.getElem?_eq_getElem (by omega)).symm⟩
theorem Kp.at_ {base B : Nat} {ts : List TypeId} {w w' : World} (h : Kp base B ts w w') {k : Nat} {cs : Array Value} {t : TypeId} {fr : Nat × Nat} (hk : w.heap[k]? = some (.cells cs t fr)) (hB : k ≠ B) (ht : t ∉ ts) : w'.heap[k]? = some (.cells cs t fr) :=
  h.block k _ hk (.inr ⟨hB, fun t' h1 h2 => ht (by
    have h3 : t = t' := by simpa [tg] using h2
    rw [h3]; exact h1)⟩)
theorem But.below {B B0 : Nat} {w w' : World} (h : But B w w') (hB : B0 ≤ B) (h0 : B0 ≤ w.heap.size) : Below B0 w w' :=
  ⟨h.os, h.tape, h.output, h.size, fun k hk => h.block k (by omega) (by omega)⟩
/-- the last of the keys; 0 of none -/
def lastK (l : List Pr) : Int := match l.getLast? with | some p => p.1 | none => 0

/-- the program's map: how it stands in memory from a number on, and what its functions do -/
structure Code where
  Mp : Nat → World → Nat → List Pr → Prop
  ts : List TypeId
  tsM : 31 ∉ ts
  tsP : 44 ∉ ts
  tsA : 33 ∉ ts
  lt : ∀ {base W M l}, Mp base W M l → M < W.heap.size
  ge : ∀ {base W M l}, Mp base W M l → base ≤ M
  sorted : ∀ {base W M l}, Mp base W M l → Sorted l
  later : ∀ {base W W' M l}, Mp base W M l → Below W.heap.size W W' → Mp base W' M l
  but : ∀ {base W W' M X l}, Mp base W M l → But X W W' → X ≠ M → (∃ u, W.heap[X]? = some (.cells u 31 (0, 0))) → Mp base W' M l
  put : ∀ {base M l w} (key value : Int), Mp base w M l → l.length ≤ 200 →
    Calls Try.prog 7 #[.pointer (some ⟨M, 0, none⟩), .int .i64 key, .int .i64 value] w fun e w' => e = .returned (.bool (!isAt l key)) ∧ Mp base w' M (putM l key value) ∧ Kp base M ts w w'
  drop : ∀ {base M l w} (key : Int), Mp base w M l → l.length ≤ 200 →
    Calls Try.prog 9 #[.pointer (some ⟨M, 0, none⟩), .int .i64 key] w fun e w' => e = .returned (.bool (decide ((dropM l key).length < l.length))) ∧ Mp base w' M (dropM l key) ∧ Kp base M ts w w'
  get : ∀ {base M l w} (key : Int), Mp base w M l → l.length ≤ 200 →
    Calls Try.prog 11 #[.pointer (some ⟨M, 0, none⟩), .int .i64 key] w fun e w' => e = .returned (getV l key) ∧ Below w.heap.size w w'
  last : ∀ {base M l w}, Mp base w M l → l.length ≤ 200 →
    Calls Try.prog 13 #[.pointer (some ⟨M, 0, none⟩)] w fun e w' => e = .returned (.tuple #[.int .i64 (lastK l), .bool (decide (0 < l.length))]) ∧ Below w.heap.size w w'
  len : ∀ {base M l w}, Mp base w M l → l.length ≤ 200 →
    Calls Try.prog 14 #[.pointer (some ⟨M, 0, none⟩)] w fun e w' => e = .returned (.int .i64 (l.length : Nat)) ∧ Below w.heap.size w w'
  keys : ∀ {base M l w}, Mp base w M l → l.length ≤ 200 →
    Calls Try.prog 16 #[.pointer (some ⟨M, 0, none⟩)] w fun e w' => (∃ a cap, e = .returned (.slice a l.length cap) ∧ Ints a l.length (keysM l) w') ∧ Below w.heap.size w w'
  depth : ∀ {base M l w}, Mp base w M l → l.length ≤ 200 → ∃ d : Nat, leastD d ≤ l.length ∧ (0 < l.length → 1 ≤ d) ∧ d ≤ 1000 ∧ ∀ w', Below w.heap.size w w' →
    Calls Try.prog 19 #[.pointer (some ⟨M, 0, none⟩)] w' fun e w2 => e = .returned (.int .i64 (d : Nat)) ∧ Below w'.heap.size w' w2
  putN : ∀ (key value : Int) (w : World), Calls Try.prog 7 #[.pointer none, .int .i64 key, .int .i64 value] w fun e w' => e = .returned (.bool false) ∧ Below w.heap.size w w'
  dropN : ∀ (key : Int) (w : World), Calls Try.prog 9 #[.pointer none, .int .i64 key] w fun e w' => e = .returned (.bool false) ∧ Below w.heap.size w w'
  getN : ∀ (key : Int) (w : World), Calls Try.prog 11 #[.pointer none, .int .i64 key] w fun e w' => e = .returned (.tuple #[.int .i64 0, .bool false]) ∧ Below w.heap.size w w'
  lastN : ∀ (w : World), Calls Try.prog 13 #[.pointer none] w fun e w' => e = .returned (.tuple #[.int .i64 0, .bool false]) ∧ Below w.heap.size w w'
  lenN : ∀ (w : World), Calls Try.prog 14 #[.pointer none] w fun e w' => e = .returned (.int .i64 0) ∧ Below w.heap.size w w'
  keysN : ∀ (w : World), Calls Try.prog 16 #[.pointer none] w fun e w' => (∃ a cap, e = .returned (.slice a 0 cap)) ∧ Below w.heap.size w w'
  depthN : ∀ (w : World), Calls Try.prog 19 #[.pointer none] w fun e w' => e = .returned (.int .i64 0) ∧ Below w.heap.size w w'

/-- the program's map beside the document's, and an act in a box of its own -/
structure Bs (C : Code) (w W : World) (M X A : Nat) (l : List Pr) (k0 k1 k2 : Int) : Prop where
  mp : C.Mp w.heap.size W M l
  rm : Rm W X l
  mx : M < X
  act : W.heap[A]? = some (.cells #[.int .i64 k0, .int .i64 k1, .int .i64 k2] 33 (0, 0))
  xa : X < A
  below : Below w.heap.size w W
theorem Bs.later {C : Code} {w W W' : World} {M X A : Nat} {l : List Pr} {k0 k1 k2 : Int} (h : Bs C w W M X A l k0 k1 k2) (hb : Below W.heap.size W W') : Bs C w W' M X A l k0 k1 k2 :=
  ⟨C.later h.mp hb, h.rm.later hb, h.mx, (hb.block A (Array.getElem?_eq_some_iff.1 h.act).1).trans h.act, h.xa, h.below.trans (hb.mono h.below.size)⟩
theorem row_kp {base B size n b0 : Nat} {ts : List TypeId} {W W' : World} {e : TypeId} {v : Value} {xs : List Value} (h : W.ownsRow b0 e size v n xs) (hk : Kp base B ts W W') (hB : B < b0) (ht : e ∉ ts) : W'.ownsRow b0 e size v n xs := by
  refine ⟨h.1, ?_⟩
  rcases h.2 with h2 | ⟨g, cap, cur, h1, h2, h3, h4⟩
  · exact .inl h2
  · exact .inr ⟨g, cap, cur, h1, h2, hk.at_ h3 (by omega) ht, h4⟩
/-- the program's map changed -/
theorem Bs.code {C : Code} {w W W' : World} {M X A : Nat} {l l' : List Pr} {k0 k1 k2 : Int} (h : Bs C w W M X A l k0 k1 k2) (hk : Kp w.heap.size M C.ts W W') (hm : C.Mp w.heap.size W' M l') :
    C.Mp w.heap.size W' M l' ∧ Rm W' X l ∧ W'.heap[A]? = some (.cells #[.int .i64 k0, .int .i64 k1, .int .i64 k2] 33 (0, 0)) ∧ Below w.heap.size w W' := by
  obtain ⟨v, h1, h2⟩ := h.rm.at_
  have hmx := h.mx
  have hxa := h.xa
  exact ⟨hm, ⟨v, hk.at_ h1 (by omega) C.tsM, row_kp h2 hk (by omega) C.tsP⟩, hk.at_ h.act (by omega) C.tsA, h.below.trans (hk.below h.below.size)⟩
/-- and the document's alike -/
theorem Bs.both {C : Code} {w W W' W'' : World} {M X A : Nat} {l l' : List Pr} {k0 k1 k2 : Int} (h : Bs C w W M X A l k0 k1 k2) (hk : Kp w.heap.size M C.ts W W') (hm : C.Mp w.heap.size W' M l') (hr : Rm W'' X l') (hb : But X W' W'') : Bs C w W'' M X A l' k0 k1 k2 := by
  obtain ⟨c1, c2, c3, c4⟩ := h.code hk hm
  have hmx := h.mx
  have hxa := h.xa
  obtain ⟨v, h1, _⟩ := c2.at_
  have hge := C.ge c1
  exact ⟨C.but c1 hb (by omega) ⟨_, h1⟩, hr, h.mx, (hb.block A (Array.getElem?_eq_some_iff.1 c3).1 (by omega)).trans c3, h.xa, c4.trans (hb.below (by omega) c4.size)⟩
/-- what is read of the act, and of the document's map -/
theorem Bs.cells {C : Code} {w W : World} {M X A : Nat} {l : List Pr} {k0 k1 k2 : Int} (h : Bs C w W M X A l k0 k1 k2) : W.cell? ⟨A, 0, none⟩ = some (.int .i64 k0) ∧ W.cell? ⟨A, 1, none⟩ = some (.int .i64 k1) ∧ W.cell? ⟨A, 2, none⟩ = some (.int .i64 k2) := by
  have := h.act
  exact ⟨by simp [World.cell?, this], by simp [World.cell?, this], by simp [World.cell?, this]⟩
end Go.Proofs.Ythcofcpnhopnnaa.Av
