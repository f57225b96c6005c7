/- A disk in memory: its block, the row of its files, each file's block and bytes; and what a call leaves as it was. -/
import Derived.Test.YtlmhghcoohalaaaRows
import Derived.Test.YtlmhghcoohalaaaDkSt
import Derived.WalkKit
import Derived.WalkSpells
import Derived.WalkLawsBesides
import Derived.Lib.Hide
import Derived.Lib.Walk
import Derived.OneCell
import Derived.Laws.Rows
import Derived.Laws.AppendOwn
import Derived.Laws.IdiomStrings
import Derived.Laws.BytesArg
import Derived.RegionTactic
import Derived.ChangeAlike
import Derived.BigRegion
import Derived.Deep.QuietTactic
import Derived.BigQuiet
import Derived.StillTailTactics
namespace Go.Proofs.Ytlmhghcoohalaaa.Dk
open Go.RowKit

/-- bytes as cells -/
def bs (l : List UInt8) : List Value := l.map (fun c => Value.int .u8 (c.toNat : Int))
theorem bs_append (a b : List UInt8) : bs (a ++ b) = bs a ++ bs b := by simp [bs]
theorem bs_len (a : List UInt8) : (bs a).length = a.length := by simp [bs]

/-- the type of a block's cells -/
def tg : Obj → Option TypeId
  | .cells _ t _ => some t
  | _ => none

/-- all that was there is as it was, but for one block, and blocks of some types, from a number on -/
structure Kp (base B : Nat) (ts : List TypeId) (w w' : World) : Prop where
  os : w'.os = w.os
  tape : w'.tape = w.tape
  output : w'.output = w.output
  size : w.heap.size ≤ w'.heap.size
  block : ∀ k o, w.heap[k]? = some o → (k < base ∨ (k ≠ B ∧ ∀ t ∈ ts, tg o ≠ some t)) → w'.heap[k]? = some o
theorem Kp.refl (base B : Nat) (ts : List TypeId) (w : World) : Kp base B ts w w := ⟨rfl, rfl, rfl, Nat.le_refl _, fun _ _ h _ => h⟩
theorem Kp.trans {base B : Nat} {ts : List TypeId} {a b c : World} (h : Kp base B ts a b) (k : Kp base B ts b c) : Kp base B ts a c :=
  ⟨k.os.trans h.os, k.tape.trans h.tape, k.output.trans h.output, Nat.le_trans h.size k.size, fun i o ho hn => k.block i o (h.block i o ho hn) hn⟩
theorem Kp.mono {base B : Nat} {ts ts' : List TypeId} {a b : World} (h : Kp base B ts a b) (hs : ∀ t ∈ ts, t ∈ ts') : Kp base B ts' a b :=
  ⟨h.os, h.tape, h.output, h.size, fun i o ho hn => h.block i o ho (hn.imp id fun hn => ⟨hn.1, fun t ht => hn.2 t (hs t ht)⟩)⟩
theorem Kp.of_below {base B : Nat} {ts : List TypeId} {w w' : World} (h : Below w.heap.size w w') : Kp base B ts w w' :=
  ⟨h.os, h.tape, h.output, h.size, fun k o ho _ => (h.block k (lt_of_block ho)).trans ho⟩
theorem Kp.of_grown {base B : Nat} {ts : List TypeId} {w w' : World} {row : Option Nat} (h : w.grownBy w' row) (hr : ∀ g, row = some g → base ≤ g ∧ ∀ o, w.heap[g]? = some o → ∃ t ∈ ts, tg o = some t) : Kp base B ts w w' :=
  ⟨h.os, h.tape, h.output, h.size, fun k o ho hn => by
    rw [h.block k (lt_of_block ho) fun e => ?_]
    · exact ho
    · obtain ⟨h1, h2⟩ := hr k e.symm
      obtain ⟨t, ht, h3⟩ := h2 o ho
      rcases hn with hn | hn
      · omega
      · exact hn.2 t ht h3⟩
theorem Kp.setB {base B : Nat} {ts : List TypeId} {a w : World} (h : Kp base B ts a w) (hB : base ≤ B) (i : Nat) (u : Value) : Kp base B ts a (w.setCell ⟨B, i, none⟩ u) :=
  h.trans ⟨rfl, rfl, rfl, by simp [World.setCell], fun k _ ho hn => by rw [heap_setCell_other _ _ _ _ (by rcases hn with hn | hn; (show k ≠ B; omega); exact hn.1)]; exact ho⟩
theorem Kp.setT {base B : Nat} {ts : List TypeId} {a w : World} (h : Kp base B ts a w) {b i : Nat} {cs : Array Value} {t : TypeId} {fr : Nat × Nat} (hb : w.heap[b]? = some (.cells cs t fr)) (hl : base ≤ b) (ht : t ∈ ts) (u : Value) : Kp base B ts a (w.setCell ⟨b, i, none⟩ u) :=
  h.trans ⟨rfl, rfl, rfl, by simp [World.setCell], fun k o ho hn => by
    rw [heap_setCell_other _ _ _ _ (fun e => ?_)]
    · exact ho
    · have e' : k = b := e
      subst e'
      rw [hb] at ho; cases ho
      rcases hn with hn | hn
      · omega
      · exact hn.2 t ht rfl⟩
theorem Kp.below {base B : Nat} {ts : List TypeId} {w w' : World} (h : Kp base B ts w w') (hs : base ≤ w.heap.size) : Below base w w' :=
  ⟨h.os, h.tape, h.output, h.size, fun k hk => by rw [h.block k w.heap[k] (Array.getElem?_eq_getElem (by omega)) (.inl hk)]; exact (Array.getElem?_eq_getElem (by omega)).symm⟩
theorem Kp.at_ {base B : Nat} {ts : List TypeId} {w w' : World} (h : Kp base B ts w w') {k : Nat} {cs : Array Value} {t : TypeId} {fr : Nat × Nat} (hk : w.heap[k]? = some (.cells cs t fr)) (hB : k ≠ B) (ht : t ∉ ts) : w'.heap[k]? = some (.cells cs t fr) :=
  h.block k _ hk (.inr ⟨hB, fun t' h1 h2 => ht (by have h3 : t = t' := by simpa [tg] using h2
                                                   rw [h3]; exact h1)⟩)

/-- a row stays owned where its block stays -/
theorem row_at {w w' : World} {base : Nat} {e : TypeId} {size n : Nat} {v : Value} {xs : List Value} (h : w.ownsRow base e size v n xs) (hk : ∀ k cs, v.ownBlock = some k → w.heap[k]? = some (.cells cs e (0, 0)) → w'.heap[k]? = some (.cells cs e (0, 0))) : w'.ownsRow base e size v n xs := by
  refine ⟨h.1, ?_⟩
  rcases h.2 with hn | ⟨g, cap, cur, rfl, hb, hgg, rest⟩
  · exact .inl hn
  · exact .inr ⟨g, cap, cur, rfl, hb, hk g cur rfl hgg, rest⟩
theorem row_tag {w : World} {base : Nat} {e : TypeId} {size n : Nat} {v : Value} {xs : List Value} (h : w.ownsRow base e size v n xs) {k : Nat} (hk : v.ownBlock = some k) : base ≤ k ∧ ∃ cs, w.heap[k]? = some (.cells cs e (0, 0)) := by
  rcases h.2 with ⟨rfl, _⟩ | ⟨g, cap, cur, rfl, hb, hgg, rest⟩
  · simp [Value.ownBlock] at hk
  · simp [Value.ownBlock] at hk; subst hk; exact ⟨hb, cur, hgg⟩
/-- a row as a slice: its length, and its cells -/
theorem row_slice {w : World} {base : Nat} {e : TypeId} {n : Nat} {v : Value} {xs : List Value} (h : w.ownsRow base e 1 v n xs) : ∃ a cap, v = .slice a n cap ∧ n ≤ cap ∧ cap ≤ 9223372036854775807 ∧ (0 < n → ∃ g, a = some ⟨g, 0, none⟩ ∧ base ≤ g ∧ g < w.heap.size ∧ ∀ j u, xs[j]? = some u → w.cell? ⟨g, j, none⟩ = some u) := by
  rcases h.2 with ⟨rfl, rfl⟩ | ⟨g, cap, cur, rfl, hb, hgg, hn, hm, _, ht⟩
  · exact ⟨none, 0, rfl, Nat.le_refl _, by omega, fun h => absurd h (by omega)⟩
  · refine ⟨_, cap, rfl, hn, by unfold maxLen at hm; omega, fun _ => ⟨g, rfl, hb, lt_of_block hgg, fun j u hu => ?_⟩⟩
    rw [cell_of_row w g j cur e (0, 0) hgg]
    rw [← ht, List.getElem?_take] at hu
    split at hu
    · simpa using hu
    · cases hu

/-- a file that a disk has: its block, the value of its bytes -/
structure En where
  b : Nat
  v : Value
  f : Fi
def ptr (e : En) : Value := .pointer (some ⟨e.b, 0, none⟩)
def Fl (base : Nat) (w : World) (e : En) : Prop :=
  w.heap[e.b]? = some (.cells #[.string e.f.nm, e.v, .int .i64 (e.f.su : Int)] 67 (0, 0)) ∧ base ≤ e.b ∧ w.ownsRow base 5 1 e.v e.f.bs.length (bs e.f.bs)
def Sep (x y : En) : Prop := x.b ≠ y.b ∧ ∀ k, x.v.ownBlock = some k → y.v.ownBlock ≠ some k
theorem Sep.symm {x y : En} (h : Sep x y) : Sep y x := ⟨fun e => h.1 e.symm, fun k h1 h2 => h.2 k h2 h1⟩

/-- a disk: its block, the row of its files, the files -/
structure DkAt (base : Nat) (w : World) (B : Nat) (s : St) (v : Value) (L : List En) : Prop where
  blk : w.heap[B]? = some (.cells #[.bool s.made, .bool s.on, .int .i64 s.room, v, .int .i64 (s.ops : Int), .int .i64 s.fuse] 31 (0, 0))
  ge : base ≤ B
  row : w.ownsRow base 64 1 v L.length (L.map ptr)
  all : ∀ e ∈ L, Fl base w e
  sep : L.Pairwise Sep
  fs : s.fs = L.map (·.f)
def Dk (base : Nat) (w : World) (B : Nat) (s : St) : Prop := ∃ v L, DkAt base w B s v L

abbrev TS : List TypeId := [64, 67, 5]

theorem Fl.kept {base : Nat} {w w' : World} {e : En} (h : Fl base w e) (h1 : w'.heap[e.b]? = w.heap[e.b]?) (h2 : ∀ k, e.v.ownBlock = some k → w'.heap[k]? = w.heap[k]?) : Fl base w' e :=
  ⟨h1.trans h.1, h.2.1, row_at h.2.2 fun k _ hk hc => (h2 k hk).trans hc⟩
theorem DkAt.kept {base B : Nat} {w w' : World} {s : St} {v : Value} {L : List En} (h : DkAt base w B s v L)
    (hk : ∀ k cs t, w.heap[k]? = some (.cells cs t (0, 0)) → (k = B ∨ t ∈ TS) → w'.heap[k]? = some (.cells cs t (0, 0))) : DkAt base w' B s v L :=
  ⟨hk _ _ _ h.blk (.inl rfl), h.ge, row_at h.row fun _ _ _ hc => hk _ _ _ hc (.inr (by simp)), fun e he => by
    obtain ⟨h1, h2, h3⟩ := h.all e he
    exact ⟨hk _ _ _ h1 (.inr (by simp)), h2, row_at h3 fun _ _ _ hc => hk _ _ _ hc (.inr (by simp))⟩, h.sep, h.fs⟩
theorem DkAt.later {base B : Nat} {w w' : World} {s : St} {v : Value} {L : List En} (h : DkAt base w B s v L) (hb : Below w.heap.size w w') : DkAt base w' B s v L :=
  h.kept fun k _ _ hc _ => (hb.block k (lt_of_block hc)).trans hc
theorem Dk.later {base B : Nat} {w w' : World} {s : St} (h : Dk base w B s) (hb : Below w.heap.size w w') : Dk base w' B s := by
  obtain ⟨v, L, h⟩ := h; exact ⟨v, L, h.later hb⟩
/-- what another call leaves: one that writes a block of another type, and rows of other types -/
theorem Dk.other {base base' B X : Nat} {w w' : World} {s : St} {ts : List TypeId} (h : Dk base w B s) (hk : Kp base' X ts w w') (hX : X ≠ B) (hXT : ∀ cs t, w.heap[X]? = some (.cells cs t (0, 0)) → t ∉ TS) (ht : 31 ∉ ts ∧ ∀ t ∈ TS, t ∉ ts) : Dk base w' B s := by
  obtain ⟨v, L, h⟩ := h
  refine ⟨v, L, h.kept fun k cs t hc hkt => hk.at_ hc ?_ ?_⟩
  · rintro rfl
    rcases hkt with e | e
    · exact hX e
    · exact hXT cs t hc e
  · rcases hkt with e | e
    · subst e; rw [h.blk] at hc; cases hc; exact ht.1
    · exact ht.2 t e

/-- what the walk reads of a disk -/
theorem blk_cell {w : World} {B i : Nat} {cs : Array Value} {t : TypeId} {u : Value} (h : w.heap[B]? = some (.cells cs t (0, 0))) (hu : cs[i]? = some u) : w.cell? ⟨B, i, none⟩ = some u := by rw [cell_of_row w B i cs t (0, 0) h]; exact hu
theorem blk_free {w : World} {B : Nat} {cs : Array Value} {t : TypeId} (h : w.heap[B]? = some (.cells cs t (0, 0))) (i : Nat) : w.frozen? ⟨B, i, none⟩ = false := frozen_of_row w B i cs t h

theorem ne_of_tag {w : World} {a b : Nat} {cs ds : Array Value} {t u : TypeId} {f g : Nat × Nat} (h : w.heap[a]? = some (.cells cs t f)) (k : w.heap[b]? = some (.cells ds u g)) (hn : t ≠ u) : a ≠ b := by
  rintro rfl; rw [h] at k; cases k; exact hn rfl
end Go.Proofs.Ytlmhghcoohalaaa.Dk
