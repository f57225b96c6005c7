/- Records read one behind the other and laid behind a row of the call's own: what stands in each round. -/
import Derived.Test.YtafcgknpehphlaaLtRPut
import Derived.Test.YtafcgknpehphlaaCdRRead
namespace Go.Proofs.Ytafcgknpehphlaa.Lt
open Go.RowKit
open Pk (Rd Went Bx But)
open Cd (Rec Fit may recB zeroR recV recL rdRec)
open Rk (At9 Recs rcs)

/-- a slice of records -/
def Sl (W : World) (v : Value) (l : List Rec) : Prop := ∃ a cap, v = .slice a l.length cap ∧ Recs a l.length l W ∧ l.length ≤ cap
theorem Sl.later {W W' : World} {v : Value} {l : List Rec} (h : Sl W v l) (hb : Below W.heap.size W W') : Sl W' v l := by
  obtain ⟨a, cap, h1, h2, h3⟩ := h
  exact ⟨a, cap, h1, h2.later hb, h3⟩
theorem Sl.none (W : World) : Sl W (.slice none 0 0) [] := ⟨_, 0, rfl, Rk.Recs.none _ _, Nat.le_refl _⟩
theorem own_sl {W : World} {base n : Nat} {v : Value} {l : List Rec} (hn : l.length = n) (h : W.ownsRow base 39 9 v n (rcs l)) : Sl W v l := by
  subst hn
  by_cases h0 : 0 < l.length
  · obtain ⟨g, cap, h1, h2, h3, _⟩ := Rk.recs_own rfl h0 h
    exact ⟨_, cap, h1, h2, h3⟩
  · have hl : l = [] := List.eq_nil_of_length_eq_zero (by omega)
    subst hl
    rcases h.2 with ⟨rfl, _⟩ | ⟨g, cap, cur, rfl, _, _, hc, _⟩
    · exact Sl.none W
    · exact ⟨_, cap, rfl, Rk.Recs.none _ _, hc⟩
theorem own_but {W W' : World} {base size n R : Nat} {e : TypeId} {v : Value} {xs : List Value} (h : W.ownsRow base e size v n xs) (hb : But R W W') (hR : R < base) : W'.ownsRow base e size v n xs := by
  refine ⟨h.1, ?_⟩
  rcases h.2 with h2 | ⟨g, cap, cur, h1, h2, h3, h4⟩
  · exact .inl h2
  · exact .inr ⟨g, cap, cur, h1, h2, (hb.block g (Array.getElem?_eq_some_iff.1 h3).1 (by omega)).trans h3, h4⟩
theorem rd_low {W W' : World} {R : Nat} {s : ByteArray} {e : Nat} (h : Rd W R s e) (hb : Below (R + 1) W W') : Rd W' R s e :=
  ⟨(hb.cell (p := ⟨R, 0, none⟩) (Nat.lt_succ_self R)).trans h.c0, (hb.cell (p := ⟨R, 1, none⟩) (Nat.lt_succ_self R)).trans h.c1, (hb.frozen (p := ⟨R, 0, none⟩) (Nat.lt_succ_self R)).trans h.f0, (hb.frozen (p := ⟨R, 1, none⟩) (Nat.lt_succ_self R)).trans h.f1, Nat.lt_of_lt_of_le h.lt hb.size⟩
theorem below_low {A B : Nat} {W W' : World} (h : Below B W W') (hab : A ≤ B) : Below A W W' := ⟨h.os, h.tape, h.output, h.size, fun k hk => h.block k (by omega)⟩

/-- what stands behind k records that were read -/
structure Tk (w W : World) (R : Nat) (v : Value) (k : Nat) (l : List Rec) (s : ByteArray) (e : Nat) : Prop where
  rd : Rd W R s e
  own : W.ownsRow (R + 1) 39 9 v k (rcs l)
  below : Below w.heap.size w W
theorem Tk.start {w W : World} {R : Nat} {s : ByteArray} {e : Nat} (h : Rd W R s e) (hb : Below w.heap.size w W) : Tk w W R (.slice none 0 0) 0 [] s e := ⟨h, World.ownsRow_nil _ _ _ _, hb⟩
theorem Tk.next {w W W2 : World} {R k : Nat} {v : Value} {l : List Rec} {s s2 : ByteArray} {e e2 : Nat} (h : Tk w W R v k l s e) (hw : Went R (s2, e2) W W2) (y : Rec) (hk : k ≤ 900) (hR : w.heap.size ≤ R) :
    ∃ v' w', (Builtin.append_ #[22, 22] 22 #[v, .slice (some ⟨W2.heap.size, 0, none⟩) 1 1]).run Try.prog (W2.alloc (.cells #[.int .i64 y.tr, .int .i64 y.id, .int .i64 y.pa, .int .i64 y.rv, .string y.sv, .string y.op, .int .i64 y.st, .int .i64 y.du, .bool y.gn] 39)) = .ok v' w' ∧
      Tk w w' R v' (k + 1) (l ++ [y]) s2 e2 := by
  obtain ⟨h1, h2⟩ := hw
  have hsz := h1.lt
  obtain ⟨v', w', r, o, b⟩ := Rk.app_one (R + 1) k v l y W2 (own_but h.own h2 (Nat.lt_succ_self R)) hk hsz
  exact ⟨v', w', r, rd_low h1 b, o, (h.below.trans (h2.below hR h.below.size)).trans (below_low b (by omega))⟩
theorem drop_take {xs : List Rec} {k : Nat} {y : Rec} (h : xs[k]? = some y) (h0 : ∀ x ∈ xs.take k, may x = 0) (hy : may y = 0) : ∀ x ∈ xs.take (k + 1), may x = 0 := by
  intro x hx
  obtain ⟨hk', he⟩ := List.getElem?_eq_some_iff.1 h
  rw [List.take_succ_eq_append_getElem hk', he, List.mem_append] at hx
  rcases hx with hx | hx
  · exact h0 x hx
  · rw [List.mem_singleton.1 hx]; exact hy
end Go.Proofs.Ytafcgknpehphlaa.Lt
