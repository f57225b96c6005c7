/- Records that stand in memory one behind the other, came in or are a call's own; what is laid behind them; whether they are few. -/
import Derived.Test.YtafcgknpehphlaaCdRPut
import Derived.Deep.OwnRows
import Derived.OwnWalk
import Derived.Laws.OwnMore
import Derived.Lib.AppendZeros
import Derived.RegionTactic
import Derived.ChangeAlike
import Derived.BigRegion
import Derived.Deep.QuietTactic
import Derived.BigQuiet
import Derived.Deep.RegionHeld3
set_option linter.unusedSimpArgs false
namespace Go.Proofs.Ytafcgknpehphlaa.Rk
open Go.RowKit
open Cd (Rec Fit may putB recB zeroR recV recL Blk)

/-- the nine cells of a record that stands at a place -/
def At9 (W : World) (b o : Nat) (x : Rec) : Prop :=
  W.cell? ⟨b, o, none⟩ = some (.int .i64 x.tr) ∧ W.cell? ⟨b, o + 1, none⟩ = some (.int .i64 x.id) ∧ W.cell? ⟨b, o + 2, none⟩ = some (.int .i64 x.pa) ∧ W.cell? ⟨b, o + 3, none⟩ = some (.int .i64 x.rv) ∧ W.cell? ⟨b, o + 4, none⟩ = some (.string x.sv) ∧ W.cell? ⟨b, o + 5, none⟩ = some (.string x.op) ∧ W.cell? ⟨b, o + 6, none⟩ = some (.int .i64 x.st) ∧ W.cell? ⟨b, o + 7, none⟩ = some (.int .i64 x.du) ∧ W.cell? ⟨b, o + 8, none⟩ = some (.bool x.gn)
theorem At9.later {W W' : World} {b o : Nat} {x : Rec} (h : At9 W b o x) (hb : b < W.heap.size) (hl : Below W.heap.size W W') : At9 W' b o x := by
  obtain ⟨h0, h1, h2, h3, h4, h5, h6, h7, h8⟩ := h
  exact ⟨(hl.cell (p := ⟨b, o, none⟩) hb).trans h0, (hl.cell (p := ⟨b, o + 1, none⟩) hb).trans h1, (hl.cell (p := ⟨b, o + 2, none⟩) hb).trans h2, (hl.cell (p := ⟨b, o + 3, none⟩) hb).trans h3, (hl.cell (p := ⟨b, o + 4, none⟩) hb).trans h4, (hl.cell (p := ⟨b, o + 5, none⟩) hb).trans h5, (hl.cell (p := ⟨b, o + 6, none⟩) hb).trans h6, (hl.cell (p := ⟨b, o + 7, none⟩) hb).trans h7, (hl.cell (p := ⟨b, o + 8, none⟩) hb).trans h8⟩
/-- records that stand in memory one behind the other; or none -/
structure Recs (a : Option Addr) (len : Nat) (xs : List Rec) (W : World) : Prop where
  len_is : xs.length = len
  at_ : 0 < len → ∃ b off, a = some ⟨b, off, none⟩ ∧ b < W.heap.size ∧ ∀ j x, xs[j]? = some x → At9 W b (off + j * 9) x
theorem Recs.later {a : Option Addr} {len : Nat} {xs : List Rec} {W W' : World} (h : Recs a len xs W) (hb : Below W.heap.size W W') : Recs a len xs W' :=
  ⟨h.len_is, fun hl => by
    obtain ⟨b, off, h1, h2, h3⟩ := h.at_ hl
    exact ⟨b, off, h1, Nat.lt_of_lt_of_le h2 hb.size, fun j x hj => (h3 j x hj).later h2 hb⟩⟩
/-- the first of them -/
theorem Recs.take {a : Option Addr} {len : Nat} {xs : List Rec} {W : World} (h : Recs a len xs W) (k : Nat) (hk : k ≤ len) : Recs a k (xs.take k) W :=
  ⟨by rw [List.length_take, h.len_is]; omega, fun hl => by
    obtain ⟨b, off, h1, h2, h3⟩ := h.at_ (by omega)
    refine ⟨b, off, h1, h2, fun j x hj => h3 j x ?_⟩
    rw [List.getElem?_take] at hj
    split at hj
    · exact hj
    · cases hj⟩
/-- those behind the first ones -/
theorem Recs.drop {b off len : Nat} {xs : List Rec} {W : World} (h : Recs (some ⟨b, off, none⟩) len xs W) (k : Nat) : Recs (some ⟨b, off + k * 9, none⟩) (len - k) (xs.drop k) W :=
  ⟨by rw [List.length_drop, h.len_is], fun hl => by
    obtain ⟨b', off', h1, h2, h3⟩ := h.at_ (by omega)
    injection h1 with h1; injection h1 with e1 e2
    subst e1 e2
    refine ⟨b, off + k * 9, rfl, h2, fun j x hj => ?_⟩
    rw [List.getElem?_drop] at hj
    have := h3 (k + j) x hj
    rw [show off + (k + j) * 9 = off + k * 9 + j * 9 by omega] at this
    exact this⟩
theorem Recs.none (a : Option Addr) (W : World) : Recs a 0 [] W := ⟨rfl, fun h => by omega⟩
/-- the cells of records one behind the other -/
def rcs : List Rec → List Value
  | [] => []
  | x :: r => recL x ++ rcs r
theorem rcs_len : ∀ l : List Rec, (rcs l).length = l.length * 9
  | [] => rfl
  | x :: r => by
    show (recL x ++ rcs r).length = (r.length + 1) * 9
    rw [List.length_append, rcs_len r]
    show 9 + _ = _
    omega
theorem rcs_append : ∀ a b : List Rec, rcs (a ++ b) = rcs a ++ rcs b
  | [], _ => rfl
  | x :: r, b => by
    show recL x ++ rcs (r ++ b) = recL x ++ rcs r ++ rcs b
    rw [rcs_append r b, List.append_assoc]
theorem rcs_one (x : Rec) : rcs [x] = recL x := by show recL x ++ [] = _; rw [List.append_nil]
theorem rcs_at : ∀ (l : List Rec) (j : Nat) (x : Rec) (i : Nat) (v : Value), l[j]? = some x → (recL x)[i]? = some v → (rcs l)[j * 9 + i]? = some v
  | [], j, x, i, v, h, _ => by simp at h
  | y :: r, 0, x, i, v, h, hv => by
    obtain rfl : y = x := by simpa using h
    show (recL y ++ rcs r)[0 * 9 + i]? = _
    rw [Nat.zero_mul, Nat.zero_add]
    obtain ⟨hi, he⟩ := List.getElem?_eq_some_iff.1 hv
    rw [List.getElem?_append_left hi]
    exact hv
  | y :: r, j + 1, x, i, v, h, hv => by
    show (recL y ++ rcs r)[(j + 1) * 9 + i]? = _
    rw [List.getElem?_append_right (by show (9 : Nat) ≤ _; omega)]
    have := rcs_at r j x i v (by simpa using h) hv
    rw [show (j + 1) * 9 + i - (recL y).length = j * 9 + i by show _ - 9 = _; omega]
    exact this
theorem recs_of {b off : Nat} {xs : List Rec} {W : World} (hb : b < W.heap.size) (h : ∀ i v, (rcs xs)[i]? = some v → W.cell? ⟨b, off + i, none⟩ = some v) : Recs (some ⟨b, off, none⟩) xs.length xs W := by
  refine ⟨rfl, fun _ => ⟨b, off, rfl, hb, fun j x hj => ?_⟩⟩
  have H := fun i v hv => h (j * 9 + i) v (rcs_at xs j x i v hj hv)
  simp only [← Nat.add_assoc] at H
  exact ⟨H 0 _ rfl, H 1 _ rfl, H 2 _ rfl, H 3 _ rfl, H 4 _ rfl, H 5 _ rfl, H 6 _ rfl, H 7 _ rfl, H 8 _ rfl⟩
theorem recs_new (W : World) (xs : List Rec) (ty : TypeId) : Recs (some ⟨W.heap.size, 0, none⟩) xs.length xs (W.alloc (.cells ⟨rcs xs⟩ ty)) := by
  refine recs_of (by simp) fun i v hv => ?_
  rw [Nat.zero_add, World.cell?_alloc_mark W ⟨rcs xs⟩ ty (0, 0) i]
  simpa using hv
/-- a block of nine cells, and what was there before -/
structure On (w W : World) (X : Nat) (l : List Value) : Prop where
  b : Blk W X l
  below : Below w.heap.size w W
theorem On.later {w W W' : World} {X : Nat} {l : List Value} (h : On w W X l) (hb : Below W.heap.size W W') : On w W' X l := ⟨h.b.later hb, h.below.trans (hb.mono h.below.size)⟩
theorem infoS : (Try.prog.info? 39).map (fun i => (i.zero, i.size, i.bytes)) = some (some (recV zeroR), 9, 88) := by kernel_rfl
theorem add_n (b o i : Nat) : (⟨b, o, none⟩ : Addr).add i = ⟨b, o + i, none⟩ := by unfold Addr.add; split <;> simp_all
theorem one_cell : ∀ (l : List Rec), ∀ u ∈ rcs l, u.oneCell' = true
  | [], u, h => by cases h
  | x :: r, u, h => by
    rcases List.mem_append.1 h with h | h
    · simp only [recL, List.mem_cons, List.not_mem_nil, or_false] at h
      rcases h with rfl | rfl | rfl | rfl | rfl | rfl | rfl | rfl | rfl <;> rfl
    · exact one_cell r u h
/-- the cells of records that stand in memory -/
theorem recs_cells {b off len : Nat} {xs : List Rec} {W : World} (h : Recs (some ⟨b, off, none⟩) len xs W) : ∀ i v, (rcs xs)[i]? = some v → W.cell? ⟨b, off + i, none⟩ = some v := by
  intro i v hv
  have hi : i < (rcs xs).length := (List.getElem?_eq_some_iff.1 hv).1
  rw [rcs_len, h.len_is] at hi
  obtain ⟨b', off', h1, _, h3⟩ := h.at_ (by omega)
  injection h1 with h1; injection h1 with e1 e2
  subst e1 e2
  obtain ⟨x, hx⟩ : ∃ x, xs[i / 9]? = some x := ⟨_, List.getElem?_eq_getElem (by rw [h.len_is]; omega)⟩
  have c := h3 (i / 9) x hx
  have hm : i % 9 < 9 := Nat.mod_lt _ (by omega)
  have hd : i / 9 * 9 + i % 9 = i := by omega
  have hc : i % 9 = 0 ∨ i % 9 = 1 ∨ i % 9 = 2 ∨ i % 9 = 3 ∨ i % 9 = 4 ∨ i % 9 = 5 ∨ i % 9 = 6 ∨ i % 9 = 7 ∨ i % 9 = 8 := by omega
  have key : ∀ j u, i % 9 = j → (recL x)[j]? = some u → W.cell? ⟨b, off + i / 9 * 9 + j, none⟩ = some u → W.cell? ⟨b, off + i, none⟩ = some v := by
    intro j u hj hu hw
    have := rcs_at xs (i / 9) x j u hx hu
    rw [← hj, hd, hv] at this
    injection this with this
    rw [this, ← hw]
    congr 2
    omega
  obtain ⟨c0, c1, c2, c3, c4, c5, c6, c7, c8⟩ := c
  rcases hc with hc | hc | hc | hc | hc | hc | hc | hc | hc
  · exact key 0 _ hc rfl c0
  · exact key 1 _ hc rfl c1
  · exact key 2 _ hc rfl c2
  · exact key 3 _ hc rfl c3
  · exact key 4 _ hc rfl c4
  · exact key 5 _ hc rfl c5
  · exact key 6 _ hc rfl c6
  · exact key 7 _ hc rfl c7
  · exact key 8 _ hc rfl c8
/-- a row of the call's own, as it is read -/
theorem recs_own {w : World} {base : Nat} {v : Value} {n : Nat} {zs : List Rec} (hn : zs.length = n) (h0 : 0 < n) (h : w.ownsRow base 39 9 v n (rcs zs)) :
    ∃ g cap, v = .slice (some ⟨g, 0, none⟩) n cap ∧ Recs (some ⟨g, 0, none⟩) n zs w ∧ n ≤ cap ∧ base ≤ g := by
  rcases h.2 with ⟨_, rfl⟩ | ⟨g, cap, cur, rfl, hb, hg, hnc, _, _, htake⟩
  · exact absurd h.1 (by
      rw [rcs_len]; simp; omega)
  · refine ⟨g, cap, rfl, ?_, hnc, hb⟩
    subst hn
    refine recs_of (Array.getElem?_eq_some_iff.1 hg).1 fun i u hu => ?_
    have hi : i < (rcs zs).length := (List.getElem?_eq_some_iff.1 hu).1
    rw [Nat.zero_add, Pk.cell_at hg i]
    rw [← htake, List.getElem?_take] at hu
    split at hu
    · simpa using hu
    · cases hu
/-- records that are laid behind a row of the call's own -/
theorem app_recs (base n : Nat) (v : Value) (xs ys : List Rec) (a : Option Addr) (m c : Nat) (w : World) (hown : w.ownsRow base 39 9 v n (rcs xs))
    (hs : Recs a m ys w) (ha : ∃ b o, a = some ⟨b, o, none⟩) (hl : n + m ≤ 1000) (hb : base ≤ w.heap.size) :
    ∃ v' w', (Builtin.append_ #[22, 22] 22 #[v, .slice a m c]).run Try.prog w = .ok v' w' ∧ w'.ownsRow base 39 9 v' (n + m) (rcs (xs ++ ys)) ∧ Below base w w' ∧ w.grownBy w' v.ownBlock := by
  obtain ⟨i0, hi0, hz0, hz1, hz2⟩ := info_parts infoS
  obtain ⟨b, o, rfl⟩ := ha
  obtain ⟨v', w', h1, h2, h3, _⟩ := Go.run_append_own (P := Try.prog) w base 22 22 39 i0 (recV zeroR) 9 88 Try.underlying22 hi0 hz0 hz1 hz2 rfl (by decide) v n _ hown ⟨b, o, none⟩ m c (rcs ys)
    (by rw [rcs_len, hs.len_is]) (fun j u hu => by rw [add_n]; exact recs_cells hs j u hu) (one_cell ys) (by unfold maxLen; omega) (by omega) hb
  exact ⟨v', w', h1, by rw [rcs_append]; exact h2, (Below.refl base w).grown h3 hb (fun k hk => (hown.lt k hk).1), h3⟩
theorem At9.low {K : Nat} {W W' : World} {b o : Nat} {x : Rec} (h : At9 W b o x) (hb : b < K) (hl : Below K W W') : At9 W' b o x := by
  obtain ⟨h0, h1, h2, h3, h4, h5, h6, h7, h8⟩ := h
  exact ⟨(hl.cell (p := ⟨b, o, none⟩) hb).trans h0, (hl.cell (p := ⟨b, o + 1, none⟩) hb).trans h1, (hl.cell (p := ⟨b, o + 2, none⟩) hb).trans h2, (hl.cell (p := ⟨b, o + 3, none⟩) hb).trans h3, (hl.cell (p := ⟨b, o + 4, none⟩) hb).trans h4, (hl.cell (p := ⟨b, o + 5, none⟩) hb).trans h5, (hl.cell (p := ⟨b, o + 6, none⟩) hb).trans h6, (hl.cell (p := ⟨b, o + 7, none⟩) hb).trans h7, (hl.cell (p := ⟨b, o + 8, none⟩) hb).trans h8⟩
theorem grown_of {W W' : World} (h : Below W.heap.size W W') : W.grownBy W' none := ⟨h.os, h.tape, h.output, h.size, fun k hk _ => h.block k hk⟩
theorem own_later {w w' : World} {base : Nat} {e : TypeId} {size : Nat} {v : Value} {n : Nat} {xs : List Value} (h : w.ownsRow base e size v n xs) (hb : Below w.heap.size w w') : w'.ownsRow base e size v n xs := by
  refine h.kept (row := none) (grown_of hb) ?_
  cases h : v.ownBlock with
  | none => exact .inl rfl
  | some g => exact .inr (by simp)
/-- an append whose outcome is known, in a region that draws -/
theorem step_append_runI {P : Program} {ops : Array Oper} {o : Oper} {a : Go.Act} {w : World} {K : Go.Act → World → Prop} {Q : Exit → Go.Act → World → Prop} {E : Prop} (hg : o.guard = none) (s x : Operand) (t tn : TypeId)
    (hop : o.op = .call { callee := .builtin .append, args := #[s, x], argTypes := #[t, tn] }) (vs vx : Value) (hs : a.eval s = vs) (hx : a.eval x = vx) (v' : Value) (w' : World)
    (hr : (Builtin.append_ #[t, tn] o.type #[vs, vx]).run P w = .ok v' w') (hK : K (a.put o.dst v') w') : if Region.wanted o (yielded ops a.tmps) = true then Oper.wp P o a w K Q else E := by
  rw [if_pos (by simp [Region.wanted, hg])]
  exact Lib.wp_append_run w s x t tn hop vs vx hs hx v' w' hr hK
/-- an append whose outcome is known -/
theorem step_app {w w' : World} {ops : Array Oper} {rest : List Oper} {o : Oper} {a : Act} {Q : Exit → Act → World → Prop} {v src v' : Value}
    (hg : o.guard = none) (s x : Operand) (hop : o.op = Op.call { callee := Callee.builtin Builtin.append, args := #[s, x], argTypes := #[22, 22] }) (hty : o.type = 22)
    (hs : a.eval s = v) (hx : a.eval x = src) (hr : (Builtin.append_ #[22, 22] 22 #[v, src]).run Try.prog w = .ok v' w')
    (h : wpList Try.prog ops Q rest (a.put o.dst v') w') : wpList Try.prog ops Q (o :: rest) a w := by
  refine wpList_plain hg fun K hK' => ?_
  unfold Oper.wp
  simp [execOp, hop, hty, resolve, invoke, builtin, hs, hx, hr, Result.andThen]
  exact hK' _ _ h
/-- one record laid behind a row of the call's own -/
theorem app_one (base n : Nat) (v : Value) (xs : List Rec) (y : Rec) (w : World) (hown : w.ownsRow base 39 9 v n (rcs xs)) (hl : n ≤ 900) (hb : base ≤ w.heap.size) :
    ∃ v' w', (Builtin.append_ #[22, 22] 22 #[v, .slice (some ⟨w.heap.size, 0, none⟩) 1 1]).run Try.prog (w.alloc (.cells #[.int .i64 y.tr, .int .i64 y.id, .int .i64 y.pa, .int .i64 y.rv, .string y.sv, .string y.op, .int .i64 y.st, .int .i64 y.du, .bool y.gn] 39)) = .ok v' w' ∧
      w'.ownsRow base 39 9 v' (n + 1) (rcs (xs ++ [y])) ∧ Below base w w' := by
  obtain ⟨v', w', h1, h2, h3, _⟩ := app_recs base n v xs [y] (some ⟨w.heap.size, 0, none⟩) 1 1 _ (hown.alloc (.cells ⟨rcs [y]⟩ 39)) (recs_new w [y] 39) ⟨_, _, rfl⟩ (by omega) (by simp; omega)
  exact ⟨v', w', h1, h2, ((Below.refl base w).alloc hb _).trans h3⟩
theorem On.alloc {w W : World} {X : Nat} {l : List Value} (h : On w W X l) (o : Obj) : On w (W.alloc o) X l := h.later ((Below.refl _ _).alloc (Nat.le_refl _) o)
theorem On.new {w W : World} (h : Below w.heap.size w W) (l : List Value) (ty : TypeId) : On w (W.alloc (.cells ⟨l⟩ ty)) W.heap.size l := ⟨Blk.start W ty l, h.alloc h.size _⟩
theorem On.grown {w W W' : World} {X : Nat} {l : List Value} {row : Option Nat} (h : On w W X l) (hb : Below w.heap.size W W') (g : W.grownBy W' row) (hne : some X ≠ row) : On w W' X l :=
  ⟨⟨Nat.lt_of_lt_of_le h.b.lt hb.size, fun i v e => by
      have := h.b.cells i v e
      simp only [World.cell?] at this ⊢
      rw [g.block X h.b.lt hne]; exact this, fun i v e => by
      have := h.b.free i v e
      simp only [World.frozen?] at this ⊢
      rw [g.block X h.b.lt hne]; exact this⟩, h.below.trans hb⟩
theorem On.new' {w W : World} {Z : Nat} (h : Below w.heap.size w W) (l : List Value) (ty : TypeId) (hz : W.heap.size = Z) : On w (W.alloc (.cells ⟨l⟩ ty)) Z l := by subst hz; exact On.new h l ty
theorem On.ne {w W : World} {X Z : Nat} {l : List Value} (h : On w W X l) (hz : W.heap.size = Z) : X ≠ Z := by have := h.b.lt; omega
theorem On.le {w W : World} {X Z : Nat} {l : List Value} (h : On w W X l) (hz : W.heap.size = Z) : w.heap.size ≤ Z := by have := h.below.size; omega
/-- are a record's names short? -/
def shB (x : Rec) : Bool := decide (x.sv.size ≤ 100) && decide (x.op.size ≤ 100)
theorem shB_iff (x : Rec) : shB x = true ↔ x.sv.size ≤ 100 ∧ x.op.size ≤ 100 := by unfold shB; simp
/-- numbers of 64 bits -/
structure W64 (x : Rec) : Prop where
  tr0 : -9223372036854775808 ≤ x.tr
  tr1 : x.tr ≤ 9223372036854775807
  id0 : -9223372036854775808 ≤ x.id
  id1 : x.id ≤ 9223372036854775807
  pa0 : -9223372036854775808 ≤ x.pa
  pa1 : x.pa ≤ 9223372036854775807
  rv0 : -9223372036854775808 ≤ x.rv
  rv1 : x.rv ≤ 9223372036854775807
  st0 : -9223372036854775808 ≤ x.st
  st1 : x.st ≤ 9223372036854775807
  du0 : -9223372036854775808 ≤ x.du
  du1 : x.du ≤ 9223372036854775807
theorem W64.fit {x : Rec} (h : W64 x) (hs : shB x = true) : Fit x := by
  obtain ⟨h4, h5⟩ := (shB_iff x).1 hs
  exact ⟨h.tr1, h.id1, h.pa1, h.rv1, by omega, by omega, h.st0, h.st1, h.du0, h.du1⟩
theorem W64.lo {x : Rec} (h : W64 x) : -9223372036854775808 ≤ x.tr ∧ -9223372036854775808 ≤ x.id ∧ -9223372036854775808 ≤ x.pa ∧ -9223372036854775808 ≤ x.rv := ⟨h.tr0, h.id0, h.pa0, h.rv0⟩
/-- two records that came in -/
structure Two (w W : World) (la lb : List Value) : Prop where
  a : Blk W w.heap.size la
  b : Blk W (w.heap.size + 1) lb
  below : Below w.heap.size w W
theorem Two.start (w : World) (ty ty' : TypeId) (la lb : List Value) : Two w ((w.alloc (.cells ⟨la⟩ ty)).alloc (.cells ⟨lb⟩ ty')) la lb := by
  have h2 := Blk.start (w.alloc (.cells ⟨la⟩ ty)) ty' lb
  have e : (w.alloc (.cells ⟨la⟩ ty)).heap.size = w.heap.size + 1 := by simp
  rw [e] at h2
  exact ⟨(Blk.start w ty la).later ((Below.refl _ _).alloc (Nat.le_refl _) _), h2, ((Below.refl _ _).alloc (Nat.le_refl _) _).alloc (by simp) _⟩
theorem Two.later {w W W' : World} {la lb : List Value} (h : Two w W la lb) (hb : Below W.heap.size W W') : Two w W' la lb :=
  ⟨h.a.later hb, h.b.later hb, h.below.trans (hb.mono h.below.size)⟩
theorem Two.drew {w W : World} {la lb : List Value} (h : Two w W la lb) : Two w W.drew la lb := h.later ((Below.refl _ _).drew)
/-- what is told of whether records are few -/
def FewEnd (most : Nat) (xs : List Rec) (e : Ending) : Prop := ∃ f : Bool, e = .returned (.bool f) ∧ (f = true → xs.length ≤ most ∧ ∀ x ∈ xs, shB x = true)

set_option maxHeartbeats 1600000 in
set_option maxRecDepth 100000 in
theorem few_any (most : Nat) (a : Option Addr) (len cap : Nat) (xs : List Rec) (w : World) (hr : Recs a len xs w) (hmost : most ≤ 1000) :
    Calls Try.prog 6 #[.slice a len cap, .int .i64 (most : Nat)] w fun e w' => FewEnd most xs e ∧ Below w.heap.size w w' := by
  have HR := Lib.hid hr
  have HLEN := Lib.hid hr.len_is
  clear hr
  go_enter Try.func6, Try.ntmps6
  go_wp2_with fail
  go_loopw [5] (fun iv wr => ∃ k : Nat, k ≤ len ∧ k ≤ most ∧ iv = .int .i64 k ∧ Hid (∀ x ∈ xs.take k, shB x = true) ∧ Hid (Below w.heap.size w wr)) (fun iv _ => len - (intOf iv).toNat)
  case atStart => exact ⟨0, by omega, by omega, rfl, (fun x hx => by rw [List.take_zero] at hx; cases hx), Below.refl _ _⟩
  case round =>
    obtain ⟨k, hk, h12, rfl, HJ, HB⟩ := hrel
    by_cases hkl : k < len
    · by_cases hk4 : k < most
      · obtain ⟨b, off, rfl, hb, hcell⟩ := HR.out.at_ (by omega)
        obtain ⟨y, hy⟩ : ∃ y, xs[k]? = some y := ⟨_, List.getElem?_eq_getElem (by have := HLEN.out; omega)⟩
        have cy := (hcell k y hy).later hb HB.out
        have hbw := Nat.lt_of_lt_of_le hb HB.out.size
        have SH := fun w => Cd.short_any y w
        have HNEXT : Hid (shB y = true → ∀ x ∈ xs.take (k + 1), shB x = true) := by
          intro h x hx
          obtain ⟨hk', he⟩ := List.getElem?_eq_some_iff.1 hy
          rw [List.take_succ_eq_append_getElem hk', List.mem_append] at hx
          rcases hx with hx | hx
          · exact HJ.out x hx
          · rw [he] at hx; rw [List.mem_singleton.1 hx]; exact h
        have SH : ∀ w, Calls Try.prog 15 #[recV y] w fun e w' => e = .returned (.bool (shB y)) ∧ Below w.heap.size w w' := SH
        generalize shB y = s at SH HNEXT
        clear hcell hy
        obtain ⟨y0, y1, y2, y3, y4, y5, y6, y7, y8⟩ := y
        have SH : Hid (∀ w, Calls Try.prog 15 #[.agg #[.int .i64 y0, .int .i64 y1, .int .i64 y2, .int .i64 y3, .string y4, .string y5, .int .i64 y6, .int .i64 y7, .bool y8]] w fun e w' => e = .returned (.bool s) ∧ Below w.heap.size w w') := SH
        obtain ⟨c0, c1, c2, c3, c4, c5, c6, c7, c8⟩ := cy
        simp only at c0 c1 c2 c3 c4 c5 c6 c7 c8
        go_wp2_with fail
        refine (SH.out _).mono ?_
        rintro e w2 ⟨rfl, b2⟩
        have HB2 := Lib.hid (HB.out.trans (b2.mono HB.out.size))
        clear b2 c0 c1 c2 c3 c4 c5 c6 c7 c8
        cases s
        · go_wp2_with fail
          go_ret
          exact ⟨⟨false, rfl, fun h => by cases h⟩, HB2.out⟩
        · go_wp2_with fail
          go_roundw
          case rel => exact ⟨k + 1, by omega, by omega, by go_num, HNEXT.out (by trivial), HB2.out⟩
          case measure => simp [intOf]; omega
      · have hk12 : k = most := by omega
        subst hk12
        have hn : ¬ ((len : Int) ≤ (k : Int)) := by omega
        go_wp2_with fail
        go_ret
        exact ⟨⟨false, rfl, fun h => by cases h⟩, HB.out⟩
    · have hkn : k = len := by omega
      subst hkn
      have HE : Hid (xs.length ≤ most ∧ ∀ x ∈ xs, shB x = true) := ⟨by have := HLEN.out; omega, by have h := HJ.out; rw [List.take_of_length_le (by have := HLEN.out; omega)] at h; exact h⟩
      have hn : ((k : Int) ≤ (most : Int)) := by omega
      go_wp2_with fail
      go_ret
      exact ⟨⟨_, rfl, fun _ => HE.out⟩, HB.out⟩
end Go.Proofs.Ytafcgknpehphlaa.Rk
