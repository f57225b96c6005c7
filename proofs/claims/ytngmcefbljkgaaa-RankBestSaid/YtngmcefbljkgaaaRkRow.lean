/- Records that stand in memory one behind the other; and which is newer, by the document. -/
import Derived.Test.YtngmcefbljkgaaaRkNew2
namespace Go.Proofs.Ytngmcefbljkgaaa.Rk
open Go.RowKit
open Cd (Rec Fit may putB recB zeroR recV recL Blk)
open Sa (drewN_below)

/-- the nine cells of a record that stands at a place -/
def At9 (W : World) (b o : Nat) (x : Rec) : Prop :=
  W.cell? ⟨b, o, none⟩ = some (.int .i64 x.tr) ∧ W.cell? ⟨b, o + 1, none⟩ = some (.int .i64 x.id) ∧ W.cell? ⟨b, o + 2, none⟩ = some (.int .i64 x.pa) ∧ W.cell? ⟨b, o + 3, none⟩ = some (.int .i64 x.rv) ∧ W.cell? ⟨b, o + 4, none⟩ = some (.string x.sv) ∧ W.cell? ⟨b, o + 5, none⟩ = some (.string x.op) ∧ W.cell? ⟨b, o + 6, none⟩ = some (.int .i64 x.st) ∧ W.cell? ⟨b, o + 7, none⟩ = some (.int .i64 x.du) ∧ W.cell? ⟨b, o + 8, none⟩ = some (.bool x.gn)
theorem At9.later {W W' : World} {b o : Nat} {x : Rec} (h : At9 W b o x) (hb : b < W.heap.size) (hl : Below W.heap.size W W') : At9 W' b o x := by
  obtain ⟨h0, h1, h2, h3, h4, h5, h6, h7, h8⟩ := h
  exact ⟨(hl.cell (p := ⟨b, o, none⟩) hb).trans h0, (hl.cell (p := ⟨b, o + 1, none⟩) hb).trans h1, (hl.cell (p := ⟨b, o + 2, none⟩) hb).trans h2, (hl.cell (p := ⟨b, o + 3, none⟩) hb).trans h3, (hl.cell (p := ⟨b, o + 4, none⟩) hb).trans h4, (hl.cell (p := ⟨b, o + 5, none⟩) hb).trans h5, (hl.cell (p := ⟨b, o + 6, none⟩) hb).trans h6, (hl.cell (p := ⟨b, o + 7, none⟩) hb).trans h7, (hl.cell (p := ⟨b, o + 8, none⟩) hb).trans h8⟩

/-- records that stand in memory one behind the other; or none -/
structure Recs (a : Option Addr) (len : Nat) (xs : List Rec) (W : World) : Prop where
  len_is : xs.length = len
  at_ : 0 < len → ∃ b off, a = some ⟨b, off, none⟩ ∧ b < W.heap.size ∧ ∀ j x, xs[j]? = some x → At9 W b (off + j * 9) x
theorem Recs.later {a : Option Addr} {len : Nat} {xs : List Rec} {W W' : World} (h : Recs a len xs W) (hb : Below W.heap.size W W') : Recs a len xs W' :=
  ⟨h.len_is, fun hl => by
    obtain ⟨b, off, h1, h2, h3⟩ := h.at_ hl
    exact ⟨b, off, h1, Nat.lt_of_lt_of_le h2 hb.size, fun j x hj => (h3 j x hj).later h2 hb⟩⟩
/-- the first of them -/
theorem Recs.take {a : Option Addr} {len : Nat} {xs : List Rec} {W : World} (h : Recs a len xs W) (k : Nat) (hk : k ≤ len) : Recs a k (xs.take k) W :=
  ⟨by rw [List.length_take, h.len_is]; omega, fun hl => by
    obtain ⟨b, off, h1, h2, h3⟩ := h.at_ (by omega)
    refine ⟨b, off, h1, h2, fun j x hj => h3 j x ?_⟩
    rw [List.getElem?_take] at hj
    split at hj
    · exact hj
    · cases hj⟩
/-- those behind the first ones -/
theorem Recs.drop {b off len : Nat} {xs : List Rec} {W : World} (h : Recs (some ⟨b, off, none⟩) len xs W) (k : Nat) : Recs (some ⟨b, off + k * 9, none⟩) (len - k) (xs.drop k) W :=
  ⟨by rw [List.length_drop, h.len_is], fun hl => by
    obtain ⟨b', off', h1, h2, h3⟩ := h.at_ (by omega)
    injection h1 with h1; injection h1 with e1 e2
    subst e1 e2
    refine ⟨b, off + k * 9, rfl, h2, fun j x hj => ?_⟩
    rw [List.getElem?_drop] at hj
    have := h3 (k + j) x hj
    rw [show off + (k + j) * 9 = off + k * 9 + j * 9 by omega] at this
    exact this⟩
theorem Recs.none (a : Option Addr) (W : World) : Recs a 0 [] W := ⟨rfl, fun h => by omega⟩

set_option maxHeartbeats 3200000 in
set_option maxRecDepth 100000 in
theorem rnewer_any (x y : Rec) (w : World) (hx : Ok x) (hy : Ok y) :
    Calls Try.prog 12 #[recV x, recV y] w fun e w' => e = .returned (.bool (newer x y)) ∧ Below w.heap.size w w' := by
  have HRET : Hid (∀ t f : Bool, t = f → Ending.returned (Value.bool t) = Ending.returned (Value.bool f)) := fun _ _ h => by rw [h]
  have KX := fun w => rkept_c x w
  have KY := fun w => rkept_c y w
  have PX := fun w => Cd.rput_any (kept x) w hx.kept.fit hx.kept.lo
  have PY := fun w => Cd.rput_any (kept y) w hy.kept.fit hy.kept.lo
  have bx : byt x = putB (kept x) := rfl
  have by_ : byt y = putB (kept y) := rfl
  have LX := byt_len hx.fit
  have LY := byt_len hy.fit
  rw [bx] at LX
  rw [by_] at LY
  have T0 := Lib.hid (Two.start w 23 23 (recL x) (recL y))
  by_cases hr : x.rv = y.rv
  · have HN := newer_eq hr
    rw [bx, by_] at HN
    generalize newer x y = nw at *
    generalize kept x = u at *
    generalize kept y = v at *
    have BE := fun w => behind_any ⟨(putB u).toArray⟩ ⟨(putB v).toArray⟩ (by show (putB u).toArray.size ≤ _; simpa using LX) (by show (putB v).toArray.size ≤ _; simpa using LY) w
    have hz : Op.bytesLess (⟨(putB v).toArray⟩ : ByteArray).data.toList (⟨(putB u).toArray⟩ : ByteArray).data.toList = nw := HN.symm
    rw [hz] at BE
    generalize putB u = bu at *
    generalize putB v = bv at *
    generalize may u = mu at *
    generalize may v = mv at *
    have KX := Lib.hid KX
    have KY := Lib.hid KY
    have PX := Lib.hid PX
    have PY := Lib.hid PY
    have BE := Lib.hid BE
    clear HN hz hx hy bx by_ LX LY
    obtain ⟨x0, x1, x2, x3, x4, x5, x6, x7, x8⟩ := x
    obtain ⟨y0, y1, y2, y3, y4, y5, y6, y7, y8⟩ := y
    obtain rfl : x3 = y3 := hr
    have KX : Hid (∀ w, Calls Try.prog 17 #[.agg #[.int .i64 x0, .int .i64 x1, .int .i64 x2, .int .i64 x3, .string x4, .string x5, .int .i64 x6, .int .i64 x7, .bool x8]] w fun e w' => e = .returned (recV u) ∧ Below w.heap.size w w') := KX.out
    have KY : Hid (∀ w, Calls Try.prog 17 #[.agg #[.int .i64 y0, .int .i64 y1, .int .i64 y2, .int .i64 x3, .string y4, .string y5, .int .i64 y6, .int .i64 y7, .bool y8]] w fun e w' => e = .returned (recV v) ∧ Below w.heap.size w w') := KY.out
    unfold recV
    go_enter Try.func12, Try.ntmps12
    go_wp2_with fail
    refine (KX.out _).mono ?_
    rintro e w1 ⟨rfl, b1⟩
    have T1 := Lib.hid (T0.out.later b1)
    clear b1
    go_wp2_with fail
    refine (PX.out _).mono ?_
    rintro e w2 ⟨rfl, b2⟩
    have T2 := Lib.hid (T1.out.later b2)
    obtain ⟨c0, c1, c2, c3, c4, c5, c6, c7, c8⟩ := T2.out.b.nine
    clear b2
    go_wp2_with fail
    refine (KY.out _).mono ?_
    rintro e w3 ⟨rfl, b3⟩
    have T3 := Lib.hid (T2.out.later b3)
    clear b3 c0 c1 c2 c3 c4 c5 c6 c7 c8
    go_wp2_with fail
    refine (PY.out _).mono ?_
    rintro e w4 ⟨rfl, b4⟩
    have T4 := Lib.hid (T3.out.later b4)
    clear b4
    go_wp2_with fail
    refine (BE.out _).mono ?_
    rintro e w5 ⟨rfl, b5⟩
    have T5 := Lib.hid (T4.out.later b5)
    clear b5
    go_wp2_with fail
    go_ret
    exact ⟨rfl, T5.out.below⟩
  · have HN : newer x y = decide (y.rv < x.rv) := newer_ne hr
    generalize newer x y = nw at *
    have HN := Lib.hid HN
    clear hx hy KX KY PX PY bx by_ LX LY
    obtain ⟨x0, x1, x2, x3, x4, x5, x6, x7, x8⟩ := x
    obtain ⟨y0, y1, y2, y3, y4, y5, y6, y7, y8⟩ := y
    simp only at hr
    unfold recV
    go_enter Try.func12, Try.ntmps12
    go_wp2_with fail
    go_ret
    exact ⟨rfl, T0.out.below⟩
end Go.Proofs.Ytngmcefbljkgaaa.Rk
