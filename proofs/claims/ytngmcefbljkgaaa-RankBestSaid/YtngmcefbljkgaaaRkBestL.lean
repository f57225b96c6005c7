/- The walk of the third law of layer 10: which one is the newest does not depend on their order. -/
import Derived.Test.YtngmcefbljkgaaaRkOwn
import Derived.Deep.CutRange
import Derived.Deep.Cut
import Derived.Lib.AppendZeros
set_option linter.unusedSimpArgs false
namespace Go.Proofs.Ytngmcefbljkgaaa.Rk
open Go.RowKit
open Cd (Rec Fit may putB recB zeroR recV recL Blk)
open Sa (drewN_below)

/-- an append whose outcome is known, in a region that draws -/
theorem step_append_runI {P : Program} {ops : Array Oper} {o : Oper} {a : Go.Act} {w : World} {K : Go.Act → World → Prop} {Q : Exit → Go.Act → World → Prop} {E : Prop} (hg : o.guard = none) (s x : Operand) (t tn : TypeId)
    (hop : o.op = .call { callee := .builtin .append, args := #[s, x], argTypes := #[t, tn] }) (vs vx : Value) (hs : a.eval s = vs) (hx : a.eval x = vx) (v' : Value) (w' : World)
    (hr : (Builtin.append_ #[t, tn] o.type #[vs, vx]).run P w = .ok v' w') (hK : K (a.put o.dst v') w') : if Region.wanted o (yielded ops a.tmps) = true then Oper.wp P o a w K Q else E := by
  rw [if_pos (by simp [Region.wanted, hg])]
  exact Lib.wp_append_run w s x t tn hop vs vx hs hx v' w' hr hK
/-- an append whose outcome is known -/
theorem step_app {w w' : World} {ops : Array Oper} {rest : List Oper} {o : Oper} {a : Act} {Q : Exit → Act → World → Prop} {v src v' : Value}
    (hg : o.guard = none) (s x : Operand) (hop : o.op = Op.call { callee := Callee.builtin Builtin.append, args := #[s, x], argTypes := #[24, 24] }) (hty : o.type = 24)
    (hs : a.eval s = v) (hx : a.eval x = src) (hr : (Builtin.append_ #[24, 24] 24 #[v, src]).run Try.prog w = .ok v' w')
    (h : wpList Try.prog ops Q rest (a.put o.dst v') w') : wpList Try.prog ops Q (o :: rest) a w := by
  refine wpList_plain hg fun K hK' => ?_
  unfold Oper.wp
  simp [execOp, hop, hty, resolve, invoke, builtin, hs, hx, hr, Result.andThen]
  exact hK' _ _ h
theorem At9.low {K : Nat} {W W' : World} {b o : Nat} {x : Rec} (h : At9 W b o x) (hb : b < K) (hl : Below K W W') : At9 W' b o x := by
  obtain ⟨h0, h1, h2, h3, h4, h5, h6, h7, h8⟩ := h
  exact ⟨(hl.cell (p := ⟨b, o, none⟩) hb).trans h0, (hl.cell (p := ⟨b, o + 1, none⟩) hb).trans h1, (hl.cell (p := ⟨b, o + 2, none⟩) hb).trans h2, (hl.cell (p := ⟨b, o + 3, none⟩) hb).trans h3, (hl.cell (p := ⟨b, o + 4, none⟩) hb).trans h4, (hl.cell (p := ⟨b, o + 5, none⟩) hb).trans h5, (hl.cell (p := ⟨b, o + 6, none⟩) hb).trans h6, (hl.cell (p := ⟨b, o + 7, none⟩) hb).trans h7, (hl.cell (p := ⟨b, o + 8, none⟩) hb).trans h8⟩
/-- three blocks of the same cells, and what was there before -/
structure S3 (w W : World) (X Y Z : Nat) (l : List Value) : Prop where
  x : Blk W X l
  y : Blk W Y l
  z : Blk W Z l
  below : Below w.heap.size w W
theorem S3.later {w W W' : World} {X Y Z : Nat} {l : List Value} (h : S3 w W X Y Z l) (hb : Below W.heap.size W W') : S3 w W' X Y Z l :=
  ⟨h.x.later hb, h.y.later hb, h.z.later hb, h.below.trans (hb.mono h.below.size)⟩
theorem On.alloc {w W : World} {X : Nat} {l : List Value} (h : On w W X l) (o : Obj) : On w (W.alloc o) X l := h.later ((Below.refl _ _).alloc (Nat.le_refl _) o)
theorem On.new {w W : World} (h : Below w.heap.size w W) (l : List Value) (ty : TypeId) : On w (W.alloc (.cells ⟨l⟩ ty)) W.heap.size l := ⟨Blk.start W ty l, h.alloc h.size _⟩
theorem On.new' {w W : World} {Z : Nat} (h : Below w.heap.size w W) (l : List Value) (ty : TypeId) (hz : W.heap.size = Z) : On w (W.alloc (.cells ⟨l⟩ ty)) Z l := by subst hz; exact On.new h l ty
theorem On.ne {w W : World} {X Z : Nat} {l : List Value} (h : On w W X l) (hz : W.heap.size = Z) : X ≠ Z := by have := h.b.lt; omega
theorem On.le {w W : World} {X Z : Nat} {l : List Value} (h : On w W X l) (hz : W.heap.size = Z) : w.heap.size ≤ Z := by have := h.below.size; omega
theorem On.grown {w W W' : World} {X : Nat} {l : List Value} {row : Option Nat} (h : On w W X l) (hb : Below w.heap.size W W') (g : W.grownBy W' row) (hne : some X ≠ row) : On w W' X l :=
  ⟨⟨Nat.lt_of_lt_of_le h.b.lt hb.size, fun i v e => by
      have := h.b.cells i v e
      simp only [World.cell?] at this ⊢
      rw [g.block X h.b.lt hne]; exact this, fun i v e => by
      have := h.b.free i v e
      simp only [World.frozen?] at this ⊢
      rw [g.block X h.b.lt hne]; exact this⟩, h.below.trans hb⟩
theorem On.fin {w W : World} {X Y Z : Nat} {l : List Value} {t0 t1 t2 t3 t4 t5 t6 t7 t8 : Value} (hx : On w W X l) (hy : On w W Y l) (hz : On w W Z [t0, t1, t2, t3, t4, t5, t6, t7, t8]) (v0 v1 v2 v3 : Int) (v4 v5 : ByteArray) (v6 v7 : Int) (v8 : Bool) (hl : l = [.int .i64 v0, .int .i64 v1, .int .i64 v2, .int .i64 v3, .string v4, .string v5, .int .i64 v6, .int .i64 v7, .bool v8]) (nx : X ≠ Z) (ny : Y ≠ Z) (hw : w.heap.size ≤ Z) :
    S3 w (Cd.st9 W Z (.int .i64 v0) (.int .i64 v1) (.int .i64 v2) (.int .i64 v3) (.string v4) (.string v5) (.int .i64 v6) (.int .i64 v7) (.bool v8)) X Y Z [.int .i64 v0, .int .i64 v1, .int .i64 v2, .int .i64 v3, .string v4, .string v5, .int .i64 v6, .int .i64 v7, .bool v8] := by
  subst hl
  exact ⟨hx.b.but (Cd.but_own9 _ _ _ _ _ _ _ _ _ _ _) nx, hy.b.but (Cd.but_own9 _ _ _ _ _ _ _ _ _ _ _) ny, hz.b.setNine _ _ _ _ _ _ _ _ _, Cd.below_new9 hz.below hw _ _ _ _ _ _ _ _ _⟩
theorem own_one {w W : World} (h : Below w.heap.size w W) (p : Rec) : (W.alloc (.cells ⟨rcs [p]⟩ 23)).ownsRow w.heap.size 23 9 (.slice (some ⟨W.heap.size, 0, none⟩) 1 1) 1 (rcs [p]) :=
  World.ownsRow_lit W ⟨rcs [p]⟩ 1 h.size (by unfold maxLen; omega) rfl
theorem grown_of {W W' : World} (h : Below W.heap.size W W') : W.grownBy W' none := ⟨h.os, h.tape, h.output, h.size, fun k hk _ => h.block k hk⟩
theorem own_later {w w' : World} {base : Nat} {e : TypeId} {size : Nat} {v : Value} {n : Nat} {xs : List Value} (h : w.ownsRow base e size v n xs) (hb : Below w.heap.size w w') : w'.ownsRow base e size v n xs := by
  refine h.kept (row := none) (grown_of hb) ?_
  cases h : v.ownBlock with
  | none => exact .inl rfl
  | some g => exact .inr (by simp)
/-- one record laid behind a row of the call's own -/
theorem app_one (base n : Nat) (v : Value) (xs : List Rec) (y : Rec) (w : World) (hown : w.ownsRow base 23 9 v n (rcs xs)) (hl : n ≤ 900) (hb : base ≤ w.heap.size) :
    ∃ v' w', (Builtin.append_ #[24, 24] 24 #[v, .slice (some ⟨w.heap.size, 0, none⟩) 1 1]).run Try.prog (w.alloc (.cells #[.int .i64 y.tr, .int .i64 y.id, .int .i64 y.pa, .int .i64 y.rv, .string y.sv, .string y.op, .int .i64 y.st, .int .i64 y.du, .bool y.gn] 23)) = .ok v' w' ∧
      w'.ownsRow base 23 9 v' (n + 1) (rcs (xs ++ [y])) ∧ Below base w w' := by
  obtain ⟨v', w', h1, h2, h3, _⟩ := app_recs base n v xs [y] (some ⟨w.heap.size, 0, none⟩) 1 1 _ (hown.alloc (.cells ⟨rcs [y]⟩ 23)) (recs_new w [y] 23) ⟨_, _, rfl⟩ (by omega) (by simp; omega)
  exact ⟨v', w', h1, h2, ((Below.refl base w).alloc hb _).trans h3⟩

set_option maxHeartbeats 12800000 in
set_option maxRecDepth 100000 in
theorem bestl_any (a : Option Addr) (len cap : Nat) (xs : List Rec) (cut : Int) (w : World) (hr : Recs a len xs w) (hc : len ≤ cap) (hok : ∀ z ∈ xs, W64 z) (h0 : 0 ≤ cut) (h255 : cut ≤ 255) :
    Calls Try.prog 5 #[.slice a len cap, .int .u8 cut] w fun e w' => e = .returned (.bool true) ∧ Below w.heap.size w w' := by
  have FE := Lib.hid (fun w h => few_any a len cap xs w h)
  have HR := Lib.hid hr
  have HOK := Lib.hid hok
  clear hr hok
  go_enter Try.func5, Try.ntmps5
  go_wp2_with fail
  refine (FE.out _ HR.out).mono ?_
  rintro e w1 ⟨⟨f, rfl, hf⟩, b1⟩
  have B1 := Lib.hid b1
  have HF := Lib.hid hf
  clear b1 hf
  cases f
  · go_wp2_with fail
    refine (awake_any _).mono ?_
    rintro e w9 ⟨rfl, b9⟩
    have B9 := Lib.hid (B1.out.trans (b9.mono B1.out.size))
    clear b9
    go_wp2_with fail
    go_ret
    exact ⟨rfl, B9.out⟩
  have HS := Lib.hid (HF.out rfl)
  by_cases hz : len = 0
  · have hz' : ((len : Int) == 0) = true := by simp [hz]
    go_wp2_with fail
    refine (awake_any _).mono ?_
    rintro e w9 ⟨rfl, b9⟩
    have B9 := Lib.hid (B1.out.trans (b9.mono B1.out.size))
    clear b9
    go_wp2_with fail
    go_ret
    exact ⟨rfl, B9.out⟩
  have hz' : ((len : Int) == 0) = false := by simp; omega
  have hlen := HR.out.len_is
  have hl12 := HS.out.1
  obtain ⟨x0, hcons⟩ : ∃ x0, ∃ l, xs = x0 :: l := by
    cases xs with
    | nil => exact absurd hlen (by simp; omega)
    | cons x0 l => exact ⟨x0, l, rfl⟩
  have HCONS := Lib.hid hcons
  have HX0 : Hid (xs[0]? = some x0) := by obtain ⟨l, h⟩ := hcons; show _ = _; rw [h]; rfl
  have HOKS : Hid (∀ z ∈ xs, Fit z) := fun z hz => ((HOK.out z hz).ok (HS.out.2 z hz)).fit
  obtain ⟨b, off, rfl, hb, hcell⟩ := HR.out.at_ (by omega)
  have HC := Lib.hid hcell
  rw [hlen] at hl12
  have HLEN := Lib.hid hlen
  have hlen1 : 1 ≤ len := by omega
  clear hcell hz hlen hcons
  go_wp2_with fail
  go_loopw [5, 6] (fun v iv wr => ∃ k : Nat, k ≤ len ∧ ∃ z : Int, z = (k : Int) - 1 ∧ iv = .int .i64 z ∧ ∃ vb, vb = v ∧ Hid (∀ y ∈ xs.drop k, may y = 0) ∧ Hid (wr.ownsRow w.heap.size 23 9 vb ((len - k) * 2) (rcs (bk x0 (xs.drop k)))) ∧ Hid (Below w.heap.size w wr)) (fun _ iv _ => (intOf iv + 1).toNat)
  case atStart =>
    refine ⟨len, Nat.le_refl _, _, rfl, rfl, _, rfl, ?_, ?_, B1.out⟩
    · intro y hy
      rw [List.drop_eq_nil_of_le (by have := HLEN.out; omega)] at hy; cases hy
    · show World.ownsRow _ _ _ _ _ _ _
      rw [List.drop_eq_nil_of_le (by have := HLEN.out; omega), Nat.sub_self]
      exact World.ownsRow_nil _ _ _ _
  case round =>
    obtain ⟨k, hk, z, hz, rfl, vb, rfl, HM, HO, HB⟩ := hrel
    rcases k with _ | j
    · obtain rfl : z = -1 := by omega
      clear hz
      have hxs : xs ≠ [] := by obtain ⟨l, h⟩ := HCONS.out; rw [h]; simp
      have hgood : Good xs := fun y hy => ⟨HOKS.out y hy, HM.out y (by rw [List.drop_zero]; exact hy)⟩
      have ho := HO.out
      rw [List.drop_zero, Nat.sub_zero] at ho
      have hbb : bestR (bk x0 xs) = bestR xs ∧ Good (bk x0 xs) ∧ bk x0 xs ≠ [] ∧ (bk x0 xs).length = len * 2 := by
        obtain ⟨l, h⟩ := HCONS.out
        have hl := bk_len x0 xs
        rw [HLEN.out] at hl
        rw [h] at hgood ⊢
        exact ⟨bk_best hgood, bk_good hgood, fun g => by rw [← h, ← List.length_eq_zero_iff] at g; omega, by rw [← h]; exact hl⟩
      obtain ⟨hb1, hb2, hb3, hb4⟩ := hbb
      obtain ⟨g, cb, rfl, RB, hcb, hgb⟩ := recs_own hb4 (by omega) ho
      obtain ⟨kk, hkk⟩ : ∃ kk : Nat, cut.toNat % len = kk := ⟨_, rfl⟩
      have hkl : kk < len := by rw [← hkk]; exact Nat.mod_lt _ (by omega)
      have hmod : cut.tmod (len : Int) = (kk : Int) := by
        obtain ⟨c, rfl⟩ : ∃ c : Nat, cut = (c : Int) := ⟨cut.toNat, by omega⟩
        rw [← hkk, Int.toNat_natCast]
        rfl
      have hcc : bestR (bestR (xs.take (kk + 1)) :: xs.drop (kk + 1)) = bestR xs ∧ Good (bestR (xs.take (kk + 1)) :: xs.drop (kk + 1)) ∧ xs.take (kk + 1) ≠ [] := by
        obtain ⟨l, h⟩ := HCONS.out
        rw [h] at hgood ⊢
        exact ⟨cut_best kk hgood, cut_good kk hgood, take_ne kk⟩
      obtain ⟨hc1, hc2, hc3⟩ := hcc
      obtain ⟨hin, hno⟩ := best_in hxs
      have hbf := best_fit HOKS.out hxs
      have BL := fun W h => best_any (some ⟨b, off, none⟩) len cap xs W h hc (by omega) HOKS.out
      have BB := fun W h => best_any (some ⟨g, 0, none⟩) (len * 2) cb (bk x0 xs) W h hcb (by omega) (fun z hz => (hb2 z hz).1)
      have BP := fun W h => best_any (some ⟨b, off, none⟩) (kk + 1) cap (xs.take (kk + 1)) W h (by omega) (by omega) (fun z hz => HOKS.out z (List.mem_of_mem_take hz))
      have BZ := fun W A c h hq => best_any A (len - kk) c (bestR (xs.take (kk + 1)) :: xs.drop (kk + 1)) W h hq (by omega) (fun z hz => (hc2 z hz).1)
      rw [is_ne hxs] at BL
      rw [hb1, is_ne hb3] at BB
      rw [is_ne hc3] at BP
      rw [hc1, is_ne (List.cons_ne_nil _ _)] at BZ
      have HRP := Lib.hid (HR.out.take (kk + 1) (by omega))
      have HRD := Lib.hid (HR.out.drop (kk + 1))
      have HRB := Lib.hid RB
      generalize hbx : bk x0 xs = bx at *
      generalize hp : bestR (xs.take (kk + 1)) = p at *
      generalize hu : bestR xs = u at *
      have HIN := Lib.hid hin
      have HNO := Lib.hid hno
      have HUF := Lib.hid hbf
      have HU := Lib.hid hu
      clear hin hno hbf hc1 hc2 hc3 hb1 hb2 hb3 hb4 hgood ho hp hu hxs hkk RB
      have hq1 : ¬ cap = 0 := by omega
      have hq2 : kk + 1 ≤ cap := by omega
      obtain ⟨m0, m1, m2, m3, m4, m5, m6, m7, m8⟩ := u
      obtain ⟨p0, p1, p2, p3, p4, p5, p6, p7, p8⟩ := p
      simp only [recV] at BL BB BP BZ
      have BL := Lib.hid BL
      have BB := Lib.hid BB
      have BP := Lib.hid BP
      have BZ := Lib.hid BZ
      go_wp2_with fail
      refine (BL.out _ (HR.out.later HB.out)).mono ?_
      rintro e w5 ⟨rfl, b5⟩
      have B5 := Lib.hid (HB.out.trans (b5.mono HB.out.size))
      have k6 : Below w5.heap.size w5 (w5.alloc (.cells #[.int .i64 m0, .int .i64 m1, .int .i64 m2, .int .i64 m3, .string m4, .string m5, .int .i64 m6, .int .i64 m7, .bool m8] 23)) := (Below.refl _ _).alloc (Nat.le_refl _) _
      have HRB6 := Lib.hid ((HRB.out.later b5).later k6)
      have OX6 : Hid (On w (w5.alloc (.cells #[.int .i64 m0, .int .i64 m1, .int .i64 m2, .int .i64 m3, .string m4, .string m5, .int .i64 m6, .int .i64 m7, .bool m8] 23)) w5.heap.size [.int .i64 m0, .int .i64 m1, .int .i64 m2, .int .i64 m3, .string m4, .string m5, .int .i64 m6, .int .i64 m7, .bool m8]) := ⟨Blk.start w5 23 [.int .i64 m0, .int .i64 m1, .int .i64 m2, .int .i64 m3, .string m4, .string m5, .int .i64 m6, .int .i64 m7, .bool m8], B5.out.trans (k6.mono B5.out.size)⟩
      clear b5 k6
      go_wp2_with fail
      generalize w5.heap.size = X at *
      generalize World.alloc w5 _ = w6 at *
      refine (BB.out _ HRB6.out).mono ?_
      rintro e w7 ⟨rfl, b7⟩
      have B7 := Lib.hid (OX6.out.below.trans (b7.mono OX6.out.below.size))
      have k8 : Below w7.heap.size w7 (w7.alloc (.cells #[.int .i64 m0, .int .i64 m1, .int .i64 m2, .int .i64 m3, .string m4, .string m5, .int .i64 m6, .int .i64 m7, .bool m8] 23)) := (Below.refl _ _).alloc (Nat.le_refl _) _
      have OX8 := Lib.hid ((OX6.out.later b7).later k8)
      have OY8 : Hid (On w (w7.alloc (.cells #[.int .i64 m0, .int .i64 m1, .int .i64 m2, .int .i64 m3, .string m4, .string m5, .int .i64 m6, .int .i64 m7, .bool m8] 23)) w7.heap.size [.int .i64 m0, .int .i64 m1, .int .i64 m2, .int .i64 m3, .string m4, .string m5, .int .i64 m6, .int .i64 m7, .bool m8]) := ⟨Blk.start w7 23 [.int .i64 m0, .int .i64 m1, .int .i64 m2, .int .i64 m3, .string m4, .string m5, .int .i64 m6, .int .i64 m7, .bool m8], B7.out.trans (k8.mono B7.out.size)⟩
      clear b7 k8
      go_wp2_with fail
      generalize w7.heap.size = Y at *
      generalize World.alloc w7 _ = w8 at *
      refine (BP.out _ (HRP.out.later OX8.out.below)).mono ?_
      rintro e w9 ⟨rfl, b9⟩
      have B9 := Lib.hid (OX8.out.below.trans (b9.mono OX8.out.below.size))
      have k10 : Below w9.heap.size w9 (w9.alloc (.cells #[.int .i64 p0, .int .i64 p1, .int .i64 p2, .int .i64 p3, .string p4, .string p5, .int .i64 p6, .int .i64 p7, .bool p8] 23)) := (Below.refl _ _).alloc (Nat.le_refl _) _
      have OX10 := Lib.hid ((OX8.out.later b9).later k10)
      have OY10 := Lib.hid ((OY8.out.later b9).later k10)
      have OP10 : Hid (On w (w9.alloc (.cells #[.int .i64 p0, .int .i64 p1, .int .i64 p2, .int .i64 p3, .string p4, .string p5, .int .i64 p6, .int .i64 p7, .bool p8] 23)) w9.heap.size [.int .i64 p0, .int .i64 p1, .int .i64 p2, .int .i64 p3, .string p4, .string p5, .int .i64 p6, .int .i64 p7, .bool p8]) := ⟨Blk.start w9 23 [.int .i64 p0, .int .i64 p1, .int .i64 p2, .int .i64 p3, .string p4, .string p5, .int .i64 p6, .int .i64 p7, .bool p8], B9.out.trans (k10.mono B9.out.size)⟩
      clear b9 k10
      obtain ⟨sa, hsa⟩ : ∃ sa : Option Addr, (if cap = kk + 1 then some ⟨b, off, none⟩ else some ⟨b, off + (kk + 1) * 9, none⟩) = sa := ⟨_, rfl⟩
      have SA := Lib.hid hsa
      have SA1 : Hid (cap = kk + 1 → some (⟨b, off, none⟩ : Addr) = sa) := fun h => by rw [← hsa, if_pos h]
      have SA2 : Hid (¬ cap = kk + 1 → some (⟨b, off + (kk + 1) * 9, none⟩ : Addr) = sa) := fun h => by rw [← hsa, if_neg h]
      have SAA : Hid (∃ b' o', sa = some ⟨b', o', none⟩) := by
        show ∃ b' o', _
        rw [← hsa]
        split
        · exact ⟨_, _, rfl⟩
        · exact ⟨_, _, rfl⟩
      have HSA : Hid (∀ {W : World}, Below w.heap.size w W → Recs sa (len - (kk + 1)) (xs.drop (kk + 1)) W) := by
        intro W hb
        rw [← hsa]
        split
        · have e1 : len - (kk + 1) = 0 := by omega
          have e2 : xs.drop (kk + 1) = [] := List.drop_eq_nil_of_le (by have := HLEN.out; omega)
          rw [e1, e2]
          exact Recs.none _ _
        · exact HRD.out.later hb
      have HN1 : Hid (1 + (len - (kk + 1)) = len - kk) := by show _ = _; omega
      have HLZ : Hid ((⟨p0, p1, p2, p3, p4, p5, p6, p7, p8⟩ :: xs.drop (kk + 1)).length = len - kk) := by
        show _ = _
        rw [List.length_cons, List.length_drop, HLEN.out]; omega
      have WR : Hid (IntKind.i64.wrap ((kk : Int) + 1) = (kk : Int) + 1) := by
        show _ = _
        simp [IntKind.wrap, IntKind.signed, IntKind.bits]
        omega
      have WN : Hid (((kk : Int) + 1).toNat = kk + 1) := by show _ = _; omega
      clear hsa
      go_upto_region 15 with fail
      generalize w9.heap.size = P at *
      generalize World.alloc w9 _ = w10 at *
      go_cut [14, 15] from 77 to 87 (fun z d wx => d = .bool true ∧ ∃ Z, z = .pointer (some ⟨Z, 0, none⟩) ∧ Hid (S3 w wx X Y Z [.int .i64 m0, .int .i64 m1, .int .i64 m2, .int .i64 m3, .string m4, .string m5, .int .i64 m6, .int .i64 m7, .bool m8]))
      case first =>
        have hwr := WR.out
        have hwn := WN.out
        have hg1 : (0 : Int) ≤ (kk : Int) + 1 := by omega
        have hg2 : (kk : Int) + 1 ≤ (len : Int) := by omega
        have HXL := Lib.hid OX10.out.b.lt
        have HYL := Lib.hid OY10.out.b.lt
        have HPL := Lib.hid OP10.out.b.lt
        have OX0 := Lib.hid (OX10.out.later (Below.refl _ _).drew)
        have OY0 := Lib.hid (OY10.out.later (Below.refl _ _).drew)
        have OP0 := Lib.hid (OP10.out.later (Below.refl _ _).drew)
        refine wp_region_held_drew (S := fun w' => w'.cell? ⟨P, 0, none⟩ = some (.int .i64 p0) ∧ w'.cell? ⟨P, 1, none⟩ = some (.int .i64 p1) ∧ w'.cell? ⟨P, 2, none⟩ = some (.int .i64 p2) ∧ w'.cell? ⟨P, 3, none⟩ = some (.int .i64 p3) ∧ w'.cell? ⟨P, 4, none⟩ = some (.string p4) ∧ w'.cell? ⟨P, 5, none⟩ = some (.string p5) ∧ w'.cell? ⟨P, 6, none⟩ = some (.int .i64 p6) ∧ w'.cell? ⟨P, 7, none⟩ = some (.int .i64 p7) ∧ w'.cell? ⟨P, 8, none⟩ = some (.bool p8)) (by kernel_rfl) (OP0.out.b.nine) (fun hHeld => ?_)
        refine wpAnyH_take (i := 0) (oi := { dst := some 78, op := Op.load 23 (Operand.tmp 12), type := 23, pos := "law.go:63", after := #[], guard := none }) (v := ?_) rfl (by kernel_rfl) (by kernel_rfl) (by kernel_rfl) (fun _ _ _ h => h) (Or.inl ⟨by rfl, ?_⟩) (by assumption) ?_; rotate_left; (focus (intro w hSw; (try dsimp only at hSw); go_simp; all_goals (with_reducible rfl)))
        try simp only [Act.put, List.setIfInBounds_toArray, List.set_cons_zero, List.set_cons_succ]
        refine wpAnyH_take (i := 2) (oi := { dst := some 80, op := Op.move (Operand.tmp 0), type := 24, pos := "law.go:63", after := #[], guard := none }) (v := ?_) rfl (by kernel_rfl) (by kernel_rfl) (by kernel_rfl) (fun _ _ _ h => h) (Or.inl ⟨by rfl, ?_⟩) (by assumption) ?_; rotate_left; (focus (intro w hSw; (try dsimp only at hSw); go_simp; all_goals (with_reducible rfl)))
        try simp only [Act.put, List.setIfInBounds_toArray, List.set_cons_zero, List.set_cons_succ]
        refine wpAnyH_take (i := 3) (oi := { dst := some 81, op := Op.move (Operand.tmp 7), type := 3, pos := "law.go:63", after := #[], guard := none }) (v := ?_) rfl (by kernel_rfl) (by kernel_rfl) (by kernel_rfl) (fun _ _ _ h => h) (Or.inl ⟨by rfl, ?_⟩) (by assumption) ?_; rotate_left; (focus (intro w hSw; (try dsimp only at hSw); go_simp; all_goals (with_reducible rfl)))
        try simp only [Act.put, List.setIfInBounds_toArray, List.set_cons_zero, List.set_cons_succ]
        refine wpAnyH_take (i := 4) (oi := { dst := some 82, op := Op.binOp BinOp.add 3 (Operand.tmp 81) (Operand.const (Value.int IntKind.i64 1)) 3, type := 3, pos := "law.go:63", after := #[{ on := 3, ground := Ground.data }], guard := none }) (v := ?_) rfl (by kernel_rfl) (by kernel_rfl) (by kernel_rfl) (fun _ _ _ h => h) (Or.inl ⟨by rfl, ?_⟩) (by assumption) ?_; rotate_left; (focus (intro w hSw; (try dsimp only at hSw); go_simp; all_goals (with_reducible rfl)))
        try simp only [Act.put, List.setIfInBounds_toArray, List.set_cons_zero, List.set_cons_succ]
        refine wpAnyH_take (i := 5) (oi := { dst := some 83, op := Op.slice 24 (Operand.tmp 80) (some (Operand.tmp 82)) none none, type := 24, pos := "law.go:63", after := #[{ on := 2, ground := Ground.data }, { on := 4, ground := Ground.data }], guard := none }) (v := Value.slice sa (len - (kk + 1)) (cap - (kk + 1))) rfl (by kernel_rfl) (by kernel_rfl) (by kernel_rfl) (fun _ _ _ h => h) (Or.inl ⟨by rfl, ?_⟩) (by assumption) ?_; focus (intro w hSw; (try dsimp only at hSw); go_simp; first | (rw [SA.out]; done) | (rw [SA.out]))
        try simp only [Act.put, List.setIfInBounds_toArray, List.set_cons_zero, List.set_cons_succ]
        refine wpAnyH_ready (rs := [1, 11]) (by kernel_rfl) (by simp) ?_
        refine AllReadyH.cons (o := { dst := some 79, op := Op.buildSlice 24 1 #[(0, Operand.tmp 78)], type := 24, pos := "law.go:63", after := #[{ on := 0, ground := Ground.data }], guard := none }) rfl (fun K hK => ?_) (AllReadyH.cons (o := { dst := some 14, op := Op.alloc 23, type := 0, pos := "law.go:63", after := #[], guard := none }) rfl (fun K hK => ?_) AllReadyH.nil)
        · go_simp
          have OX1 := Lib.hid (OX0.out.alloc (.cells ⟨rcs [⟨p0, p1, p2, p3, p4, p5, p6, p7, p8⟩]⟩ 23))
          have OY1 := Lib.hid (OY0.out.alloc (.cells ⟨rcs [⟨p0, p1, p2, p3, p4, p5, p6, p7, p8⟩]⟩ 23))
          have OP1 := Lib.hid (OP0.out.alloc (.cells ⟨rcs [⟨p0, p1, p2, p3, p4, p5, p6, p7, p8⟩]⟩ 23))
          have RS1 := Lib.hid (own_one OX0.out.below ⟨p0, p1, p2, p3, p4, p5, p6, p7, p8⟩)
          refine hK.out _ _ ?_ (fun hHeld => ?_)
          · exact OP1.out.b.nine
          clear hK K
          try simp only [Act.put, List.setIfInBounds_toArray, List.set_cons_zero, List.set_cons_succ]
          refine wpAnyH_ready (rs := [6, 11]) (by kernel_rfl) (by simp) ?_
          refine AllReadyH.cons (o := { dst := some 84, op := Op.call { callee := Callee.builtin Builtin.append, args := #[Operand.tmp 79, Operand.tmp 83], argTypes := #[24, 24] }, type := 24, pos := "law.go:63", after := #[{ on := 1, ground := Ground.data }, { on := 5, ground := Ground.data }], guard := none }) rfl (fun K hK => ?_) (AllReadyH.cons (o := { dst := some 14, op := Op.alloc 23, type := 0, pos := "law.go:63", after := #[], guard := none }) rfl (fun K hK => ?_) AllReadyH.nil)
          · obtain ⟨v5, w11, r5, o5, b5, g5⟩ := app_recs w.heap.size 1 _ [⟨p0, p1, p2, p3, p4, p5, p6, p7, p8⟩] _ sa (len - (kk + 1)) (cap - (kk + 1)) _ RS1.out (HSA.out OX1.out.below) SAA.out (by omega) OX1.out.below.size
            have OX2 := Lib.hid (OX1.out.grown b5 g5 (by intro h; have := HXL.out; simp [Value.ownBlock] at h; omega))
            have OY2 := Lib.hid (OY1.out.grown b5 g5 (by intro h; have := HYL.out; simp [Value.ownBlock] at h; omega))
            have OP2 := Lib.hid (OP1.out.grown b5 g5 (by intro h; have := HPL.out; simp [Value.ownBlock] at h; omega))
            rw [HN1.out] at o5
            obtain ⟨g6, c6, rfl, R5, hc6, _⟩ := recs_own HLZ.out (by omega) o5
            have RQ2 := Lib.hid R5
            have HC6 := Lib.hid hc6
            refine step_append_runI rfl (.tmp 79) (.tmp 83) 24 24 rfl _ _ (by simp [Go.Act.eval, Go.Act.put]) (by simp [Go.Act.eval, Go.Act.put]) _ _ r5 ?_
            clear r5 o5 b5 g5 R5
            refine hK.out _ _ ?_ (fun hHeld => ?_)
            · exact OP2.out.b.nine
            clear hK K
            try simp only [Act.put, List.setIfInBounds_toArray, List.set_cons_zero, List.set_cons_succ]
            refine wpAnyH_ready (rs := [7, 11]) (by kernel_rfl) (by simp) ?_
            refine AllReadyH.cons (o := { dst := some 85, op := Op.call { callee := Callee.value (Operand.func 9), args := #[Operand.tmp 84], argTypes := #[24] }, type := 28, pos := "law.go:63", after := #[{ on := 6, ground := Ground.data }, { on := 6, ground := Ground.chain }], guard := none }) rfl (fun K hK => ?_) (AllReadyH.cons (o := { dst := some 14, op := Op.alloc 23, type := 0, pos := "law.go:63", after := #[], guard := none }) rfl (fun K hK => ?_) AllReadyH.nil)
            · go_simp
              refine (BZ.out _ _ _ RQ2.out HC6.out).mono ?_
              rintro e w12 ⟨rfl, b6⟩
              have OX3 := Lib.hid (OX2.out.later b6)
              have OY3 := Lib.hid (OY2.out.later b6)
              have OP3 := Lib.hid (OP2.out.later b6)
              clear b6
              go_wp2_with fail
              refine hK.out _ _ ?_ (fun hHeld => ?_)
              · exact OP3.out.b.nine
              clear hK K
              try simp only [Act.put, List.setIfInBounds_toArray, List.set_cons_zero, List.set_cons_succ]
              refine wpAnyH_take (i := 8) (oi := { dst := some 77, op := Op.move (Operand.tmp 85), type := 28, pos := "law.go:63", after := #[{ on := 7, ground := Ground.data }], guard := none }) (v := ?_) rfl (by kernel_rfl) (by kernel_rfl) (by kernel_rfl) (fun _ _ _ h => h) (Or.inl ⟨by rfl, ?_⟩) (by assumption) ?_; rotate_left; (focus (intro w hSw; (try dsimp only at hSw); go_simp; all_goals (with_reducible rfl)))
              try simp only [Act.put, List.setIfInBounds_toArray, List.set_cons_zero, List.set_cons_succ]
              refine wpAnyH_take (i := 9) (oi := { dst := some 86, op := Op.extract (Operand.tmp 77) 0, type := 23, pos := "law.go:63", after := #[{ on := 8, ground := Ground.data }], guard := none }) (v := ?_) rfl (by kernel_rfl) (by kernel_rfl) (by kernel_rfl) (fun _ _ _ h => h) (Or.inl ⟨by rfl, ?_⟩) (by assumption) ?_; rotate_left; (focus (intro w hSw; (try dsimp only at hSw); go_simp; all_goals (with_reducible rfl)))
              try simp only [Act.put, List.setIfInBounds_toArray, List.set_cons_zero, List.set_cons_succ]
              refine wpAnyH_take (i := 10) (oi := { dst := some 87, op := Op.extract (Operand.tmp 77) 1, type := 4, pos := "law.go:63", after := #[{ on := 8, ground := Ground.data }, { on := 12, ground := Ground.gcOnly Departure.lateStores }], guard := none }) (v := ?_) rfl (by kernel_rfl) (by kernel_rfl) (by kernel_rfl) (fun _ _ _ h => h) (Or.inl ⟨by rfl, ?_⟩) (by assumption) ?_; rotate_left; (focus (intro w hSw; (try dsimp only at hSw); go_simp; all_goals (with_reducible rfl)))
              try simp only [Act.put, List.setIfInBounds_toArray, List.set_cons_zero, List.set_cons_succ]
              refine wpAnyH_ready (rs := [11]) (by kernel_rfl) (by simp) ?_
              refine AllReadyH.cons (o := { dst := some 14, op := Op.alloc 23, type := 0, pos := "law.go:63", after := #[], guard := none }) rfl (fun K hK => ?_) AllReadyH.nil
              go_simp
              have OX4 := Lib.hid (OX3.out.alloc (.cells ⟨recL zeroR⟩ 23))
              have OY4 := Lib.hid (OY3.out.alloc (.cells ⟨recL zeroR⟩ 23))
              have OP4 := Lib.hid (OP3.out.alloc (.cells ⟨recL zeroR⟩ 23))
              have OZ4 := Lib.hid (On.new' (Z := w12.heap.size) OX3.out.below (recL zeroR) 23 (by first | rfl | simp))
              have ZX := Lib.hid (OX3.out.ne (Z := w12.heap.size) (by first | rfl | simp))
              have ZY := Lib.hid (OY3.out.ne (Z := w12.heap.size) (by first | rfl | simp))
              have ZP := Lib.hid (OP3.out.ne (Z := w12.heap.size) (by first | rfl | simp))
              have ZW := Lib.hid (OX3.out.le (Z := w12.heap.size) (by first | rfl | simp))
              refine hK.out _ _ ?_ (fun hHeld => ?_)
              · exact OP4.out.b.nine
              clear hK K
              try simp only [Act.put, List.setIfInBounds_toArray, List.set_cons_zero, List.set_cons_succ]
              refine wpAnyH_ready (rs := [12]) (by kernel_rfl) (by simp) ?_
              refine AllReadyH.cons (o := { dst := none, op := Op.store 23 (Operand.tmp 14) (Operand.tmp 86), type := 0, pos := "law.go:63", after := #[{ on := 11, ground := Ground.data }, { on := 9, ground := Ground.data }, { on := 7, ground := Ground.chain }, { on := 0, ground := Ground.phase }, { on := 1, ground := Ground.phase }, { on := 2, ground := Ground.phase }, { on := 3, ground := Ground.phase }, { on := 4, ground := Ground.phase }, { on := 5, ground := Ground.phase }, { on := 6, ground := Ground.phase }, { on := 7, ground := Ground.phase }, { on := 8, ground := Ground.phase }, { on := 9, ground := Ground.phase }, { on := 10, ground := Ground.textOnly Departure.lateStores }, { on := 11, ground := Ground.phase }], guard := none }) rfl (fun K hK => ?_) AllReadyH.nil
              have HFIN := Lib.hid (S3.mk (OX3.out.alloc (.cells ⟨[.int .i64 m0, .int .i64 m1, .int .i64 m2, .int .i64 m3, .string m4, .string m5, .int .i64 m6, .int .i64 m7, .bool m8]⟩ 23)).b (OY3.out.alloc (.cells ⟨[.int .i64 m0, .int .i64 m1, .int .i64 m2, .int .i64 m3, .string m4, .string m5, .int .i64 m6, .int .i64 m7, .bool m8]⟩ 23)).b (Blk.start _ 23 [.int .i64 m0, .int .i64 m1, .int .i64 m2, .int .i64 m3, .string m4, .string m5, .int .i64 m6, .int .i64 m7, .bool m8]) (OX3.out.alloc (.cells ⟨[.int .i64 m0, .int .i64 m1, .int .i64 m2, .int .i64 m3, .string m4, .string m5, .int .i64 m6, .int .i64 m7, .bool m8]⟩ 23)).below)
              have HKP := Lib.hid (OP3.out.alloc (.cells ⟨[.int .i64 m0, .int .i64 m1, .int .i64 m2, .int .i64 m3, .string m4, .string m5, .int .i64 m6, .int .i64 m7, .bool m8]⟩ 23)).b
              go_simp
              refine hK.out _ _ ?_ (fun hHeld => ?_)
              · exact HKP.out.nine
              clear hK K
              try simp only [Act.put, List.setIfInBounds_toArray, List.set_cons_zero, List.set_cons_succ]
              refine wpAnyH_take (i := 13) (oi := { dst := some 15, op := Op.assign (Operand.tmp 87), type := 4, pos := "law.go:63", after := #[{ on := 10, ground := Ground.data }, { on := 12, ground := Ground.chain }, { on := 0, ground := Ground.phase }, { on := 1, ground := Ground.phase }, { on := 2, ground := Ground.phase }, { on := 3, ground := Ground.phase }, { on := 4, ground := Ground.phase }, { on := 5, ground := Ground.phase }, { on := 6, ground := Ground.phase }, { on := 7, ground := Ground.phase }, { on := 8, ground := Ground.phase }, { on := 9, ground := Ground.phase }, { on := 10, ground := Ground.phase }, { on := 11, ground := Ground.phase }, { on := 12, ground := Ground.phase }], guard := none }) (v := ?_) rfl (by kernel_rfl) (by kernel_rfl) (by kernel_rfl) (fun _ _ _ h => h) (Or.inl ⟨by rfl, ?_⟩) (by assumption) ?_; rotate_left; (focus (intro w hSw; (try dsimp only at hSw); go_simp; all_goals (with_reducible rfl)))
              try simp only [Act.put, List.setIfInBounds_toArray, List.set_cons_zero, List.set_cons_succ]
              refine wpAnyH_done (by kernel_rfl) ?_ _
              go_wp2_with fail
              go_meet
              exact ⟨rfl, _, rfl, HFIN.out⟩
            · go_simp
              have OX3 := Lib.hid (OX2.out.alloc (.cells ⟨recL zeroR⟩ 23))
              have OY3 := Lib.hid (OY2.out.alloc (.cells ⟨recL zeroR⟩ 23))
              have OP3 := Lib.hid (OP2.out.alloc (.cells ⟨recL zeroR⟩ 23))
              have OZ3 := Lib.hid (On.new' (Z := w11.heap.size) OX2.out.below (recL zeroR) 23 (by first | rfl | simp))
              have ZX := Lib.hid (OX2.out.ne (Z := w11.heap.size) (by first | rfl | simp))
              have ZY := Lib.hid (OY2.out.ne (Z := w11.heap.size) (by first | rfl | simp))
              have ZP := Lib.hid (OP2.out.ne (Z := w11.heap.size) (by first | rfl | simp))
              have ZW := Lib.hid (OX2.out.le (Z := w11.heap.size) (by first | rfl | simp))
              have RQ3 := Lib.hid (RQ2.out.later ((Below.refl _ _).alloc (Nat.le_refl _) (.cells ⟨recL zeroR⟩ 23)))
              refine hK.out _ _ ?_ (fun hHeld => ?_)
              · exact OP3.out.b.nine
              clear hK K
              try simp only [Act.put, List.setIfInBounds_toArray, List.set_cons_zero, List.set_cons_succ]
              refine wpAnyH_ready (rs := [7]) (by kernel_rfl) (by simp) ?_
              refine AllReadyH.cons (o := { dst := some 85, op := Op.call { callee := Callee.value (Operand.func 9), args := #[Operand.tmp 84], argTypes := #[24] }, type := 28, pos := "law.go:63", after := #[{ on := 6, ground := Ground.data }, { on := 6, ground := Ground.chain }], guard := none }) rfl (fun K hK => ?_) AllReadyH.nil
              go_simp
              refine (BZ.out _ _ _ RQ3.out HC6.out).mono ?_
              rintro e w12 ⟨rfl, b6⟩
              have OX4 := Lib.hid (OX3.out.later b6)
              have OY4 := Lib.hid (OY3.out.later b6)
              have OP4 := Lib.hid (OP3.out.later b6)
              have OZ4 := Lib.hid (OZ3.out.later b6)
              clear b6
              go_wp2_with fail
              refine hK.out _ _ ?_ (fun hHeld => ?_)
              · exact OP4.out.b.nine
              clear hK K
              try simp only [Act.put, List.setIfInBounds_toArray, List.set_cons_zero, List.set_cons_succ]
              refine wpAnyH_take (i := 8) (oi := { dst := some 77, op := Op.move (Operand.tmp 85), type := 28, pos := "law.go:63", after := #[{ on := 7, ground := Ground.data }], guard := none }) (v := ?_) rfl (by kernel_rfl) (by kernel_rfl) (by kernel_rfl) (fun _ _ _ h => h) (Or.inl ⟨by rfl, ?_⟩) (by assumption) ?_; rotate_left; (focus (intro w hSw; (try dsimp only at hSw); go_simp; all_goals (with_reducible rfl)))
              try simp only [Act.put, List.setIfInBounds_toArray, List.set_cons_zero, List.set_cons_succ]
              refine wpAnyH_take (i := 9) (oi := { dst := some 86, op := Op.extract (Operand.tmp 77) 0, type := 23, pos := "law.go:63", after := #[{ on := 8, ground := Ground.data }], guard := none }) (v := ?_) rfl (by kernel_rfl) (by kernel_rfl) (by kernel_rfl) (fun _ _ _ h => h) (Or.inl ⟨by rfl, ?_⟩) (by assumption) ?_; rotate_left; (focus (intro w hSw; (try dsimp only at hSw); go_simp; all_goals (with_reducible rfl)))
              try simp only [Act.put, List.setIfInBounds_toArray, List.set_cons_zero, List.set_cons_succ]
              refine wpAnyH_take (i := 10) (oi := { dst := some 87, op := Op.extract (Operand.tmp 77) 1, type := 4, pos := "law.go:63", after := #[{ on := 8, ground := Ground.data }, { on := 12, ground := Ground.gcOnly Departure.lateStores }], guard := none }) (v := ?_) rfl (by kernel_rfl) (by kernel_rfl) (by kernel_rfl) (fun _ _ _ h => h) (Or.inl ⟨by rfl, ?_⟩) (by assumption) ?_; rotate_left; (focus (intro w hSw; (try dsimp only at hSw); go_simp; all_goals (with_reducible rfl)))
              try simp only [Act.put, List.setIfInBounds_toArray, List.set_cons_zero, List.set_cons_succ]
              refine wpAnyH_ready (rs := [12]) (by kernel_rfl) (by simp) ?_
              refine AllReadyH.cons (o := { dst := none, op := Op.store 23 (Operand.tmp 14) (Operand.tmp 86), type := 0, pos := "law.go:63", after := #[{ on := 11, ground := Ground.data }, { on := 9, ground := Ground.data }, { on := 7, ground := Ground.chain }, { on := 0, ground := Ground.phase }, { on := 1, ground := Ground.phase }, { on := 2, ground := Ground.phase }, { on := 3, ground := Ground.phase }, { on := 4, ground := Ground.phase }, { on := 5, ground := Ground.phase }, { on := 6, ground := Ground.phase }, { on := 7, ground := Ground.phase }, { on := 8, ground := Ground.phase }, { on := 9, ground := Ground.phase }, { on := 10, ground := Ground.textOnly Departure.lateStores }, { on := 11, ground := Ground.phase }], guard := none }) rfl (fun K hK => ?_) AllReadyH.nil
              obtain ⟨c0, c1, c2, c3, c4, c5, c6, c7, c8⟩ := OZ4.out.b.nine
              obtain ⟨f0, f1, f2, f3, f4, f5, f6, f7, f8⟩ := OZ4.out.b.nineF
              have HFIN := Lib.hid (OX4.out.fin OY4.out OZ4.out m0 m1 m2 m3 m4 m5 m6 m7 m8 rfl ZX.out ZY.out ZW.out)
              have HKP := Lib.hid (OP4.out.b.but (Cd.but_own9 _ _ (.int .i64 m0) (.int .i64 m1) (.int .i64 m2) (.int .i64 m3) (.string m4) (.string m5) (.int .i64 m6) (.int .i64 m7) (.bool m8)) ZP.out)
              go_simp
              refine hK.out _ _ ?_ (fun hHeld => ?_)
              · exact HKP.out.nine
              clear hK K
              try simp only [Act.put, List.setIfInBounds_toArray, List.set_cons_zero, List.set_cons_succ]
              refine wpAnyH_take (i := 13) (oi := { dst := some 15, op := Op.assign (Operand.tmp 87), type := 4, pos := "law.go:63", after := #[{ on := 10, ground := Ground.data }, { on := 12, ground := Ground.chain }, { on := 0, ground := Ground.phase }, { on := 1, ground := Ground.phase }, { on := 2, ground := Ground.phase }, { on := 3, ground := Ground.phase }, { on := 4, ground := Ground.phase }, { on := 5, ground := Ground.phase }, { on := 6, ground := Ground.phase }, { on := 7, ground := Ground.phase }, { on := 8, ground := Ground.phase }, { on := 9, ground := Ground.phase }, { on := 10, ground := Ground.phase }, { on := 11, ground := Ground.phase }, { on := 12, ground := Ground.phase }], guard := none }) (v := ?_) rfl (by kernel_rfl) (by kernel_rfl) (by kernel_rfl) (fun _ _ _ h => h) (Or.inl ⟨by rfl, ?_⟩) (by assumption) ?_; rotate_left; (focus (intro w hSw; (try dsimp only at hSw); go_simp; all_goals (with_reducible rfl)))
              try simp only [Act.put, List.setIfInBounds_toArray, List.set_cons_zero, List.set_cons_succ]
              refine wpAnyH_done (by kernel_rfl) ?_ _
              go_wp2_with fail
              go_meet
              exact ⟨rfl, _, rfl, HFIN.out⟩
          · go_simp
            have OX2 := Lib.hid (OX1.out.alloc (.cells ⟨recL zeroR⟩ 23))
            have OY2 := Lib.hid (OY1.out.alloc (.cells ⟨recL zeroR⟩ 23))
            have OP2 := Lib.hid (OP1.out.alloc (.cells ⟨recL zeroR⟩ 23))
            have OZ2 := Lib.hid (On.new' (Z := w10.heap.size + 1) OX1.out.below (recL zeroR) 23 (by first | rfl | simp))
            have ZX := Lib.hid (OX1.out.ne (Z := w10.heap.size + 1) (by first | rfl | simp))
            have ZY := Lib.hid (OY1.out.ne (Z := w10.heap.size + 1) (by first | rfl | simp))
            have ZP := Lib.hid (OP1.out.ne (Z := w10.heap.size + 1) (by first | rfl | simp))
            have ZW := Lib.hid (OX1.out.le (Z := w10.heap.size + 1) (by first | rfl | simp))
            have RS2 := Lib.hid (RS1.out.alloc (.cells ⟨recL zeroR⟩ 23))
            refine hK.out _ _ ?_ (fun hHeld => ?_)
            · exact OP2.out.b.nine
            clear hK K
            try simp only [Act.put, List.setIfInBounds_toArray, List.set_cons_zero, List.set_cons_succ]
            refine wpAnyH_ready (rs := [6]) (by kernel_rfl) (by simp) ?_
            refine AllReadyH.cons (o := { dst := some 84, op := Op.call { callee := Callee.builtin Builtin.append, args := #[Operand.tmp 79, Operand.tmp 83], argTypes := #[24, 24] }, type := 24, pos := "law.go:63", after := #[{ on := 1, ground := Ground.data }, { on := 5, ground := Ground.data }], guard := none }) rfl (fun K hK => ?_) AllReadyH.nil
            obtain ⟨v5, w11, r5, o5, b5, g5⟩ := app_recs w.heap.size 1 _ [⟨p0, p1, p2, p3, p4, p5, p6, p7, p8⟩] _ sa (len - (kk + 1)) (cap - (kk + 1)) _ RS2.out (HSA.out OX2.out.below) SAA.out (by omega) OX2.out.below.size
            have OX3 := Lib.hid (OX2.out.grown b5 g5 (by intro h; have := HXL.out; simp [Value.ownBlock] at h; omega))
            have OY3 := Lib.hid (OY2.out.grown b5 g5 (by intro h; have := HYL.out; simp [Value.ownBlock] at h; omega))
            have OP3 := Lib.hid (OP2.out.grown b5 g5 (by intro h; have := HPL.out; simp [Value.ownBlock] at h; omega))
            have OZ3 := Lib.hid (OZ2.out.grown b5 g5 (by intro h; simp [Value.ownBlock] at h; try omega))
            rw [HN1.out] at o5
            obtain ⟨g6, c6, rfl, R5, hc6, _⟩ := recs_own HLZ.out (by omega) o5
            have RQ3 := Lib.hid R5
            have HC6 := Lib.hid hc6
            refine step_append_runI rfl (.tmp 79) (.tmp 83) 24 24 rfl _ _ (by simp [Go.Act.eval, Go.Act.put]) (by simp [Go.Act.eval, Go.Act.put]) _ _ r5 ?_
            clear r5 o5 b5 g5 R5
            refine hK.out _ _ ?_ (fun hHeld => ?_)
            · exact OP3.out.b.nine
            clear hK K
            try simp only [Act.put, List.setIfInBounds_toArray, List.set_cons_zero, List.set_cons_succ]
            refine wpAnyH_ready (rs := [7]) (by kernel_rfl) (by simp) ?_
            refine AllReadyH.cons (o := { dst := some 85, op := Op.call { callee := Callee.value (Operand.func 9), args := #[Operand.tmp 84], argTypes := #[24] }, type := 28, pos := "law.go:63", after := #[{ on := 6, ground := Ground.data }, { on := 6, ground := Ground.chain }], guard := none }) rfl (fun K hK => ?_) AllReadyH.nil
            go_simp
            refine (BZ.out _ _ _ RQ3.out HC6.out).mono ?_
            rintro e w12 ⟨rfl, b6⟩
            have OX4 := Lib.hid (OX3.out.later b6)
            have OY4 := Lib.hid (OY3.out.later b6)
            have OP4 := Lib.hid (OP3.out.later b6)
            have OZ4 := Lib.hid (OZ3.out.later b6)
            clear b6
            go_wp2_with fail
            refine hK.out _ _ ?_ (fun hHeld => ?_)
            · exact OP4.out.b.nine
            clear hK K
            try simp only [Act.put, List.setIfInBounds_toArray, List.set_cons_zero, List.set_cons_succ]
            refine wpAnyH_take (i := 8) (oi := { dst := some 77, op := Op.move (Operand.tmp 85), type := 28, pos := "law.go:63", after := #[{ on := 7, ground := Ground.data }], guard := none }) (v := ?_) rfl (by kernel_rfl) (by kernel_rfl) (by kernel_rfl) (fun _ _ _ h => h) (Or.inl ⟨by rfl, ?_⟩) (by assumption) ?_; rotate_left; (focus (intro w hSw; (try dsimp only at hSw); go_simp; all_goals (with_reducible rfl)))
            try simp only [Act.put, List.setIfInBounds_toArray, List.set_cons_zero, List.set_cons_succ]
            refine wpAnyH_take (i := 9) (oi := { dst := some 86, op := Op.extract (Operand.tmp 77) 0, type := 23, pos := "law.go:63", after := #[{ on := 8, ground := Ground.data }], guard := none }) (v := ?_) rfl (by kernel_rfl) (by kernel_rfl) (by kernel_rfl) (fun _ _ _ h => h) (Or.inl ⟨by rfl, ?_⟩) (by assumption) ?_; rotate_left; (focus (intro w hSw; (try dsimp only at hSw); go_simp; all_goals (with_reducible rfl)))
            try simp only [Act.put, List.setIfInBounds_toArray, List.set_cons_zero, List.set_cons_succ]
            refine wpAnyH_take (i := 10) (oi := { dst := some 87, op := Op.extract (Operand.tmp 77) 1, type := 4, pos := "law.go:63", after := #[{ on := 8, ground := Ground.data }, { on := 12, ground := Ground.gcOnly Departure.lateStores }], guard := none }) (v := ?_) rfl (by kernel_rfl) (by kernel_rfl) (by kernel_rfl) (fun _ _ _ h => h) (Or.inl ⟨by rfl, ?_⟩) (by assumption) ?_; rotate_left; (focus (intro w hSw; (try dsimp only at hSw); go_simp; all_goals (with_reducible rfl)))
            try simp only [Act.put, List.setIfInBounds_toArray, List.set_cons_zero, List.set_cons_succ]
            refine wpAnyH_ready (rs := [12]) (by kernel_rfl) (by simp) ?_
            refine AllReadyH.cons (o := { dst := none, op := Op.store 23 (Operand.tmp 14) (Operand.tmp 86), type := 0, pos := "law.go:63", after := #[{ on := 11, ground := Ground.data }, { on := 9, ground := Ground.data }, { on := 7, ground := Ground.chain }, { on := 0, ground := Ground.phase }, { on := 1, ground := Ground.phase }, { on := 2, ground := Ground.phase }, { on := 3, ground := Ground.phase }, { on := 4, ground := Ground.phase }, { on := 5, ground := Ground.phase }, { on := 6, ground := Ground.phase }, { on := 7, ground := Ground.phase }, { on := 8, ground := Ground.phase }, { on := 9, ground := Ground.phase }, { on := 10, ground := Ground.textOnly Departure.lateStores }, { on := 11, ground := Ground.phase }], guard := none }) rfl (fun K hK => ?_) AllReadyH.nil
            obtain ⟨c0, c1, c2, c3, c4, c5, c6, c7, c8⟩ := OZ4.out.b.nine
            obtain ⟨f0, f1, f2, f3, f4, f5, f6, f7, f8⟩ := OZ4.out.b.nineF
            have HFIN := Lib.hid (OX4.out.fin OY4.out OZ4.out m0 m1 m2 m3 m4 m5 m6 m7 m8 rfl ZX.out ZY.out ZW.out)
            have HKP := Lib.hid (OP4.out.b.but (Cd.but_own9 _ _ (.int .i64 m0) (.int .i64 m1) (.int .i64 m2) (.int .i64 m3) (.string m4) (.string m5) (.int .i64 m6) (.int .i64 m7) (.bool m8)) ZP.out)
            go_simp
            refine hK.out _ _ ?_ (fun hHeld => ?_)
            · exact HKP.out.nine
            clear hK K
            try simp only [Act.put, List.setIfInBounds_toArray, List.set_cons_zero, List.set_cons_succ]
            refine wpAnyH_take (i := 13) (oi := { dst := some 15, op := Op.assign (Operand.tmp 87), type := 4, pos := "law.go:63", after := #[{ on := 10, ground := Ground.data }, { on := 12, ground := Ground.chain }, { on := 0, ground := Ground.phase }, { on := 1, ground := Ground.phase }, { on := 2, ground := Ground.phase }, { on := 3, ground := Ground.phase }, { on := 4, ground := Ground.phase }, { on := 5, ground := Ground.phase }, { on := 6, ground := Ground.phase }, { on := 7, ground := Ground.phase }, { on := 8, ground := Ground.phase }, { on := 9, ground := Ground.phase }, { on := 10, ground := Ground.phase }, { on := 11, ground := Ground.phase }, { on := 12, ground := Ground.phase }], guard := none }) (v := ?_) rfl (by kernel_rfl) (by kernel_rfl) (by kernel_rfl) (fun _ _ _ h => h) (Or.inl ⟨by rfl, ?_⟩) (by assumption) ?_; rotate_left; (focus (intro w hSw; (try dsimp only at hSw); go_simp; all_goals (with_reducible rfl)))
            try simp only [Act.put, List.setIfInBounds_toArray, List.set_cons_zero, List.set_cons_succ]
            refine wpAnyH_done (by kernel_rfl) ?_ _
            go_wp2_with fail
            go_meet
            exact ⟨rfl, _, rfl, HFIN.out⟩
        · go_simp
          have OX1 := Lib.hid (OX0.out.alloc (.cells ⟨recL zeroR⟩ 23))
          have OY1 := Lib.hid (OY0.out.alloc (.cells ⟨recL zeroR⟩ 23))
          have OP1 := Lib.hid (OP0.out.alloc (.cells ⟨recL zeroR⟩ 23))
          have OZ1 := Lib.hid (On.new' (Z := w10.heap.size) OX0.out.below (recL zeroR) 23 (by first | rfl | simp))
          have ZX := Lib.hid (OX0.out.ne (Z := w10.heap.size) (by first | rfl | simp))
          have ZY := Lib.hid (OY0.out.ne (Z := w10.heap.size) (by first | rfl | simp))
          have ZP := Lib.hid (OP0.out.ne (Z := w10.heap.size) (by first | rfl | simp))
          have ZW := Lib.hid (OX0.out.le (Z := w10.heap.size) (by first | rfl | simp))
          refine hK.out _ _ ?_ (fun hHeld => ?_)
          · exact OP1.out.b.nine
          clear hK K
          try simp only [Act.put, List.setIfInBounds_toArray, List.set_cons_zero, List.set_cons_succ]
          refine wpAnyH_ready (rs := [1]) (by kernel_rfl) (by simp) ?_
          refine AllReadyH.cons (o := { dst := some 79, op := Op.buildSlice 24 1 #[(0, Operand.tmp 78)], type := 24, pos := "law.go:63", after := #[{ on := 0, ground := Ground.data }], guard := none }) rfl (fun K hK => ?_) AllReadyH.nil
          go_simp
          have OX2 := Lib.hid (OX1.out.alloc (.cells ⟨rcs [⟨p0, p1, p2, p3, p4, p5, p6, p7, p8⟩]⟩ 23))
          have OY2 := Lib.hid (OY1.out.alloc (.cells ⟨rcs [⟨p0, p1, p2, p3, p4, p5, p6, p7, p8⟩]⟩ 23))
          have OP2 := Lib.hid (OP1.out.alloc (.cells ⟨rcs [⟨p0, p1, p2, p3, p4, p5, p6, p7, p8⟩]⟩ 23))
          have OZ2 := Lib.hid (OZ1.out.alloc (.cells ⟨rcs [⟨p0, p1, p2, p3, p4, p5, p6, p7, p8⟩]⟩ 23))
          have RS2 := Lib.hid (own_one OX1.out.below ⟨p0, p1, p2, p3, p4, p5, p6, p7, p8⟩)
          refine hK.out _ _ ?_ (fun hHeld => ?_)
          · exact OP2.out.b.nine
          clear hK K
          try simp only [Act.put, List.setIfInBounds_toArray, List.set_cons_zero, List.set_cons_succ]
          refine wpAnyH_ready (rs := [6]) (by kernel_rfl) (by simp) ?_
          refine AllReadyH.cons (o := { dst := some 84, op := Op.call { callee := Callee.builtin Builtin.append, args := #[Operand.tmp 79, Operand.tmp 83], argTypes := #[24, 24] }, type := 24, pos := "law.go:63", after := #[{ on := 1, ground := Ground.data }, { on := 5, ground := Ground.data }], guard := none }) rfl (fun K hK => ?_) AllReadyH.nil
          obtain ⟨v5, w11, r5, o5, b5, g5⟩ := app_recs w.heap.size 1 _ [⟨p0, p1, p2, p3, p4, p5, p6, p7, p8⟩] _ sa (len - (kk + 1)) (cap - (kk + 1)) _ RS2.out (HSA.out OX2.out.below) SAA.out (by omega) OX2.out.below.size
          have OX3 := Lib.hid (OX2.out.grown b5 g5 (by intro h; have := HXL.out; simp [Value.ownBlock] at h; omega))
          have OY3 := Lib.hid (OY2.out.grown b5 g5 (by intro h; have := HYL.out; simp [Value.ownBlock] at h; omega))
          have OP3 := Lib.hid (OP2.out.grown b5 g5 (by intro h; have := HPL.out; simp [Value.ownBlock] at h; omega))
          have OZ3 := Lib.hid (OZ2.out.grown b5 g5 (by intro h; simp [Value.ownBlock] at h; try omega))
          rw [HN1.out] at o5
          obtain ⟨g6, c6, rfl, R5, hc6, _⟩ := recs_own HLZ.out (by omega) o5
          have RQ3 := Lib.hid R5
          have HC6 := Lib.hid hc6
          refine step_append_runI rfl (.tmp 79) (.tmp 83) 24 24 rfl _ _ (by simp [Go.Act.eval, Go.Act.put]) (by simp [Go.Act.eval, Go.Act.put]) _ _ r5 ?_
          clear r5 o5 b5 g5 R5
          refine hK.out _ _ ?_ (fun hHeld => ?_)
          · exact OP3.out.b.nine
          clear hK K
          try simp only [Act.put, List.setIfInBounds_toArray, List.set_cons_zero, List.set_cons_succ]
          refine wpAnyH_ready (rs := [7]) (by kernel_rfl) (by simp) ?_
          refine AllReadyH.cons (o := { dst := some 85, op := Op.call { callee := Callee.value (Operand.func 9), args := #[Operand.tmp 84], argTypes := #[24] }, type := 28, pos := "law.go:63", after := #[{ on := 6, ground := Ground.data }, { on := 6, ground := Ground.chain }], guard := none }) rfl (fun K hK => ?_) AllReadyH.nil
          go_simp
          refine (BZ.out _ _ _ RQ3.out HC6.out).mono ?_
          rintro e w12 ⟨rfl, b6⟩
          have OX4 := Lib.hid (OX3.out.later b6)
          have OY4 := Lib.hid (OY3.out.later b6)
          have OP4 := Lib.hid (OP3.out.later b6)
          have OZ4 := Lib.hid (OZ3.out.later b6)
          clear b6
          go_wp2_with fail
          refine hK.out _ _ ?_ (fun hHeld => ?_)
          · exact OP4.out.b.nine
          clear hK K
          try simp only [Act.put, List.setIfInBounds_toArray, List.set_cons_zero, List.set_cons_succ]
          refine wpAnyH_take (i := 8) (oi := { dst := some 77, op := Op.move (Operand.tmp 85), type := 28, pos := "law.go:63", after := #[{ on := 7, ground := Ground.data }], guard := none }) (v := ?_) rfl (by kernel_rfl) (by kernel_rfl) (by kernel_rfl) (fun _ _ _ h => h) (Or.inl ⟨by rfl, ?_⟩) (by assumption) ?_; rotate_left; (focus (intro w hSw; (try dsimp only at hSw); go_simp; all_goals (with_reducible rfl)))
          try simp only [Act.put, List.setIfInBounds_toArray, List.set_cons_zero, List.set_cons_succ]
          refine wpAnyH_take (i := 9) (oi := { dst := some 86, op := Op.extract (Operand.tmp 77) 0, type := 23, pos := "law.go:63", after := #[{ on := 8, ground := Ground.data }], guard := none }) (v := ?_) rfl (by kernel_rfl) (by kernel_rfl) (by kernel_rfl) (fun _ _ _ h => h) (Or.inl ⟨by rfl, ?_⟩) (by assumption) ?_; rotate_left; (focus (intro w hSw; (try dsimp only at hSw); go_simp; all_goals (with_reducible rfl)))
          try simp only [Act.put, List.setIfInBounds_toArray, List.set_cons_zero, List.set_cons_succ]
          refine wpAnyH_take (i := 10) (oi := { dst := some 87, op := Op.extract (Operand.tmp 77) 1, type := 4, pos := "law.go:63", after := #[{ on := 8, ground := Ground.data }, { on := 12, ground := Ground.gcOnly Departure.lateStores }], guard := none }) (v := ?_) rfl (by kernel_rfl) (by kernel_rfl) (by kernel_rfl) (fun _ _ _ h => h) (Or.inl ⟨by rfl, ?_⟩) (by assumption) ?_; rotate_left; (focus (intro w hSw; (try dsimp only at hSw); go_simp; all_goals (with_reducible rfl)))
          try simp only [Act.put, List.setIfInBounds_toArray, List.set_cons_zero, List.set_cons_succ]
          refine wpAnyH_ready (rs := [12]) (by kernel_rfl) (by simp) ?_
          refine AllReadyH.cons (o := { dst := none, op := Op.store 23 (Operand.tmp 14) (Operand.tmp 86), type := 0, pos := "law.go:63", after := #[{ on := 11, ground := Ground.data }, { on := 9, ground := Ground.data }, { on := 7, ground := Ground.chain }, { on := 0, ground := Ground.phase }, { on := 1, ground := Ground.phase }, { on := 2, ground := Ground.phase }, { on := 3, ground := Ground.phase }, { on := 4, ground := Ground.phase }, { on := 5, ground := Ground.phase }, { on := 6, ground := Ground.phase }, { on := 7, ground := Ground.phase }, { on := 8, ground := Ground.phase }, { on := 9, ground := Ground.phase }, { on := 10, ground := Ground.textOnly Departure.lateStores }, { on := 11, ground := Ground.phase }], guard := none }) rfl (fun K hK => ?_) AllReadyH.nil
          obtain ⟨c0, c1, c2, c3, c4, c5, c6, c7, c8⟩ := OZ4.out.b.nine
          obtain ⟨f0, f1, f2, f3, f4, f5, f6, f7, f8⟩ := OZ4.out.b.nineF
          have HFIN := Lib.hid (OX4.out.fin OY4.out OZ4.out m0 m1 m2 m3 m4 m5 m6 m7 m8 rfl ZX.out ZY.out ZW.out)
          have HKP := Lib.hid (OP4.out.b.but (Cd.but_own9 _ _ (.int .i64 m0) (.int .i64 m1) (.int .i64 m2) (.int .i64 m3) (.string m4) (.string m5) (.int .i64 m6) (.int .i64 m7) (.bool m8)) ZP.out)
          go_simp
          refine hK.out _ _ ?_ (fun hHeld => ?_)
          · exact HKP.out.nine
          clear hK K
          try simp only [Act.put, List.setIfInBounds_toArray, List.set_cons_zero, List.set_cons_succ]
          refine wpAnyH_take (i := 13) (oi := { dst := some 15, op := Op.assign (Operand.tmp 87), type := 4, pos := "law.go:63", after := #[{ on := 10, ground := Ground.data }, { on := 12, ground := Ground.chain }, { on := 0, ground := Ground.phase }, { on := 1, ground := Ground.phase }, { on := 2, ground := Ground.phase }, { on := 3, ground := Ground.phase }, { on := 4, ground := Ground.phase }, { on := 5, ground := Ground.phase }, { on := 6, ground := Ground.phase }, { on := 7, ground := Ground.phase }, { on := 8, ground := Ground.phase }, { on := 9, ground := Ground.phase }, { on := 10, ground := Ground.phase }, { on := 11, ground := Ground.phase }, { on := 12, ground := Ground.phase }], guard := none }) (v := ?_) rfl (by kernel_rfl) (by kernel_rfl) (by kernel_rfl) (fun _ _ _ h => h) (Or.inl ⟨by rfl, ?_⟩) (by assumption) ?_; rotate_left; (focus (intro w hSw; (try dsimp only at hSw); go_simp; all_goals (with_reducible rfl)))
          try simp only [Act.put, List.setIfInBounds_toArray, List.set_cons_zero, List.set_cons_succ]
          refine wpAnyH_done (by kernel_rfl) ?_ _
          go_wp2_with fail
          go_meet
          exact ⟨rfl, _, rfl, HFIN.out⟩
      case rest =>
        obtain ⟨rfl, Z, rfl, HZ⟩ := hcut
        obtain ⟨c0, c1, c2, c3, c4, c5, c6, c7, c8⟩ := HZ.out.x.nine
        obtain ⟨d0, d1, d2, d3, d4, d5, d6, d7, d8⟩ := HZ.out.y.nine
        obtain ⟨e0, e1, e2, e3, e4, e5, e6, e7, e8⟩ := HZ.out.z.nine
        go_wp2_with fail
        go_loopw [16, 17] (fun sv iv wr => ∃ k : Nat, k ≤ len ∧ iv = .int .i64 k ∧ ∃ bb : Bool, sv = .bool bb ∧ Hid (bb = true ↔ ∃ q ∈ xs.take k, kept q = kept ⟨m0, m1, m2, m3, m4, m5, m6, m7, m8⟩) ∧ Hid (S3 w wr X Y Z [.int .i64 m0, .int .i64 m1, .int .i64 m2, .int .i64 m3, .string m4, .string m5, .int .i64 m6, .int .i64 m7, .bool m8])) (fun _ iv _ => len - (intOf iv).toNat)
        case atStart => exact ⟨0, Nat.zero_le _, rfl, false, rfl, ⟨(fun h => by cases h), (fun ⟨q, h, _⟩ => by rw [List.take_zero] at h; cases h)⟩, HZ.out⟩
        case round =>
          obtain ⟨k, hk, rfl, bb, rfl, HBB, HZ⟩ := hrel
          have HB0 := Lib.hid HZ.out.below
          by_cases hklt : k < len
          · obtain ⟨y, hy⟩ : ∃ y, xs[k]? = some y := ⟨_, List.getElem?_eq_getElem (by have := HLEN.out; omega)⟩
            have hcy := (HC.out k y hy).low hb HB0.out
            obtain ⟨s, hs, SM⟩ := same_as y ⟨m0, m1, m2, m3, m4, m5, m6, m7, m8⟩
            have NW := fun w => newer_any y ⟨m0, m1, m2, m3, m4, m5, m6, m7, m8⟩ w (HOKS.out y (List.mem_of_getElem? hy)) HUF.out
            rw [HNO.out y (List.mem_of_getElem? hy)] at NW
            have HN : Hid ((bb || s) = true ↔ ∃ q ∈ xs.take (k + 1), kept q = kept ⟨m0, m1, m2, m3, m4, m5, m6, m7, m8⟩) := by
              obtain ⟨h1, h2⟩ := List.getElem?_eq_some_iff.1 hy
              show _ ↔ _
              rw [List.take_succ_eq_append_getElem h1, h2, Bool.or_eq_true, HBB.out, hs]
              constructor
              · rintro (⟨q, hq, e⟩ | e)
                · exact ⟨q, List.mem_append_left _ hq, e⟩
                · exact ⟨y, List.mem_append_right _ (List.mem_singleton.2 rfl), e⟩
              · rintro ⟨q, hq, e⟩
                rcases List.mem_append.1 hq with hq | hq
                · exact .inl ⟨q, hq, e⟩
                · rw [List.mem_singleton.1 hq] at e; exact .inr e
            clear hs hy
            obtain ⟨y0, y1, y2, y3, y4, y5, y6, y7, y8⟩ := y
            simp only [recV] at SM NW
            have SM := Lib.hid SM
            have NW := Lib.hid NW
            have CY := Lib.hid hcy
            clear hcy
            have hX0 := HZ.out.x.lt
            have hb0 := Nat.lt_of_lt_of_le hb HB0.out.size
            cases bb
            · go_wp2_with fail
              have CY1 := Lib.hid (CY.out.later hb0 (Below.refl _ _).drew)
              have HZ1 := Lib.hid (HZ.out.later (Below.refl _ _).drew)
              have hStart := And.intro CY1.out HZ1.out.x.nine
              simp only [At9] at hStart
              refine wp_region_held_drew (S := fun w' => (w'.cell? ⟨b, off + k * 9, none⟩ = some (.int .i64 y0) ∧ w'.cell? ⟨b, off + k * 9 + 1, none⟩ = some (.int .i64 y1) ∧ w'.cell? ⟨b, off + k * 9 + 2, none⟩ = some (.int .i64 y2) ∧ w'.cell? ⟨b, off + k * 9 + 3, none⟩ = some (.int .i64 y3) ∧ w'.cell? ⟨b, off + k * 9 + 4, none⟩ = some (.string y4) ∧ w'.cell? ⟨b, off + k * 9 + 5, none⟩ = some (.string y5) ∧ w'.cell? ⟨b, off + k * 9 + 6, none⟩ = some (.int .i64 y6) ∧ w'.cell? ⟨b, off + k * 9 + 7, none⟩ = some (.int .i64 y7) ∧ w'.cell? ⟨b, off + k * 9 + 8, none⟩ = some (.bool y8)) ∧ (w'.cell? ⟨X, 0, none⟩ = some (.int .i64 m0) ∧ w'.cell? ⟨X, 1, none⟩ = some (.int .i64 m1) ∧ w'.cell? ⟨X, 2, none⟩ = some (.int .i64 m2) ∧ w'.cell? ⟨X, 3, none⟩ = some (.int .i64 m3) ∧ w'.cell? ⟨X, 4, none⟩ = some (.string m4) ∧ w'.cell? ⟨X, 5, none⟩ = some (.string m5) ∧ w'.cell? ⟨X, 6, none⟩ = some (.int .i64 m6) ∧ w'.cell? ⟨X, 7, none⟩ = some (.int .i64 m7) ∧ w'.cell? ⟨X, 8, none⟩ = some (.bool m8))) (by kernel_rfl) (hStart) (fun hHeld => ?_)
              refine wpAnyH_take (i := 0) (oi := { dst := some 118, op := Op.move (Operand.tmp 16), type := 4, pos := "law.go:69", after := #[], guard := none }) (v := ?_) rfl (by kernel_rfl) (by kernel_rfl) (by kernel_rfl) (fun _ _ _ h => h) (Or.inl ⟨by rfl, ?_⟩) (by assumption) ?_; rotate_left; (focus (intro w hSw; (try dsimp only at hSw); go_simp; all_goals (with_reducible rfl)))
              try simp only [Act.put, List.setIfInBounds_toArray, List.set_cons_zero, List.set_cons_succ]
              refine wpAnyH_take (i := 1) (oi := { dst := some 119, op := Op.move (Operand.tmp 118), type := 4, pos := "law.go:69", after := #[{ on := 0, ground := Ground.data }], guard := none }) (v := ?_) rfl (by kernel_rfl) (by kernel_rfl) (by kernel_rfl) (fun _ _ _ h => h) (Or.inl ⟨by rfl, ?_⟩) (by assumption) ?_; rotate_left; (focus (intro w hSw; (try dsimp only at hSw); go_simp; all_goals (with_reducible rfl)))
              try simp only [Act.put, List.setIfInBounds_toArray, List.set_cons_zero, List.set_cons_succ]
              first | (refine wpAnyH_take (i := 2) (oi := { dst := some 120, op := Op.move (Operand.tmp 0), type := 24, pos := "law.go:69", after := #[{ on := 1, ground := Ground.guard }], guard := some (1, false) }) (v := ?_) rfl (by kernel_rfl) (by kernel_rfl) (by kernel_rfl) (fun _ _ _ h => h) (Or.inl ⟨by rfl, ?_⟩) (by assumption) ?_; rotate_left; (focus (intro w hSw; (try dsimp only at hSw); go_simp; all_goals (with_reducible rfl)))) | refine wpAnyH_take (i := 2) (oi := { dst := some 120, op := Op.move (Operand.tmp 0), type := 24, pos := "law.go:69", after := #[{ on := 1, ground := Ground.guard }], guard := some (1, false) }) (v := undef) rfl (by kernel_rfl) (by kernel_rfl) (by kernel_rfl) (fun _ _ _ h => h) (Or.inr ⟨by rfl, rfl⟩) (by assumption) ?_
              try simp only [Act.put, List.setIfInBounds_toArray, List.set_cons_zero, List.set_cons_succ]
              first | (refine wpAnyH_take (i := 3) (oi := { dst := some 121, op := Op.move (Operand.tmp 17), type := 3, pos := "law.go:69", after := #[{ on := 1, ground := Ground.guard }], guard := some (1, false) }) (v := ?_) rfl (by kernel_rfl) (by kernel_rfl) (by kernel_rfl) (fun _ _ _ h => h) (Or.inl ⟨by rfl, ?_⟩) (by assumption) ?_; rotate_left; (focus (intro w hSw; (try dsimp only at hSw); go_simp; all_goals (with_reducible rfl)))) | refine wpAnyH_take (i := 3) (oi := { dst := some 121, op := Op.move (Operand.tmp 17), type := 3, pos := "law.go:69", after := #[{ on := 1, ground := Ground.guard }], guard := some (1, false) }) (v := undef) rfl (by kernel_rfl) (by kernel_rfl) (by kernel_rfl) (fun _ _ _ h => h) (Or.inr ⟨by rfl, rfl⟩) (by assumption) ?_
              try simp only [Act.put, List.setIfInBounds_toArray, List.set_cons_zero, List.set_cons_succ]
              first | (refine wpAnyH_take (i := 4) (oi := { dst := some 122, op := Op.indexAddr 24 (Operand.tmp 120) (Operand.tmp 121), type := 0, pos := "law.go:69", after := #[{ on := 2, ground := Ground.data }, { on := 3, ground := Ground.data }, { on := 1, ground := Ground.guard }], guard := some (1, false) }) (v := ?_) rfl (by kernel_rfl) (by kernel_rfl) (by kernel_rfl) (fun _ _ _ h => h) (Or.inl ⟨by rfl, ?_⟩) (by assumption) ?_; rotate_left; (focus (intro w hSw; (try dsimp only at hSw); go_simp; all_goals (with_reducible rfl)))) | refine wpAnyH_take (i := 4) (oi := { dst := some 122, op := Op.indexAddr 24 (Operand.tmp 120) (Operand.tmp 121), type := 0, pos := "law.go:69", after := #[{ on := 2, ground := Ground.data }, { on := 3, ground := Ground.data }, { on := 1, ground := Ground.guard }], guard := some (1, false) }) (v := undef) rfl (by kernel_rfl) (by kernel_rfl) (by kernel_rfl) (fun _ _ _ h => h) (Or.inr ⟨by rfl, rfl⟩) (by assumption) ?_
              try simp only [Act.put, List.setIfInBounds_toArray, List.set_cons_zero, List.set_cons_succ]
              first | (refine wpAnyH_take (i := 5) (oi := { dst := some 123, op := Op.load 23 (Operand.tmp 122), type := 23, pos := "law.go:69", after := #[{ on := 4, ground := Ground.data }, { on := 1, ground := Ground.guard }], guard := some (1, false) }) (v := ?_) rfl (by kernel_rfl) (by kernel_rfl) (by kernel_rfl) (fun _ _ _ h => h) (Or.inl ⟨by rfl, ?_⟩) (by assumption) ?_; rotate_left; (focus (intro w hSw; (try dsimp only at hSw); go_simp; all_goals (with_reducible rfl)))) | refine wpAnyH_take (i := 5) (oi := { dst := some 123, op := Op.load 23 (Operand.tmp 122), type := 23, pos := "law.go:69", after := #[{ on := 4, ground := Ground.data }, { on := 1, ground := Ground.guard }], guard := some (1, false) }) (v := undef) rfl (by kernel_rfl) (by kernel_rfl) (by kernel_rfl) (fun _ _ _ h => h) (Or.inr ⟨by rfl, rfl⟩) (by assumption) ?_
              try simp only [Act.put, List.setIfInBounds_toArray, List.set_cons_zero, List.set_cons_succ]
              first | (refine wpAnyH_take (i := 6) (oi := { dst := some 124, op := Op.load 23 (Operand.tmp 8), type := 23, pos := "law.go:69", after := #[{ on := 1, ground := Ground.guard }], guard := some (1, false) }) (v := ?_) rfl (by kernel_rfl) (by kernel_rfl) (by kernel_rfl) (fun _ _ _ h => h) (Or.inl ⟨by rfl, ?_⟩) (by assumption) ?_; rotate_left; (focus (intro w hSw; (try dsimp only at hSw); go_simp; all_goals (with_reducible rfl)))) | refine wpAnyH_take (i := 6) (oi := { dst := some 124, op := Op.load 23 (Operand.tmp 8), type := 23, pos := "law.go:69", after := #[{ on := 1, ground := Ground.guard }], guard := some (1, false) }) (v := undef) rfl (by kernel_rfl) (by kernel_rfl) (by kernel_rfl) (fun _ _ _ h => h) (Or.inr ⟨by rfl, rfl⟩) (by assumption) ?_
              try simp only [Act.put, List.setIfInBounds_toArray, List.set_cons_zero, List.set_cons_succ]
              refine wpAnyH_ready (rs := [7]) (by kernel_rfl) (by simp) ?_
              refine AllReadyH.cons (o := { dst := some 125, op := Op.call { callee := Callee.value (Operand.func 13), args := #[Operand.tmp 123, Operand.tmp 124], argTypes := #[23, 23] }, type := 4, pos := "law.go:69", after := #[{ on := 5, ground := Ground.data }, { on := 6, ground := Ground.data }, { on := 1, ground := Ground.chain }, { on := 1, ground := Ground.guard }], guard := some (1, false) }) rfl (fun K hK => ?_) AllReadyH.nil
              go_simp
              refine (SM.out _).mono ?_
              rintro e w8 ⟨rfl, b8⟩
              have HZ2 := Lib.hid (HZ1.out.later b8)
              have CY2 := Lib.hid (CY1.out.low hb (b8.mono HZ1.out.below.size))
              have hKeep := And.intro CY2.out HZ2.out.x.nine
              simp only [At9] at hKeep
              clear b8
              go_wp2_with fail
              refine hK.out _ _ ?_ (fun hHeld => ?_)
              · exact hKeep
              clear hK K
              try simp only [Act.put, List.setIfInBounds_toArray, List.set_cons_zero, List.set_cons_succ]
              refine wpAnyH_take (i := 8) (oi := { dst := some 126, op := Op.pick (Operand.tmp 119) (Operand.const (Value.bool true)) (Operand.tmp 125), type := 4, pos := "law.go:69", after := #[{ on := 1, ground := Ground.data }, { on := 7, ground := Ground.data }], guard := none }) (v := ?_) rfl (by kernel_rfl) (by kernel_rfl) (by kernel_rfl) (fun _ _ _ h => h) (Or.inl ⟨by rfl, ?_⟩) (by assumption) ?_; rotate_left; (focus (intro w hSw; (try dsimp only at hSw); go_simp; all_goals (with_reducible rfl)))
              try simp only [Act.put, List.setIfInBounds_toArray, List.set_cons_zero, List.set_cons_succ]
              refine wpAnyH_take (i := 9) (oi := { dst := some 16, op := Op.assign (Operand.tmp 126), type := 4, pos := "law.go:69", after := #[{ on := 8, ground := Ground.data }, { on := 7, ground := Ground.chain }, { on := 0, ground := Ground.phase }, { on := 1, ground := Ground.phase }, { on := 2, ground := Ground.phase }, { on := 3, ground := Ground.phase }, { on := 4, ground := Ground.phase }, { on := 5, ground := Ground.phase }, { on := 6, ground := Ground.phase }, { on := 7, ground := Ground.phase }, { on := 8, ground := Ground.phase }], guard := none }) (v := ?_) rfl (by kernel_rfl) (by kernel_rfl) (by kernel_rfl) (fun _ _ _ h => h) (Or.inl ⟨by rfl, ?_⟩) (by assumption) ?_; rotate_left; (focus (intro w hSw; (try dsimp only at hSw); go_simp; all_goals (with_reducible rfl)))
              try simp only [Act.put, List.setIfInBounds_toArray, List.set_cons_zero, List.set_cons_succ]
              refine wpAnyH_done (by kernel_rfl) ?_ _
              clear hHeld hStart
              go_wp2_with fail
              have CY3 := Lib.hid (CY2.out.low hb (Below.refl _ _).drew)
              have HZ3 := Lib.hid (HZ2.out.later (Below.refl _ _).drew)
              have hStart := And.intro CY3.out HZ3.out.x.nine
              simp only [At9] at hStart
              refine wp_region_held_drew (S := fun w' => (w'.cell? ⟨b, off + k * 9, none⟩ = some (.int .i64 y0) ∧ w'.cell? ⟨b, off + k * 9 + 1, none⟩ = some (.int .i64 y1) ∧ w'.cell? ⟨b, off + k * 9 + 2, none⟩ = some (.int .i64 y2) ∧ w'.cell? ⟨b, off + k * 9 + 3, none⟩ = some (.int .i64 y3) ∧ w'.cell? ⟨b, off + k * 9 + 4, none⟩ = some (.string y4) ∧ w'.cell? ⟨b, off + k * 9 + 5, none⟩ = some (.string y5) ∧ w'.cell? ⟨b, off + k * 9 + 6, none⟩ = some (.int .i64 y6) ∧ w'.cell? ⟨b, off + k * 9 + 7, none⟩ = some (.int .i64 y7) ∧ w'.cell? ⟨b, off + k * 9 + 8, none⟩ = some (.bool y8)) ∧ (w'.cell? ⟨X, 0, none⟩ = some (.int .i64 m0) ∧ w'.cell? ⟨X, 1, none⟩ = some (.int .i64 m1) ∧ w'.cell? ⟨X, 2, none⟩ = some (.int .i64 m2) ∧ w'.cell? ⟨X, 3, none⟩ = some (.int .i64 m3) ∧ w'.cell? ⟨X, 4, none⟩ = some (.string m4) ∧ w'.cell? ⟨X, 5, none⟩ = some (.string m5) ∧ w'.cell? ⟨X, 6, none⟩ = some (.int .i64 m6) ∧ w'.cell? ⟨X, 7, none⟩ = some (.int .i64 m7) ∧ w'.cell? ⟨X, 8, none⟩ = some (.bool m8))) (by kernel_rfl) (hStart) (fun hHeld => ?_)
              refine wpAnyH_take (i := 0) (oi := { dst := some 127, op := Op.move (Operand.tmp 0), type := 24, pos := "law.go:70", after := #[], guard := none }) (v := ?_) rfl (by kernel_rfl) (by kernel_rfl) (by kernel_rfl) (fun _ _ _ h => h) (Or.inl ⟨by rfl, ?_⟩) (by assumption) ?_; rotate_left; (focus (intro w hSw; (try dsimp only at hSw); go_simp; all_goals (with_reducible rfl)))
              try simp only [Act.put, List.setIfInBounds_toArray, List.set_cons_zero, List.set_cons_succ]
              refine wpAnyH_take (i := 1) (oi := { dst := some 128, op := Op.move (Operand.tmp 17), type := 3, pos := "law.go:70", after := #[], guard := none }) (v := ?_) rfl (by kernel_rfl) (by kernel_rfl) (by kernel_rfl) (fun _ _ _ h => h) (Or.inl ⟨by rfl, ?_⟩) (by assumption) ?_; rotate_left; (focus (intro w hSw; (try dsimp only at hSw); go_simp; all_goals (with_reducible rfl)))
              try simp only [Act.put, List.setIfInBounds_toArray, List.set_cons_zero, List.set_cons_succ]
              refine wpAnyH_take (i := 2) (oi := { dst := some 129, op := Op.indexAddr 24 (Operand.tmp 127) (Operand.tmp 128), type := 0, pos := "law.go:70", after := #[{ on := 0, ground := Ground.data }, { on := 1, ground := Ground.data }], guard := none }) (v := ?_) rfl (by kernel_rfl) (by kernel_rfl) (by kernel_rfl) (fun _ _ _ h => h) (Or.inl ⟨by rfl, ?_⟩) (by assumption) ?_; rotate_left; (focus (intro w hSw; (try dsimp only at hSw); go_simp; all_goals (with_reducible rfl)))
              try simp only [Act.put, List.setIfInBounds_toArray, List.set_cons_zero, List.set_cons_succ]
              refine wpAnyH_take (i := 3) (oi := { dst := some 130, op := Op.load 23 (Operand.tmp 129), type := 23, pos := "law.go:70", after := #[{ on := 2, ground := Ground.data }], guard := none }) (v := ?_) rfl (by kernel_rfl) (by kernel_rfl) (by kernel_rfl) (fun _ _ _ h => h) (Or.inl ⟨by rfl, ?_⟩) (by assumption) ?_; rotate_left; (focus (intro w hSw; (try dsimp only at hSw); go_simp; all_goals (with_reducible rfl)))
              try simp only [Act.put, List.setIfInBounds_toArray, List.set_cons_zero, List.set_cons_succ]
              refine wpAnyH_take (i := 4) (oi := { dst := some 131, op := Op.load 23 (Operand.tmp 8), type := 23, pos := "law.go:70", after := #[], guard := none }) (v := ?_) rfl (by kernel_rfl) (by kernel_rfl) (by kernel_rfl) (fun _ _ _ h => h) (Or.inl ⟨by rfl, ?_⟩) (by assumption) ?_; rotate_left; (focus (intro w hSw; (try dsimp only at hSw); go_simp; all_goals (with_reducible rfl)))
              try simp only [Act.put, List.setIfInBounds_toArray, List.set_cons_zero, List.set_cons_succ]
              refine wpAnyH_ready (rs := [5]) (by kernel_rfl) (by simp) ?_
              refine AllReadyH.cons (o := { dst := some 132, op := Op.call { callee := Callee.value (Operand.func 11), args := #[Operand.tmp 130, Operand.tmp 131], argTypes := #[23, 23] }, type := 4, pos := "law.go:70", after := #[{ on := 3, ground := Ground.data }, { on := 4, ground := Ground.data }], guard := none }) rfl (fun K hK => ?_) AllReadyH.nil
              go_simp
              refine (NW.out _).mono ?_
              rintro e w8 ⟨rfl, b8⟩
              have HZ4 := Lib.hid (HZ3.out.later b8)
              have CY4 := Lib.hid (CY3.out.low hb (b8.mono HZ3.out.below.size))
              have hKeep := And.intro CY4.out HZ4.out.x.nine
              simp only [At9] at hKeep
              clear b8
              go_wp2_with fail
              refine hK.out _ _ ?_ (fun hHeld => ?_)
              · exact hKeep
              clear hK K
              try simp only [Act.put, List.setIfInBounds_toArray, List.set_cons_zero, List.set_cons_succ]
              refine wpAnyH_done (by kernel_rfl) ?_ _
              clear hHeld hStart
              go_wp2_with fail
              go_roundw
              case rel => exact ⟨k + 1, by omega, by go_num, s, rfl, by have h := HN.out; rw [Bool.false_or] at h; exact h, HZ4.out⟩
              case measure => simp [intOf]; omega
            · go_wp2_with fail
              go_quiet (fail)
              have HZ2 := Lib.hid (HZ.out.later (drewN_below (Below.refl _ _) nq))
              have CY2 := Lib.hid (CY.out.low hb (drewN_below (Below.refl _ _) nq))
              go_wp2_with fail
              have CY3 := Lib.hid (CY2.out.low hb (Below.refl _ _).drew)
              have HZ3 := Lib.hid (HZ2.out.later (Below.refl _ _).drew)
              have hStart := And.intro CY3.out HZ3.out.x.nine
              simp only [At9] at hStart
              refine wp_region_held_drew (S := fun w' => (w'.cell? ⟨b, off + k * 9, none⟩ = some (.int .i64 y0) ∧ w'.cell? ⟨b, off + k * 9 + 1, none⟩ = some (.int .i64 y1) ∧ w'.cell? ⟨b, off + k * 9 + 2, none⟩ = some (.int .i64 y2) ∧ w'.cell? ⟨b, off + k * 9 + 3, none⟩ = some (.int .i64 y3) ∧ w'.cell? ⟨b, off + k * 9 + 4, none⟩ = some (.string y4) ∧ w'.cell? ⟨b, off + k * 9 + 5, none⟩ = some (.string y5) ∧ w'.cell? ⟨b, off + k * 9 + 6, none⟩ = some (.int .i64 y6) ∧ w'.cell? ⟨b, off + k * 9 + 7, none⟩ = some (.int .i64 y7) ∧ w'.cell? ⟨b, off + k * 9 + 8, none⟩ = some (.bool y8)) ∧ (w'.cell? ⟨X, 0, none⟩ = some (.int .i64 m0) ∧ w'.cell? ⟨X, 1, none⟩ = some (.int .i64 m1) ∧ w'.cell? ⟨X, 2, none⟩ = some (.int .i64 m2) ∧ w'.cell? ⟨X, 3, none⟩ = some (.int .i64 m3) ∧ w'.cell? ⟨X, 4, none⟩ = some (.string m4) ∧ w'.cell? ⟨X, 5, none⟩ = some (.string m5) ∧ w'.cell? ⟨X, 6, none⟩ = some (.int .i64 m6) ∧ w'.cell? ⟨X, 7, none⟩ = some (.int .i64 m7) ∧ w'.cell? ⟨X, 8, none⟩ = some (.bool m8))) (by kernel_rfl) (hStart) (fun hHeld => ?_)
              refine wpAnyH_take (i := 0) (oi := { dst := some 127, op := Op.move (Operand.tmp 0), type := 24, pos := "law.go:70", after := #[], guard := none }) (v := ?_) rfl (by kernel_rfl) (by kernel_rfl) (by kernel_rfl) (fun _ _ _ h => h) (Or.inl ⟨by rfl, ?_⟩) (by assumption) ?_; rotate_left; (focus (intro w hSw; (try dsimp only at hSw); go_simp; all_goals (with_reducible rfl)))
              try simp only [Act.put, List.setIfInBounds_toArray, List.set_cons_zero, List.set_cons_succ]
              refine wpAnyH_take (i := 1) (oi := { dst := some 128, op := Op.move (Operand.tmp 17), type := 3, pos := "law.go:70", after := #[], guard := none }) (v := ?_) rfl (by kernel_rfl) (by kernel_rfl) (by kernel_rfl) (fun _ _ _ h => h) (Or.inl ⟨by rfl, ?_⟩) (by assumption) ?_; rotate_left; (focus (intro w hSw; (try dsimp only at hSw); go_simp; all_goals (with_reducible rfl)))
              try simp only [Act.put, List.setIfInBounds_toArray, List.set_cons_zero, List.set_cons_succ]
              refine wpAnyH_take (i := 2) (oi := { dst := some 129, op := Op.indexAddr 24 (Operand.tmp 127) (Operand.tmp 128), type := 0, pos := "law.go:70", after := #[{ on := 0, ground := Ground.data }, { on := 1, ground := Ground.data }], guard := none }) (v := ?_) rfl (by kernel_rfl) (by kernel_rfl) (by kernel_rfl) (fun _ _ _ h => h) (Or.inl ⟨by rfl, ?_⟩) (by assumption) ?_; rotate_left; (focus (intro w hSw; (try dsimp only at hSw); go_simp; all_goals (with_reducible rfl)))
              try simp only [Act.put, List.setIfInBounds_toArray, List.set_cons_zero, List.set_cons_succ]
              refine wpAnyH_take (i := 3) (oi := { dst := some 130, op := Op.load 23 (Operand.tmp 129), type := 23, pos := "law.go:70", after := #[{ on := 2, ground := Ground.data }], guard := none }) (v := ?_) rfl (by kernel_rfl) (by kernel_rfl) (by kernel_rfl) (fun _ _ _ h => h) (Or.inl ⟨by rfl, ?_⟩) (by assumption) ?_; rotate_left; (focus (intro w hSw; (try dsimp only at hSw); go_simp; all_goals (with_reducible rfl)))
              try simp only [Act.put, List.setIfInBounds_toArray, List.set_cons_zero, List.set_cons_succ]
              refine wpAnyH_take (i := 4) (oi := { dst := some 131, op := Op.load 23 (Operand.tmp 8), type := 23, pos := "law.go:70", after := #[], guard := none }) (v := ?_) rfl (by kernel_rfl) (by kernel_rfl) (by kernel_rfl) (fun _ _ _ h => h) (Or.inl ⟨by rfl, ?_⟩) (by assumption) ?_; rotate_left; (focus (intro w hSw; (try dsimp only at hSw); go_simp; all_goals (with_reducible rfl)))
              try simp only [Act.put, List.setIfInBounds_toArray, List.set_cons_zero, List.set_cons_succ]
              refine wpAnyH_ready (rs := [5]) (by kernel_rfl) (by simp) ?_
              refine AllReadyH.cons (o := { dst := some 132, op := Op.call { callee := Callee.value (Operand.func 11), args := #[Operand.tmp 130, Operand.tmp 131], argTypes := #[23, 23] }, type := 4, pos := "law.go:70", after := #[{ on := 3, ground := Ground.data }, { on := 4, ground := Ground.data }], guard := none }) rfl (fun K hK => ?_) AllReadyH.nil
              go_simp
              refine (NW.out _).mono ?_
              rintro e w8 ⟨rfl, b8⟩
              have HZ4 := Lib.hid (HZ3.out.later b8)
              have CY4 := Lib.hid (CY3.out.low hb (b8.mono HZ3.out.below.size))
              have hKeep := And.intro CY4.out HZ4.out.x.nine
              simp only [At9] at hKeep
              clear b8
              go_wp2_with fail
              refine hK.out _ _ ?_ (fun hHeld => ?_)
              · exact hKeep
              clear hK K
              try simp only [Act.put, List.setIfInBounds_toArray, List.set_cons_zero, List.set_cons_succ]
              refine wpAnyH_done (by kernel_rfl) ?_ _
              clear hHeld hStart
              go_wp2_with fail
              go_roundw
              case rel => exact ⟨k + 1, by omega, by go_num, true, rfl, by have h := HN.out; rw [Bool.true_or] at h; exact h, HZ4.out⟩
              case measure => simp [intOf]; omega
          · have hkn : k = len := by omega
            have hbt : bb = true := by
              rw [HBB.out, List.take_of_length_le (by have := HLEN.out; omega)]
              exact HIN.out
            subst hbt
            go_wp2_with fail
            refine (awake_any _).mono ?_
            rintro e w9 ⟨rfl, b9⟩
            have B9 := Lib.hid (HB0.out.trans (b9.mono HB0.out.size))
            clear b9
            go_wp2_with fail
            go_ret
            exact ⟨rfl, B9.out⟩
    · obtain rfl : z = (j : Int) := by omega
      clear hz
      obtain ⟨y, hy⟩ : ∃ y, xs[j]? = some y := ⟨_, List.getElem?_eq_getElem (by have := HLEN.out; omega)⟩
      have hdrop : xs.drop j = y :: xs.drop (j + 1) := by
        obtain ⟨h1, h2⟩ := List.getElem?_eq_some_iff.1 hy
        rw [List.drop_eq_getElem_cons h1, h2]
      have HDR := Lib.hid hdrop
      have HYF := Lib.hid (HOKS.out y (List.mem_of_getElem? hy))
      have cy := (HC.out j y hy).later hb HB.out
      have cx := (HC.out 0 x0 HX0.out).later hb HB.out
      rw [Nat.zero_mul, Nat.add_zero] at cx
      have hbw := Nat.lt_of_lt_of_le hb HB.out.size
      obtain ⟨q, hq⟩ : ∃ q : Rec, q = x0 := ⟨_, rfl⟩
      rw [← hq] at cx
      have HQ := Lib.hid hq
      have CY := Lib.hid cy
      have CX := Lib.hid cx
      have HBW := Lib.hid hbw
      have hMAY := fun w => Cd.rmay_any y w HYF.out.sv HYF.out.op
      have HM01 := Lib.hid (Cd.may_01 y)
      have HMN : Hid (may y = 0 → ∀ q ∈ xs.drop j, may q = 0) := fun h q hq => by
        rw [HDR.out] at hq
        rcases List.mem_cons.1 hq with rfl | hq
        · exact h
        · exact HM.out q hq
      generalize may y = m at *
      clear hdrop hy cy cx hq
      obtain ⟨t0, t1, t2, t3, t4, t5, t6, t7, t8⟩ := q
      obtain ⟨y0, y1, y2, y3, y4, y5, y6, y7, y8⟩ := y
      have MAY : Hid (∀ w, Calls Try.prog 14 #[.agg #[.int .i64 y0, .int .i64 y1, .int .i64 y2, .int .i64 y3, .string y4, .string y5, .int .i64 y6, .int .i64 y7, .bool y8]] w fun e w' => e = .returned (.int .i64 (m : Nat)) ∧ Below w.heap.size w w') := hMAY
      clear hMAY
      obtain ⟨c0, c1, c2, c3, c4, c5, c6, c7, c8⟩ := CY.out
      simp only at c0 c1 c2 c3 c4 c5 c6 c7 c8
      go_wp2_with fail
      refine (MAY.out _).mono ?_
      rintro e w2 ⟨rfl, b2⟩
      have B2 := Lib.hid (HB.out.trans (b2.mono HB.out.size))
      have CY2 := Lib.hid (CY.out.later HBW.out b2)
      have CX2 := Lib.hid (CX.out.later HBW.out b2)
      have HO2 := Lib.hid (own_later HO.out b2)
      have hb2 := Nat.lt_of_lt_of_le HBW.out b2.size
      clear b2 c0 c1 c2 c3 c4 c5 c6 c7 c8
      rcases HM01.out with rfl | rfl
      · obtain ⟨v3, w3, r3, o3, b3⟩ := app_one w.heap.size _ vb _ ⟨y0, y1, y2, y3, y4, y5, y6, y7, y8⟩ w2 HO2.out (by omega) B2.out.size
        obtain ⟨v4, w4, r4, o4, b4⟩ := app_one w.heap.size _ v3 _ ⟨t0, t1, t2, t3, t4, t5, t6, t7, t8⟩ w3 o3 (by omega) (Nat.le_trans B2.out.size b3.size)
        have B3 := Lib.hid (B2.out.trans b3)
        have B4 := Lib.hid (B3.out.trans b4)
        have CX3 := Lib.hid (CX2.out.low hb b3)
        have HFIN : Hid (w4.ownsRow w.heap.size 23 9 v4 ((len - j) * 2) (rcs (bk x0 (xs.drop j)))) := by
          show World.ownsRow _ _ _ _ _ _ _
          rw [HDR.out, bk_cons, show (len - j) * 2 = (len - (j + 1)) * 2 + 1 + 1 by omega]
          have := o4
          rw [List.append_assoc, HQ.out] at this
          exact this
        have hb3 := Nat.lt_of_lt_of_le hb2 b3.size
        clear o3 o4 b3 b4
        obtain ⟨c0, c1, c2, c3, c4, c5, c6, c7, c8⟩ := CY2.out
        obtain ⟨d0, d1, d2, d3, d4, d5, d6, d7, d8⟩ := CX3.out
        simp only at c0 c1 c2 c3 c4 c5 c6 c7 c8 d0 d1 d2 d3 d4 d5 d6 d7 d8
        simp only at r3 r4
        go_wp2_with (first | (at_builtin; refine step_app rfl (.tmp 41) (.tmp 46) rfl rfl rfl rfl r3 ?_) | (at_builtin; refine step_app rfl (.tmp 48) (.tmp 52) rfl rfl rfl rfl r4 ?_) | fail)
        go_roundw
        case rel => exact ⟨j, by omega, _, rfl, rfl, _, rfl, HMN.out (by trivial), HFIN.out, B4.out⟩
        case measure => simp [intOf]
      · go_wp2_with fail
        refine (awake_any _).mono ?_
        rintro e w9 ⟨rfl, b9⟩
        have B9 := Lib.hid (B2.out.trans (b9.mono B2.out.size))
        clear b9
        go_wp2_with fail
        go_ret
        exact ⟨rfl, B9.out⟩
end Go.Proofs.Ytngmcefbljkgaaa.Rk
