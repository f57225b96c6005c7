/- The walk of the first law of layer 10: which record is newer, and the newest of any. -/
import Derived.Test.YtngmcefbljkgaaaRkAwake
set_option linter.unusedSimpArgs false
namespace Go.Proofs.Ytngmcefbljkgaaa.Rk
open Go.RowKit
open Cd (Rec Fit may putB recB zeroR recV recL Blk)

/-- numbers of 64 bits -/
structure W64 (x : Rec) : Prop where
  tr0 : -9223372036854775808 ≤ x.tr
  tr1 : x.tr ≤ 9223372036854775807
  id0 : -9223372036854775808 ≤ x.id
  id1 : x.id ≤ 9223372036854775807
  pa0 : -9223372036854775808 ≤ x.pa
  pa1 : x.pa ≤ 9223372036854775807
  rv0 : -9223372036854775808 ≤ x.rv
  rv1 : x.rv ≤ 9223372036854775807
  st0 : -9223372036854775808 ≤ x.st
  st1 : x.st ≤ 9223372036854775807
  du0 : -9223372036854775808 ≤ x.du
  du1 : x.du ≤ 9223372036854775807
theorem W64.ok {x : Rec} (h : W64 x) (hs : shB x = true) : Ok x := by
  obtain ⟨h4, h5⟩ := (shB_iff x).1 hs
  exact ⟨⟨h.tr1, h.id1, h.pa1, h.rv1, by omega, by omega, h.st0, h.st1, h.du0, h.du1⟩, h.tr0, h.id0, h.pa0, h.rv0⟩

/-- two records that came in, and two that were made -/
structure Sit (w W : World) (la lb lu : List Value) (X Y : Nat) : Prop where
  a : Blk W w.heap.size la
  b : Blk W (w.heap.size + 1) lb
  x : Blk W X lu
  y : Blk W Y lu
  below : Below w.heap.size w W
theorem Sit.later {w W W' : World} {la lb lu : List Value} {X Y : Nat} (h : Sit w W la lb lu X Y) (hb : Below W.heap.size W W') : Sit w W' la lb lu X Y :=
  ⟨h.a.later hb, h.b.later hb, h.x.later hb, h.y.later hb, h.below.trans (hb.mono h.below.size)⟩

set_option maxHeartbeats 12800000 in
set_option maxRecDepth 100000 in
theorem is_any (x y : Rec) (a : Option Addr) (len cap : Nat) (xs : List Rec) (w : World) (hx : W64 x) (hy : W64 y) (hr : Recs a len xs w) (hc : len ≤ cap) (hok : ∀ z ∈ xs, W64 z) :
    Calls Try.prog 3 #[recV x, recV y, .slice a len cap] w fun e w' => e = .returned (.bool true) ∧ Below w.heap.size w w' := by
  have T0 := Lib.hid (Two.start w 23 23 (recL x) (recL y))
  have OX : Hid (shB x = true → Ok x) := hx.ok
  have OY : Hid (shB y = true → Ok y) := hy.ok
  have SX : ∀ w, Calls Try.prog 6 #[recV x] w fun e w' => e = .returned (.bool (shB x)) ∧ Below w.heap.size w w' := fun w => Cd.short_any x w
  have SY : ∀ w, Calls Try.prog 6 #[recV y] w fun e w' => e = .returned (.bool (shB y)) ∧ Below w.heap.size w w' := fun w => Cd.short_any y w
  have NXY := fun (hx : Ok x) (hy : Ok y) w => newer_any x y w hx.fit hy.fit
  have NYX := fun (hx : Ok x) (hy : Ok y) w => newer_any y x w hy.fit hx.fit
  have RXY := fun (hx : Ok x) (hy : Ok y) w => rnewer_any x y w hx hy
  have RYX := fun (hx : Ok x) (hy : Ok y) w => rnewer_any y x w hy hx
  have HR := Lib.hid hr
  have HOK := Lib.hid hok
  have BA := fun w h (hl : xs.length ≤ 12) hf => best_any a len cap xs w h hc (by have := hr.len_is; omega) hf
  have RA := fun w h (hl : xs.length ≤ 12) hf => rbest_any a len cap xs w h (by have := hr.len_is; omega) hf
  have FE := Lib.hid (fun w h => few_any a len cap xs w h)
  generalize newer x y = p at NXY RXY
  generalize newer y x = q at NYX RYX
  generalize shB x = sx at *
  generalize shB y = sy at *
  generalize bestR xs = u at BA RA
  generalize isR xs = fl at BA RA
  obtain ⟨x0, x1, x2, x3, x4, x5, x6, x7, x8⟩ := x
  obtain ⟨y0, y1, y2, y3, y4, y5, y6, y7, y8⟩ := y
  obtain ⟨u0, u1, u2, u3, u4, u5, u6, u7, u8⟩ := u
  simp only [recV] at SX SY NXY NYX RXY RYX BA RA
  have SX := Lib.hid SX
  have SY := Lib.hid SY
  have NXY := Lib.hid NXY
  have NYX := Lib.hid NYX
  have RXY := Lib.hid RXY
  have RYX := Lib.hid RYX
  have BA := Lib.hid BA
  have RA := Lib.hid RA
  clear hr hok hx hy hc
  unfold recV
  go_enter Try.func3, Try.ntmps3
  go_wp2_with fail
  refine (SX.out _).mono ?_
  rintro e w1 ⟨rfl, b1⟩
  have T1 := Lib.hid (T0.out.later b1)
  clear b1
  cases sx
  · go_wp2_with fail
    refine (awake_any _).mono ?_
    rintro e w2 ⟨rfl, b2⟩
    have T2 := Lib.hid (T1.out.later b2)
    clear b2
    go_wp2_with fail
    go_ret
    exact ⟨rfl, T2.out.below⟩
  obtain ⟨c0, c1, c2, c3, c4, c5, c6, c7, c8⟩ := T1.out.b.nine
  go_wp2_with fail
  refine (SY.out _).mono ?_
  rintro e w2 ⟨rfl, b2⟩
  have T2 := Lib.hid (T1.out.later b2)
  clear b2 c0 c1 c2 c3 c4 c5 c6 c7 c8
  cases sy
  · go_wp2_with fail
    refine (awake_any _).mono ?_
    rintro e w3 ⟨rfl, b3⟩
    have T3 := Lib.hid (T2.out.later b3)
    clear b3
    go_wp2_with fail
    go_ret
    exact ⟨rfl, T3.out.below⟩
  go_wp2_with fail
  refine (FE.out _ (HR.out.later T2.out.below)).mono ?_
  rintro e w3 ⟨⟨f, rfl, hf⟩, b3⟩
  have T3 := Lib.hid (T2.out.later b3)
  have HF := Lib.hid hf
  clear b3 hf
  cases f
  · go_wp2_with fail
    refine (awake_any _).mono ?_
    rintro e w4 ⟨rfl, b4⟩
    have T4 := Lib.hid (T3.out.later b4)
    clear b4
    go_wp2_with fail
    go_ret
    exact ⟨rfl, T4.out.below⟩
  have HS := Lib.hid (HF.out rfl)
  have HOKS : Hid (∀ z ∈ xs, Ok z) := fun z hz => (HOK.out z hz).ok (HS.out.2 z hz)
  go_wp2_with fail
  refine (BA.out _ (HR.out.later T3.out.below) HS.out.1 (fun z hz => (HOKS.out z hz).fit)).mono ?_
  rintro e w4 ⟨rfl, b4⟩
  have T4 := Lib.hid (T3.out.later b4)
  have k5 : Below w4.heap.size w4 (w4.alloc (.cells #[.int .i64 u0, .int .i64 u1, .int .i64 u2, .int .i64 u3, .string u4, .string u5, .int .i64 u6, .int .i64 u7, .bool u8] 23)) := (Below.refl _ _).alloc (Nat.le_refl _) _
  have T5 := Lib.hid (T4.out.later k5)
  have X5 : Hid (Blk (w4.alloc (.cells #[.int .i64 u0, .int .i64 u1, .int .i64 u2, .int .i64 u3, .string u4, .string u5, .int .i64 u6, .int .i64 u7, .bool u8] 23)) w4.heap.size [.int .i64 u0, .int .i64 u1, .int .i64 u2, .int .i64 u3, .string u4, .string u5, .int .i64 u6, .int .i64 u7, .bool u8]) := Blk.start w4 23 [.int .i64 u0, .int .i64 u1, .int .i64 u2, .int .i64 u3, .string u4, .string u5, .int .i64 u6, .int .i64 u7, .bool u8]
  clear b4 k5
  go_wp2_with fail
  generalize w4.heap.size = X at *
  generalize World.alloc w4 _ = w5 at *
  refine (RA.out _ (HR.out.later T5.out.below) HS.out.1 HOKS.out).mono ?_
  rintro e w6 ⟨rfl, b6⟩
  have T6 := Lib.hid (T5.out.later b6)
  have X6 := Lib.hid (X5.out.later b6)
  have k7 : Below w6.heap.size w6 (w6.alloc (.cells #[.int .i64 u0, .int .i64 u1, .int .i64 u2, .int .i64 u3, .string u4, .string u5, .int .i64 u6, .int .i64 u7, .bool u8] 23)) := (Below.refl _ _).alloc (Nat.le_refl _) _
  have T7 := Lib.hid (T6.out.later k7)
  have X7 := Lib.hid (X6.out.later k7)
  have Y7 : Hid (Blk (w6.alloc (.cells #[.int .i64 u0, .int .i64 u1, .int .i64 u2, .int .i64 u3, .string u4, .string u5, .int .i64 u6, .int .i64 u7, .bool u8] 23)) w6.heap.size [.int .i64 u0, .int .i64 u1, .int .i64 u2, .int .i64 u3, .string u4, .string u5, .int .i64 u6, .int .i64 u7, .bool u8]) := Blk.start w6 23 [.int .i64 u0, .int .i64 u1, .int .i64 u2, .int .i64 u3, .string u4, .string u5, .int .i64 u6, .int .i64 u7, .bool u8]
  clear b6 k7
  go_wp2_with fail
  generalize w6.heap.size = Y at *
  generalize World.alloc w6 _ = w7 at *
  have L0 : Hid (Sit w w7.drew [.int .i64 x0, .int .i64 x1, .int .i64 x2, .int .i64 x3, .string x4, .string x5, .int .i64 x6, .int .i64 x7, .bool x8] [.int .i64 y0, .int .i64 y1, .int .i64 y2, .int .i64 y3, .string y4, .string y5, .int .i64 y6, .int .i64 y7, .bool y8] [.int .i64 u0, .int .i64 u1, .int .i64 u2, .int .i64 u3, .string u4, .string u5, .int .i64 u6, .int .i64 u7, .bool u8] X Y) := (Sit.mk T7.out.a T7.out.b X7.out Y7.out T7.out.below).later (Below.refl _ _).drew
  have HXO := Lib.hid (OX.out (by trivial))
  have HYO := Lib.hid (OY.out (by trivial))
  have hStart := And.intro (And.intro L0.out.a.nine L0.out.b.nine) (And.intro L0.out.x.nine L0.out.y.nine)
  refine wp_region_held_drew (S := fun w' => ((w'.cell? ⟨w.heap.size, 0, none⟩ = some (.int .i64 x0) ∧ w'.cell? ⟨w.heap.size, 1, none⟩ = some (.int .i64 x1) ∧ w'.cell? ⟨w.heap.size, 2, none⟩ = some (.int .i64 x2) ∧ w'.cell? ⟨w.heap.size, 3, none⟩ = some (.int .i64 x3) ∧ w'.cell? ⟨w.heap.size, 4, none⟩ = some (.string x4) ∧ w'.cell? ⟨w.heap.size, 5, none⟩ = some (.string x5) ∧ w'.cell? ⟨w.heap.size, 6, none⟩ = some (.int .i64 x6) ∧ w'.cell? ⟨w.heap.size, 7, none⟩ = some (.int .i64 x7) ∧ w'.cell? ⟨w.heap.size, 8, none⟩ = some (.bool x8)) ∧ (w'.cell? ⟨w.heap.size + 1, 0, none⟩ = some (.int .i64 y0) ∧ w'.cell? ⟨w.heap.size + 1, 1, none⟩ = some (.int .i64 y1) ∧ w'.cell? ⟨w.heap.size + 1, 2, none⟩ = some (.int .i64 y2) ∧ w'.cell? ⟨w.heap.size + 1, 3, none⟩ = some (.int .i64 y3) ∧ w'.cell? ⟨w.heap.size + 1, 4, none⟩ = some (.string y4) ∧ w'.cell? ⟨w.heap.size + 1, 5, none⟩ = some (.string y5) ∧ w'.cell? ⟨w.heap.size + 1, 6, none⟩ = some (.int .i64 y6) ∧ w'.cell? ⟨w.heap.size + 1, 7, none⟩ = some (.int .i64 y7) ∧ w'.cell? ⟨w.heap.size + 1, 8, none⟩ = some (.bool y8))) ∧ ((w'.cell? ⟨X, 0, none⟩ = some (.int .i64 u0) ∧ w'.cell? ⟨X, 1, none⟩ = some (.int .i64 u1) ∧ w'.cell? ⟨X, 2, none⟩ = some (.int .i64 u2) ∧ w'.cell? ⟨X, 3, none⟩ = some (.int .i64 u3) ∧ w'.cell? ⟨X, 4, none⟩ = some (.string u4) ∧ w'.cell? ⟨X, 5, none⟩ = some (.string u5) ∧ w'.cell? ⟨X, 6, none⟩ = some (.int .i64 u6) ∧ w'.cell? ⟨X, 7, none⟩ = some (.int .i64 u7) ∧ w'.cell? ⟨X, 8, none⟩ = some (.bool u8)) ∧ (w'.cell? ⟨Y, 0, none⟩ = some (.int .i64 u0) ∧ w'.cell? ⟨Y, 1, none⟩ = some (.int .i64 u1) ∧ w'.cell? ⟨Y, 2, none⟩ = some (.int .i64 u2) ∧ w'.cell? ⟨Y, 3, none⟩ = some (.int .i64 u3) ∧ w'.cell? ⟨Y, 4, none⟩ = some (.string u4) ∧ w'.cell? ⟨Y, 5, none⟩ = some (.string u5) ∧ w'.cell? ⟨Y, 6, none⟩ = some (.int .i64 u6) ∧ w'.cell? ⟨Y, 7, none⟩ = some (.int .i64 u7) ∧ w'.cell? ⟨Y, 8, none⟩ = some (.bool u8)))) (by kernel_rfl) (hStart) (fun hHeld => ?_)
  refine wpAnyH_take (i := 0) (oi := { dst := some 35, op := Op.load 23 (Operand.tmp 3), type := 23, pos := "law.go:30", after := #[], guard := none }) (v := ?_) rfl (by kernel_rfl) (by kernel_rfl) (by kernel_rfl) (fun _ _ _ h => h) (Or.inl ⟨by rfl, ?_⟩) (by assumption) ?_; rotate_left; (focus (intro w hSw; (try dsimp only at hSw); go_simp; all_goals (with_reducible rfl)))
  try simp only [Act.put, List.setIfInBounds_toArray, List.set_cons_zero, List.set_cons_succ]
  refine wpAnyH_take (i := 1) (oi := { dst := some 36, op := Op.load 23 (Operand.tmp 4), type := 23, pos := "law.go:30", after := #[], guard := none }) (v := ?_) rfl (by kernel_rfl) (by kernel_rfl) (by kernel_rfl) (fun _ _ _ h => h) (Or.inl ⟨by rfl, ?_⟩) (by assumption) ?_; rotate_left; (focus (intro w hSw; (try dsimp only at hSw); go_simp; all_goals (with_reducible rfl)))
  try simp only [Act.put, List.setIfInBounds_toArray, List.set_cons_zero, List.set_cons_succ]
  refine wpAnyH_take (i := 3) (oi := { dst := some 38, op := Op.load 23 (Operand.tmp 3), type := 23, pos := "law.go:30", after := #[], guard := none }) (v := ?_) rfl (by kernel_rfl) (by kernel_rfl) (by kernel_rfl) (fun _ _ _ h => h) (Or.inl ⟨by rfl, ?_⟩) (by assumption) ?_; rotate_left; (focus (intro w hSw; (try dsimp only at hSw); go_simp; all_goals (with_reducible rfl)))
  try simp only [Act.put, List.setIfInBounds_toArray, List.set_cons_zero, List.set_cons_succ]
  refine wpAnyH_take (i := 4) (oi := { dst := some 39, op := Op.load 23 (Operand.tmp 4), type := 23, pos := "law.go:30", after := #[], guard := none }) (v := ?_) rfl (by kernel_rfl) (by kernel_rfl) (by kernel_rfl) (fun _ _ _ h => h) (Or.inl ⟨by rfl, ?_⟩) (by assumption) ?_; rotate_left; (focus (intro w hSw; (try dsimp only at hSw); go_simp; all_goals (with_reducible rfl)))
  try simp only [Act.put, List.setIfInBounds_toArray, List.set_cons_zero, List.set_cons_succ]
  refine wpAnyH_ready (rs := [2]) (by kernel_rfl) (by simp) ?_
  refine AllReadyH.cons (o := { dst := some 37, op := Op.call { callee := Callee.value (Operand.func 11), args := #[Operand.tmp 35, Operand.tmp 36], argTypes := #[23, 23] }, type := 4, pos := "law.go:30", after := #[{ on := 0, ground := Ground.data }, { on := 1, ground := Ground.data }], guard := none }) rfl (fun K hK => ?_) AllReadyH.nil
  go_simp
  refine (NXY.out HXO.out HYO.out _).mono ?_
  rintro e w8 ⟨rfl, b8⟩
  have L1 := Lib.hid (L0.out.later b8)
  have hKeep := And.intro (And.intro L1.out.a.nine L1.out.b.nine) (And.intro L1.out.x.nine L1.out.y.nine)
  clear b8
  go_wp2_with fail
  refine hK.out _ _ ?_ (fun hHeld => ?_)
  · exact hKeep
  clear hK K
  try simp only [Act.put, List.setIfInBounds_toArray, List.set_cons_zero, List.set_cons_succ]
  refine wpAnyH_ready (rs := [5]) (by kernel_rfl) (by simp) ?_
  refine AllReadyH.cons (o := { dst := some 40, op := Op.call { callee := Callee.value (Operand.func 12), args := #[Operand.tmp 38, Operand.tmp 39], argTypes := #[23, 23] }, type := 4, pos := "law.go:30", after := #[{ on := 3, ground := Ground.data }, { on := 4, ground := Ground.data }, { on := 2, ground := Ground.chain }], guard := none }) rfl (fun K hK => ?_) AllReadyH.nil
  go_simp
  refine (RXY.out HXO.out HYO.out _).mono ?_
  rintro e w8 ⟨rfl, b8⟩
  have L2 := Lib.hid (L1.out.later b8)
  have hKeep := And.intro (And.intro L2.out.a.nine L2.out.b.nine) (And.intro L2.out.x.nine L2.out.y.nine)
  clear b8
  go_wp2_with fail
  refine hK.out _ _ ?_ (fun hHeld => ?_)
  · exact hKeep
  clear hK K
  try simp only [Act.put, List.setIfInBounds_toArray, List.set_cons_zero, List.set_cons_succ]
  refine wpAnyH_take (i := 6) (oi := { dst := some 41, op := Op.binOp BinOp.eql 4 (Operand.tmp 37) (Operand.tmp 40) 4, type := 4, pos := "law.go:30", after := #[{ on := 2, ground := Ground.data }, { on := 5, ground := Ground.data }], guard := none }) (v := ?_) rfl (by kernel_rfl) (by kernel_rfl) (by kernel_rfl) (fun _ _ _ h => h) (Or.inl ⟨by rfl, ?_⟩) (by assumption) ?_; rotate_left; (focus (intro w hSw; (try dsimp only at hSw); go_simp; all_goals (with_reducible rfl)))
  try simp only [Act.put, List.setIfInBounds_toArray, List.set_cons_zero, List.set_cons_succ]
  refine wpAnyH_take (i := 7) (oi := { dst := some 42, op := Op.move (Operand.tmp 41), type := 4, pos := "law.go:30", after := #[{ on := 6, ground := Ground.data }, { on := 5, ground := Ground.chain }], guard := none }) (v := ?_) rfl (by kernel_rfl) (by kernel_rfl) (by kernel_rfl) (fun _ _ _ h => h) (Or.inl ⟨by rfl, ?_⟩) (by assumption) ?_; rotate_left; (focus (intro w hSw; (try dsimp only at hSw); go_simp; all_goals (with_reducible rfl)))
  try simp only [Act.put, List.setIfInBounds_toArray, List.set_cons_zero, List.set_cons_succ]
  first | (refine wpAnyH_take (i := 8) (oi := { dst := some 43, op := Op.load 23 (Operand.tmp 4), type := 23, pos := "law.go:30", after := #[{ on := 7, ground := Ground.guard }], guard := some (7, true) }) (v := ?_) rfl (by kernel_rfl) (by kernel_rfl) (by kernel_rfl) (fun _ _ _ h => h) (Or.inl ⟨by rfl, ?_⟩) (by assumption) ?_; rotate_left; (focus (intro w hSw; (try dsimp only at hSw); go_simp; all_goals (with_reducible rfl)))) | refine wpAnyH_take (i := 8) (oi := { dst := some 43, op := Op.load 23 (Operand.tmp 4), type := 23, pos := "law.go:30", after := #[{ on := 7, ground := Ground.guard }], guard := some (7, true) }) (v := undef) rfl (by kernel_rfl) (by kernel_rfl) (by kernel_rfl) (fun _ _ _ h => h) (Or.inr ⟨by rfl, rfl⟩) (by assumption) ?_
  try simp only [Act.put, List.setIfInBounds_toArray, List.set_cons_zero, List.set_cons_succ]
  first | (refine wpAnyH_take (i := 9) (oi := { dst := some 44, op := Op.load 23 (Operand.tmp 3), type := 23, pos := "law.go:30", after := #[{ on := 7, ground := Ground.guard }], guard := some (7, true) }) (v := ?_) rfl (by kernel_rfl) (by kernel_rfl) (by kernel_rfl) (fun _ _ _ h => h) (Or.inl ⟨by rfl, ?_⟩) (by assumption) ?_; rotate_left; (focus (intro w hSw; (try dsimp only at hSw); go_simp; all_goals (with_reducible rfl)))) | refine wpAnyH_take (i := 9) (oi := { dst := some 44, op := Op.load 23 (Operand.tmp 3), type := 23, pos := "law.go:30", after := #[{ on := 7, ground := Ground.guard }], guard := some (7, true) }) (v := undef) rfl (by kernel_rfl) (by kernel_rfl) (by kernel_rfl) (fun _ _ _ h => h) (Or.inr ⟨by rfl, rfl⟩) (by assumption) ?_
  try simp only [Act.put, List.setIfInBounds_toArray, List.set_cons_zero, List.set_cons_succ]
  first | (refine wpAnyH_take (i := 11) (oi := { dst := some 46, op := Op.load 23 (Operand.tmp 4), type := 23, pos := "law.go:30", after := #[{ on := 7, ground := Ground.guard }], guard := some (7, true) }) (v := ?_) rfl (by kernel_rfl) (by kernel_rfl) (by kernel_rfl) (fun _ _ _ h => h) (Or.inl ⟨by rfl, ?_⟩) (by assumption) ?_; rotate_left; (focus (intro w hSw; (try dsimp only at hSw); go_simp; all_goals (with_reducible rfl)))) | refine wpAnyH_take (i := 11) (oi := { dst := some 46, op := Op.load 23 (Operand.tmp 4), type := 23, pos := "law.go:30", after := #[{ on := 7, ground := Ground.guard }], guard := some (7, true) }) (v := undef) rfl (by kernel_rfl) (by kernel_rfl) (by kernel_rfl) (fun _ _ _ h => h) (Or.inr ⟨by rfl, rfl⟩) (by assumption) ?_
  try simp only [Act.put, List.setIfInBounds_toArray, List.set_cons_zero, List.set_cons_succ]
  first | (refine wpAnyH_take (i := 12) (oi := { dst := some 47, op := Op.load 23 (Operand.tmp 3), type := 23, pos := "law.go:30", after := #[{ on := 7, ground := Ground.guard }], guard := some (7, true) }) (v := ?_) rfl (by kernel_rfl) (by kernel_rfl) (by kernel_rfl) (fun _ _ _ h => h) (Or.inl ⟨by rfl, ?_⟩) (by assumption) ?_; rotate_left; (focus (intro w hSw; (try dsimp only at hSw); go_simp; all_goals (with_reducible rfl)))) | refine wpAnyH_take (i := 12) (oi := { dst := some 47, op := Op.load 23 (Operand.tmp 3), type := 23, pos := "law.go:30", after := #[{ on := 7, ground := Ground.guard }], guard := some (7, true) }) (v := undef) rfl (by kernel_rfl) (by kernel_rfl) (by kernel_rfl) (fun _ _ _ h => h) (Or.inr ⟨by rfl, rfl⟩) (by assumption) ?_
  try simp only [Act.put, List.setIfInBounds_toArray, List.set_cons_zero, List.set_cons_succ]
  refine wpAnyH_ready (rs := [10]) (by kernel_rfl) (by simp) ?_
  refine AllReadyH.cons (o := { dst := some 45, op := Op.call { callee := Callee.value (Operand.func 11), args := #[Operand.tmp 43, Operand.tmp 44], argTypes := #[23, 23] }, type := 4, pos := "law.go:30", after := #[{ on := 8, ground := Ground.data }, { on := 9, ground := Ground.data }, { on := 7, ground := Ground.chain }, { on := 7, ground := Ground.guard }], guard := some (7, true) }) rfl (fun K hK => ?_) AllReadyH.nil
  go_simp
  refine (NYX.out HXO.out HYO.out _).mono ?_
  rintro e w8 ⟨rfl, b8⟩
  have L3 := Lib.hid (L2.out.later b8)
  have hKeep := And.intro (And.intro L3.out.a.nine L3.out.b.nine) (And.intro L3.out.x.nine L3.out.y.nine)
  clear b8
  go_wp2_with fail
  refine hK.out _ _ ?_ (fun hHeld => ?_)
  · exact hKeep
  clear hK K
  try simp only [Act.put, List.setIfInBounds_toArray, List.set_cons_zero, List.set_cons_succ]
  refine wpAnyH_ready (rs := [13]) (by kernel_rfl) (by simp) ?_
  refine AllReadyH.cons (o := { dst := some 48, op := Op.call { callee := Callee.value (Operand.func 12), args := #[Operand.tmp 46, Operand.tmp 47], argTypes := #[23, 23] }, type := 4, pos := "law.go:30", after := #[{ on := 11, ground := Ground.data }, { on := 12, ground := Ground.data }, { on := 10, ground := Ground.chain }, { on := 7, ground := Ground.guard }], guard := some (7, true) }) rfl (fun K hK => ?_) AllReadyH.nil
  go_simp
  refine (RYX.out HXO.out HYO.out _).mono ?_
  rintro e w8 ⟨rfl, b8⟩
  have L4 := Lib.hid (L3.out.later b8)
  have hKeep := And.intro (And.intro L4.out.a.nine L4.out.b.nine) (And.intro L4.out.x.nine L4.out.y.nine)
  clear b8
  go_wp2_with fail
  refine hK.out _ _ ?_ (fun hHeld => ?_)
  · exact hKeep
  clear hK K
  try simp only [Act.put, List.setIfInBounds_toArray, List.set_cons_zero, List.set_cons_succ]
  first | (refine wpAnyH_take (i := 14) (oi := { dst := some 49, op := Op.binOp BinOp.eql 4 (Operand.tmp 45) (Operand.tmp 48) 4, type := 4, pos := "law.go:30", after := #[{ on := 10, ground := Ground.data }, { on := 13, ground := Ground.data }, { on := 7, ground := Ground.guard }], guard := some (7, true) }) (v := ?_) rfl (by kernel_rfl) (by kernel_rfl) (by kernel_rfl) (fun _ _ _ h => h) (Or.inl ⟨by rfl, ?_⟩) (by assumption) ?_; rotate_left; (focus (intro w hSw; (try dsimp only at hSw); go_simp; all_goals (with_reducible rfl)))) | refine wpAnyH_take (i := 14) (oi := { dst := some 49, op := Op.binOp BinOp.eql 4 (Operand.tmp 45) (Operand.tmp 48) 4, type := 4, pos := "law.go:30", after := #[{ on := 10, ground := Ground.data }, { on := 13, ground := Ground.data }, { on := 7, ground := Ground.guard }], guard := some (7, true) }) (v := undef) rfl (by kernel_rfl) (by kernel_rfl) (by kernel_rfl) (fun _ _ _ h => h) (Or.inr ⟨by rfl, rfl⟩) (by assumption) ?_
  try simp only [Act.put, List.setIfInBounds_toArray, List.set_cons_zero, List.set_cons_succ]
  refine wpAnyH_take (i := 15) (oi := { dst := some 50, op := Op.pick (Operand.tmp 42) (Operand.tmp 49) (Operand.const (Value.bool false)), type := 4, pos := "law.go:30", after := #[{ on := 7, ground := Ground.data }, { on := 14, ground := Ground.data }], guard := none }) (v := ?_) rfl (by kernel_rfl) (by kernel_rfl) (by kernel_rfl) (fun _ _ _ h => h) (Or.inl ⟨by rfl, ?_⟩) (by assumption) ?_; rotate_left; (focus (intro w hSw; (try dsimp only at hSw); go_simp; all_goals (with_reducible rfl)))
  try simp only [Act.put, List.setIfInBounds_toArray, List.set_cons_zero, List.set_cons_succ]
  refine wpAnyH_take (i := 16) (oi := { dst := some 51, op := Op.move (Operand.tmp 50), type := 4, pos := "law.go:30", after := #[{ on := 15, ground := Ground.data }, { on := 13, ground := Ground.chain }], guard := none }) (v := ?_) rfl (by kernel_rfl) (by kernel_rfl) (by kernel_rfl) (fun _ _ _ h => h) (Or.inl ⟨by rfl, ?_⟩) (by assumption) ?_; rotate_left; (focus (intro w hSw; (try dsimp only at hSw); go_simp; all_goals (with_reducible rfl)))
  try simp only [Act.put, List.setIfInBounds_toArray, List.set_cons_zero, List.set_cons_succ]
  first | (refine wpAnyH_take (i := 17) (oi := { dst := some 52, op := Op.load 23 (Operand.tmp 7), type := 23, pos := "law.go:30", after := #[{ on := 16, ground := Ground.guard }], guard := some (16, true) }) (v := ?_) rfl (by kernel_rfl) (by kernel_rfl) (by kernel_rfl) (fun _ _ _ h => h) (Or.inl ⟨by rfl, ?_⟩) (by assumption) ?_; rotate_left; (focus (intro w hSw; (try dsimp only at hSw); go_simp; all_goals (with_reducible rfl)))) | refine wpAnyH_take (i := 17) (oi := { dst := some 52, op := Op.load 23 (Operand.tmp 7), type := 23, pos := "law.go:30", after := #[{ on := 16, ground := Ground.guard }], guard := some (16, true) }) (v := undef) rfl (by kernel_rfl) (by kernel_rfl) (by kernel_rfl) (fun _ _ _ h => h) (Or.inr ⟨by rfl, rfl⟩) (by assumption) ?_
  try simp only [Act.put, List.setIfInBounds_toArray, List.set_cons_zero, List.set_cons_succ]
  first | (refine wpAnyH_take (i := 18) (oi := { dst := some 53, op := Op.load 23 (Operand.tmp 9), type := 23, pos := "law.go:30", after := #[{ on := 16, ground := Ground.guard }], guard := some (16, true) }) (v := ?_) rfl (by kernel_rfl) (by kernel_rfl) (by kernel_rfl) (fun _ _ _ h => h) (Or.inl ⟨by rfl, ?_⟩) (by assumption) ?_; rotate_left; (focus (intro w hSw; (try dsimp only at hSw); go_simp; all_goals (with_reducible rfl)))) | refine wpAnyH_take (i := 18) (oi := { dst := some 53, op := Op.load 23 (Operand.tmp 9), type := 23, pos := "law.go:30", after := #[{ on := 16, ground := Ground.guard }], guard := some (16, true) }) (v := undef) rfl (by kernel_rfl) (by kernel_rfl) (by kernel_rfl) (fun _ _ _ h => h) (Or.inr ⟨by rfl, rfl⟩) (by assumption) ?_
  try simp only [Act.put, List.setIfInBounds_toArray, List.set_cons_zero, List.set_cons_succ]
  first | (refine wpAnyH_take (i := 19) (oi := { dst := some 54, op := Op.binOp BinOp.eql 23 (Operand.tmp 52) (Operand.tmp 53) 23, type := 4, pos := "law.go:30", after := #[{ on := 17, ground := Ground.data }, { on := 18, ground := Ground.data }, { on := 16, ground := Ground.guard }], guard := some (16, true) }) (v := ?_) rfl (by kernel_rfl) (by kernel_rfl) (by kernel_rfl) (fun _ _ _ h => h) (Or.inl ⟨by rfl, ?_⟩) (by assumption) ?_; rotate_left; (focus (intro w hSw; (try dsimp only at hSw); go_simp; all_goals (with_reducible rfl)))) | refine wpAnyH_take (i := 19) (oi := { dst := some 54, op := Op.binOp BinOp.eql 23 (Operand.tmp 52) (Operand.tmp 53) 23, type := 4, pos := "law.go:30", after := #[{ on := 17, ground := Ground.data }, { on := 18, ground := Ground.data }, { on := 16, ground := Ground.guard }], guard := some (16, true) }) (v := undef) rfl (by kernel_rfl) (by kernel_rfl) (by kernel_rfl) (fun _ _ _ h => h) (Or.inr ⟨by rfl, rfl⟩) (by assumption) ?_
  try simp only [Act.put, List.setIfInBounds_toArray, List.set_cons_zero, List.set_cons_succ]
  refine wpAnyH_take (i := 20) (oi := { dst := some 55, op := Op.pick (Operand.tmp 51) (Operand.tmp 54) (Operand.const (Value.bool false)), type := 4, pos := "law.go:30", after := #[{ on := 16, ground := Ground.data }, { on := 19, ground := Ground.data }], guard := none }) (v := ?_) rfl (by kernel_rfl) (by kernel_rfl) (by kernel_rfl) (fun _ _ _ h => h) (Or.inl ⟨by rfl, ?_⟩) (by assumption) ?_; rotate_left; (focus (intro w hSw; (try dsimp only at hSw); go_simp; all_goals (with_reducible rfl)))
  try simp only [Act.put, List.setIfInBounds_toArray, List.set_cons_zero, List.set_cons_succ]
  refine wpAnyH_take (i := 21) (oi := { dst := some 56, op := Op.move (Operand.tmp 55), type := 4, pos := "law.go:30", after := #[{ on := 20, ground := Ground.data }, { on := 16, ground := Ground.chain }], guard := none }) (v := ?_) rfl (by kernel_rfl) (by kernel_rfl) (by kernel_rfl) (fun _ _ _ h => h) (Or.inl ⟨by rfl, ?_⟩) (by assumption) ?_; rotate_left; (focus (intro w hSw; (try dsimp only at hSw); go_simp; all_goals (with_reducible rfl)))
  try simp only [Act.put, List.setIfInBounds_toArray, List.set_cons_zero, List.set_cons_succ]
  first | (refine wpAnyH_take (i := 22) (oi := { dst := some 57, op := Op.move (Operand.tmp 8), type := 4, pos := "law.go:30", after := #[{ on := 21, ground := Ground.guard }], guard := some (21, true) }) (v := ?_) rfl (by kernel_rfl) (by kernel_rfl) (by kernel_rfl) (fun _ _ _ h => h) (Or.inl ⟨by rfl, ?_⟩) (by assumption) ?_; rotate_left; (focus (intro w hSw; (try dsimp only at hSw); go_simp; all_goals (with_reducible rfl)))) | refine wpAnyH_take (i := 22) (oi := { dst := some 57, op := Op.move (Operand.tmp 8), type := 4, pos := "law.go:30", after := #[{ on := 21, ground := Ground.guard }], guard := some (21, true) }) (v := undef) rfl (by kernel_rfl) (by kernel_rfl) (by kernel_rfl) (fun _ _ _ h => h) (Or.inr ⟨by rfl, rfl⟩) (by assumption) ?_
  try simp only [Act.put, List.setIfInBounds_toArray, List.set_cons_zero, List.set_cons_succ]
  first | (refine wpAnyH_take (i := 23) (oi := { dst := some 58, op := Op.move (Operand.tmp 10), type := 4, pos := "law.go:30", after := #[{ on := 21, ground := Ground.guard }], guard := some (21, true) }) (v := ?_) rfl (by kernel_rfl) (by kernel_rfl) (by kernel_rfl) (fun _ _ _ h => h) (Or.inl ⟨by rfl, ?_⟩) (by assumption) ?_; rotate_left; (focus (intro w hSw; (try dsimp only at hSw); go_simp; all_goals (with_reducible rfl)))) | refine wpAnyH_take (i := 23) (oi := { dst := some 58, op := Op.move (Operand.tmp 10), type := 4, pos := "law.go:30", after := #[{ on := 21, ground := Ground.guard }], guard := some (21, true) }) (v := undef) rfl (by kernel_rfl) (by kernel_rfl) (by kernel_rfl) (fun _ _ _ h => h) (Or.inr ⟨by rfl, rfl⟩) (by assumption) ?_
  try simp only [Act.put, List.setIfInBounds_toArray, List.set_cons_zero, List.set_cons_succ]
  first | (refine wpAnyH_take (i := 24) (oi := { dst := some 59, op := Op.binOp BinOp.eql 4 (Operand.tmp 57) (Operand.tmp 58) 4, type := 4, pos := "law.go:30", after := #[{ on := 22, ground := Ground.data }, { on := 23, ground := Ground.data }, { on := 21, ground := Ground.guard }], guard := some (21, true) }) (v := ?_) rfl (by kernel_rfl) (by kernel_rfl) (by kernel_rfl) (fun _ _ _ h => h) (Or.inl ⟨by rfl, ?_⟩) (by assumption) ?_; rotate_left; (focus (intro w hSw; (try dsimp only at hSw); go_simp; all_goals (with_reducible rfl)))) | refine wpAnyH_take (i := 24) (oi := { dst := some 59, op := Op.binOp BinOp.eql 4 (Operand.tmp 57) (Operand.tmp 58) 4, type := 4, pos := "law.go:30", after := #[{ on := 22, ground := Ground.data }, { on := 23, ground := Ground.data }, { on := 21, ground := Ground.guard }], guard := some (21, true) }) (v := undef) rfl (by kernel_rfl) (by kernel_rfl) (by kernel_rfl) (fun _ _ _ h => h) (Or.inr ⟨by rfl, rfl⟩) (by assumption) ?_
  try simp only [Act.put, List.setIfInBounds_toArray, List.set_cons_zero, List.set_cons_succ]
  refine wpAnyH_take (i := 25) (oi := { dst := some 60, op := Op.pick (Operand.tmp 56) (Operand.tmp 59) (Operand.const (Value.bool false)), type := 4, pos := "law.go:30", after := #[{ on := 21, ground := Ground.data }, { on := 24, ground := Ground.data }], guard := none }) (v := ?_) rfl (by kernel_rfl) (by kernel_rfl) (by kernel_rfl) (fun _ _ _ h => h) (Or.inl ⟨by rfl, ?_⟩) (by assumption) ?_; rotate_left; (focus (intro w hSw; (try dsimp only at hSw); go_simp; all_goals (with_reducible rfl)))
  try simp only [Act.put, List.setIfInBounds_toArray, List.set_cons_zero, List.set_cons_succ]
  refine wpAnyH_take (i := 26) (oi := { dst := some 61, op := Op.move (Operand.tmp 60), type := 4, pos := "law.go:30", after := #[{ on := 25, ground := Ground.data }, { on := 21, ground := Ground.chain }], guard := none }) (v := ?_) rfl (by kernel_rfl) (by kernel_rfl) (by kernel_rfl) (fun _ _ _ h => h) (Or.inl ⟨by rfl, ?_⟩) (by assumption) ?_; rotate_left; (focus (intro w hSw; (try dsimp only at hSw); go_simp; all_goals (with_reducible rfl)))
  try simp only [Act.put, List.setIfInBounds_toArray, List.set_cons_zero, List.set_cons_succ]
  refine wpAnyH_ready (rs := [27]) (by kernel_rfl) (by simp) ?_
  refine AllReadyH.cons (o := { dst := some 62, op := Op.call { callee := Callee.value (Operand.func 8), args := #[], argTypes := #[] }, type := 4, pos := "law.go:30", after := #[{ on := 26, ground := Ground.chain }, { on := 26, ground := Ground.guard }], guard := some (26, true) }) rfl (fun K hK => ?_) AllReadyH.nil
  go_simp
  refine (awake_any _).mono ?_
  rintro e w8 ⟨rfl, b8⟩
  have L5 := Lib.hid (L4.out.later b8)
  have hKeep := And.intro (And.intro L5.out.a.nine L5.out.b.nine) (And.intro L5.out.x.nine L5.out.y.nine)
  clear b8
  go_wp2_with fail
  refine hK.out _ _ ?_ (fun hHeld => ?_)
  · exact hKeep
  clear hK K
  try simp only [Act.put, List.setIfInBounds_toArray, List.set_cons_zero, List.set_cons_succ]
  refine wpAnyH_take (i := 28) (oi := { dst := some 63, op := Op.pick (Operand.tmp 61) (Operand.tmp 62) (Operand.const (Value.bool false)), type := 4, pos := "law.go:30", after := #[{ on := 26, ground := Ground.data }, { on := 27, ground := Ground.data }], guard := none }) (v := ?_) rfl (by kernel_rfl) (by kernel_rfl) (by kernel_rfl) (fun _ _ _ h => h) (Or.inl ⟨by rfl, ?_⟩) (by assumption) ?_; rotate_left; (focus (intro w hSw; (try dsimp only at hSw); go_simp; all_goals (with_reducible rfl)))
  try simp only [Act.put, List.setIfInBounds_toArray, List.set_cons_zero, List.set_cons_succ]
  refine wpAnyH_take (i := 29) (oi := { dst := some 6, op := Op.assign (Operand.tmp 63), type := 4, pos := "law.go:30", after := #[{ on := 28, ground := Ground.data }, { on := 27, ground := Ground.chain }, { on := 0, ground := Ground.phase }, { on := 1, ground := Ground.phase }, { on := 2, ground := Ground.phase }, { on := 3, ground := Ground.phase }, { on := 4, ground := Ground.phase }, { on := 5, ground := Ground.phase }, { on := 6, ground := Ground.phase }, { on := 7, ground := Ground.phase }, { on := 8, ground := Ground.phase }, { on := 9, ground := Ground.phase }, { on := 10, ground := Ground.phase }, { on := 11, ground := Ground.phase }, { on := 12, ground := Ground.phase }, { on := 13, ground := Ground.phase }, { on := 14, ground := Ground.phase }, { on := 15, ground := Ground.phase }, { on := 16, ground := Ground.phase }, { on := 17, ground := Ground.phase }, { on := 18, ground := Ground.phase }, { on := 19, ground := Ground.phase }, { on := 20, ground := Ground.phase }, { on := 21, ground := Ground.phase }, { on := 22, ground := Ground.phase }, { on := 23, ground := Ground.phase }, { on := 24, ground := Ground.phase }, { on := 25, ground := Ground.phase }, { on := 26, ground := Ground.phase }, { on := 27, ground := Ground.phase }, { on := 28, ground := Ground.phase }], guard := none }) (v := ?_) rfl (by kernel_rfl) (by kernel_rfl) (by kernel_rfl) (fun _ _ _ h => h) (Or.inl ⟨by rfl, ?_⟩) (by assumption) ?_; rotate_left; (focus (intro w hSw; (try dsimp only at hSw); go_simp; all_goals (with_reducible rfl)))
  try simp only [Act.put, List.setIfInBounds_toArray, List.set_cons_zero, List.set_cons_succ]
  refine wpAnyH_done (by kernel_rfl) ?_ _
  clear hHeld hStart
  go_wp2_with fail
  go_ret
  exact ⟨rfl, L5.out.below⟩
end Go.Proofs.Ytngmcefbljkgaaa.Rk
