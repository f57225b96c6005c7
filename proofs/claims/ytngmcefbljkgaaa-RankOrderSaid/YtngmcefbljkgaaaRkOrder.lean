/- The walk of the second law of layer 10: of two records that may be, and are not the same, one is newer, and just one. -/
import Derived.Test.YtngmcefbljkgaaaRkIs
set_option linter.unusedSimpArgs false
namespace Go.Proofs.Ytngmcefbljkgaaa.Rk
open Go.RowKit
open Cd (Rec Fit may putB recB zeroR recV recL Blk)

/-- three records that came in -/
structure Tri (w W : World) (la lb lc : List Value) : Prop where
  a : Blk W w.heap.size la
  b : Blk W (w.heap.size + 1) lb
  c : Blk W (w.heap.size + 1 + 1) lc
  below : Below w.heap.size w W
theorem Tri.later {w W W' : World} {la lb lc : List Value} (h : Tri w W la lb lc) (hb : Below W.heap.size W W') : Tri w W' la lb lc :=
  ⟨h.a.later hb, h.b.later hb, h.c.later hb, h.below.trans (hb.mono h.below.size)⟩
theorem Tri.start (w : World) (t1 t2 t3 : TypeId) (la lb lc : List Value) : Tri w (((w.alloc (.cells ⟨la⟩ t1)).alloc (.cells ⟨lb⟩ t2)).alloc (.cells ⟨lc⟩ t3)) la lb lc := by
  have h := Two.start w t1 t2 la lb
  have h2 := Blk.start ((w.alloc (.cells ⟨la⟩ t1)).alloc (.cells ⟨lb⟩ t2)) t3 lc
  have e : ((w.alloc (.cells ⟨la⟩ t1)).alloc (.cells ⟨lb⟩ t2)).heap.size = w.heap.size + 1 + 1 := by simp
  rw [e] at h2
  have b : Below ((w.alloc (.cells ⟨la⟩ t1)).alloc (.cells ⟨lb⟩ t2)).heap.size ((w.alloc (.cells ⟨la⟩ t1)).alloc (.cells ⟨lb⟩ t2)) (((w.alloc (.cells ⟨la⟩ t1)).alloc (.cells ⟨lb⟩ t2)).alloc (.cells ⟨lc⟩ t3)) := (Below.refl _ _).alloc (Nat.le_refl _) _
  have h3 := h.later b
  exact ⟨h3.a, h3.b, h2, h3.below⟩

theorem same_as (x y : Rec) : ∃ s : Bool, (s = true ↔ kept x = kept y) ∧ ∀ w, Calls Try.prog 13 #[recV x, recV y] w fun e w' => e = .returned (.bool s) ∧ Below w.heap.size w w' := by
  by_cases h : kept x = kept y
  · exact ⟨true, by simp [h], fun w => same_yes x y w h⟩
  · exact ⟨false, by simp [h], fun w => same_no x y w h⟩
/-- how two records can stand to one another -/
theorem stands {x y : Rec} {p q s : Bool} (hx : Fit x) (hy : Fit y) (hp : newer x y = p) (hq : newer y x = q) (hs : s = true ↔ kept x = kept y) :
    (p = true ∧ q = false ∧ s = false) ∨ (p = false ∧ q = true ∧ s = false) ∨ (p = false ∧ q = false ∧ s = true) ∨ (p = false ∧ q = false ∧ s = false ∧ ¬(may x = 0 ∧ may y = 0)) := by
  subst hp hq
  cases s with
  | true =>
    have h := hs.1 rfl
    exact .inr (.inr (.inl ⟨not_newer_of_kept h, not_newer_of_kept h.symm, rfl⟩))
  | false =>
    have hne : kept x ≠ kept y := fun h => by have := hs.2 h; cases this
    cases hp : newer x y with
    | true => exact .inl ⟨rfl, newer_asymm hp, rfl⟩
    | false =>
      cases hq : newer y x with
      | true => exact .inr (.inl ⟨rfl, rfl, rfl⟩)
      | false => exact .inr (.inr (.inr ⟨rfl, rfl, rfl, fun ⟨h1, h2⟩ => hne (top_same hx hy h1 h2 hp hq)⟩))

set_option maxHeartbeats 12800000 in
set_option maxRecDepth 100000 in
theorem order_any (x y z : Rec) (w : World) (hx : W64 x) (hy : W64 y) (hz : W64 z) :
    Calls Try.prog 4 #[recV x, recV y, recV z] w fun e w' => e = .returned (.bool true) ∧ Below w.heap.size w w' := by
  have T0 := Lib.hid (Tri.start w 23 23 23 (recL x) (recL y) (recL z))
  have SX : ∀ w, Calls Try.prog 6 #[recV x] w fun e w' => e = .returned (.bool (shB x)) ∧ Below w.heap.size w w' := fun w => Cd.short_any x w
  have SY : ∀ w, Calls Try.prog 6 #[recV y] w fun e w' => e = .returned (.bool (shB y)) ∧ Below w.heap.size w w' := fun w => Cd.short_any y w
  have SZ : ∀ w, Calls Try.prog 6 #[recV z] w fun e w' => e = .returned (.bool (shB z)) ∧ Below w.heap.size w w' := fun w => Cd.short_any z w
  have OX : Hid (shB x = true → Fit x) := fun h => (hx.ok h).fit
  have OY : Hid (shB y = true → Fit y) := fun h => (hy.ok h).fit
  have OZ : Hid (shB z = true → Fit z) := fun h => (hz.ok h).fit
  have NXY := fun (hx : Fit x) (hy : Fit y) w => newer_any x y w hx hy
  have NYX := fun (hx : Fit x) (hy : Fit y) w => newer_any y x w hy hx
  have NXX := fun (hx : Fit x) w => newer_any x x w hx hx
  have NYZ := fun (hy : Fit y) (hz : Fit z) w => newer_any y z w hy hz
  have NXZ := fun (hx : Fit x) (hz : Fit z) w => newer_any x z w hx hz
  have MX := fun (hx : Fit x) w => Cd.rmay_any x w hx.sv hx.op
  have MY := fun (hy : Fit y) w => Cd.rmay_any y w hy.sv hy.op
  rw [newer_irrefl] at NXX
  obtain ⟨s, hs, SM⟩ := same_as x y
  have HTR : Hid (newer x y = true → newer y z = true → newer x z = true) := newer_trans
  obtain ⟨p, hp⟩ : ∃ p, newer x y = p := ⟨_, rfl⟩
  obtain ⟨q, hq⟩ : ∃ q, newer y x = q := ⟨_, rfl⟩
  have HST := Lib.hid (fun hx hy => stands (x := x) (y := y) hx hy hp hq hs)
  have M1 := Lib.hid (Cd.may_01 x)
  have M2 := Lib.hid (Cd.may_01 y)
  rw [hp] at NXY HTR
  rw [hq] at NYX
  generalize newer y z = t at NYZ HTR
  generalize newer x z = v at NXZ HTR
  generalize may x = m1 at *
  generalize may y = m2 at *
  generalize shB x = sx at *
  generalize shB y = sy at *
  generalize shB z = sz at *
  clear hp hq hs hx hy hz
  obtain ⟨x0, x1, x2, x3, x4, x5, x6, x7, x8⟩ := x
  obtain ⟨y0, y1, y2, y3, y4, y5, y6, y7, y8⟩ := y
  obtain ⟨z0, z1, z2, z3, z4, z5, z6, z7, z8⟩ := z
  simp only [recV] at SX SY SZ NXY NYX NXX NYZ NXZ MX MY SM
  have SX := Lib.hid SX
  have SY := Lib.hid SY
  have SZ := Lib.hid SZ
  have NXY := Lib.hid NXY
  have NYX := Lib.hid NYX
  have NXX := Lib.hid NXX
  have NYZ := Lib.hid NYZ
  have NXZ := Lib.hid NXZ
  have MX := Lib.hid MX
  have MY := Lib.hid MY
  have SM := Lib.hid SM
  unfold recV
  go_enter Try.func4, Try.ntmps4
  go_wp2_with fail
  refine (SX.out _).mono ?_
  rintro e w1 ⟨rfl, b1⟩
  have T1 := Lib.hid (T0.out.later b1)
  clear b1
  cases sx
  · go_wp2_with fail
    refine (awake_any _).mono ?_
    rintro e w9 ⟨rfl, b9⟩
    have T9 := Lib.hid (T1.out.later b9)
    clear b9
    go_wp2_with fail
    go_ret
    exact ⟨rfl, T9.out.below⟩
  obtain ⟨c0, c1, c2, c3, c4, c5, c6, c7, c8⟩ := T1.out.b.nine
  go_wp2_with fail
  refine (SY.out _).mono ?_
  rintro e w2 ⟨rfl, b2⟩
  have T2 := Lib.hid (T1.out.later b2)
  clear b2 c0 c1 c2 c3 c4 c5 c6 c7 c8
  cases sy
  · go_wp2_with fail
    refine (awake_any _).mono ?_
    rintro e w9 ⟨rfl, b9⟩
    have T9 := Lib.hid (T2.out.later b9)
    clear b9
    go_wp2_with fail
    go_ret
    exact ⟨rfl, T9.out.below⟩
  obtain ⟨c0, c1, c2, c3, c4, c5, c6, c7, c8⟩ := T2.out.c.nine
  go_wp2_with fail
  refine (SZ.out _).mono ?_
  rintro e w3 ⟨rfl, b3⟩
  have T3 := Lib.hid (T2.out.later b3)
  clear b3 c0 c1 c2 c3 c4 c5 c6 c7 c8
  cases sz
  · go_wp2_with fail
    refine (awake_any _).mono ?_
    rintro e w9 ⟨rfl, b9⟩
    have T9 := Lib.hid (T3.out.later b9)
    clear b9
    go_wp2_with fail
    go_ret
    exact ⟨rfl, T9.out.below⟩
  have HXO := Lib.hid (OX.out (by trivial))
  have HYO := Lib.hid (OY.out (by trivial))
  have HZO := Lib.hid (OZ.out (by trivial))
  have HST := Lib.hid (HST.out HXO.out HYO.out)
  go_wp2_with fail
  have L0 := Lib.hid (T3.out.later (Below.refl _ _).drew)
  have hStart := And.intro L0.out.a.nine L0.out.b.nine
  refine wp_region_held_drew (S := fun w' => (w'.cell? ⟨w.heap.size, 0, none⟩ = some (.int .i64 x0) ∧ w'.cell? ⟨w.heap.size, 1, none⟩ = some (.int .i64 x1) ∧ w'.cell? ⟨w.heap.size, 2, none⟩ = some (.int .i64 x2) ∧ w'.cell? ⟨w.heap.size, 3, none⟩ = some (.int .i64 x3) ∧ w'.cell? ⟨w.heap.size, 4, none⟩ = some (.string x4) ∧ w'.cell? ⟨w.heap.size, 5, none⟩ = some (.string x5) ∧ w'.cell? ⟨w.heap.size, 6, none⟩ = some (.int .i64 x6) ∧ w'.cell? ⟨w.heap.size, 7, none⟩ = some (.int .i64 x7) ∧ w'.cell? ⟨w.heap.size, 8, none⟩ = some (.bool x8)) ∧ (w'.cell? ⟨w.heap.size + 1, 0, none⟩ = some (.int .i64 y0) ∧ w'.cell? ⟨w.heap.size + 1, 1, none⟩ = some (.int .i64 y1) ∧ w'.cell? ⟨w.heap.size + 1, 2, none⟩ = some (.int .i64 y2) ∧ w'.cell? ⟨w.heap.size + 1, 3, none⟩ = some (.int .i64 y3) ∧ w'.cell? ⟨w.heap.size + 1, 4, none⟩ = some (.string y4) ∧ w'.cell? ⟨w.heap.size + 1, 5, none⟩ = some (.string y5) ∧ w'.cell? ⟨w.heap.size + 1, 6, none⟩ = some (.int .i64 y6) ∧ w'.cell? ⟨w.heap.size + 1, 7, none⟩ = some (.int .i64 y7) ∧ w'.cell? ⟨w.heap.size + 1, 8, none⟩ = some (.bool y8))) (by kernel_rfl) (hStart) (fun hHeld => ?_)
  refine wpAnyH_take (i := 0) (oi := { dst := some 25, op := Op.load 23 (Operand.tmp 3), type := 23, pos := "law.go:38", after := #[], guard := none }) (v := ?_) rfl (by kernel_rfl) (by kernel_rfl) (by kernel_rfl) (fun _ _ _ h => h) (Or.inl ⟨by rfl, ?_⟩) (by assumption) ?_; rotate_left; (focus (intro w hSw; (try dsimp only at hSw); go_simp; all_goals (with_reducible rfl)))
  try simp only [Act.put, List.setIfInBounds_toArray, List.set_cons_zero, List.set_cons_succ]
  refine wpAnyH_take (i := 1) (oi := { dst := some 26, op := Op.load 23 (Operand.tmp 4), type := 23, pos := "law.go:38", after := #[], guard := none }) (v := ?_) rfl (by kernel_rfl) (by kernel_rfl) (by kernel_rfl) (fun _ _ _ h => h) (Or.inl ⟨by rfl, ?_⟩) (by assumption) ?_; rotate_left; (focus (intro w hSw; (try dsimp only at hSw); go_simp; all_goals (with_reducible rfl)))
  try simp only [Act.put, List.setIfInBounds_toArray, List.set_cons_zero, List.set_cons_succ]
  refine wpAnyH_take (i := 3) (oi := { dst := some 28, op := Op.load 23 (Operand.tmp 4), type := 23, pos := "law.go:38", after := #[], guard := none }) (v := ?_) rfl (by kernel_rfl) (by kernel_rfl) (by kernel_rfl) (fun _ _ _ h => h) (Or.inl ⟨by rfl, ?_⟩) (by assumption) ?_; rotate_left; (focus (intro w hSw; (try dsimp only at hSw); go_simp; all_goals (with_reducible rfl)))
  try simp only [Act.put, List.setIfInBounds_toArray, List.set_cons_zero, List.set_cons_succ]
  refine wpAnyH_take (i := 4) (oi := { dst := some 29, op := Op.load 23 (Operand.tmp 3), type := 23, pos := "law.go:38", after := #[], guard := none }) (v := ?_) rfl (by kernel_rfl) (by kernel_rfl) (by kernel_rfl) (fun _ _ _ h => h) (Or.inl ⟨by rfl, ?_⟩) (by assumption) ?_; rotate_left; (focus (intro w hSw; (try dsimp only at hSw); go_simp; all_goals (with_reducible rfl)))
  try simp only [Act.put, List.setIfInBounds_toArray, List.set_cons_zero, List.set_cons_succ]
  refine wpAnyH_take (i := 6) (oi := { dst := some 31, op := Op.load 23 (Operand.tmp 3), type := 23, pos := "law.go:38", after := #[], guard := none }) (v := ?_) rfl (by kernel_rfl) (by kernel_rfl) (by kernel_rfl) (fun _ _ _ h => h) (Or.inl ⟨by rfl, ?_⟩) (by assumption) ?_; rotate_left; (focus (intro w hSw; (try dsimp only at hSw); go_simp; all_goals (with_reducible rfl)))
  try simp only [Act.put, List.setIfInBounds_toArray, List.set_cons_zero, List.set_cons_succ]
  refine wpAnyH_take (i := 7) (oi := { dst := some 32, op := Op.load 23 (Operand.tmp 4), type := 23, pos := "law.go:38", after := #[], guard := none }) (v := ?_) rfl (by kernel_rfl) (by kernel_rfl) (by kernel_rfl) (fun _ _ _ h => h) (Or.inl ⟨by rfl, ?_⟩) (by assumption) ?_; rotate_left; (focus (intro w hSw; (try dsimp only at hSw); go_simp; all_goals (with_reducible rfl)))
  try simp only [Act.put, List.setIfInBounds_toArray, List.set_cons_zero, List.set_cons_succ]
  refine wpAnyH_ready (rs := [2]) (by kernel_rfl) (by simp) ?_
  refine AllReadyH.cons (o := { dst := some 27, op := Op.call { callee := Callee.value (Operand.func 11), args := #[Operand.tmp 25, Operand.tmp 26], argTypes := #[23, 23] }, type := 4, pos := "law.go:38", after := #[{ on := 0, ground := Ground.data }, { on := 1, ground := Ground.data }], guard := none }) rfl (fun K hK => ?_) AllReadyH.nil
  go_simp
  refine (NXY.out HXO.out HYO.out _).mono ?_
  rintro e w8 ⟨rfl, b8⟩
  have L1 := Lib.hid (L0.out.later b8)
  have hKeep := And.intro L1.out.a.nine L1.out.b.nine
  clear b8
  go_wp2_with fail
  refine hK.out _ _ ?_ (fun hHeld => ?_)
  · exact hKeep
  clear hK K
  try simp only [Act.put, List.setIfInBounds_toArray, List.set_cons_zero, List.set_cons_succ]
  refine wpAnyH_ready (rs := [5]) (by kernel_rfl) (by simp) ?_
  refine AllReadyH.cons (o := { dst := some 30, op := Op.call { callee := Callee.value (Operand.func 11), args := #[Operand.tmp 28, Operand.tmp 29], argTypes := #[23, 23] }, type := 4, pos := "law.go:38", after := #[{ on := 3, ground := Ground.data }, { on := 4, ground := Ground.data }, { on := 2, ground := Ground.chain }], guard := none }) rfl (fun K hK => ?_) AllReadyH.nil
  go_simp
  refine (NYX.out HXO.out HYO.out _).mono ?_
  rintro e w8 ⟨rfl, b8⟩
  have L2 := Lib.hid (L1.out.later b8)
  have hKeep := And.intro L2.out.a.nine L2.out.b.nine
  clear b8
  go_wp2_with fail
  refine hK.out _ _ ?_ (fun hHeld => ?_)
  · exact hKeep
  clear hK K
  try simp only [Act.put, List.setIfInBounds_toArray, List.set_cons_zero, List.set_cons_succ]
  refine wpAnyH_ready (rs := [8]) (by kernel_rfl) (by simp) ?_
  refine AllReadyH.cons (o := { dst := some 33, op := Op.call { callee := Callee.value (Operand.func 13), args := #[Operand.tmp 31, Operand.tmp 32], argTypes := #[23, 23] }, type := 4, pos := "law.go:38", after := #[{ on := 6, ground := Ground.data }, { on := 7, ground := Ground.data }, { on := 5, ground := Ground.chain }], guard := none }) rfl (fun K hK => ?_) AllReadyH.nil
  go_simp
  refine (SM.out _).mono ?_
  rintro e w8 ⟨rfl, b8⟩
  have L3 := Lib.hid (L2.out.later b8)
  have hKeep := And.intro L3.out.a.nine L3.out.b.nine
  clear b8
  go_wp2_with fail
  refine hK.out _ _ ?_ (fun hHeld => ?_)
  · exact hKeep
  clear hK K
  try simp only [Act.put, List.setIfInBounds_toArray, List.set_cons_zero, List.set_cons_succ]
  refine wpAnyH_take (i := 9) (oi := { dst := some 7, op := Op.assign (Operand.tmp 27), type := 4, pos := "law.go:38", after := #[{ on := 2, ground := Ground.data }, { on := 8, ground := Ground.chain }, { on := 0, ground := Ground.phase }, { on := 1, ground := Ground.phase }, { on := 2, ground := Ground.phase }, { on := 3, ground := Ground.textOnly Departure.lateStores }, { on := 4, ground := Ground.textOnly Departure.lateStores }, { on := 5, ground := Ground.textOnly Departure.lateStoresUnsure }, { on := 6, ground := Ground.textOnly Departure.lateStores }, { on := 7, ground := Ground.textOnly Departure.lateStores }, { on := 8, ground := Ground.textOnly Departure.lateStoresUnsure }], guard := none }) (v := ?_) rfl (by kernel_rfl) (by kernel_rfl) (by kernel_rfl) (fun _ _ _ h => h) (Or.inl ⟨by rfl, ?_⟩) (by assumption) ?_; rotate_left; (focus (intro w hSw; (try dsimp only at hSw); go_simp; all_goals (with_reducible rfl)))
  try simp only [Act.put, List.setIfInBounds_toArray, List.set_cons_zero, List.set_cons_succ]
  refine wpAnyH_take (i := 10) (oi := { dst := some 8, op := Op.assign (Operand.tmp 30), type := 4, pos := "law.go:38", after := #[{ on := 5, ground := Ground.data }, { on := 9, ground := Ground.chain }, { on := 0, ground := Ground.phase }, { on := 1, ground := Ground.phase }, { on := 2, ground := Ground.phase }, { on := 3, ground := Ground.phase }, { on := 4, ground := Ground.phase }, { on := 5, ground := Ground.phase }, { on := 6, ground := Ground.textOnly Departure.lateStores }, { on := 7, ground := Ground.textOnly Departure.lateStores }, { on := 8, ground := Ground.textOnly Departure.lateStoresUnsure }, { on := 9, ground := Ground.phase }], guard := none }) (v := ?_) rfl (by kernel_rfl) (by kernel_rfl) (by kernel_rfl) (fun _ _ _ h => h) (Or.inl ⟨by rfl, ?_⟩) (by assumption) ?_; rotate_left; (focus (intro w hSw; (try dsimp only at hSw); go_simp; all_goals (with_reducible rfl)))
  try simp only [Act.put, List.setIfInBounds_toArray, List.set_cons_zero, List.set_cons_succ]
  refine wpAnyH_take (i := 11) (oi := { dst := some 9, op := Op.assign (Operand.tmp 33), type := 4, pos := "law.go:38", after := #[{ on := 8, ground := Ground.data }, { on := 10, ground := Ground.chain }, { on := 0, ground := Ground.phase }, { on := 1, ground := Ground.phase }, { on := 2, ground := Ground.phase }, { on := 3, ground := Ground.phase }, { on := 4, ground := Ground.phase }, { on := 5, ground := Ground.phase }, { on := 6, ground := Ground.phase }, { on := 7, ground := Ground.phase }, { on := 8, ground := Ground.phase }, { on := 9, ground := Ground.phase }, { on := 10, ground := Ground.phase }], guard := none }) (v := ?_) rfl (by kernel_rfl) (by kernel_rfl) (by kernel_rfl) (fun _ _ _ h => h) (Or.inl ⟨by rfl, ?_⟩) (by assumption) ?_; rotate_left; (focus (intro w hSw; (try dsimp only at hSw); go_simp; all_goals (with_reducible rfl)))
  try simp only [Act.put, List.setIfInBounds_toArray, List.set_cons_zero, List.set_cons_succ]
  refine wpAnyH_done (by kernel_rfl) ?_ _
  clear hHeld hStart
  rcases HST.out with ⟨rfl, rfl, rfl⟩ | ⟨rfl, rfl, rfl⟩ | ⟨rfl, rfl, rfl⟩ | ⟨rfl, rfl, rfl, hm⟩
  · obtain ⟨c0, c1, c2, c3, c4, c5, c6, c7, c8⟩ := L3.out.a.nine
    go_wp2_with fail
    refine (MX.out HXO.out _).mono ?_
    rintro e w4 ⟨rfl, b4⟩
    have T4 := Lib.hid (L3.out.later b4)
    clear b4 c0 c1 c2 c3 c4 c5 c6 c7 c8
    rcases M1.out with rfl | rfl
    · obtain ⟨c0, c1, c2, c3, c4, c5, c6, c7, c8⟩ := T4.out.b.nine
      go_wp2_with fail
      refine (MY.out HYO.out _).mono ?_
      rintro e w5 ⟨rfl, b5⟩
      have T5 := Lib.hid (T4.out.later b5)
      clear b5 c0 c1 c2 c3 c4 c5 c6 c7 c8
      rcases M2.out with rfl | rfl
      · obtain ⟨c0, c1, c2, c3, c4, c5, c6, c7, c8⟩ := T5.out.a.nine
        go_wp2_with fail
        refine (NXX.out HXO.out _).mono ?_
        rintro e w6 ⟨rfl, b6⟩
        have T6 := Lib.hid (T5.out.later b6)
        clear b6 c0 c1 c2 c3 c4 c5 c6 c7 c8
        obtain ⟨c0, c1, c2, c3, c4, c5, c6, c7, c8⟩ := T6.out.b.nine
        obtain ⟨d0, d1, d2, d3, d4, d5, d6, d7, d8⟩ := T6.out.c.nine
        go_wp2_with fail
        refine (NYZ.out HYO.out HZO.out _).mono ?_
        rintro e w7 ⟨rfl, b7⟩
        have T7 := Lib.hid (T6.out.later b7)
        clear b7 c0 c1 c2 c3 c4 c5 c6 c7 c8 d0 d1 d2 d3 d4 d5 d6 d7 d8
        cases t
        · go_wp2_with fail
          refine (awake_any _).mono ?_
          rintro e w9 ⟨rfl, b9⟩
          have T9 := Lib.hid (T7.out.later b9)
          clear b9
          go_wp2_with fail
          go_ret
          exact ⟨rfl, T9.out.below⟩
        have hv : v = true := HTR.out (by trivial) (by trivial)
        subst hv
        obtain ⟨c0, c1, c2, c3, c4, c5, c6, c7, c8⟩ := T7.out.a.nine
        obtain ⟨d0, d1, d2, d3, d4, d5, d6, d7, d8⟩ := T7.out.c.nine
        go_wp2_with fail
        refine (NXZ.out HXO.out HZO.out _).mono ?_
        rintro e w8 ⟨rfl, b8⟩
        have T8 := Lib.hid (T7.out.later b8)
        clear b8 c0 c1 c2 c3 c4 c5 c6 c7 c8 d0 d1 d2 d3 d4 d5 d6 d7 d8
        go_wp2_with fail
        refine (awake_any _).mono ?_
        rintro e w9 ⟨rfl, b9⟩
        have T9 := Lib.hid (T8.out.later b9)
        clear b9
        go_wp2_with fail
        go_ret
        exact ⟨rfl, T9.out.below⟩
      · obtain ⟨c0, c1, c2, c3, c4, c5, c6, c7, c8⟩ := T5.out.a.nine
        go_wp2_with fail
        refine (NXX.out HXO.out _).mono ?_
        rintro e w6 ⟨rfl, b6⟩
        have T6 := Lib.hid (T5.out.later b6)
        clear b6 c0 c1 c2 c3 c4 c5 c6 c7 c8
        obtain ⟨c0, c1, c2, c3, c4, c5, c6, c7, c8⟩ := T6.out.b.nine
        obtain ⟨d0, d1, d2, d3, d4, d5, d6, d7, d8⟩ := T6.out.c.nine
        go_wp2_with fail
        refine (NYZ.out HYO.out HZO.out _).mono ?_
        rintro e w7 ⟨rfl, b7⟩
        have T7 := Lib.hid (T6.out.later b7)
        clear b7 c0 c1 c2 c3 c4 c5 c6 c7 c8 d0 d1 d2 d3 d4 d5 d6 d7 d8
        cases t
        · go_wp2_with fail
          refine (awake_any _).mono ?_
          rintro e w9 ⟨rfl, b9⟩
          have T9 := Lib.hid (T7.out.later b9)
          clear b9
          go_wp2_with fail
          go_ret
          exact ⟨rfl, T9.out.below⟩
        have hv : v = true := HTR.out (by trivial) (by trivial)
        subst hv
        obtain ⟨c0, c1, c2, c3, c4, c5, c6, c7, c8⟩ := T7.out.a.nine
        obtain ⟨d0, d1, d2, d3, d4, d5, d6, d7, d8⟩ := T7.out.c.nine
        go_wp2_with fail
        refine (NXZ.out HXO.out HZO.out _).mono ?_
        rintro e w8 ⟨rfl, b8⟩
        have T8 := Lib.hid (T7.out.later b8)
        clear b8 c0 c1 c2 c3 c4 c5 c6 c7 c8 d0 d1 d2 d3 d4 d5 d6 d7 d8
        go_wp2_with fail
        refine (awake_any _).mono ?_
        rintro e w9 ⟨rfl, b9⟩
        have T9 := Lib.hid (T8.out.later b9)
        clear b9
        go_wp2_with fail
        go_ret
        exact ⟨rfl, T9.out.below⟩
    · obtain ⟨c0, c1, c2, c3, c4, c5, c6, c7, c8⟩ := T4.out.a.nine
      go_wp2_with fail
      refine (NXX.out HXO.out _).mono ?_
      rintro e w6 ⟨rfl, b6⟩
      have T6 := Lib.hid (T4.out.later b6)
      clear b6 c0 c1 c2 c3 c4 c5 c6 c7 c8
      obtain ⟨c0, c1, c2, c3, c4, c5, c6, c7, c8⟩ := T6.out.b.nine
      obtain ⟨d0, d1, d2, d3, d4, d5, d6, d7, d8⟩ := T6.out.c.nine
      go_wp2_with fail
      refine (NYZ.out HYO.out HZO.out _).mono ?_
      rintro e w7 ⟨rfl, b7⟩
      have T7 := Lib.hid (T6.out.later b7)
      clear b7 c0 c1 c2 c3 c4 c5 c6 c7 c8 d0 d1 d2 d3 d4 d5 d6 d7 d8
      cases t
      · go_wp2_with fail
        refine (awake_any _).mono ?_
        rintro e w9 ⟨rfl, b9⟩
        have T9 := Lib.hid (T7.out.later b9)
        clear b9
        go_wp2_with fail
        go_ret
        exact ⟨rfl, T9.out.below⟩
      have hv : v = true := HTR.out (by trivial) (by trivial)
      subst hv
      obtain ⟨c0, c1, c2, c3, c4, c5, c6, c7, c8⟩ := T7.out.a.nine
      obtain ⟨d0, d1, d2, d3, d4, d5, d6, d7, d8⟩ := T7.out.c.nine
      go_wp2_with fail
      refine (NXZ.out HXO.out HZO.out _).mono ?_
      rintro e w8 ⟨rfl, b8⟩
      have T8 := Lib.hid (T7.out.later b8)
      clear b8 c0 c1 c2 c3 c4 c5 c6 c7 c8 d0 d1 d2 d3 d4 d5 d6 d7 d8
      go_wp2_with fail
      refine (awake_any _).mono ?_
      rintro e w9 ⟨rfl, b9⟩
      have T9 := Lib.hid (T8.out.later b9)
      clear b9
      go_wp2_with fail
      go_ret
      exact ⟨rfl, T9.out.below⟩
  · obtain ⟨c0, c1, c2, c3, c4, c5, c6, c7, c8⟩ := L3.out.a.nine
    go_wp2_with fail
    refine (MX.out HXO.out _).mono ?_
    rintro e w4 ⟨rfl, b4⟩
    have T4 := Lib.hid (L3.out.later b4)
    clear b4 c0 c1 c2 c3 c4 c5 c6 c7 c8
    rcases M1.out with rfl | rfl
    · obtain ⟨c0, c1, c2, c3, c4, c5, c6, c7, c8⟩ := T4.out.b.nine
      go_wp2_with fail
      refine (MY.out HYO.out _).mono ?_
      rintro e w5 ⟨rfl, b5⟩
      have T5 := Lib.hid (T4.out.later b5)
      clear b5 c0 c1 c2 c3 c4 c5 c6 c7 c8
      rcases M2.out with rfl | rfl
      · obtain ⟨c0, c1, c2, c3, c4, c5, c6, c7, c8⟩ := T5.out.a.nine
        go_wp2_with fail
        refine (NXX.out HXO.out _).mono ?_
        rintro e w6 ⟨rfl, b6⟩
        have T6 := Lib.hid (T5.out.later b6)
        clear b6 c0 c1 c2 c3 c4 c5 c6 c7 c8
        go_wp2_with fail
        refine (awake_any _).mono ?_
        rintro e w9 ⟨rfl, b9⟩
        have T9 := Lib.hid (T6.out.later b9)
        clear b9
        go_wp2_with fail
        go_ret
        exact ⟨rfl, T9.out.below⟩
      · obtain ⟨c0, c1, c2, c3, c4, c5, c6, c7, c8⟩ := T5.out.a.nine
        go_wp2_with fail
        refine (NXX.out HXO.out _).mono ?_
        rintro e w6 ⟨rfl, b6⟩
        have T6 := Lib.hid (T5.out.later b6)
        clear b6 c0 c1 c2 c3 c4 c5 c6 c7 c8
        go_wp2_with fail
        refine (awake_any _).mono ?_
        rintro e w9 ⟨rfl, b9⟩
        have T9 := Lib.hid (T6.out.later b9)
        clear b9
        go_wp2_with fail
        go_ret
        exact ⟨rfl, T9.out.below⟩
    · obtain ⟨c0, c1, c2, c3, c4, c5, c6, c7, c8⟩ := T4.out.a.nine
      go_wp2_with fail
      refine (NXX.out HXO.out _).mono ?_
      rintro e w6 ⟨rfl, b6⟩
      have T6 := Lib.hid (T4.out.later b6)
      clear b6 c0 c1 c2 c3 c4 c5 c6 c7 c8
      go_wp2_with fail
      refine (awake_any _).mono ?_
      rintro e w9 ⟨rfl, b9⟩
      have T9 := Lib.hid (T6.out.later b9)
      clear b9
      go_wp2_with fail
      go_ret
      exact ⟨rfl, T9.out.below⟩
  · obtain ⟨c0, c1, c2, c3, c4, c5, c6, c7, c8⟩ := L3.out.a.nine
    go_wp2_with fail
    refine (MX.out HXO.out _).mono ?_
    rintro e w4 ⟨rfl, b4⟩
    have T4 := Lib.hid (L3.out.later b4)
    clear b4 c0 c1 c2 c3 c4 c5 c6 c7 c8
    rcases M1.out with rfl | rfl
    · obtain ⟨c0, c1, c2, c3, c4, c5, c6, c7, c8⟩ := T4.out.b.nine
      go_wp2_with fail
      refine (MY.out HYO.out _).mono ?_
      rintro e w5 ⟨rfl, b5⟩
      have T5 := Lib.hid (T4.out.later b5)
      clear b5 c0 c1 c2 c3 c4 c5 c6 c7 c8
      rcases M2.out with rfl | rfl
      · obtain ⟨c0, c1, c2, c3, c4, c5, c6, c7, c8⟩ := T5.out.a.nine
        go_wp2_with fail
        refine (NXX.out HXO.out _).mono ?_
        rintro e w6 ⟨rfl, b6⟩
        have T6 := Lib.hid (T5.out.later b6)
        clear b6 c0 c1 c2 c3 c4 c5 c6 c7 c8
        go_wp2_with fail
        refine (awake_any _).mono ?_
        rintro e w9 ⟨rfl, b9⟩
        have T9 := Lib.hid (T6.out.later b9)
        clear b9
        go_wp2_with fail
        go_ret
        exact ⟨rfl, T9.out.below⟩
      · obtain ⟨c0, c1, c2, c3, c4, c5, c6, c7, c8⟩ := T5.out.a.nine
        go_wp2_with fail
        refine (NXX.out HXO.out _).mono ?_
        rintro e w6 ⟨rfl, b6⟩
        have T6 := Lib.hid (T5.out.later b6)
        clear b6 c0 c1 c2 c3 c4 c5 c6 c7 c8
        go_wp2_with fail
        refine (awake_any _).mono ?_
        rintro e w9 ⟨rfl, b9⟩
        have T9 := Lib.hid (T6.out.later b9)
        clear b9
        go_wp2_with fail
        go_ret
        exact ⟨rfl, T9.out.below⟩
    · obtain ⟨c0, c1, c2, c3, c4, c5, c6, c7, c8⟩ := T4.out.a.nine
      go_wp2_with fail
      refine (NXX.out HXO.out _).mono ?_
      rintro e w6 ⟨rfl, b6⟩
      have T6 := Lib.hid (T4.out.later b6)
      clear b6 c0 c1 c2 c3 c4 c5 c6 c7 c8
      go_wp2_with fail
      refine (awake_any _).mono ?_
      rintro e w9 ⟨rfl, b9⟩
      have T9 := Lib.hid (T6.out.later b9)
      clear b9
      go_wp2_with fail
      go_ret
      exact ⟨rfl, T9.out.below⟩
  · obtain ⟨c0, c1, c2, c3, c4, c5, c6, c7, c8⟩ := L3.out.a.nine
    go_wp2_with fail
    refine (MX.out HXO.out _).mono ?_
    rintro e w4 ⟨rfl, b4⟩
    have T4 := Lib.hid (L3.out.later b4)
    clear b4 c0 c1 c2 c3 c4 c5 c6 c7 c8
    rcases M1.out with rfl | rfl
    · obtain ⟨c0, c1, c2, c3, c4, c5, c6, c7, c8⟩ := T4.out.b.nine
      go_wp2_with fail
      refine (MY.out HYO.out _).mono ?_
      rintro e w5 ⟨rfl, b5⟩
      have T5 := Lib.hid (T4.out.later b5)
      clear b5 c0 c1 c2 c3 c4 c5 c6 c7 c8
      rcases M2.out with rfl | rfl
      · exact absurd ⟨by trivial, by trivial⟩ hm
      · obtain ⟨c0, c1, c2, c3, c4, c5, c6, c7, c8⟩ := T5.out.a.nine
        go_wp2_with fail
        refine (NXX.out HXO.out _).mono ?_
        rintro e w6 ⟨rfl, b6⟩
        have T6 := Lib.hid (T5.out.later b6)
        clear b6 c0 c1 c2 c3 c4 c5 c6 c7 c8
        go_wp2_with fail
        refine (awake_any _).mono ?_
        rintro e w9 ⟨rfl, b9⟩
        have T9 := Lib.hid (T6.out.later b9)
        clear b9
        go_wp2_with fail
        go_ret
        exact ⟨rfl, T9.out.below⟩
    · obtain ⟨c0, c1, c2, c3, c4, c5, c6, c7, c8⟩ := T4.out.a.nine
      go_wp2_with fail
      refine (NXX.out HXO.out _).mono ?_
      rintro e w6 ⟨rfl, b6⟩
      have T6 := Lib.hid (T4.out.later b6)
      clear b6 c0 c1 c2 c3 c4 c5 c6 c7 c8
      go_wp2_with fail
      refine (awake_any _).mono ?_
      rintro e w9 ⟨rfl, b9⟩
      have T9 := Lib.hid (T6.out.later b9)
      clear b9
      go_wp2_with fail
      go_ret
      exact ⟨rfl, T9.out.below⟩
end Go.Proofs.Ytngmcefbljkgaaa.Rk
