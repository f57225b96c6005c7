/- Rows of records that were made; and what the laws of layer 10 ask of a few constants: true. -/
import Derived.Test.YtngmcefbljkgaaaRkFew
import Derived.Deep.OwnRows
import Derived.Deep.RegionHeld3
set_option linter.unusedSimpArgs false
namespace Go.Proofs.Ytngmcefbljkgaaa.Rk
open Go.RowKit
open Cd (Rec Fit may putB recB zeroR recV recL Blk)
open Va (digs zig putD)

/-- the cells of records one behind the other -/
def rcs : List Rec → List Value
  | [] => []
  | x :: r => recL x ++ rcs r
theorem rcs_len : ∀ l : List Rec, (rcs l).length = l.length * 9
  | [] => rfl
  | x :: r => by
    show (recL x ++ rcs r).length = (r.length + 1) * 9
    rw [List.length_append, rcs_len r]
    show 9 + _ = _
    omega
theorem rcs_append : ∀ a b : List Rec, rcs (a ++ b) = rcs a ++ rcs b
  | [], _ => rfl
  | x :: r, b => by
    show recL x ++ rcs (r ++ b) = recL x ++ rcs r ++ rcs b
    rw [rcs_append r b, List.append_assoc]
theorem rcs_one (x : Rec) : rcs [x] = recL x := by show recL x ++ [] = _; rw [List.append_nil]
theorem rcs_at : ∀ (l : List Rec) (j : Nat) (x : Rec) (i : Nat) (v : Value), l[j]? = some x → (recL x)[i]? = some v → (rcs l)[j * 9 + i]? = some v
  | [], j, x, i, v, h, _ => by simp at h
  | y :: r, 0, x, i, v, h, hv => by
    obtain rfl : y = x := by simpa using h
    show (recL y ++ rcs r)[0 * 9 + i]? = _
    rw [Nat.zero_mul, Nat.zero_add]
    obtain ⟨hi, he⟩ := List.getElem?_eq_some_iff.1 hv
    rw [List.getElem?_append_left hi]
    exact hv
  | y :: r, j + 1, x, i, v, h, hv => by
    show (recL y ++ rcs r)[(j + 1) * 9 + i]? = _
    rw [List.getElem?_append_right (by show (9 : Nat) ≤ _; omega)]
    have := rcs_at r j x i v (by simpa using h) hv
    rw [show (j + 1) * 9 + i - (recL y).length = j * 9 + i by show _ - 9 = _; omega]
    exact this
theorem recs_of {b off : Nat} {xs : List Rec} {W : World} (hb : b < W.heap.size) (h : ∀ i v, (rcs xs)[i]? = some v → W.cell? ⟨b, off + i, none⟩ = some v) : Recs (some ⟨b, off, none⟩) xs.length xs W := by
  refine ⟨rfl, fun _ => ⟨b, off, rfl, hb, fun j x hj => ?_⟩⟩
  have H := fun i v hv => h (j * 9 + i) v (rcs_at xs j x i v hj hv)
  simp only [← Nat.add_assoc] at H
  exact ⟨H 0 _ rfl, H 1 _ rfl, H 2 _ rfl, H 3 _ rfl, H 4 _ rfl, H 5 _ rfl, H 6 _ rfl, H 7 _ rfl, H 8 _ rfl⟩
theorem recs_new (W : World) (xs : List Rec) (ty : TypeId) : Recs (some ⟨W.heap.size, 0, none⟩) xs.length xs (W.alloc (.cells ⟨rcs xs⟩ ty)) := by
  refine recs_of (by simp) fun i v hv => ?_
  rw [Nat.zero_add, World.cell?_alloc_mark W ⟨rcs xs⟩ ty (0, 0) i]
  simpa using hv

/-- a small record -/
def ofR (rev dur : Int) : Rec := ⟨1, 1, 0, rev, ⟨#[115]⟩, ⟨#[111]⟩, 0, dur, false⟩
theorem of_any (rev dur : Int) (w : World) :
    Calls Try.prog 15 #[.int .i64 rev, .int .i64 dur] w fun e w' => e = .returned (recV (ofR rev dur)) ∧ Below w.heap.size w w' := by
  go_enter Try.func15, Try.ntmps15
  go_wp2_with fail
  exact bodyPost_ret (v := recV (ofR rev dur)) (by simp [results, Try.results15, go_sem, recV, ofR]) rfl ⟨rfl, (Below.refl _ _).alloc (Nat.le_refl _) _⟩
theorem of_fit (rev dur : Int) (h1 : rev ≤ 9223372036854775807) (h2 : -9223372036854775808 ≤ dur) (h3 : dur ≤ 9223372036854775807) : Fit (ofR rev dur) :=
  ⟨show (1 : Int) ≤ 9223372036854775807 by decide, show (1 : Int) ≤ 9223372036854775807 by decide, show (0 : Int) ≤ 9223372036854775807 by decide, h1, show (1 : Nat) ≤ 1000 by decide, show (1 : Nat) ≤ 1000 by decide, show (-9223372036854775808 : Int) ≤ 0 by decide, show (0 : Int) ≤ 9223372036854775807 by decide, h2, h3⟩
theorem of_byt2 (d : Int) (e : UInt8) (hd : digs (zig d) = [e]) (hk : kept (ofR 2 d) = ofR 2 d) : byt (ofR 2 d) = [1, 1, 0, 2, 1, 115, 1, 111, 0, e, 0] := by
  have d1 : digs 1 = [1] := by rw [Va.digs_lt (by omega)]; rfl
  have d2 : digs 2 = [2] := by rw [Va.digs_lt (by omega)]; rfl
  have d0 : digs 0 = [0] := by rw [Va.digs_lt (by omega)]; rfl
  unfold byt
  rw [hk, Cd.putB_ok (by show may (ofR 2 0) = 0; decide)]
  show digs 1 ++ digs 1 ++ digs 0 ++ digs 2 ++ (digs 1 ++ [115]) ++ (digs 1 ++ [111]) ++ digs 0 ++ digs (zig d) ++ [0] = _
  rw [d0, d1, d2, hd]
  rfl
theorem newer_43 : newer (ofR 2 4) (ofR 2 3) = true := by
  rw [newer_eq (a := ofR 2 4) (b := ofR 2 3) rfl, of_byt2 4 8 (by show digs 8 = _; rw [Va.digs_lt (by omega)]; rfl) rfl, of_byt2 3 6 (by show digs 6 = _; rw [Va.digs_lt (by omega)]; rfl) rfl]
  rfl
theorem newer_rev {p q d e : Int} (h : q < p) : newer (ofR p d) (ofR q e) = true := by
  rw [newer_ne (by show ¬ p = q; omega)]
  exact decide_eq_true h
theorem newer_low_rev {p q d e : Int} (h : p < q) : newer (ofR p d) (ofR q e) = false := by
  rw [newer_ne (by show ¬ p = q; omega)]
  exact decide_eq_false (show ¬ q < p by omega)
theorem best_four : bestR [ofR 1 9, ofR 2 3, ofR 2 4, ofR 0 9] = ofR 2 4 := by
  show kept (top (ofR 1 9) [ofR 2 3, ofR 2 4, ofR 0 9]) = _
  simp only [top, newer_rev (show (1 : Int) < 2 by omega), newer_43, newer_low_rev (show (0 : Int) < 2 by omega), if_true]
  rfl
theorem same_yes (x y : Rec) (w : World) (h : kept x = kept y) : Calls Try.prog 13 #[recV x, recV y] w fun e w' => e = .returned (.bool true) ∧ Below w.heap.size w w' :=
  (same_any x y w).mono fun _ _ ⟨⟨f, h1, h2⟩, hb⟩ => ⟨by rw [h1, h2.2 h], hb⟩
theorem same_no (x y : Rec) (w : World) (h : kept x ≠ kept y) : Calls Try.prog 13 #[recV x, recV y] w fun e w' => e = .returned (.bool false) ∧ Below w.heap.size w w' :=
  (same_any x y w).mono fun _ _ ⟨⟨f, h1, h2⟩, hb⟩ => ⟨by rw [h1, Bool.eq_false_iff.2 (fun hf => h (h2.1 hf))], hb⟩

theorem four_fit : ∀ x ∈ [ofR 1 9, ofR 2 3, ofR 2 4, ofR 0 9], Fit x := by
  intro x hx
  simp only [List.mem_cons, List.not_mem_nil, or_false] at hx
  rcases hx with rfl | rfl | rfl | rfl <;> exact of_fit _ _ (by decide) (by decide) (by decide)

/-- a block of nine cells, and what was there before -/
structure On (w W : World) (X : Nat) (l : List Value) : Prop where
  b : Blk W X l
  below : Below w.heap.size w W
theorem On.later {w W W' : World} {X : Nat} {l : List Value} (h : On w W X l) (hb : Below W.heap.size W W') : On w W' X l := ⟨h.b.later hb, h.below.trans (hb.mono h.below.size)⟩

set_option maxHeartbeats 12800000 in
set_option maxRecDepth 100000 in
theorem awake_any (w : World) :
    Calls Try.prog 8 #[] w fun e w' => e = .returned (.bool true) ∧ Below w.heap.size w w' := by
  go_enter Try.func8, Try.ntmps8
  go_wp2_with fail
  refine (of_any 1 9 w).mono ?_
  rintro e w1 ⟨rfl, b1⟩
  have B1 := Lib.hid b1
  clear b1
  simp only [recV, ofR]
  go_wp2_with fail
  refine (of_any 2 3 w1).mono ?_
  rintro e w2 ⟨rfl, b2⟩
  have B2 := Lib.hid (B1.out.trans (b2.mono B1.out.size))
  clear b2
  simp only [recV, ofR]
  go_wp2_with fail
  refine (of_any 2 4 w2).mono ?_
  rintro e w3 ⟨rfl, b3⟩
  have B3 := Lib.hid (B2.out.trans (b3.mono B2.out.size))
  clear b3
  simp only [recV, ofR]
  go_wp2_with fail
  refine (of_any 0 9 w3).mono ?_
  rintro e w4 ⟨rfl, b4⟩
  have B4 := Lib.hid (B3.out.trans (b4.mono B3.out.size))
  have R4 := recs_new w4 [ofR 1 9, ofR 2 3, ofR 2 4, ofR 0 9] 23
  have B5 : Below w.heap.size w (w4.alloc (.cells ⟨rcs [ofR 1 9, ofR 2 3, ofR 2 4, ofR 0 9]⟩ 23)) := B4.out.alloc B4.out.size _
  have R4 := Lib.hid R4
  have B5 := Lib.hid B5
  clear b4
  simp only [recV, ofR]
  go_wp2_with fail
  refine (best_any (some ⟨w4.heap.size, 0, none⟩) 4 4 [ofR 1 9, ofR 2 3, ofR 2 4, ofR 0 9] _ R4.out (by omega) (by omega) four_fit).mono ?_
  rw [best_four]
  rintro e w5 ⟨rfl, b5⟩
  have B6 := Lib.hid (B5.out.trans (b5.mono B5.out.size))
  have KX : Hid (On w (w5.alloc (.cells ⟨recL (ofR 2 4)⟩ 23)) w5.heap.size (recL (ofR 2 4))) := ⟨Blk.start w5 23 _, B6.out.alloc B6.out.size _⟩
  clear b5
  simp only [recV, ofR, isR]
  unfold recL ofR at KX
  simp only at KX
  go_wp2_with fail
  generalize w5.heap.size = X at *
  generalize World.alloc w5 _ = x5 at *
  refine (best_any none 0 0 [] _ (Recs.none _ _) (by omega) (by omega) (fun x h => by cases h)).mono ?_
  rintro e w6 ⟨rfl, b6⟩
  have K6 := Lib.hid ((KX.out.later b6).later ((Below.refl _ w6).alloc (Nat.le_refl _) (.cells ⟨recL zeroR⟩ 23)))
  clear b6
  simp only [bestR, recV, zeroR, isR]
  unfold recL zeroR at K6
  simp only at K6
  go_wp2_with fail
  generalize World.alloc w6 _ = x6 at *
  have L0 := Lib.hid (K6.out.later (Below.refl _ _).drew)
  have hStart := L0.out.b.nine
  refine wp_region_held_drew (S := fun w' => w'.cell? ⟨X, 0, none⟩ = some (.int .i64 1) ∧ w'.cell? ⟨X, 1, none⟩ = some (.int .i64 1) ∧ w'.cell? ⟨X, 2, none⟩ = some (.int .i64 0) ∧ w'.cell? ⟨X, 3, none⟩ = some (.int .i64 2) ∧ w'.cell? ⟨X, 4, none⟩ = some (.string ⟨#[115]⟩) ∧ w'.cell? ⟨X, 5, none⟩ = some (.string ⟨#[111]⟩) ∧ w'.cell? ⟨X, 6, none⟩ = some (.int .i64 0) ∧ w'.cell? ⟨X, 7, none⟩ = some (.int .i64 4) ∧ w'.cell? ⟨X, 8, none⟩ = some (.bool false)) (by kernel_rfl) (hStart) (fun hHeld => ?_)
  refine wpAnyH_take (i := 0) (oi := { dst := some 18, op := Op.load 23 (Operand.tmp 1), type := 23, pos := "law.go:20", after := #[], guard := none }) (v := ?_) rfl (by kernel_rfl) (by kernel_rfl) (by kernel_rfl) (fun _ _ _ h => h) (Or.inl ⟨by rfl, ?_⟩) (by assumption) ?_; rotate_left; (focus (intro w hSw; (try dsimp only at hSw); go_simp; all_goals (with_reducible rfl)))
  try simp only [Act.put, List.setIfInBounds_toArray, List.set_cons_zero, List.set_cons_succ]
  refine wpAnyH_ready (rs := [1]) (by kernel_rfl) (by simp) ?_
  refine AllReadyH.cons (o := { dst := some 19, op := Op.call { callee := Callee.value (Operand.func 15), args := #[Operand.const (Value.int IntKind.i64 2), Operand.const (Value.int IntKind.i64 4)], argTypes := #[3, 3] }, type := 23, pos := "law.go:20", after := #[], guard := none }) rfl (fun K hK => ?_) AllReadyH.nil
  go_simp
  refine (of_any 2 4 _).mono ?_
  rintro e w7 ⟨rfl, b7⟩
  have L1 := Lib.hid (L0.out.later b7)
  have hKeep := L1.out.b.nine
  clear b7
  simp only [recV, ofR]
  go_wp2_with fail
  refine hK.out _ _ ?_ (fun hHeld => ?_)
  · exact hKeep
  clear hK K
  try simp only [Act.put, List.setIfInBounds_toArray, List.set_cons_zero, List.set_cons_succ]
  refine wpAnyH_take (i := 2) (oi := { dst := some 20, op := Op.binOp BinOp.eql 23 (Operand.tmp 18) (Operand.tmp 19) 23, type := 4, pos := "law.go:20", after := #[{ on := 0, ground := Ground.data }, { on := 1, ground := Ground.data }], guard := none }) (v := ?_) rfl (by kernel_rfl) (by kernel_rfl) (by kernel_rfl) (fun _ _ _ h => h) (Or.inl ⟨by rfl, ?_⟩) (by assumption) ?_; rotate_left; (focus (intro w hSw; (try dsimp only at hSw); go_simp; all_goals (with_reducible rfl)))
  try simp only [Act.put, List.setIfInBounds_toArray, List.set_cons_zero, List.set_cons_succ]
  refine wpAnyH_take (i := 3) (oi := { dst := some 21, op := Op.move (Operand.tmp 20), type := 4, pos := "law.go:20", after := #[{ on := 2, ground := Ground.data }, { on := 1, ground := Ground.chain }], guard := none }) (v := ?_) rfl (by kernel_rfl) (by kernel_rfl) (by kernel_rfl) (fun _ _ _ h => h) (Or.inl ⟨by rfl, ?_⟩) (by assumption) ?_; rotate_left; (focus (intro w hSw; (try dsimp only at hSw); go_simp; all_goals (with_reducible rfl)))
  try simp only [Act.put, List.setIfInBounds_toArray, List.set_cons_zero, List.set_cons_succ]
  first | (refine wpAnyH_take (i := 4) (oi := { dst := some 22, op := Op.move (Operand.tmp 2), type := 4, pos := "law.go:20", after := #[{ on := 3, ground := Ground.guard }], guard := some (3, true) }) (v := ?_) rfl (by kernel_rfl) (by kernel_rfl) (by kernel_rfl) (fun _ _ _ h => h) (Or.inl ⟨by rfl, ?_⟩) (by assumption) ?_; rotate_left; (focus (intro w hSw; (try dsimp only at hSw); go_simp; all_goals (with_reducible rfl)))) | refine wpAnyH_take (i := 4) (oi := { dst := some 22, op := Op.move (Operand.tmp 2), type := 4, pos := "law.go:20", after := #[{ on := 3, ground := Ground.guard }], guard := some (3, true) }) (v := undef) rfl (by kernel_rfl) (by kernel_rfl) (by kernel_rfl) (fun _ _ _ h => h) (Or.inr ⟨by rfl, rfl⟩) (by assumption) ?_
  try simp only [Act.put, List.setIfInBounds_toArray, List.set_cons_zero, List.set_cons_succ]
  refine wpAnyH_take (i := 5) (oi := { dst := some 23, op := Op.pick (Operand.tmp 21) (Operand.tmp 22) (Operand.const (Value.bool false)), type := 4, pos := "law.go:20", after := #[{ on := 3, ground := Ground.data }, { on := 4, ground := Ground.data }], guard := none }) (v := ?_) rfl (by kernel_rfl) (by kernel_rfl) (by kernel_rfl) (fun _ _ _ h => h) (Or.inl ⟨by rfl, ?_⟩) (by assumption) ?_; rotate_left; (focus (intro w hSw; (try dsimp only at hSw); go_simp; all_goals (with_reducible rfl)))
  try simp only [Act.put, List.setIfInBounds_toArray, List.set_cons_zero, List.set_cons_succ]
  refine wpAnyH_take (i := 6) (oi := { dst := some 24, op := Op.move (Operand.tmp 23), type := 4, pos := "law.go:20", after := #[{ on := 5, ground := Ground.data }, { on := 3, ground := Ground.chain }], guard := none }) (v := ?_) rfl (by kernel_rfl) (by kernel_rfl) (by kernel_rfl) (fun _ _ _ h => h) (Or.inl ⟨by rfl, ?_⟩) (by assumption) ?_; rotate_left; (focus (intro w hSw; (try dsimp only at hSw); go_simp; all_goals (with_reducible rfl)))
  try simp only [Act.put, List.setIfInBounds_toArray, List.set_cons_zero, List.set_cons_succ]
  first | (refine wpAnyH_take (i := 7) (oi := { dst := some 25, op := Op.move (Operand.tmp 4), type := 4, pos := "law.go:20", after := #[{ on := 6, ground := Ground.guard }], guard := some (6, true) }) (v := ?_) rfl (by kernel_rfl) (by kernel_rfl) (by kernel_rfl) (fun _ _ _ h => h) (Or.inl ⟨by rfl, ?_⟩) (by assumption) ?_; rotate_left; (focus (intro w hSw; (try dsimp only at hSw); go_simp; all_goals (with_reducible rfl)))) | refine wpAnyH_take (i := 7) (oi := { dst := some 25, op := Op.move (Operand.tmp 4), type := 4, pos := "law.go:20", after := #[{ on := 6, ground := Ground.guard }], guard := some (6, true) }) (v := undef) rfl (by kernel_rfl) (by kernel_rfl) (by kernel_rfl) (fun _ _ _ h => h) (Or.inr ⟨by rfl, rfl⟩) (by assumption) ?_
  try simp only [Act.put, List.setIfInBounds_toArray, List.set_cons_zero, List.set_cons_succ]
  first | (refine wpAnyH_take (i := 8) (oi := { dst := some 26, op := Op.unOp UnOp.not 4 (Operand.tmp 25), type := 4, pos := "law.go:20", after := #[{ on := 7, ground := Ground.data }, { on := 6, ground := Ground.guard }], guard := some (6, true) }) (v := ?_) rfl (by kernel_rfl) (by kernel_rfl) (by kernel_rfl) (fun _ _ _ h => h) (Or.inl ⟨by rfl, ?_⟩) (by assumption) ?_; rotate_left; (focus (intro w hSw; (try dsimp only at hSw); go_simp; all_goals (with_reducible rfl)))) | refine wpAnyH_take (i := 8) (oi := { dst := some 26, op := Op.unOp UnOp.not 4 (Operand.tmp 25), type := 4, pos := "law.go:20", after := #[{ on := 7, ground := Ground.data }, { on := 6, ground := Ground.guard }], guard := some (6, true) }) (v := undef) rfl (by kernel_rfl) (by kernel_rfl) (by kernel_rfl) (fun _ _ _ h => h) (Or.inr ⟨by rfl, rfl⟩) (by assumption) ?_
  try simp only [Act.put, List.setIfInBounds_toArray, List.set_cons_zero, List.set_cons_succ]
  refine wpAnyH_take (i := 9) (oi := { dst := some 27, op := Op.pick (Operand.tmp 24) (Operand.tmp 26) (Operand.const (Value.bool false)), type := 4, pos := "law.go:20", after := #[{ on := 6, ground := Ground.data }, { on := 8, ground := Ground.data }], guard := none }) (v := ?_) rfl (by kernel_rfl) (by kernel_rfl) (by kernel_rfl) (fun _ _ _ h => h) (Or.inl ⟨by rfl, ?_⟩) (by assumption) ?_; rotate_left; (focus (intro w hSw; (try dsimp only at hSw); go_simp; all_goals (with_reducible rfl)))
  try simp only [Act.put, List.setIfInBounds_toArray, List.set_cons_zero, List.set_cons_succ]
  refine wpAnyH_take (i := 10) (oi := { dst := some 28, op := Op.move (Operand.tmp 27), type := 4, pos := "law.go:20", after := #[{ on := 9, ground := Ground.data }, { on := 6, ground := Ground.chain }], guard := none }) (v := ?_) rfl (by kernel_rfl) (by kernel_rfl) (by kernel_rfl) (fun _ _ _ h => h) (Or.inl ⟨by rfl, ?_⟩) (by assumption) ?_; rotate_left; (focus (intro w hSw; (try dsimp only at hSw); go_simp; all_goals (with_reducible rfl)))
  try simp only [Act.put, List.setIfInBounds_toArray, List.set_cons_zero, List.set_cons_succ]
  refine wpAnyH_ready (rs := [11]) (by kernel_rfl) (by simp) ?_
  refine AllReadyH.cons (o := { dst := some 29, op := Op.call { callee := Callee.value (Operand.func 15), args := #[Operand.const (Value.int IntKind.i64 2), Operand.const (Value.int IntKind.i64 0)], argTypes := #[3, 3] }, type := 23, pos := "law.go:20", after := #[{ on := 10, ground := Ground.chain }, { on := 10, ground := Ground.guard }], guard := some (10, true) }) rfl (fun K hK => ?_) AllReadyH.nil
  go_simp
  refine (of_any 2 0 _).mono ?_
  rintro e w7 ⟨rfl, b7⟩
  have L2 := Lib.hid (L1.out.later b7)
  have hKeep := L2.out.b.nine
  clear b7
  simp only [recV, ofR]
  go_wp2_with fail
  refine hK.out _ _ ?_ (fun hHeld => ?_)
  · exact hKeep
  clear hK K
  try simp only [Act.put, List.setIfInBounds_toArray, List.set_cons_zero, List.set_cons_succ]
  refine wpAnyH_ready (rs := [12]) (by kernel_rfl) (by simp) ?_
  refine AllReadyH.cons (o := { dst := some 30, op := Op.call { callee := Callee.value (Operand.func 15), args := #[Operand.const (Value.int IntKind.i64 1), Operand.const (Value.int IntKind.i64 0)], argTypes := #[3, 3] }, type := 23, pos := "law.go:20", after := #[{ on := 11, ground := Ground.chain }, { on := 10, ground := Ground.guard }], guard := some (10, true) }) rfl (fun K hK => ?_) AllReadyH.nil
  go_simp
  refine (of_any 1 0 _).mono ?_
  rintro e w7 ⟨rfl, b7⟩
  have L3 := Lib.hid (L2.out.later b7)
  have hKeep := L3.out.b.nine
  clear b7
  simp only [recV, ofR]
  go_wp2_with fail
  refine hK.out _ _ ?_ (fun hHeld => ?_)
  · exact hKeep
  clear hK K
  try simp only [Act.put, List.setIfInBounds_toArray, List.set_cons_zero, List.set_cons_succ]
  refine wpAnyH_ready (rs := [13]) (by kernel_rfl) (by simp) ?_
  refine AllReadyH.cons (o := { dst := some 31, op := Op.call { callee := Callee.value (Operand.func 11), args := #[Operand.tmp 29, Operand.tmp 30], argTypes := #[23, 23] }, type := 4, pos := "law.go:20", after := #[{ on := 11, ground := Ground.data }, { on := 12, ground := Ground.data }, { on := 12, ground := Ground.chain }, { on := 10, ground := Ground.guard }], guard := some (10, true) }) rfl (fun K hK => ?_) AllReadyH.nil
  go_simp
  refine (newer_any (ofR 2 0) (ofR 1 0) _ (of_fit _ _ (by decide) (by decide) (by decide)) (of_fit _ _ (by decide) (by decide) (by decide))).mono ?_
  rw [newer_rev (show (1 : Int) < 2 by omega)]
  rintro e w7 ⟨rfl, b7⟩
  have L4 := Lib.hid (L3.out.later b7)
  have hKeep := L4.out.b.nine
  clear b7
  simp only [recV, ofR]
  go_wp2_with fail
  refine hK.out _ _ ?_ (fun hHeld => ?_)
  · exact hKeep
  clear hK K
  try simp only [Act.put, List.setIfInBounds_toArray, List.set_cons_zero, List.set_cons_succ]
  refine wpAnyH_take (i := 14) (oi := { dst := some 32, op := Op.pick (Operand.tmp 28) (Operand.tmp 31) (Operand.const (Value.bool false)), type := 4, pos := "law.go:20", after := #[{ on := 10, ground := Ground.data }, { on := 13, ground := Ground.data }], guard := none }) (v := ?_) rfl (by kernel_rfl) (by kernel_rfl) (by kernel_rfl) (fun _ _ _ h => h) (Or.inl ⟨by rfl, ?_⟩) (by assumption) ?_; rotate_left; (focus (intro w hSw; (try dsimp only at hSw); go_simp; all_goals (with_reducible rfl)))
  try simp only [Act.put, List.setIfInBounds_toArray, List.set_cons_zero, List.set_cons_succ]
  refine wpAnyH_take (i := 15) (oi := { dst := some 33, op := Op.move (Operand.tmp 32), type := 4, pos := "law.go:20", after := #[{ on := 14, ground := Ground.data }, { on := 13, ground := Ground.chain }], guard := none }) (v := ?_) rfl (by kernel_rfl) (by kernel_rfl) (by kernel_rfl) (fun _ _ _ h => h) (Or.inl ⟨by rfl, ?_⟩) (by assumption) ?_; rotate_left; (focus (intro w hSw; (try dsimp only at hSw); go_simp; all_goals (with_reducible rfl)))
  try simp only [Act.put, List.setIfInBounds_toArray, List.set_cons_zero, List.set_cons_succ]
  refine wpAnyH_ready (rs := [16]) (by kernel_rfl) (by simp) ?_
  refine AllReadyH.cons (o := { dst := some 34, op := Op.call { callee := Callee.value (Operand.func 15), args := #[Operand.const (Value.int IntKind.i64 1), Operand.const (Value.int IntKind.i64 0)], argTypes := #[3, 3] }, type := 23, pos := "law.go:20", after := #[{ on := 15, ground := Ground.chain }, { on := 15, ground := Ground.guard }], guard := some (15, true) }) rfl (fun K hK => ?_) AllReadyH.nil
  go_simp
  refine (of_any 1 0 _).mono ?_
  rintro e w7 ⟨rfl, b7⟩
  have L5 := Lib.hid (L4.out.later b7)
  have hKeep := L5.out.b.nine
  clear b7
  simp only [recV, ofR]
  go_wp2_with fail
  refine hK.out _ _ ?_ (fun hHeld => ?_)
  · exact hKeep
  clear hK K
  try simp only [Act.put, List.setIfInBounds_toArray, List.set_cons_zero, List.set_cons_succ]
  refine wpAnyH_ready (rs := [17]) (by kernel_rfl) (by simp) ?_
  refine AllReadyH.cons (o := { dst := some 35, op := Op.call { callee := Callee.value (Operand.func 15), args := #[Operand.const (Value.int IntKind.i64 1), Operand.const (Value.int IntKind.i64 0)], argTypes := #[3, 3] }, type := 23, pos := "law.go:20", after := #[{ on := 16, ground := Ground.chain }, { on := 15, ground := Ground.guard }], guard := some (15, true) }) rfl (fun K hK => ?_) AllReadyH.nil
  go_simp
  refine (of_any 1 0 _).mono ?_
  rintro e w7 ⟨rfl, b7⟩
  have L6 := Lib.hid (L5.out.later b7)
  have hKeep := L6.out.b.nine
  clear b7
  simp only [recV, ofR]
  go_wp2_with fail
  refine hK.out _ _ ?_ (fun hHeld => ?_)
  · exact hKeep
  clear hK K
  try simp only [Act.put, List.setIfInBounds_toArray, List.set_cons_zero, List.set_cons_succ]
  refine wpAnyH_ready (rs := [18]) (by kernel_rfl) (by simp) ?_
  refine AllReadyH.cons (o := { dst := some 36, op := Op.call { callee := Callee.value (Operand.func 11), args := #[Operand.tmp 34, Operand.tmp 35], argTypes := #[23, 23] }, type := 4, pos := "law.go:20", after := #[{ on := 16, ground := Ground.data }, { on := 17, ground := Ground.data }, { on := 17, ground := Ground.chain }, { on := 15, ground := Ground.guard }], guard := some (15, true) }) rfl (fun K hK => ?_) AllReadyH.nil
  go_simp
  refine (newer_any (ofR 1 0) (ofR 1 0) _ (of_fit _ _ (by decide) (by decide) (by decide)) (of_fit _ _ (by decide) (by decide) (by decide))).mono ?_
  rw [newer_irrefl]
  rintro e w7 ⟨rfl, b7⟩
  have L7 := Lib.hid (L6.out.later b7)
  have hKeep := L7.out.b.nine
  clear b7
  simp only [recV, ofR]
  go_wp2_with fail
  refine hK.out _ _ ?_ (fun hHeld => ?_)
  · exact hKeep
  clear hK K
  try simp only [Act.put, List.setIfInBounds_toArray, List.set_cons_zero, List.set_cons_succ]
  first | (refine wpAnyH_take (i := 19) (oi := { dst := some 37, op := Op.unOp UnOp.not 4 (Operand.tmp 36), type := 4, pos := "law.go:20", after := #[{ on := 18, ground := Ground.data }, { on := 15, ground := Ground.guard }], guard := some (15, true) }) (v := ?_) rfl (by kernel_rfl) (by kernel_rfl) (by kernel_rfl) (fun _ _ _ h => h) (Or.inl ⟨by rfl, ?_⟩) (by assumption) ?_; rotate_left; (focus (intro w hSw; (try dsimp only at hSw); go_simp; all_goals (with_reducible rfl)))) | refine wpAnyH_take (i := 19) (oi := { dst := some 37, op := Op.unOp UnOp.not 4 (Operand.tmp 36), type := 4, pos := "law.go:20", after := #[{ on := 18, ground := Ground.data }, { on := 15, ground := Ground.guard }], guard := some (15, true) }) (v := undef) rfl (by kernel_rfl) (by kernel_rfl) (by kernel_rfl) (fun _ _ _ h => h) (Or.inr ⟨by rfl, rfl⟩) (by assumption) ?_
  try simp only [Act.put, List.setIfInBounds_toArray, List.set_cons_zero, List.set_cons_succ]
  refine wpAnyH_take (i := 20) (oi := { dst := some 38, op := Op.pick (Operand.tmp 33) (Operand.tmp 37) (Operand.const (Value.bool false)), type := 4, pos := "law.go:20", after := #[{ on := 15, ground := Ground.data }, { on := 19, ground := Ground.data }], guard := none }) (v := ?_) rfl (by kernel_rfl) (by kernel_rfl) (by kernel_rfl) (fun _ _ _ h => h) (Or.inl ⟨by rfl, ?_⟩) (by assumption) ?_; rotate_left; (focus (intro w hSw; (try dsimp only at hSw); go_simp; all_goals (with_reducible rfl)))
  try simp only [Act.put, List.setIfInBounds_toArray, List.set_cons_zero, List.set_cons_succ]
  refine wpAnyH_take (i := 21) (oi := { dst := some 39, op := Op.move (Operand.tmp 38), type := 4, pos := "law.go:20", after := #[{ on := 20, ground := Ground.data }, { on := 18, ground := Ground.chain }], guard := none }) (v := ?_) rfl (by kernel_rfl) (by kernel_rfl) (by kernel_rfl) (fun _ _ _ h => h) (Or.inl ⟨by rfl, ?_⟩) (by assumption) ?_; rotate_left; (focus (intro w hSw; (try dsimp only at hSw); go_simp; all_goals (with_reducible rfl)))
  try simp only [Act.put, List.setIfInBounds_toArray, List.set_cons_zero, List.set_cons_succ]
  refine wpAnyH_ready (rs := [22]) (by kernel_rfl) (by simp) ?_
  refine AllReadyH.cons (o := { dst := some 40, op := Op.call { callee := Callee.value (Operand.func 15), args := #[Operand.const (Value.int IntKind.i64 1), Operand.const (Value.int IntKind.i64 (-5))], argTypes := #[3, 3] }, type := 23, pos := "law.go:20", after := #[{ on := 21, ground := Ground.chain }, { on := 21, ground := Ground.guard }], guard := some (21, true) }) rfl (fun K hK => ?_) AllReadyH.nil
  go_simp
  refine (of_any 1 (-5) _).mono ?_
  rintro e w7 ⟨rfl, b7⟩
  have L8 := Lib.hid (L7.out.later b7)
  have hKeep := L8.out.b.nine
  clear b7
  simp only [recV, ofR]
  go_wp2_with fail
  refine hK.out _ _ ?_ (fun hHeld => ?_)
  · exact hKeep
  clear hK K
  try simp only [Act.put, List.setIfInBounds_toArray, List.set_cons_zero, List.set_cons_succ]
  refine wpAnyH_ready (rs := [23]) (by kernel_rfl) (by simp) ?_
  refine AllReadyH.cons (o := { dst := some 41, op := Op.call { callee := Callee.value (Operand.func 15), args := #[Operand.const (Value.int IntKind.i64 1), Operand.const (Value.int IntKind.i64 0)], argTypes := #[3, 3] }, type := 23, pos := "law.go:20", after := #[{ on := 22, ground := Ground.chain }, { on := 21, ground := Ground.guard }], guard := some (21, true) }) rfl (fun K hK => ?_) AllReadyH.nil
  go_simp
  refine (of_any 1 0 _).mono ?_
  rintro e w7 ⟨rfl, b7⟩
  have L9 := Lib.hid (L8.out.later b7)
  have hKeep := L9.out.b.nine
  clear b7
  simp only [recV, ofR]
  go_wp2_with fail
  refine hK.out _ _ ?_ (fun hHeld => ?_)
  · exact hKeep
  clear hK K
  try simp only [Act.put, List.setIfInBounds_toArray, List.set_cons_zero, List.set_cons_succ]
  refine wpAnyH_ready (rs := [24]) (by kernel_rfl) (by simp) ?_
  refine AllReadyH.cons (o := { dst := some 42, op := Op.call { callee := Callee.value (Operand.func 13), args := #[Operand.tmp 40, Operand.tmp 41], argTypes := #[23, 23] }, type := 4, pos := "law.go:20", after := #[{ on := 22, ground := Ground.data }, { on := 23, ground := Ground.data }, { on := 23, ground := Ground.chain }, { on := 21, ground := Ground.guard }], guard := some (21, true) }) rfl (fun K hK => ?_) AllReadyH.nil
  go_simp
  refine (same_yes (ofR 1 (-5)) (ofR 1 0) _ rfl).mono ?_
  rintro e w7 ⟨rfl, b7⟩
  have L10 := Lib.hid (L9.out.later b7)
  have hKeep := L10.out.b.nine
  clear b7
  simp only [recV, ofR]
  go_wp2_with fail
  refine hK.out _ _ ?_ (fun hHeld => ?_)
  · exact hKeep
  clear hK K
  try simp only [Act.put, List.setIfInBounds_toArray, List.set_cons_zero, List.set_cons_succ]
  refine wpAnyH_take (i := 25) (oi := { dst := some 43, op := Op.pick (Operand.tmp 39) (Operand.tmp 42) (Operand.const (Value.bool false)), type := 4, pos := "law.go:20", after := #[{ on := 21, ground := Ground.data }, { on := 24, ground := Ground.data }], guard := none }) (v := ?_) rfl (by kernel_rfl) (by kernel_rfl) (by kernel_rfl) (fun _ _ _ h => h) (Or.inl ⟨by rfl, ?_⟩) (by assumption) ?_; rotate_left; (focus (intro w hSw; (try dsimp only at hSw); go_simp; all_goals (with_reducible rfl)))
  try simp only [Act.put, List.setIfInBounds_toArray, List.set_cons_zero, List.set_cons_succ]
  refine wpAnyH_take (i := 26) (oi := { dst := some 44, op := Op.move (Operand.tmp 43), type := 4, pos := "law.go:20", after := #[{ on := 25, ground := Ground.data }, { on := 24, ground := Ground.chain }], guard := none }) (v := ?_) rfl (by kernel_rfl) (by kernel_rfl) (by kernel_rfl) (fun _ _ _ h => h) (Or.inl ⟨by rfl, ?_⟩) (by assumption) ?_; rotate_left; (focus (intro w hSw; (try dsimp only at hSw); go_simp; all_goals (with_reducible rfl)))
  try simp only [Act.put, List.setIfInBounds_toArray, List.set_cons_zero, List.set_cons_succ]
  refine wpAnyH_ready (rs := [27]) (by kernel_rfl) (by simp) ?_
  refine AllReadyH.cons (o := { dst := some 45, op := Op.call { callee := Callee.value (Operand.func 15), args := #[Operand.const (Value.int IntKind.i64 1), Operand.const (Value.int IntKind.i64 1)], argTypes := #[3, 3] }, type := 23, pos := "law.go:20", after := #[{ on := 26, ground := Ground.chain }, { on := 26, ground := Ground.guard }], guard := some (26, true) }) rfl (fun K hK => ?_) AllReadyH.nil
  go_simp
  refine (of_any 1 1 _).mono ?_
  rintro e w7 ⟨rfl, b7⟩
  have L11 := Lib.hid (L10.out.later b7)
  have hKeep := L11.out.b.nine
  clear b7
  simp only [recV, ofR]
  go_wp2_with fail
  refine hK.out _ _ ?_ (fun hHeld => ?_)
  · exact hKeep
  clear hK K
  try simp only [Act.put, List.setIfInBounds_toArray, List.set_cons_zero, List.set_cons_succ]
  refine wpAnyH_ready (rs := [28]) (by kernel_rfl) (by simp) ?_
  refine AllReadyH.cons (o := { dst := some 46, op := Op.call { callee := Callee.value (Operand.func 15), args := #[Operand.const (Value.int IntKind.i64 1), Operand.const (Value.int IntKind.i64 0)], argTypes := #[3, 3] }, type := 23, pos := "law.go:20", after := #[{ on := 27, ground := Ground.chain }, { on := 26, ground := Ground.guard }], guard := some (26, true) }) rfl (fun K hK => ?_) AllReadyH.nil
  go_simp
  refine (of_any 1 0 _).mono ?_
  rintro e w7 ⟨rfl, b7⟩
  have L12 := Lib.hid (L11.out.later b7)
  have hKeep := L12.out.b.nine
  clear b7
  simp only [recV, ofR]
  go_wp2_with fail
  refine hK.out _ _ ?_ (fun hHeld => ?_)
  · exact hKeep
  clear hK K
  try simp only [Act.put, List.setIfInBounds_toArray, List.set_cons_zero, List.set_cons_succ]
  refine wpAnyH_ready (rs := [29]) (by kernel_rfl) (by simp) ?_
  refine AllReadyH.cons (o := { dst := some 47, op := Op.call { callee := Callee.value (Operand.func 13), args := #[Operand.tmp 45, Operand.tmp 46], argTypes := #[23, 23] }, type := 4, pos := "law.go:20", after := #[{ on := 27, ground := Ground.data }, { on := 28, ground := Ground.data }, { on := 28, ground := Ground.chain }, { on := 26, ground := Ground.guard }], guard := some (26, true) }) rfl (fun K hK => ?_) AllReadyH.nil
  go_simp
  refine (same_no (ofR 1 1) (ofR 1 0) _ (fun h => by injection h; contradiction)).mono ?_
  rintro e w7 ⟨rfl, b7⟩
  have L13 := Lib.hid (L12.out.later b7)
  have hKeep := L13.out.b.nine
  clear b7
  simp only [recV, ofR]
  go_wp2_with fail
  refine hK.out _ _ ?_ (fun hHeld => ?_)
  · exact hKeep
  clear hK K
  try simp only [Act.put, List.setIfInBounds_toArray, List.set_cons_zero, List.set_cons_succ]
  first | (refine wpAnyH_take (i := 30) (oi := { dst := some 48, op := Op.unOp UnOp.not 4 (Operand.tmp 47), type := 4, pos := "law.go:20", after := #[{ on := 29, ground := Ground.data }, { on := 26, ground := Ground.guard }], guard := some (26, true) }) (v := ?_) rfl (by kernel_rfl) (by kernel_rfl) (by kernel_rfl) (fun _ _ _ h => h) (Or.inl ⟨by rfl, ?_⟩) (by assumption) ?_; rotate_left; (focus (intro w hSw; (try dsimp only at hSw); go_simp; all_goals (with_reducible rfl)))) | refine wpAnyH_take (i := 30) (oi := { dst := some 48, op := Op.unOp UnOp.not 4 (Operand.tmp 47), type := 4, pos := "law.go:20", after := #[{ on := 29, ground := Ground.data }, { on := 26, ground := Ground.guard }], guard := some (26, true) }) (v := undef) rfl (by kernel_rfl) (by kernel_rfl) (by kernel_rfl) (fun _ _ _ h => h) (Or.inr ⟨by rfl, rfl⟩) (by assumption) ?_
  try simp only [Act.put, List.setIfInBounds_toArray, List.set_cons_zero, List.set_cons_succ]
  refine wpAnyH_take (i := 31) (oi := { dst := some 49, op := Op.pick (Operand.tmp 44) (Operand.tmp 48) (Operand.const (Value.bool false)), type := 4, pos := "law.go:20", after := #[{ on := 26, ground := Ground.data }, { on := 30, ground := Ground.data }], guard := none }) (v := ?_) rfl (by kernel_rfl) (by kernel_rfl) (by kernel_rfl) (fun _ _ _ h => h) (Or.inl ⟨by rfl, ?_⟩) (by assumption) ?_; rotate_left; (focus (intro w hSw; (try dsimp only at hSw); go_simp; all_goals (with_reducible rfl)))
  try simp only [Act.put, List.setIfInBounds_toArray, List.set_cons_zero, List.set_cons_succ]
  refine wpAnyH_take (i := 32) (oi := { dst := some 0, op := Op.assign (Operand.tmp 49), type := 4, pos := "law.go:20", after := #[{ on := 31, ground := Ground.data }, { on := 29, ground := Ground.chain }, { on := 0, ground := Ground.phase }, { on := 1, ground := Ground.phase }, { on := 2, ground := Ground.phase }, { on := 3, ground := Ground.phase }, { on := 4, ground := Ground.phase }, { on := 5, ground := Ground.phase }, { on := 6, ground := Ground.phase }, { on := 7, ground := Ground.phase }, { on := 8, ground := Ground.phase }, { on := 9, ground := Ground.phase }, { on := 10, ground := Ground.phase }, { on := 11, ground := Ground.phase }, { on := 12, ground := Ground.phase }, { on := 13, ground := Ground.phase }, { on := 14, ground := Ground.phase }, { on := 15, ground := Ground.phase }, { on := 16, ground := Ground.phase }, { on := 17, ground := Ground.phase }, { on := 18, ground := Ground.phase }, { on := 19, ground := Ground.phase }, { on := 20, ground := Ground.phase }, { on := 21, ground := Ground.phase }, { on := 22, ground := Ground.phase }, { on := 23, ground := Ground.phase }, { on := 24, ground := Ground.phase }, { on := 25, ground := Ground.phase }, { on := 26, ground := Ground.phase }, { on := 27, ground := Ground.phase }, { on := 28, ground := Ground.phase }, { on := 29, ground := Ground.phase }, { on := 30, ground := Ground.phase }, { on := 31, ground := Ground.phase }], guard := none }) (v := ?_) rfl (by kernel_rfl) (by kernel_rfl) (by kernel_rfl) (fun _ _ _ h => h) (Or.inl ⟨by rfl, ?_⟩) (by assumption) ?_; rotate_left; (focus (intro w hSw; (try dsimp only at hSw); go_simp; all_goals (with_reducible rfl)))
  try simp only [Act.put, List.setIfInBounds_toArray, List.set_cons_zero, List.set_cons_succ]
  refine wpAnyH_done (by kernel_rfl) ?_ _
  clear hHeld hStart
  go_wp2_with fail
  go_ret
  exact ⟨rfl, L13.out.below⟩
end Go.Proofs.Ytngmcefbljkgaaa.Rk
