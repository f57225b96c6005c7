/- The newest of records: the document's. -/
import Derived.Test.YtngmcefbljkgaaaRkBest
namespace Go.Proofs.Ytngmcefbljkgaaa.Rk
open Go.RowKit
open Cd (Rec Fit may putB recB zeroR recV recL Blk st9 below_new9)
open Sa (drewN_below)

theorem first_some {xs : List Rec} {t : Rec} (h : firstTop xs xs = some t) : bestR xs = kept t ∧ isR xs = true := by
  rw [best_is] at h
  cases xs with
  | nil => cases h
  | cons x r => injection h with h; subst h; exact ⟨rfl, rfl⟩
theorem first_none {xs : List Rec} (h : firstTop xs xs = none) : bestR xs = zeroR ∧ isR xs = false := by
  rw [best_is] at h
  cases xs with
  | nil => exact ⟨rfl, rfl⟩
  | cons x r => cases h
theorem first_drop (all : List Rec) {xs : List Rec} {x : Rec} {i : Nat} (h : xs[i]? = some x) : firstTop all (xs.drop i) = if all.all (fun y => !newer y x) then some x else firstTop all (xs.drop (i + 1)) := by
  obtain ⟨hi, he⟩ := List.getElem?_eq_some_iff.1 h
  rw [List.drop_eq_getElem_cons hi, he]
  rfl
theorem all_take {xs : List Rec} {y : Rec} {k : Nat} (p : Rec → Bool) (h : xs[k]? = some y) : (xs.take (k + 1)).all p = ((xs.take k).all p && p y) := by
  obtain ⟨hk, he⟩ := List.getElem?_eq_some_iff.1 h
  rw [List.take_succ_eq_append_getElem hk, List.all_append, he]
  simp

/-- what stands in a round: the result's cell -/
structure Zs (w W : World) : Prop where
  z : Blk W w.heap.size (recL zeroR)
  below : Below w.heap.size w W
theorem Zs.later {w W W' : World} (h : Zs w W) (hb : Below W.heap.size W W') : Zs w W' :=
  ⟨h.z.later hb, h.below.trans (hb.mono h.below.size)⟩
theorem Zs.start (w : World) (ty : TypeId) : Zs w (w.alloc (.cells ⟨recL zeroR⟩ ty)) := ⟨Blk.start w ty _, (Below.refl _ w).alloc (Nat.le_refl _) _⟩

set_option maxHeartbeats 6400000 in
set_option maxRecDepth 100000 in
theorem rbest_any (a : Option Addr) (len cap : Nat) (xs : List Rec) (w : World) (hr : Recs a len xs w) (hl : len ≤ 1000) (hok : ∀ x ∈ xs, Ok x) :
    Calls Try.prog 10 #[.slice a len cap] w fun e w' => e = .returned (.tuple #[recV (bestR xs), .bool (isR xs)]) ∧ Below w.heap.size w w' := by
  have HR := Lib.hid hr
  have HOK := Lib.hid hok
  have HLEN := Lib.hid hr.len_is
  have S0 := Lib.hid (Zs.start w 23)
  have HSOME := Lib.hid (fun t => first_some (xs := xs) (t := t))
  have HNONE := Lib.hid (first_none (xs := xs))
  clear hr hok
  go_enter Try.func10, Try.ntmps10
  go_wp2_with fail
  go_loopw [4] (fun iv wr => ∃ i : Nat, i ≤ len ∧ iv = .int .i64 i ∧ Hid (firstTop xs xs = firstTop xs (xs.drop i)) ∧ Hid (Zs w wr)) (fun iv _ => len - (intOf iv).toNat)
  case atStart => exact ⟨0, Nat.zero_le _, rfl, rfl, S0.out⟩
  case round =>
    obtain ⟨i, hi, rfl, HF, HZ⟩ := hrel
    by_cases hilt : i < len
    · obtain ⟨x, hx⟩ : ∃ x, xs[i]? = some x := ⟨_, List.getElem?_eq_getElem (by have := HLEN.out; omega)⟩
      obtain ⟨b, off, rfl, hb, hcell⟩ := HR.out.at_ (by omega)
      have HC := Lib.hid hcell
      have HX := Lib.hid hx
      have HOX := Lib.hid (HOK.out x (List.mem_of_getElem? hx))
      clear hcell hx
      go_wp2_with fail
      go_loopw [5, 6] (fun nv kv wi => ∃ k : Nat, k ≤ len ∧ nv = .bool ((xs.take k).all fun y => !newer y x) ∧ kv = .int .i64 k ∧ Hid (Zs w wi)) (fun _ kv _ => len - (intOf kv).toNat)
      case atStart => exact ⟨0, Nat.zero_le _, rfl, rfl, HZ.out⟩
      case round =>
        obtain ⟨k, hk, rfl, rfl, HZ1⟩ := hrel
        by_cases hklt : k < len
        · obtain ⟨y, hy⟩ : ∃ y, xs[k]? = some y := ⟨_, List.getElem?_eq_getElem (by have := HLEN.out; omega)⟩
          have hall := all_take (fun y => !newer y x) hy
          generalize hnn : ((xs.take k).all fun y => !newer y x) = nn at *
          cases nn
          · have HA : Hid (((xs.take (k + 1)).all fun y => !newer y x) = false) := hall
            clear hall hnn
            go_wp2_with fail
            go_quiet (fail)
            go_wp2_with fail
            go_roundw
            case rel => exact ⟨k + 1, by omega, by rw [HA.out], by go_num, by first | exact HZ1.out | exact HZ1.out.later (drewN_below (Below.refl _ _) _)⟩
            case measure => simp [intOf]; omega
          · have NW := fun w => rnewer_any y x w (HOK.out y (List.mem_of_getElem? hy)) HOX.out
            generalize hnw : newer y x = nw at *
            have HA : Hid (((xs.take (k + 1)).all fun y => !newer y x) = !nw) := by rw [Bool.true_and] at hall; exact hall
            have cy := (HC.out k y hy).later hb HZ1.out.below
            have cx := (HC.out i x HX.out).later hb HZ1.out.below
            have hbw := Nat.lt_of_lt_of_le hb HZ1.out.below.size
            have HBW := Lib.hid hbw
            clear hall hnn hnw hy
            obtain ⟨y0, y1, y2, y3, y4, y5, y6, y7, y8⟩ := y
            obtain ⟨x0, x1, x2, x3, x4, x5, x6, x7, x8⟩ := x
            have CY := Lib.hid (cy.later hbw (Below.refl _ _).drew)
            have CX := Lib.hid (cx.later hbw (Below.refl _ _).drew)
            have HZ2 := Lib.hid (HZ1.out.later (Below.refl _ _).drew)
            have HBD : Hid (b < (World.drew wr).heap.size) := hbw
            have hStart := And.intro CY.out CX.out
            simp only [At9] at hStart
            have NW : Hid (∀ w, Calls Try.prog 12 #[.agg #[.int .i64 y0, .int .i64 y1, .int .i64 y2, .int .i64 y3, .string y4, .string y5, .int .i64 y6, .int .i64 y7, .bool y8], .agg #[.int .i64 x0, .int .i64 x1, .int .i64 x2, .int .i64 x3, .string x4, .string x5, .int .i64 x6, .int .i64 x7, .bool x8]] w fun e w' => e = .returned (.bool nw) ∧ Below w.heap.size w w') := Lib.hid NW
            clear cy cx
            go_wp2_with fail
            refine wp_region_held_drew (S := fun w' => (w'.cell? ⟨b, off + k * 9, none⟩ = some (.int .i64 y0) ∧ w'.cell? ⟨b, off + k * 9 + 1, none⟩ = some (.int .i64 y1) ∧ w'.cell? ⟨b, off + k * 9 + 2, none⟩ = some (.int .i64 y2) ∧ w'.cell? ⟨b, off + k * 9 + 3, none⟩ = some (.int .i64 y3) ∧ w'.cell? ⟨b, off + k * 9 + 4, none⟩ = some (.string y4) ∧ w'.cell? ⟨b, off + k * 9 + 5, none⟩ = some (.string y5) ∧ w'.cell? ⟨b, off + k * 9 + 6, none⟩ = some (.int .i64 y6) ∧ w'.cell? ⟨b, off + k * 9 + 7, none⟩ = some (.int .i64 y7) ∧ w'.cell? ⟨b, off + k * 9 + 8, none⟩ = some (.bool y8)) ∧ (w'.cell? ⟨b, off + i * 9, none⟩ = some (.int .i64 x0) ∧ w'.cell? ⟨b, off + i * 9 + 1, none⟩ = some (.int .i64 x1) ∧ w'.cell? ⟨b, off + i * 9 + 2, none⟩ = some (.int .i64 x2) ∧ w'.cell? ⟨b, off + i * 9 + 3, none⟩ = some (.int .i64 x3) ∧ w'.cell? ⟨b, off + i * 9 + 4, none⟩ = some (.string x4) ∧ w'.cell? ⟨b, off + i * 9 + 5, none⟩ = some (.string x5) ∧ w'.cell? ⟨b, off + i * 9 + 6, none⟩ = some (.int .i64 x6) ∧ w'.cell? ⟨b, off + i * 9 + 7, none⟩ = some (.int .i64 x7) ∧ w'.cell? ⟨b, off + i * 9 + 8, none⟩ = some (.bool x8))) (by kernel_rfl) (hStart) (fun hHeld => ?_)
            refine wpAnyH_take (i := 0) (oi := { dst := some 19, op := Op.move (Operand.tmp 5), type := 4, pos := "ref.go:38", after := #[], guard := none }) (v := ?_) rfl (by kernel_rfl) (by kernel_rfl) (by kernel_rfl) (fun _ _ _ h => h) (Or.inl ⟨by rfl, ?_⟩) (by assumption) ?_; rotate_left; (focus (intro w hSw; (try dsimp only at hSw); go_simp; all_goals (with_reducible rfl)))
            try simp only [Act.put, List.setIfInBounds_toArray, List.set_cons_zero, List.set_cons_succ]
            refine wpAnyH_take (i := 1) (oi := { dst := some 20, op := Op.move (Operand.tmp 19), type := 4, pos := "ref.go:38", after := #[{ on := 0, ground := Ground.data }], guard := none }) (v := ?_) rfl (by kernel_rfl) (by kernel_rfl) (by kernel_rfl) (fun _ _ _ h => h) (Or.inl ⟨by rfl, ?_⟩) (by assumption) ?_; rotate_left; (focus (intro w hSw; (try dsimp only at hSw); go_simp; all_goals (with_reducible rfl)))
            try simp only [Act.put, List.setIfInBounds_toArray, List.set_cons_zero, List.set_cons_succ]
            first | (refine wpAnyH_take (i := 2) (oi := { dst := some 21, op := Op.move (Operand.tmp 0), type := 24, pos := "ref.go:38", after := #[{ on := 1, ground := Ground.guard }], guard := some (1, true) }) (v := ?_) rfl (by kernel_rfl) (by kernel_rfl) (by kernel_rfl) (fun _ _ _ h => h) (Or.inl ⟨by rfl, ?_⟩) (by assumption) ?_; rotate_left; (focus (intro w hSw; (try dsimp only at hSw); go_simp; all_goals (with_reducible rfl)))) | refine wpAnyH_take (i := 2) (oi := { dst := some 21, op := Op.move (Operand.tmp 0), type := 24, pos := "ref.go:38", after := #[{ on := 1, ground := Ground.guard }], guard := some (1, true) }) (v := undef) rfl (by kernel_rfl) (by kernel_rfl) (by kernel_rfl) (fun _ _ _ h => h) (Or.inr ⟨by rfl, rfl⟩) (by assumption) ?_
            try simp only [Act.put, List.setIfInBounds_toArray, List.set_cons_zero, List.set_cons_succ]
            first | (refine wpAnyH_take (i := 3) (oi := { dst := some 22, op := Op.move (Operand.tmp 6), type := 3, pos := "ref.go:38", after := #[{ on := 1, ground := Ground.guard }], guard := some (1, true) }) (v := ?_) rfl (by kernel_rfl) (by kernel_rfl) (by kernel_rfl) (fun _ _ _ h => h) (Or.inl ⟨by rfl, ?_⟩) (by assumption) ?_; rotate_left; (focus (intro w hSw; (try dsimp only at hSw); go_simp; all_goals (with_reducible rfl)))) | refine wpAnyH_take (i := 3) (oi := { dst := some 22, op := Op.move (Operand.tmp 6), type := 3, pos := "ref.go:38", after := #[{ on := 1, ground := Ground.guard }], guard := some (1, true) }) (v := undef) rfl (by kernel_rfl) (by kernel_rfl) (by kernel_rfl) (fun _ _ _ h => h) (Or.inr ⟨by rfl, rfl⟩) (by assumption) ?_
            try simp only [Act.put, List.setIfInBounds_toArray, List.set_cons_zero, List.set_cons_succ]
            first | (refine wpAnyH_take (i := 4) (oi := { dst := some 23, op := Op.indexAddr 24 (Operand.tmp 21) (Operand.tmp 22), type := 0, pos := "ref.go:38", after := #[{ on := 2, ground := Ground.data }, { on := 3, ground := Ground.data }, { on := 1, ground := Ground.guard }], guard := some (1, true) }) (v := ?_) rfl (by kernel_rfl) (by kernel_rfl) (by kernel_rfl) (fun _ _ _ h => h) (Or.inl ⟨by rfl, ?_⟩) (by assumption) ?_; rotate_left; (focus (intro w hSw; (try dsimp only at hSw); go_simp; all_goals (with_reducible rfl)))) | refine wpAnyH_take (i := 4) (oi := { dst := some 23, op := Op.indexAddr 24 (Operand.tmp 21) (Operand.tmp 22), type := 0, pos := "ref.go:38", after := #[{ on := 2, ground := Ground.data }, { on := 3, ground := Ground.data }, { on := 1, ground := Ground.guard }], guard := some (1, true) }) (v := undef) rfl (by kernel_rfl) (by kernel_rfl) (by kernel_rfl) (fun _ _ _ h => h) (Or.inr ⟨by rfl, rfl⟩) (by assumption) ?_
            try simp only [Act.put, List.setIfInBounds_toArray, List.set_cons_zero, List.set_cons_succ]
            first | (refine wpAnyH_take (i := 5) (oi := { dst := some 24, op := Op.load 23 (Operand.tmp 23), type := 23, pos := "ref.go:38", after := #[{ on := 4, ground := Ground.data }, { on := 1, ground := Ground.guard }], guard := some (1, true) }) (v := ?_) rfl (by kernel_rfl) (by kernel_rfl) (by kernel_rfl) (fun _ _ _ h => h) (Or.inl ⟨by rfl, ?_⟩) (by assumption) ?_; rotate_left; (focus (intro w hSw; (try dsimp only at hSw); go_simp; all_goals (with_reducible rfl)))) | refine wpAnyH_take (i := 5) (oi := { dst := some 24, op := Op.load 23 (Operand.tmp 23), type := 23, pos := "ref.go:38", after := #[{ on := 4, ground := Ground.data }, { on := 1, ground := Ground.guard }], guard := some (1, true) }) (v := undef) rfl (by kernel_rfl) (by kernel_rfl) (by kernel_rfl) (fun _ _ _ h => h) (Or.inr ⟨by rfl, rfl⟩) (by assumption) ?_
            try simp only [Act.put, List.setIfInBounds_toArray, List.set_cons_zero, List.set_cons_succ]
            first | (refine wpAnyH_take (i := 6) (oi := { dst := some 25, op := Op.move (Operand.tmp 0), type := 24, pos := "ref.go:38", after := #[{ on := 1, ground := Ground.guard }], guard := some (1, true) }) (v := ?_) rfl (by kernel_rfl) (by kernel_rfl) (by kernel_rfl) (fun _ _ _ h => h) (Or.inl ⟨by rfl, ?_⟩) (by assumption) ?_; rotate_left; (focus (intro w hSw; (try dsimp only at hSw); go_simp; all_goals (with_reducible rfl)))) | refine wpAnyH_take (i := 6) (oi := { dst := some 25, op := Op.move (Operand.tmp 0), type := 24, pos := "ref.go:38", after := #[{ on := 1, ground := Ground.guard }], guard := some (1, true) }) (v := undef) rfl (by kernel_rfl) (by kernel_rfl) (by kernel_rfl) (fun _ _ _ h => h) (Or.inr ⟨by rfl, rfl⟩) (by assumption) ?_
            try simp only [Act.put, List.setIfInBounds_toArray, List.set_cons_zero, List.set_cons_succ]
            first | (refine wpAnyH_take (i := 7) (oi := { dst := some 26, op := Op.move (Operand.tmp 4), type := 3, pos := "ref.go:38", after := #[{ on := 1, ground := Ground.guard }], guard := some (1, true) }) (v := ?_) rfl (by kernel_rfl) (by kernel_rfl) (by kernel_rfl) (fun _ _ _ h => h) (Or.inl ⟨by rfl, ?_⟩) (by assumption) ?_; rotate_left; (focus (intro w hSw; (try dsimp only at hSw); go_simp; all_goals (with_reducible rfl)))) | refine wpAnyH_take (i := 7) (oi := { dst := some 26, op := Op.move (Operand.tmp 4), type := 3, pos := "ref.go:38", after := #[{ on := 1, ground := Ground.guard }], guard := some (1, true) }) (v := undef) rfl (by kernel_rfl) (by kernel_rfl) (by kernel_rfl) (fun _ _ _ h => h) (Or.inr ⟨by rfl, rfl⟩) (by assumption) ?_
            try simp only [Act.put, List.setIfInBounds_toArray, List.set_cons_zero, List.set_cons_succ]
            first | (refine wpAnyH_take (i := 8) (oi := { dst := some 27, op := Op.indexAddr 24 (Operand.tmp 25) (Operand.tmp 26), type := 0, pos := "ref.go:38", after := #[{ on := 6, ground := Ground.data }, { on := 7, ground := Ground.data }, { on := 1, ground := Ground.guard }], guard := some (1, true) }) (v := ?_) rfl (by kernel_rfl) (by kernel_rfl) (by kernel_rfl) (fun _ _ _ h => h) (Or.inl ⟨by rfl, ?_⟩) (by assumption) ?_; rotate_left; (focus (intro w hSw; (try dsimp only at hSw); go_simp; all_goals (with_reducible rfl)))) | refine wpAnyH_take (i := 8) (oi := { dst := some 27, op := Op.indexAddr 24 (Operand.tmp 25) (Operand.tmp 26), type := 0, pos := "ref.go:38", after := #[{ on := 6, ground := Ground.data }, { on := 7, ground := Ground.data }, { on := 1, ground := Ground.guard }], guard := some (1, true) }) (v := undef) rfl (by kernel_rfl) (by kernel_rfl) (by kernel_rfl) (fun _ _ _ h => h) (Or.inr ⟨by rfl, rfl⟩) (by assumption) ?_
            try simp only [Act.put, List.setIfInBounds_toArray, List.set_cons_zero, List.set_cons_succ]
            first | (refine wpAnyH_take (i := 9) (oi := { dst := some 28, op := Op.load 23 (Operand.tmp 27), type := 23, pos := "ref.go:38", after := #[{ on := 8, ground := Ground.data }, { on := 1, ground := Ground.guard }], guard := some (1, true) }) (v := ?_) rfl (by kernel_rfl) (by kernel_rfl) (by kernel_rfl) (fun _ _ _ h => h) (Or.inl ⟨by rfl, ?_⟩) (by assumption) ?_; rotate_left; (focus (intro w hSw; (try dsimp only at hSw); go_simp; all_goals (with_reducible rfl)))) | refine wpAnyH_take (i := 9) (oi := { dst := some 28, op := Op.load 23 (Operand.tmp 27), type := 23, pos := "ref.go:38", after := #[{ on := 8, ground := Ground.data }, { on := 1, ground := Ground.guard }], guard := some (1, true) }) (v := undef) rfl (by kernel_rfl) (by kernel_rfl) (by kernel_rfl) (fun _ _ _ h => h) (Or.inr ⟨by rfl, rfl⟩) (by assumption) ?_
            try simp only [Act.put, List.setIfInBounds_toArray, List.set_cons_zero, List.set_cons_succ]
            refine wpAnyH_ready (rs := [10]) (by kernel_rfl) (by simp) ?_
            refine AllReadyH.cons (o := { dst := some 29, op := Op.call { callee := Callee.value (Operand.func 12), args := #[Operand.tmp 24, Operand.tmp 28], argTypes := #[23, 23] }, type := 4, pos := "ref.go:38", after := #[{ on := 5, ground := Ground.data }, { on := 9, ground := Ground.data }, { on := 1, ground := Ground.chain }, { on := 1, ground := Ground.guard }], guard := some (1, true) }) rfl (fun K hK => ?_) AllReadyH.nil
            go_simp
            refine (NW.out _).mono ?_
            rintro e w3 ⟨rfl, b3⟩
            have HZ3 := Lib.hid (HZ2.out.later b3)
            have hKeep := (show At9 _ b (off + k * 9) ⟨y0, y1, y2, y3, y4, y5, y6, y7, y8⟩ ∧ At9 _ b (off + i * 9) ⟨x0, x1, x2, x3, x4, x5, x6, x7, x8⟩ from ⟨CY.out.later HBD.out b3, CX.out.later HBD.out b3⟩)
            simp only [At9] at hKeep
            clear b3
            go_wp2_with fail
            refine hK.out _ _ ?_ (fun hHeld => ?_)
            · exact hKeep
            clear hK K
            try simp only [Act.put, List.setIfInBounds_toArray, List.set_cons_zero, List.set_cons_succ]
            first | (refine wpAnyH_take (i := 11) (oi := { dst := some 30, op := Op.unOp UnOp.not 4 (Operand.tmp 29), type := 4, pos := "ref.go:38", after := #[{ on := 10, ground := Ground.data }, { on := 1, ground := Ground.guard }], guard := some (1, true) }) (v := ?_) rfl (by kernel_rfl) (by kernel_rfl) (by kernel_rfl) (fun _ _ _ h => h) (Or.inl ⟨by rfl, ?_⟩) (by assumption) ?_; rotate_left; (focus (intro w hSw; (try dsimp only at hSw); go_simp; all_goals (with_reducible rfl)))) | refine wpAnyH_take (i := 11) (oi := { dst := some 30, op := Op.unOp UnOp.not 4 (Operand.tmp 29), type := 4, pos := "ref.go:38", after := #[{ on := 10, ground := Ground.data }, { on := 1, ground := Ground.guard }], guard := some (1, true) }) (v := undef) rfl (by kernel_rfl) (by kernel_rfl) (by kernel_rfl) (fun _ _ _ h => h) (Or.inr ⟨by rfl, rfl⟩) (by assumption) ?_
            try simp only [Act.put, List.setIfInBounds_toArray, List.set_cons_zero, List.set_cons_succ]
            refine wpAnyH_take (i := 12) (oi := { dst := some 31, op := Op.pick (Operand.tmp 20) (Operand.tmp 30) (Operand.const (Value.bool false)), type := 4, pos := "ref.go:38", after := #[{ on := 1, ground := Ground.data }, { on := 11, ground := Ground.data }], guard := none }) (v := ?_) rfl (by kernel_rfl) (by kernel_rfl) (by kernel_rfl) (fun _ _ _ h => h) (Or.inl ⟨by rfl, ?_⟩) (by assumption) ?_; rotate_left; (focus (intro w hSw; (try dsimp only at hSw); go_simp; all_goals (with_reducible rfl)))
            try simp only [Act.put, List.setIfInBounds_toArray, List.set_cons_zero, List.set_cons_succ]
            refine wpAnyH_take (i := 13) (oi := { dst := some 5, op := Op.assign (Operand.tmp 31), type := 4, pos := "ref.go:38", after := #[{ on := 12, ground := Ground.data }, { on := 10, ground := Ground.chain }, { on := 0, ground := Ground.phase }, { on := 1, ground := Ground.phase }, { on := 2, ground := Ground.phase }, { on := 3, ground := Ground.phase }, { on := 4, ground := Ground.phase }, { on := 5, ground := Ground.phase }, { on := 6, ground := Ground.phase }, { on := 7, ground := Ground.phase }, { on := 8, ground := Ground.phase }, { on := 9, ground := Ground.phase }, { on := 10, ground := Ground.phase }, { on := 11, ground := Ground.phase }, { on := 12, ground := Ground.phase }], guard := none }) (v := ?_) rfl (by kernel_rfl) (by kernel_rfl) (by kernel_rfl) (fun _ _ _ h => h) (Or.inl ⟨by rfl, ?_⟩) (by assumption) ?_; rotate_left; (focus (intro w hSw; (try dsimp only at hSw); go_simp; all_goals (with_reducible rfl)))
            try simp only [Act.put, List.setIfInBounds_toArray, List.set_cons_zero, List.set_cons_succ]
            refine wpAnyH_done (by kernel_rfl) ?_ _
            cases nw
            · go_wp2_with fail
              go_roundw
              case rel => exact ⟨k + 1, by omega, by rw [HA.out], by go_num, HZ3.out⟩
              case measure => simp [intOf]; omega
            · go_wp2_with fail
              go_roundw
              case rel => exact ⟨k + 1, by omega, by rw [HA.out], by go_num, HZ3.out⟩
              case measure => simp [intOf]; omega
        · have hkn : k = len := by omega
          subst hkn
          have htk : xs.take k = xs := List.take_of_length_le (by have := HLEN.out; omega)
          have HD := Lib.hid (first_drop xs HX.out)
          rw [htk]
          clear htk
          generalize hnn : (xs.all fun y => !newer y x) = nn at *
          cases nn
          · have HF2 : Hid (firstTop xs xs = firstTop xs (xs.drop (i + 1))) := by
              show _ = _
              rw [HF.out, HD.out]
              exact if_neg (by simp)
            clear hnn
            go_wp2_with fail
            go_roundw
            case rel => exact ⟨i + 1, by omega, by go_num, HF2, HZ1.out⟩
            case measure => simp [intOf]; omega
          · have HF2 : Hid (firstTop xs xs = some x) := by
              show _ = _
              rw [HF.out, HD.out]
              exact if_pos rfl
            obtain ⟨h1, h2⟩ := HSOME.out x HF2.out
            have HB1 := Lib.hid h1
            have HB2 := Lib.hid h2
            have cx := (HC.out i x HX.out).later hb HZ1.out.below
            have hbw := Nat.lt_of_lt_of_le hb HZ1.out.below.size
            have KC := fun w => rkept_c x w
            have HKU : Hid (∀ u, kept x = u → recV (bestR xs) = recV u) := fun u h => by rw [h1, h]
            generalize kept x = u at *
            clear hnn h1 h2 HB1
            obtain ⟨x0, x1, x2, x3, x4, x5, x6, x7, x8⟩ := x
            obtain ⟨u0, u1, u2, u3, u4, u5, u6, u7, u8⟩ := u
            have KC : Hid (∀ w, Calls Try.prog 17 #[.agg #[.int .i64 x0, .int .i64 x1, .int .i64 x2, .int .i64 x3, .string x4, .string x5, .int .i64 x6, .int .i64 x7, .bool x8]] w fun e w' => e = .returned (.agg #[.int .i64 u0, .int .i64 u1, .int .i64 u2, .int .i64 u3, .string u4, .string u5, .int .i64 u6, .int .i64 u7, .bool u8]) ∧ Below w.heap.size w w') := Lib.hid KC
            obtain ⟨c0, c1, c2, c3, c4, c5, c6, c7, c8⟩ := cx
            simp only at c0 c1 c2 c3 c4 c5 c6 c7 c8
            go_wp2_with fail
            refine (KC.out _).mono ?_
            rintro e w2 ⟨rfl, b2⟩
            have HZ2 := Lib.hid (HZ1.out.later b2)
            clear b2 c0 c1 c2 c3 c4 c5 c6 c7 c8
            obtain ⟨d0, d1, d2, d3, d4, d5, d6, d7, d8⟩ := HZ2.out.z.nine
            obtain ⟨f0, f1, f2, f3, f4, f5, f6, f7, f8⟩ := HZ2.out.z.nineF
            have T := HZ2.out.z.setNine (.int .i64 u0) (.int .i64 u1) (.int .i64 u2) (.int .i64 u3) (.string u4) (.string u5) (.int .i64 u6) (.int .i64 u7) (.bool u8)
            obtain ⟨c0, c1, c2, c3, c4, c5, c6, c7, c8⟩ := T.nine
            have G : Hid (Below w.heap.size w (st9 w2 w.heap.size (.int .i64 u0) (.int .i64 u1) (.int .i64 u2) (.int .i64 u3) (.string u4) (.string u5) (.int .i64 u6) (.int .i64 u7) (.bool u8))) := below_new9 HZ2.out.below (Nat.le_refl _) (.int .i64 u0) (.int .i64 u1) (.int .i64 u2) (.int .i64 u3) (.string u4) (.string u5) (.int .i64 u6) (.int .i64 u7) (.bool u8)
            unfold st9 at c0 c1 c2 c3 c4 c5 c6 c7 c8
            clear T
            go_wp2_with fail
            refine bodyPost_ret (v := .tuple #[.agg #[.int .i64 u0, .int .i64 u1, .int .i64 u2, .int .i64 u3, .string u4, .string u5, .int .i64 u6, .int .i64 u7, .bool u8], .bool true]) ?_ rfl ⟨by rw [HB2.out, HKU.out _ rfl]; rfl, G.out⟩
            simp [results, Try.results10, go_sem, c0, c1, c2, c3, c4, c5, c6, c7, c8]
    · have HF0 : Hid (firstTop xs xs = none) := by
        show _ = _
        rw [HF.out, List.drop_eq_nil_of_le (by have := HLEN.out; omega)]; rfl
      obtain ⟨h1, h2⟩ := HNONE.out HF0.out
      have H1 := Lib.hid h1
      have H2 := Lib.hid h2
      have z : zeroR = ⟨0, 0, 0, 0, ⟨#[]⟩, ⟨#[]⟩, 0, 0, false⟩ := rfl
      have HZ' : Hid (Blk wr w.heap.size (recL zeroR)) := HZ.out.z
      obtain ⟨d0, d1, d2, d3, d4, d5, d6, d7, d8⟩ := HZ.out.z.nine
      obtain ⟨f0, f1, f2, f3, f4, f5, f6, f7, f8⟩ := HZ.out.z.nineF
      have T := HZ.out.z.setNine (.int .i64 0) (.int .i64 0) (.int .i64 0) (.int .i64 0) (.string ⟨#[]⟩) (.string ⟨#[]⟩) (.int .i64 0) (.int .i64 0) (.bool false)
      obtain ⟨c0, c1, c2, c3, c4, c5, c6, c7, c8⟩ := T.nine
      have G : Hid (Below w.heap.size w (st9 wr w.heap.size (.int .i64 0) (.int .i64 0) (.int .i64 0) (.int .i64 0) (.string ⟨#[]⟩) (.string ⟨#[]⟩) (.int .i64 0) (.int .i64 0) (.bool false))) := below_new9 HZ.out.below (Nat.le_refl _) (.int .i64 0) (.int .i64 0) (.int .i64 0) (.int .i64 0) (.string ⟨#[]⟩) (.string ⟨#[]⟩) (.int .i64 0) (.int .i64 0) (.bool false)
      unfold st9 at c0 c1 c2 c3 c4 c5 c6 c7 c8
      clear T h1 h2
      go_wp2_with fail
      refine bodyPost_ret (v := .tuple #[.agg #[.int .i64 0, .int .i64 0, .int .i64 0, .int .i64 0, .string ⟨#[]⟩, .string ⟨#[]⟩, .int .i64 0, .int .i64 0, .bool false], .bool false]) ?_ rfl ⟨by rw [H1.out, H2.out]; rfl, G.out⟩
      simp [results, Try.results10, go_sem, c0, c1, c2, c3, c4, c5, c6, c7, c8]
end Go.Proofs.Ytngmcefbljkgaaa.Rk
