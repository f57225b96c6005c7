/- The walk of the first law of layer 9: any record's bytes, and the record of any bytes. -/
import Derived.Test.YtlcalemjhahdpaaCdAwake
import Derived.Test.YtlcalemjhahdpaaCdRTake
set_option linter.unusedSimpArgs false
namespace Go.Proofs.Ytlcalemjhahdpaa.Cd
open Go.RowKit
open Pk (But)

/-- numbers of 64 bits -/
structure W64 (x : Rec) : Prop where
  tr0 : -9223372036854775808 ≤ x.tr
  tr1 : x.tr ≤ 9223372036854775807
  id0 : -9223372036854775808 ≤ x.id
  id1 : x.id ≤ 9223372036854775807
  pa0 : -9223372036854775808 ≤ x.pa
  pa1 : x.pa ≤ 9223372036854775807
  rv0 : -9223372036854775808 ≤ x.rv
  rv1 : x.rv ≤ 9223372036854775807
  st0 : -9223372036854775808 ≤ x.st
  st1 : x.st ≤ 9223372036854775807
  du0 : -9223372036854775808 ≤ x.du
  du1 : x.du ≤ 9223372036854775807
theorem W64.fit {x : Rec} (h : W64 x) (h4 : x.sv.size ≤ 100) (h5 : x.op.size ≤ 100) : Fit x := ⟨h.tr1, h.id1, h.pa1, h.rv1, by omega, by omega, h.st0, h.st1, h.du0, h.du1⟩

set_option maxHeartbeats 12800000 in
set_option maxRecDepth 100000 in
theorem is_any (x : Rec) (s : ByteArray) (w : World) (hx : W64 x) :
    Calls Try.prog 3 #[recV x, .string s] w fun e w' => e = .returned (.bool true) ∧ Below w.heap.size w w' := by
  have K0 := Lib.hid (Blk.start w 23 (recL x))
  have B0 := Lib.hid ((Below.refl _ w).alloc (Nat.le_refl _) (.cells ⟨recL x⟩ 23))
  have HX := Lib.hid hx
  have CS := Lib.hid (fun w => short_any x w)
  obtain ⟨tr, id, pa, rv, sv, op, st, du, gn⟩ := x
  clear hx
  have CS : Hid (∀ w, Calls Try.prog 6 #[.agg #[.int .i64 tr, .int .i64 id, .int .i64 pa, .int .i64 rv, .string sv, .string op, .int .i64 st, .int .i64 du, .bool gn]] w fun e w' => e = .returned (.bool (decide (sv.size ≤ 100) && decide (op.size ≤ 100))) ∧ Below w.heap.size w w') := CS.out
  by_cases hsh : (decide (sv.size ≤ 100) && decide (op.size ≤ 100)) = false
  · rw [hsh] at CS
    clear hsh
    unfold recV
    go_enter Try.func3, Try.ntmps3
    go_wp2_with fail
    refine (CS.out _).mono ?_
    rintro e w1 ⟨rfl, b1⟩
    have B1 := Lib.hid (B0.out.trans (b1.mono B0.out.size))
    clear b1
    go_wp2_with fail
    refine (awake_any w1).mono ?_
    rintro e w2 ⟨rfl, b2⟩
    have B2 := Lib.hid (B1.out.trans (b2.mono B1.out.size))
    clear b2
    go_wp2_with fail
    go_ret
    exact ⟨rfl, B2.out⟩
  have hsh : (decide (sv.size ≤ 100) && decide (op.size ≤ 100)) = true := by simpa using hsh
  rw [hsh] at CS
  by_cases hs : s.size > 200
  · have hs' : ((s.size : Int) > 200) := by omega
    clear hsh hs
    unfold recV
    go_enter Try.func3, Try.ntmps3
    go_wp2_with fail
    refine (CS.out _).mono ?_
    rintro e w1 ⟨rfl, b1⟩
    have B1 := Lib.hid (B0.out.trans (b1.mono B0.out.size))
    clear b1
    go_wp2_with fail
    refine (awake_any w1).mono ?_
    rintro e w2 ⟨rfl, b2⟩
    have B2 := Lib.hid (B1.out.trans (b2.mono B1.out.size))
    clear b2
    go_wp2_with fail
    go_ret
    exact ⟨rfl, B2.out⟩
  have hs' : ¬ ((s.size : Int) > 200) := by omega
  have HF : Hid (Fit ⟨tr, id, pa, rv, sv, op, st, du, gn⟩) := by
    simp at hsh
    exact HX.out.fit hsh.1 hsh.2
  have P1 := fun w => put_any ⟨tr, id, pa, rv, sv, op, st, du, gn⟩ w HF.out
  have P2 := fun w => rput_any ⟨tr, id, pa, rv, sv, op, st, du, gn⟩ w HF.out ⟨HX.out.tr0, HX.out.id0, HX.out.pa0, HX.out.rv0⟩
  have M1 := fun w => may_any ⟨tr, id, pa, rv, sv, op, st, du, gn⟩ w
  have M2 := fun w => rmay_any ⟨tr, id, pa, rv, sv, op, st, du, gn⟩ w HF.out.sv HF.out.op
  have T1 := fun w => take_any s w (by omega)
  have T2 := fun w => rtake_any s w (by omega)
  generalize putB ⟨tr, id, pa, rv, sv, op, st, du, gn⟩ = P at P1 P2
  generalize may ⟨tr, id, pa, rv, sv, op, st, du, gn⟩ = m at P1 P2 M1 M2
  generalize takeRec s = t at T1 T2
  obtain ⟨⟨y0, y1, y2, y3, y4, y5, y6, y7, y8⟩, te⟩ := t
  simp only [recV] at P1 P2 M1 M2 T1 T2
  have P1 := Lib.hid P1
  have P2 := Lib.hid P2
  have M1 := Lib.hid M1
  have M2 := Lib.hid M2
  have T1 := Lib.hid T1
  have T2 := Lib.hid T2
  clear hsh hs HX HF
  unfold recV
  go_enter Try.func3, Try.ntmps3
  go_wp2_with fail
  refine (CS.out _).mono ?_
  rintro e w1 ⟨rfl, b1⟩
  have B1 := Lib.hid (B0.out.trans (b1.mono B0.out.size))
  have K1 := Lib.hid (K0.out.later b1)
  unfold recL at K1
  obtain ⟨c0, c1, c2, c3, c4, c5, c6, c7, c8⟩ := K1.out.nine
  clear b1
  go_wp2_with fail
  refine (P1.out _).mono ?_
  rintro e w2 ⟨rfl, b2⟩
  have B2 := Lib.hid (B1.out.trans (b2.mono B1.out.size))
  have K2 := Lib.hid (K1.out.later b2)
  clear b2 c0 c1 c2 c3 c4 c5 c6 c7 c8
  obtain ⟨c0, c1, c2, c3, c4, c5, c6, c7, c8⟩ := K2.out.nine
  go_wp2_with fail
  refine (P2.out _).mono ?_
  rintro e w3 ⟨rfl, b3⟩
  have B3 := Lib.hid (B2.out.trans (b3.mono B2.out.size))
  have K3 := Lib.hid (K2.out.later b3)
  clear b3 c0 c1 c2 c3 c4 c5 c6 c7 c8
  go_wp2_with fail
  refine (T1.out _).mono ?_
  rintro e w4 ⟨rfl, b4⟩
  have k4 : Below w4.heap.size w4 (w4.alloc (.cells #[.int .i64 y0, .int .i64 y1, .int .i64 y2, .int .i64 y3, .string y4, .string y5, .int .i64 y6, .int .i64 y7, .bool y8] 23)) := (Below.refl _ _).alloc (Nat.le_refl _) _
  have B4 := B3.out.trans (b4.mono B3.out.size)
  have B5 := Lib.hid (B4.trans (k4.mono B4.size))
  have K5 := Lib.hid ((K3.out.later b4).later k4)
  have A5 : Hid (Blk (w4.alloc (.cells #[.int .i64 y0, .int .i64 y1, .int .i64 y2, .int .i64 y3, .string y4, .string y5, .int .i64 y6, .int .i64 y7, .bool y8] 23)) w4.heap.size [.int .i64 y0, .int .i64 y1, .int .i64 y2, .int .i64 y3, .string y4, .string y5, .int .i64 y6, .int .i64 y7, .bool y8]) := Blk.start w4 23 _
  clear b4 k4 B4
  go_wp2_with fail
  generalize World.alloc w4 _ = x4 at B5 K5 A5 ⊢
  generalize w4.heap.size = XA at A5 ⊢
  refine (T2.out _).mono ?_
  rintro e w6 ⟨rfl, b6⟩
  have k6 : Below w6.heap.size w6 (w6.alloc (.cells #[.int .i64 y0, .int .i64 y1, .int .i64 y2, .int .i64 y3, .string y4, .string y5, .int .i64 y6, .int .i64 y7, .bool y8] 23)) := (Below.refl _ _).alloc (Nat.le_refl _) _
  have B6 := B5.out.trans (b6.mono B5.out.size)
  have B7 := Lib.hid (B6.trans (k6.mono B6.size))
  have K7 := Lib.hid ((K5.out.later b6).later k6)
  have A7 := Lib.hid ((A5.out.later b6).later k6)
  have E7 : Hid (Blk (w6.alloc (.cells #[.int .i64 y0, .int .i64 y1, .int .i64 y2, .int .i64 y3, .string y4, .string y5, .int .i64 y6, .int .i64 y7, .bool y8] 23)) w6.heap.size [.int .i64 y0, .int .i64 y1, .int .i64 y2, .int .i64 y3, .string y4, .string y5, .int .i64 y6, .int .i64 y7, .bool y8]) := Blk.start w6 23 _
  clear b6 k6 B6
  go_wp2_with fail
  generalize World.alloc w6 _ = x6 at B7 K7 A7 E7 ⊢
  generalize w6.heap.size = XB at E7 ⊢
  have D10 := Lib.hid B7.out.drew
  have KX10 := Lib.hid (K7.out.later (Below.refl _ _).drew)
  have KA10 := Lib.hid (A7.out.later (Below.refl _ _).drew)
  have KB10 := Lib.hid (E7.out.later (Below.refl _ _).drew)
  have hStart := And.intro KX10.out.nine (And.intro KA10.out.nine KB10.out.nine)
  clear B0 B1 B2 B3 B5 B7 K0 K1 K2 K3 K5 K7 A5 A7 E7 P1 P2 T1 T2 CS
  refine wp_region_held_drew (S := fun w' => (w'.cell? ⟨w.heap.size, 0, none⟩ = some (.int .i64 tr) ∧ w'.cell? ⟨w.heap.size, 1, none⟩ = some (.int .i64 id) ∧ w'.cell? ⟨w.heap.size, 2, none⟩ = some (.int .i64 pa) ∧ w'.cell? ⟨w.heap.size, 3, none⟩ = some (.int .i64 rv) ∧ w'.cell? ⟨w.heap.size, 4, none⟩ = some (.string sv) ∧ w'.cell? ⟨w.heap.size, 5, none⟩ = some (.string op) ∧ w'.cell? ⟨w.heap.size, 6, none⟩ = some (.int .i64 st) ∧ w'.cell? ⟨w.heap.size, 7, none⟩ = some (.int .i64 du) ∧ w'.cell? ⟨w.heap.size, 8, none⟩ = some (.bool gn)) ∧ (w'.cell? ⟨XA, 0, none⟩ = some (.int .i64 y0) ∧ w'.cell? ⟨XA, 1, none⟩ = some (.int .i64 y1) ∧ w'.cell? ⟨XA, 2, none⟩ = some (.int .i64 y2) ∧ w'.cell? ⟨XA, 3, none⟩ = some (.int .i64 y3) ∧ w'.cell? ⟨XA, 4, none⟩ = some (.string y4) ∧ w'.cell? ⟨XA, 5, none⟩ = some (.string y5) ∧ w'.cell? ⟨XA, 6, none⟩ = some (.int .i64 y6) ∧ w'.cell? ⟨XA, 7, none⟩ = some (.int .i64 y7) ∧ w'.cell? ⟨XA, 8, none⟩ = some (.bool y8)) ∧ (w'.cell? ⟨XB, 0, none⟩ = some (.int .i64 y0) ∧ w'.cell? ⟨XB, 1, none⟩ = some (.int .i64 y1) ∧ w'.cell? ⟨XB, 2, none⟩ = some (.int .i64 y2) ∧ w'.cell? ⟨XB, 3, none⟩ = some (.int .i64 y3) ∧ w'.cell? ⟨XB, 4, none⟩ = some (.string y4) ∧ w'.cell? ⟨XB, 5, none⟩ = some (.string y5) ∧ w'.cell? ⟨XB, 6, none⟩ = some (.int .i64 y6) ∧ w'.cell? ⟨XB, 7, none⟩ = some (.int .i64 y7) ∧ w'.cell? ⟨XB, 8, none⟩ = some (.bool y8))) (by kernel_rfl) (hStart) (fun hHeld => ?_)
  refine wpAnyH_take (i := 0) (oi := { dst := some 42, op := Op.move (Operand.tmp 5), type := 9, pos := "law.go:35", after := #[], guard := none }) (v := ?_) rfl (by kernel_rfl) (by kernel_rfl) (by kernel_rfl) (fun _ _ _ h => h) (Or.inl ⟨by rfl, ?_⟩) (by assumption) ?_; rotate_left; (focus (intro w hSw; (try dsimp only at hSw); go_simp; all_goals (with_reducible rfl)))
  try simp only [Act.put, List.setIfInBounds_toArray, List.set_cons_zero, List.set_cons_succ]
  refine wpAnyH_take (i := 1) (oi := { dst := some 43, op := Op.move (Operand.tmp 7), type := 9, pos := "law.go:35", after := #[], guard := none }) (v := ?_) rfl (by kernel_rfl) (by kernel_rfl) (by kernel_rfl) (fun _ _ _ h => h) (Or.inl ⟨by rfl, ?_⟩) (by assumption) ?_; rotate_left; (focus (intro w hSw; (try dsimp only at hSw); go_simp; all_goals (with_reducible rfl)))
  try simp only [Act.put, List.setIfInBounds_toArray, List.set_cons_zero, List.set_cons_succ]
  refine wpAnyH_take (i := 2) (oi := { dst := some 44, op := Op.binOp BinOp.eql 9 (Operand.tmp 42) (Operand.tmp 43) 9, type := 4, pos := "law.go:35", after := #[{ on := 0, ground := Ground.data }, { on := 1, ground := Ground.data }], guard := none }) (v := ?_) rfl (by kernel_rfl) (by kernel_rfl) (by kernel_rfl) (fun _ _ _ h => h) (Or.inl ⟨by rfl, ?_⟩) (by assumption) ?_; rotate_left; (focus (intro w hSw; (try dsimp only at hSw); go_simp; all_goals (with_reducible rfl)))
  try simp only [Act.put, List.setIfInBounds_toArray, List.set_cons_zero, List.set_cons_succ]
  refine wpAnyH_take (i := 3) (oi := { dst := some 45, op := Op.move (Operand.tmp 44), type := 4, pos := "law.go:35", after := #[{ on := 2, ground := Ground.data }], guard := none }) (v := ?_) rfl (by kernel_rfl) (by kernel_rfl) (by kernel_rfl) (fun _ _ _ h => h) (Or.inl ⟨by rfl, ?_⟩) (by assumption) ?_; rotate_left; (focus (intro w hSw; (try dsimp only at hSw); go_simp; all_goals (with_reducible rfl)))
  try simp only [Act.put, List.setIfInBounds_toArray, List.set_cons_zero, List.set_cons_succ]
  first | (refine wpAnyH_take (i := 4) (oi := { dst := some 46, op := Op.move (Operand.tmp 6), type := 26, pos := "law.go:35", after := #[{ on := 3, ground := Ground.guard }], guard := some (3, true) }) (v := ?_) rfl (by kernel_rfl) (by kernel_rfl) (by kernel_rfl) (fun _ _ _ h => h) (Or.inl ⟨by rfl, ?_⟩) (by assumption) ?_; rotate_left; (focus (intro w hSw; (try dsimp only at hSw); go_simp; all_goals (with_reducible rfl)))) | refine wpAnyH_take (i := 4) (oi := { dst := some 46, op := Op.move (Operand.tmp 6), type := 26, pos := "law.go:35", after := #[{ on := 3, ground := Ground.guard }], guard := some (3, true) }) (v := undef) rfl (by kernel_rfl) (by kernel_rfl) (by kernel_rfl) (fun _ _ _ h => h) (Or.inr ⟨by rfl, rfl⟩) (by assumption) ?_
  try simp only [Act.put, List.setIfInBounds_toArray, List.set_cons_zero, List.set_cons_succ]
  first | (refine wpAnyH_take (i := 5) (oi := { dst := some 47, op := Op.move (Operand.tmp 8), type := 26, pos := "law.go:35", after := #[{ on := 3, ground := Ground.guard }], guard := some (3, true) }) (v := ?_) rfl (by kernel_rfl) (by kernel_rfl) (by kernel_rfl) (fun _ _ _ h => h) (Or.inl ⟨by rfl, ?_⟩) (by assumption) ?_; rotate_left; (focus (intro w hSw; (try dsimp only at hSw); go_simp; all_goals (with_reducible rfl)))) | refine wpAnyH_take (i := 5) (oi := { dst := some 47, op := Op.move (Operand.tmp 8), type := 26, pos := "law.go:35", after := #[{ on := 3, ground := Ground.guard }], guard := some (3, true) }) (v := undef) rfl (by kernel_rfl) (by kernel_rfl) (by kernel_rfl) (fun _ _ _ h => h) (Or.inr ⟨by rfl, rfl⟩) (by assumption) ?_
  try simp only [Act.put, List.setIfInBounds_toArray, List.set_cons_zero, List.set_cons_succ]
  first | (refine wpAnyH_take (i := 6) (oi := { dst := some 48, op := Op.binOp BinOp.eql 26 (Operand.tmp 46) (Operand.tmp 47) 26, type := 4, pos := "law.go:35", after := #[{ on := 4, ground := Ground.data }, { on := 5, ground := Ground.data }, { on := 3, ground := Ground.guard }], guard := some (3, true) }) (v := ?_) rfl (by kernel_rfl) (by kernel_rfl) (by kernel_rfl) (fun _ _ _ h => h) (Or.inl ⟨by rfl, ?_⟩) (by assumption) ?_; rotate_left; (focus (intro w hSw; (try dsimp only at hSw); go_simp; all_goals (with_reducible rfl)))) | refine wpAnyH_take (i := 6) (oi := { dst := some 48, op := Op.binOp BinOp.eql 26 (Operand.tmp 46) (Operand.tmp 47) 26, type := 4, pos := "law.go:35", after := #[{ on := 4, ground := Ground.data }, { on := 5, ground := Ground.data }, { on := 3, ground := Ground.guard }], guard := some (3, true) }) (v := undef) rfl (by kernel_rfl) (by kernel_rfl) (by kernel_rfl) (fun _ _ _ h => h) (Or.inr ⟨by rfl, rfl⟩) (by assumption) ?_
  try simp only [Act.put, List.setIfInBounds_toArray, List.set_cons_zero, List.set_cons_succ]
  refine wpAnyH_take (i := 7) (oi := { dst := some 49, op := Op.pick (Operand.tmp 45) (Operand.tmp 48) (Operand.const (Value.bool false)), type := 4, pos := "law.go:35", after := #[{ on := 3, ground := Ground.data }, { on := 6, ground := Ground.data }], guard := none }) (v := ?_) rfl (by kernel_rfl) (by kernel_rfl) (by kernel_rfl) (fun _ _ _ h => h) (Or.inl ⟨by rfl, ?_⟩) (by assumption) ?_; rotate_left; (focus (intro w hSw; (try dsimp only at hSw); go_simp; all_goals (with_reducible rfl)))
  try simp only [Act.put, List.setIfInBounds_toArray, List.set_cons_zero, List.set_cons_succ]
  refine wpAnyH_take (i := 8) (oi := { dst := some 50, op := Op.move (Operand.tmp 49), type := 4, pos := "law.go:35", after := #[{ on := 7, ground := Ground.data }, { on := 3, ground := Ground.chain }], guard := none }) (v := ?_) rfl (by kernel_rfl) (by kernel_rfl) (by kernel_rfl) (fun _ _ _ h => h) (Or.inl ⟨by rfl, ?_⟩) (by assumption) ?_; rotate_left; (focus (intro w hSw; (try dsimp only at hSw); go_simp; all_goals (with_reducible rfl)))
  try simp only [Act.put, List.setIfInBounds_toArray, List.set_cons_zero, List.set_cons_succ]
  first | (refine wpAnyH_take (i := 9) (oi := { dst := some 51, op := Op.load 23 (Operand.tmp 9), type := 23, pos := "law.go:35", after := #[{ on := 8, ground := Ground.guard }], guard := some (8, true) }) (v := ?_) rfl (by kernel_rfl) (by kernel_rfl) (by kernel_rfl) (fun _ _ _ h => h) (Or.inl ⟨by rfl, ?_⟩) (by assumption) ?_; rotate_left; (focus (intro w hSw; (try dsimp only at hSw); go_simp; all_goals (with_reducible rfl)))) | refine wpAnyH_take (i := 9) (oi := { dst := some 51, op := Op.load 23 (Operand.tmp 9), type := 23, pos := "law.go:35", after := #[{ on := 8, ground := Ground.guard }], guard := some (8, true) }) (v := undef) rfl (by kernel_rfl) (by kernel_rfl) (by kernel_rfl) (fun _ _ _ h => h) (Or.inr ⟨by rfl, rfl⟩) (by assumption) ?_
  try simp only [Act.put, List.setIfInBounds_toArray, List.set_cons_zero, List.set_cons_succ]
  first | (refine wpAnyH_take (i := 10) (oi := { dst := some 52, op := Op.load 23 (Operand.tmp 11), type := 23, pos := "law.go:35", after := #[{ on := 8, ground := Ground.guard }], guard := some (8, true) }) (v := ?_) rfl (by kernel_rfl) (by kernel_rfl) (by kernel_rfl) (fun _ _ _ h => h) (Or.inl ⟨by rfl, ?_⟩) (by assumption) ?_; rotate_left; (focus (intro w hSw; (try dsimp only at hSw); go_simp; all_goals (with_reducible rfl)))) | refine wpAnyH_take (i := 10) (oi := { dst := some 52, op := Op.load 23 (Operand.tmp 11), type := 23, pos := "law.go:35", after := #[{ on := 8, ground := Ground.guard }], guard := some (8, true) }) (v := undef) rfl (by kernel_rfl) (by kernel_rfl) (by kernel_rfl) (fun _ _ _ h => h) (Or.inr ⟨by rfl, rfl⟩) (by assumption) ?_
  try simp only [Act.put, List.setIfInBounds_toArray, List.set_cons_zero, List.set_cons_succ]
  first | (refine wpAnyH_take (i := 11) (oi := { dst := some 53, op := Op.binOp BinOp.eql 23 (Operand.tmp 51) (Operand.tmp 52) 23, type := 4, pos := "law.go:35", after := #[{ on := 9, ground := Ground.data }, { on := 10, ground := Ground.data }, { on := 8, ground := Ground.guard }], guard := some (8, true) }) (v := ?_) rfl (by kernel_rfl) (by kernel_rfl) (by kernel_rfl) (fun _ _ _ h => h) (Or.inl ⟨by rfl, ?_⟩) (by assumption) ?_; rotate_left; (focus (intro w hSw; (try dsimp only at hSw); go_simp; all_goals (with_reducible rfl)))) | refine wpAnyH_take (i := 11) (oi := { dst := some 53, op := Op.binOp BinOp.eql 23 (Operand.tmp 51) (Operand.tmp 52) 23, type := 4, pos := "law.go:35", after := #[{ on := 9, ground := Ground.data }, { on := 10, ground := Ground.data }, { on := 8, ground := Ground.guard }], guard := some (8, true) }) (v := undef) rfl (by kernel_rfl) (by kernel_rfl) (by kernel_rfl) (fun _ _ _ h => h) (Or.inr ⟨by rfl, rfl⟩) (by assumption) ?_
  try simp only [Act.put, List.setIfInBounds_toArray, List.set_cons_zero, List.set_cons_succ]
  refine wpAnyH_take (i := 12) (oi := { dst := some 54, op := Op.pick (Operand.tmp 50) (Operand.tmp 53) (Operand.const (Value.bool false)), type := 4, pos := "law.go:35", after := #[{ on := 8, ground := Ground.data }, { on := 11, ground := Ground.data }], guard := none }) (v := ?_) rfl (by kernel_rfl) (by kernel_rfl) (by kernel_rfl) (fun _ _ _ h => h) (Or.inl ⟨by rfl, ?_⟩) (by assumption) ?_; rotate_left; (focus (intro w hSw; (try dsimp only at hSw); go_simp; all_goals (with_reducible rfl)))
  try simp only [Act.put, List.setIfInBounds_toArray, List.set_cons_zero, List.set_cons_succ]
  refine wpAnyH_take (i := 13) (oi := { dst := some 55, op := Op.move (Operand.tmp 54), type := 4, pos := "law.go:35", after := #[{ on := 12, ground := Ground.data }, { on := 8, ground := Ground.chain }], guard := none }) (v := ?_) rfl (by kernel_rfl) (by kernel_rfl) (by kernel_rfl) (fun _ _ _ h => h) (Or.inl ⟨by rfl, ?_⟩) (by assumption) ?_; rotate_left; (focus (intro w hSw; (try dsimp only at hSw); go_simp; all_goals (with_reducible rfl)))
  try simp only [Act.put, List.setIfInBounds_toArray, List.set_cons_zero, List.set_cons_succ]
  first | (refine wpAnyH_take (i := 14) (oi := { dst := some 56, op := Op.move (Operand.tmp 10), type := 26, pos := "law.go:35", after := #[{ on := 13, ground := Ground.guard }], guard := some (13, true) }) (v := ?_) rfl (by kernel_rfl) (by kernel_rfl) (by kernel_rfl) (fun _ _ _ h => h) (Or.inl ⟨by rfl, ?_⟩) (by assumption) ?_; rotate_left; (focus (intro w hSw; (try dsimp only at hSw); go_simp; all_goals (with_reducible rfl)))) | refine wpAnyH_take (i := 14) (oi := { dst := some 56, op := Op.move (Operand.tmp 10), type := 26, pos := "law.go:35", after := #[{ on := 13, ground := Ground.guard }], guard := some (13, true) }) (v := undef) rfl (by kernel_rfl) (by kernel_rfl) (by kernel_rfl) (fun _ _ _ h => h) (Or.inr ⟨by rfl, rfl⟩) (by assumption) ?_
  try simp only [Act.put, List.setIfInBounds_toArray, List.set_cons_zero, List.set_cons_succ]
  first | (refine wpAnyH_take (i := 15) (oi := { dst := some 57, op := Op.move (Operand.tmp 12), type := 26, pos := "law.go:35", after := #[{ on := 13, ground := Ground.guard }], guard := some (13, true) }) (v := ?_) rfl (by kernel_rfl) (by kernel_rfl) (by kernel_rfl) (fun _ _ _ h => h) (Or.inl ⟨by rfl, ?_⟩) (by assumption) ?_; rotate_left; (focus (intro w hSw; (try dsimp only at hSw); go_simp; all_goals (with_reducible rfl)))) | refine wpAnyH_take (i := 15) (oi := { dst := some 57, op := Op.move (Operand.tmp 12), type := 26, pos := "law.go:35", after := #[{ on := 13, ground := Ground.guard }], guard := some (13, true) }) (v := undef) rfl (by kernel_rfl) (by kernel_rfl) (by kernel_rfl) (fun _ _ _ h => h) (Or.inr ⟨by rfl, rfl⟩) (by assumption) ?_
  try simp only [Act.put, List.setIfInBounds_toArray, List.set_cons_zero, List.set_cons_succ]
  first | (refine wpAnyH_take (i := 16) (oi := { dst := some 58, op := Op.binOp BinOp.eql 26 (Operand.tmp 56) (Operand.tmp 57) 26, type := 4, pos := "law.go:35", after := #[{ on := 14, ground := Ground.data }, { on := 15, ground := Ground.data }, { on := 13, ground := Ground.guard }], guard := some (13, true) }) (v := ?_) rfl (by kernel_rfl) (by kernel_rfl) (by kernel_rfl) (fun _ _ _ h => h) (Or.inl ⟨by rfl, ?_⟩) (by assumption) ?_; rotate_left; (focus (intro w hSw; (try dsimp only at hSw); go_simp; all_goals (with_reducible rfl)))) | refine wpAnyH_take (i := 16) (oi := { dst := some 58, op := Op.binOp BinOp.eql 26 (Operand.tmp 56) (Operand.tmp 57) 26, type := 4, pos := "law.go:35", after := #[{ on := 14, ground := Ground.data }, { on := 15, ground := Ground.data }, { on := 13, ground := Ground.guard }], guard := some (13, true) }) (v := undef) rfl (by kernel_rfl) (by kernel_rfl) (by kernel_rfl) (fun _ _ _ h => h) (Or.inr ⟨by rfl, rfl⟩) (by assumption) ?_
  try simp only [Act.put, List.setIfInBounds_toArray, List.set_cons_zero, List.set_cons_succ]
  refine wpAnyH_take (i := 17) (oi := { dst := some 59, op := Op.pick (Operand.tmp 55) (Operand.tmp 58) (Operand.const (Value.bool false)), type := 4, pos := "law.go:35", after := #[{ on := 13, ground := Ground.data }, { on := 16, ground := Ground.data }], guard := none }) (v := ?_) rfl (by kernel_rfl) (by kernel_rfl) (by kernel_rfl) (fun _ _ _ h => h) (Or.inl ⟨by rfl, ?_⟩) (by assumption) ?_; rotate_left; (focus (intro w hSw; (try dsimp only at hSw); go_simp; all_goals (with_reducible rfl)))
  try simp only [Act.put, List.setIfInBounds_toArray, List.set_cons_zero, List.set_cons_succ]
  refine wpAnyH_take (i := 18) (oi := { dst := some 60, op := Op.move (Operand.tmp 59), type := 4, pos := "law.go:35", after := #[{ on := 17, ground := Ground.data }, { on := 13, ground := Ground.chain }], guard := none }) (v := ?_) rfl (by kernel_rfl) (by kernel_rfl) (by kernel_rfl) (fun _ _ _ h => h) (Or.inl ⟨by rfl, ?_⟩) (by assumption) ?_; rotate_left; (focus (intro w hSw; (try dsimp only at hSw); go_simp; all_goals (with_reducible rfl)))
  try simp only [Act.put, List.setIfInBounds_toArray, List.set_cons_zero, List.set_cons_succ]
  first | (refine wpAnyH_take (i := 19) (oi := { dst := some 61, op := Op.load 23 (Operand.tmp 2), type := 23, pos := "law.go:35", after := #[{ on := 18, ground := Ground.guard }], guard := some (18, true) }) (v := ?_) rfl (by kernel_rfl) (by kernel_rfl) (by kernel_rfl) (fun _ _ _ h => h) (Or.inl ⟨by rfl, ?_⟩) (by assumption) ?_; rotate_left; (focus (intro w hSw; (try dsimp only at hSw); go_simp; all_goals (with_reducible rfl)))) | refine wpAnyH_take (i := 19) (oi := { dst := some 61, op := Op.load 23 (Operand.tmp 2), type := 23, pos := "law.go:35", after := #[{ on := 18, ground := Ground.guard }], guard := some (18, true) }) (v := undef) rfl (by kernel_rfl) (by kernel_rfl) (by kernel_rfl) (fun _ _ _ h => h) (Or.inr ⟨by rfl, rfl⟩) (by assumption) ?_
  try simp only [Act.put, List.setIfInBounds_toArray, List.set_cons_zero, List.set_cons_succ]
  first | (refine wpAnyH_take (i := 21) (oi := { dst := some 63, op := Op.load 23 (Operand.tmp 2), type := 23, pos := "law.go:35", after := #[{ on := 18, ground := Ground.guard }], guard := some (18, true) }) (v := ?_) rfl (by kernel_rfl) (by kernel_rfl) (by kernel_rfl) (fun _ _ _ h => h) (Or.inl ⟨by rfl, ?_⟩) (by assumption) ?_; rotate_left; (focus (intro w hSw; (try dsimp only at hSw); go_simp; all_goals (with_reducible rfl)))) | refine wpAnyH_take (i := 21) (oi := { dst := some 63, op := Op.load 23 (Operand.tmp 2), type := 23, pos := "law.go:35", after := #[{ on := 18, ground := Ground.guard }], guard := some (18, true) }) (v := undef) rfl (by kernel_rfl) (by kernel_rfl) (by kernel_rfl) (fun _ _ _ h => h) (Or.inr ⟨by rfl, rfl⟩) (by assumption) ?_
  try simp only [Act.put, List.setIfInBounds_toArray, List.set_cons_zero, List.set_cons_succ]
  refine wpAnyH_ready (rs := [20]) (by kernel_rfl) (by simp) ?_
  refine AllReadyH.cons (o := { dst := some 62, op := Op.call { callee := Callee.value (Operand.func 12), args := #[Operand.tmp 61], argTypes := #[23] }, type := 26, pos := "law.go:35", after := #[{ on := 19, ground := Ground.data }, { on := 18, ground := Ground.chain }, { on := 18, ground := Ground.guard }], guard := some (18, true) }) rfl (fun K hK => ?_) AllReadyH.nil
  go_simp
  refine (M1.out _).mono ?_
  rintro e w11 ⟨rfl, b⟩
  have D11 := Lib.hid (D10.out.trans (b.mono D10.out.size))
  have KX11 := Lib.hid (KX10.out.later b)
  have KA11 := Lib.hid (KA10.out.later b)
  have KB11 := Lib.hid (KB10.out.later b)
  have hKeep := And.intro KX11.out.nine (And.intro KA11.out.nine KB11.out.nine)
  clear b
  go_wp2_with fail
  refine hK.out _ _ ?_ (fun hHeld => ?_)
  · exact hKeep
  clear hK K
  try simp only [Act.put, List.setIfInBounds_toArray, List.set_cons_zero, List.set_cons_succ]
  refine wpAnyH_ready (rs := [22]) (by kernel_rfl) (by simp) ?_
  refine AllReadyH.cons (o := { dst := some 64, op := Op.call { callee := Callee.value (Operand.func 13), args := #[Operand.tmp 63], argTypes := #[23] }, type := 26, pos := "law.go:35", after := #[{ on := 21, ground := Ground.data }, { on := 20, ground := Ground.chain }, { on := 18, ground := Ground.guard }], guard := some (18, true) }) rfl (fun K hK => ?_) AllReadyH.nil
  go_simp
  refine (M2.out _).mono ?_
  rintro e w12 ⟨rfl, b⟩
  have D12 := Lib.hid (D11.out.trans (b.mono D11.out.size))
  have KX12 := Lib.hid (KX11.out.later b)
  have KA12 := Lib.hid (KA11.out.later b)
  have KB12 := Lib.hid (KB11.out.later b)
  have hKeep := And.intro KX12.out.nine (And.intro KA12.out.nine KB12.out.nine)
  clear b
  go_wp2_with fail
  refine hK.out _ _ ?_ (fun hHeld => ?_)
  · exact hKeep
  clear hK K
  try simp only [Act.put, List.setIfInBounds_toArray, List.set_cons_zero, List.set_cons_succ]
  first | (refine wpAnyH_take (i := 23) (oi := { dst := some 65, op := Op.binOp BinOp.eql 26 (Operand.tmp 62) (Operand.tmp 64) 26, type := 4, pos := "law.go:35", after := #[{ on := 20, ground := Ground.data }, { on := 22, ground := Ground.data }, { on := 18, ground := Ground.guard }], guard := some (18, true) }) (v := ?_) rfl (by kernel_rfl) (by kernel_rfl) (by kernel_rfl) (fun _ _ _ h => h) (Or.inl ⟨by rfl, ?_⟩) (by assumption) ?_; rotate_left; (focus (intro w hSw; (try dsimp only at hSw); go_simp; all_goals (with_reducible rfl)))) | refine wpAnyH_take (i := 23) (oi := { dst := some 65, op := Op.binOp BinOp.eql 26 (Operand.tmp 62) (Operand.tmp 64) 26, type := 4, pos := "law.go:35", after := #[{ on := 20, ground := Ground.data }, { on := 22, ground := Ground.data }, { on := 18, ground := Ground.guard }], guard := some (18, true) }) (v := undef) rfl (by kernel_rfl) (by kernel_rfl) (by kernel_rfl) (fun _ _ _ h => h) (Or.inr ⟨by rfl, rfl⟩) (by assumption) ?_
  try simp only [Act.put, List.setIfInBounds_toArray, List.set_cons_zero, List.set_cons_succ]
  refine wpAnyH_take (i := 24) (oi := { dst := some 66, op := Op.pick (Operand.tmp 60) (Operand.tmp 65) (Operand.const (Value.bool false)), type := 4, pos := "law.go:35", after := #[{ on := 18, ground := Ground.data }, { on := 23, ground := Ground.data }], guard := none }) (v := ?_) rfl (by kernel_rfl) (by kernel_rfl) (by kernel_rfl) (fun _ _ _ h => h) (Or.inl ⟨by rfl, ?_⟩) (by assumption) ?_; rotate_left; (focus (intro w hSw; (try dsimp only at hSw); go_simp; all_goals (with_reducible rfl)))
  try simp only [Act.put, List.setIfInBounds_toArray, List.set_cons_zero, List.set_cons_succ]
  refine wpAnyH_take (i := 25) (oi := { dst := some 67, op := Op.move (Operand.tmp 66), type := 4, pos := "law.go:35", after := #[{ on := 24, ground := Ground.data }, { on := 22, ground := Ground.chain }], guard := none }) (v := ?_) rfl (by kernel_rfl) (by kernel_rfl) (by kernel_rfl) (fun _ _ _ h => h) (Or.inl ⟨by rfl, ?_⟩) (by assumption) ?_; rotate_left; (focus (intro w hSw; (try dsimp only at hSw); go_simp; all_goals (with_reducible rfl)))
  try simp only [Act.put, List.setIfInBounds_toArray, List.set_cons_zero, List.set_cons_succ]
  refine wpAnyH_ready (rs := [26]) (by kernel_rfl) (by simp) ?_
  refine AllReadyH.cons (o := { dst := some 68, op := Op.call { callee := Callee.value (Operand.func 7), args := #[], argTypes := #[] }, type := 4, pos := "law.go:35", after := #[{ on := 25, ground := Ground.chain }, { on := 25, ground := Ground.guard }], guard := some (25, true) }) rfl (fun K hK => ?_) AllReadyH.nil
  go_simp
  refine (awake_any _).mono ?_
  rintro e w13 ⟨rfl, b⟩
  have D13 := Lib.hid (D12.out.trans (b.mono D12.out.size))
  have KX13 := Lib.hid (KX12.out.later b)
  have KA13 := Lib.hid (KA12.out.later b)
  have KB13 := Lib.hid (KB12.out.later b)
  have hKeep := And.intro KX13.out.nine (And.intro KA13.out.nine KB13.out.nine)
  clear b
  go_wp2_with fail
  refine hK.out _ _ ?_ (fun hHeld => ?_)
  · exact hKeep
  clear hK K
  try simp only [Act.put, List.setIfInBounds_toArray, List.set_cons_zero, List.set_cons_succ]
  refine wpAnyH_take (i := 27) (oi := { dst := some 69, op := Op.pick (Operand.tmp 67) (Operand.tmp 68) (Operand.const (Value.bool false)), type := 4, pos := "law.go:35", after := #[{ on := 25, ground := Ground.data }, { on := 26, ground := Ground.data }], guard := none }) (v := ?_) rfl (by kernel_rfl) (by kernel_rfl) (by kernel_rfl) (fun _ _ _ h => h) (Or.inl ⟨by rfl, ?_⟩) (by assumption) ?_; rotate_left; (focus (intro w hSw; (try dsimp only at hSw); go_simp; all_goals (with_reducible rfl)))
  try simp only [Act.put, List.setIfInBounds_toArray, List.set_cons_zero, List.set_cons_succ]
  refine wpAnyH_take (i := 28) (oi := { dst := some 4, op := Op.assign (Operand.tmp 69), type := 4, pos := "law.go:35", after := #[{ on := 27, ground := Ground.data }, { on := 26, ground := Ground.chain }, { on := 0, ground := Ground.phase }, { on := 1, ground := Ground.phase }, { on := 2, ground := Ground.phase }, { on := 3, ground := Ground.phase }, { on := 4, ground := Ground.phase }, { on := 5, ground := Ground.phase }, { on := 6, ground := Ground.phase }, { on := 7, ground := Ground.phase }, { on := 8, ground := Ground.phase }, { on := 9, ground := Ground.phase }, { on := 10, ground := Ground.phase }, { on := 11, ground := Ground.phase }, { on := 12, ground := Ground.phase }, { on := 13, ground := Ground.phase }, { on := 14, ground := Ground.phase }, { on := 15, ground := Ground.phase }, { on := 16, ground := Ground.phase }, { on := 17, ground := Ground.phase }, { on := 18, ground := Ground.phase }, { on := 19, ground := Ground.phase }, { on := 20, ground := Ground.phase }, { on := 21, ground := Ground.phase }, { on := 22, ground := Ground.phase }, { on := 23, ground := Ground.phase }, { on := 24, ground := Ground.phase }, { on := 25, ground := Ground.phase }, { on := 26, ground := Ground.phase }, { on := 27, ground := Ground.phase }], guard := none }) (v := ?_) rfl (by kernel_rfl) (by kernel_rfl) (by kernel_rfl) (fun _ _ _ h => h) (Or.inl ⟨by rfl, ?_⟩) (by assumption) ?_; rotate_left; (focus (intro w hSw; (try dsimp only at hSw); go_simp; all_goals (with_reducible rfl)))
  try simp only [Act.put, List.setIfInBounds_toArray, List.set_cons_zero, List.set_cons_succ]
  refine wpAnyH_done (by kernel_rfl) ?_ _
  clear hHeld hStart
  go_wp2_with fail
  go_ret
  exact ⟨rfl, D13.out⟩
end Go.Proofs.Ytlcalemjhahdpaa.Cd
