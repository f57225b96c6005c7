/- What Read reads: a record's parts; a zero record behind an error. -/
import Derived.Test.YtafcgknpehphlaaCdMay
namespace Go.Proofs.Ytafcgknpehphlaa.Cd
open Go.RowKit
open Pk (But Rd Went Bx rdNum rdText rdFlag tkN tkS)

set_option maxHeartbeats 6400000 in
set_option maxRecDepth 100000 in
theorem read_any (R : Nat) (s : ByteArray) (e : Nat) (w : World) (h : Rd w R s e) (hs : s.size ≤ 1099511627776) :
    Calls Try.prog 45 #[.pointer (some ⟨R, 0, none⟩)] w fun en w' => en = .returned (recV (rdRec s e).1) ∧ Went R (rdRec s e).2 w w' := by
  have hR := h.lt
  have hs := Lib.hid hs
  obtain ⟨x, s1, e1, s2, e2, s3, e3, s4, e4, s5, e5, s6, e6, s7, e7, s8, e8, s9, e9, W0, hall⟩ := way s e
  have W := Lib.hid W0
  have HA := Lib.hid hall
  clear hall W0
  have z0 := Blk.start w 39 (recL zeroR)
  have b0 : Below w.heap.size w (w.alloc (.cells ⟨recL zeroR⟩ 39)) := (Below.refl _ w).alloc (Nat.le_refl _) _
  have k0 := Blk.start (w.alloc (.cells ⟨recL zeroR⟩ 39)) 39 (recL zeroR)
  have b1 : Below (w.alloc (.cells ⟨recL zeroR⟩ 39)).heap.size (w.alloc (.cells ⟨recL zeroR⟩ 39)) ((w.alloc (.cells ⟨recL zeroR⟩ 39)).alloc (.cells ⟨recL zeroR⟩ 39)) := (Below.refl _ _).alloc (Nat.le_refl _) _
  have hz : (w.alloc (.cells ⟨recL zeroR⟩ 39)).heap.size = w.heap.size + 1 := by simp
  have Z0 := Lib.hid (z0.later b1)
  have H0 := Lib.hid (Bx.later (Bx.later h b0) b1)
  have U0 := Lib.hid ((But.of_below (B := R) b0).then b1)
  rw [hz] at k0
  have K0 := Lib.hid k0
  have hR := Lib.hid hR
  clear h z0 k0 b0 b1 hz
  obtain ⟨tr, id, pa, rv, sv, op, st, du, gn⟩ := x
  go_enter Try.func45, Try.ntmps45
  go_wp2_with fail
  refine (Pk.rnum_any R s e _ H0.out hs.out).mono ?_
  rw [W.out.a0]
  rintro e w1 ⟨rfl, h⟩
  have k := K0.out.but h.2 (by have := hR.out; omega)
  have z := Z0.out.but h.2 (by have := hR.out; omega)
  have c0 := k.cells 0 _ rfl
  have f0 := k.free 0 _ rfl
  have K1 : Hid (Blk _ (w.heap.size + 1) [.int .i64 tr, .int .i64 0, .int .i64 0, .int .i64 0, .string ⟨#[]⟩, .string ⟨#[]⟩, .int .i64 0, .int .i64 0, .bool false]) := k.set 0 (.int .i64 tr)
  have Z1 := Lib.hid (z.other (p := ⟨w.heap.size + 1, 0, none⟩) (by show w.heap.size ≠ w.heap.size + 1; omega) (.int .i64 tr))
  have V := But.own (But.refl (w.heap.size + 1) w1) (i := 0) (.int .i64 tr)
  have H1 := Lib.hid (Bx.but h.1 V (by have := hR.out; omega))
  have U1 := Lib.hid (But.new (U0.out.trans h.2) (p := ⟨w.heap.size + 1, 0, none⟩) (by show w.heap.size ≤ w.heap.size + 1; omega) (.int .i64 tr))
  clear h k z V
  go_wp2_with fail
  clear c0 f0
  generalize World.setCell w1 _ _ = x1 at H1 U1 K1 Z1 ⊢
  refine (Pk.rnum_any R s1 e1 _ H1.out (by have := hs.out; have := W.out.z1; omega)).mono ?_
  rw [W.out.a1]
  rintro e w2 ⟨rfl, h⟩
  have k := K1.out.but h.2 (by have := hR.out; omega)
  have z := Z1.out.but h.2 (by have := hR.out; omega)
  have c1 := k.cells 1 _ rfl
  have f1 := k.free 1 _ rfl
  have K2 : Hid (Blk _ (w.heap.size + 1) [.int .i64 tr, .int .i64 id, .int .i64 0, .int .i64 0, .string ⟨#[]⟩, .string ⟨#[]⟩, .int .i64 0, .int .i64 0, .bool false]) := k.set 1 (.int .i64 id)
  have Z2 := Lib.hid (z.other (p := ⟨w.heap.size + 1, 1, none⟩) (by show w.heap.size ≠ w.heap.size + 1; omega) (.int .i64 id))
  have V := But.own (But.refl (w.heap.size + 1) w2) (i := 1) (.int .i64 id)
  have H2 := Lib.hid (Bx.but h.1 V (by have := hR.out; omega))
  have U2 := Lib.hid (But.new (U1.out.trans h.2) (p := ⟨w.heap.size + 1, 1, none⟩) (by show w.heap.size ≤ w.heap.size + 1; omega) (.int .i64 id))
  clear h k z V
  go_wp2_with fail
  clear c1 f1
  generalize World.setCell w2 _ _ = x2 at H2 U2 K2 Z2 ⊢
  refine (Pk.rnum_any R s2 e2 _ H2.out (by have := hs.out; have := W.out.z2; omega)).mono ?_
  rw [W.out.a2]
  rintro e w3 ⟨rfl, h⟩
  have k := K2.out.but h.2 (by have := hR.out; omega)
  have z := Z2.out.but h.2 (by have := hR.out; omega)
  have c2 := k.cells 2 _ rfl
  have f2 := k.free 2 _ rfl
  have K3 : Hid (Blk _ (w.heap.size + 1) [.int .i64 tr, .int .i64 id, .int .i64 pa, .int .i64 0, .string ⟨#[]⟩, .string ⟨#[]⟩, .int .i64 0, .int .i64 0, .bool false]) := k.set 2 (.int .i64 pa)
  have Z3 := Lib.hid (z.other (p := ⟨w.heap.size + 1, 2, none⟩) (by show w.heap.size ≠ w.heap.size + 1; omega) (.int .i64 pa))
  have V := But.own (But.refl (w.heap.size + 1) w3) (i := 2) (.int .i64 pa)
  have H3 := Lib.hid (Bx.but h.1 V (by have := hR.out; omega))
  have U3 := Lib.hid (But.new (U2.out.trans h.2) (p := ⟨w.heap.size + 1, 2, none⟩) (by show w.heap.size ≤ w.heap.size + 1; omega) (.int .i64 pa))
  clear h k z V
  go_wp2_with fail
  clear c2 f2
  generalize World.setCell w3 _ _ = x3 at H3 U3 K3 Z3 ⊢
  refine (Pk.rnum_any R s3 e3 _ H3.out (by have := hs.out; have := W.out.z3; omega)).mono ?_
  rw [W.out.a3]
  rintro e w4 ⟨rfl, h⟩
  have k := K3.out.but h.2 (by have := hR.out; omega)
  have z := Z3.out.but h.2 (by have := hR.out; omega)
  have c3 := k.cells 3 _ rfl
  have f3 := k.free 3 _ rfl
  have K4 : Hid (Blk _ (w.heap.size + 1) [.int .i64 tr, .int .i64 id, .int .i64 pa, .int .i64 rv, .string ⟨#[]⟩, .string ⟨#[]⟩, .int .i64 0, .int .i64 0, .bool false]) := k.set 3 (.int .i64 rv)
  have Z4 := Lib.hid (z.other (p := ⟨w.heap.size + 1, 3, none⟩) (by show w.heap.size ≠ w.heap.size + 1; omega) (.int .i64 rv))
  have V := But.own (But.refl (w.heap.size + 1) w4) (i := 3) (.int .i64 rv)
  have H4 := Lib.hid (Bx.but h.1 V (by have := hR.out; omega))
  have U4 := Lib.hid (But.new (U3.out.trans h.2) (p := ⟨w.heap.size + 1, 3, none⟩) (by show w.heap.size ≤ w.heap.size + 1; omega) (.int .i64 rv))
  clear h k z V
  go_wp2_with fail
  clear c3 f3
  generalize World.setCell w4 _ _ = x4 at H4 U4 K4 Z4 ⊢
  refine (Pk.rtext_any R s4 e4 24 _ H4.out (by have := hs.out; have := W.out.z4; omega)).mono ?_
  rw [W.out.a4]
  rintro e w5 ⟨rfl, h⟩
  have k := K4.out.but h.2 (by have := hR.out; omega)
  have z := Z4.out.but h.2 (by have := hR.out; omega)
  have c4 := k.cells 4 _ rfl
  have f4 := k.free 4 _ rfl
  have K5 : Hid (Blk _ (w.heap.size + 1) [.int .i64 tr, .int .i64 id, .int .i64 pa, .int .i64 rv, .string sv, .string ⟨#[]⟩, .int .i64 0, .int .i64 0, .bool false]) := k.set 4 (.string sv)
  have Z5 := Lib.hid (z.other (p := ⟨w.heap.size + 1, 4, none⟩) (by show w.heap.size ≠ w.heap.size + 1; omega) (.string sv))
  have V := But.own (But.refl (w.heap.size + 1) w5) (i := 4) (.string sv)
  have H5 := Lib.hid (Bx.but h.1 V (by have := hR.out; omega))
  have U5 := Lib.hid (But.new (U4.out.trans h.2) (p := ⟨w.heap.size + 1, 4, none⟩) (by show w.heap.size ≤ w.heap.size + 1; omega) (.string sv))
  clear h k z V
  go_wp2_with fail
  clear c4 f4
  generalize World.setCell w5 _ _ = x5 at H5 U5 K5 Z5 ⊢
  refine (Pk.rtext_any R s5 e5 24 _ H5.out (by have := hs.out; have := W.out.z5; omega)).mono ?_
  rw [W.out.a5]
  rintro e w6 ⟨rfl, h⟩
  have k := K5.out.but h.2 (by have := hR.out; omega)
  have z := Z5.out.but h.2 (by have := hR.out; omega)
  have c5 := k.cells 5 _ rfl
  have f5 := k.free 5 _ rfl
  have K6 : Hid (Blk _ (w.heap.size + 1) [.int .i64 tr, .int .i64 id, .int .i64 pa, .int .i64 rv, .string sv, .string op, .int .i64 0, .int .i64 0, .bool false]) := k.set 5 (.string op)
  have Z6 := Lib.hid (z.other (p := ⟨w.heap.size + 1, 5, none⟩) (by show w.heap.size ≠ w.heap.size + 1; omega) (.string op))
  have V := But.own (But.refl (w.heap.size + 1) w6) (i := 5) (.string op)
  have H6 := Lib.hid (Bx.but h.1 V (by have := hR.out; omega))
  have U6 := Lib.hid (But.new (U5.out.trans h.2) (p := ⟨w.heap.size + 1, 5, none⟩) (by show w.heap.size ≤ w.heap.size + 1; omega) (.string op))
  clear h k z V
  go_wp2_with fail
  clear c5 f5
  generalize World.setCell w6 _ _ = x6 at H6 U6 K6 Z6 ⊢
  refine (Pk.rsigned_any R s6 e6 _ H6.out (by have := hs.out; have := W.out.z6; omega)).mono ?_
  rw [W.out.a6]
  rintro e w7 ⟨rfl, h⟩
  have k := K6.out.but h.2 (by have := hR.out; omega)
  have z := Z6.out.but h.2 (by have := hR.out; omega)
  have c6 := k.cells 6 _ rfl
  have f6 := k.free 6 _ rfl
  have K7 : Hid (Blk _ (w.heap.size + 1) [.int .i64 tr, .int .i64 id, .int .i64 pa, .int .i64 rv, .string sv, .string op, .int .i64 st, .int .i64 0, .bool false]) := k.set 6 (.int .i64 st)
  have Z7 := Lib.hid (z.other (p := ⟨w.heap.size + 1, 6, none⟩) (by show w.heap.size ≠ w.heap.size + 1; omega) (.int .i64 st))
  have V := But.own (But.refl (w.heap.size + 1) w7) (i := 6) (.int .i64 st)
  have H7 := Lib.hid (Bx.but h.1 V (by have := hR.out; omega))
  have U7 := Lib.hid (But.new (U6.out.trans h.2) (p := ⟨w.heap.size + 1, 6, none⟩) (by show w.heap.size ≤ w.heap.size + 1; omega) (.int .i64 st))
  clear h k z V
  go_wp2_with fail
  clear c6 f6
  generalize World.setCell w7 _ _ = x7 at H7 U7 K7 Z7 ⊢
  refine (Pk.rsigned_any R s7 e7 _ H7.out (by have := hs.out; have := W.out.z7; omega)).mono ?_
  rw [W.out.a7]
  rintro e w8 ⟨rfl, h⟩
  have k := K7.out.but h.2 (by have := hR.out; omega)
  have z := Z7.out.but h.2 (by have := hR.out; omega)
  have c7 := k.cells 7 _ rfl
  have f7 := k.free 7 _ rfl
  have K8 : Hid (Blk _ (w.heap.size + 1) [.int .i64 tr, .int .i64 id, .int .i64 pa, .int .i64 rv, .string sv, .string op, .int .i64 st, .int .i64 du, .bool false]) := k.set 7 (.int .i64 du)
  have Z8 := Lib.hid (z.other (p := ⟨w.heap.size + 1, 7, none⟩) (by show w.heap.size ≠ w.heap.size + 1; omega) (.int .i64 du))
  have V := But.own (But.refl (w.heap.size + 1) w8) (i := 7) (.int .i64 du)
  have H8 := Lib.hid (Bx.but h.1 V (by have := hR.out; omega))
  have U8 := Lib.hid (But.new (U7.out.trans h.2) (p := ⟨w.heap.size + 1, 7, none⟩) (by show w.heap.size ≤ w.heap.size + 1; omega) (.int .i64 du))
  clear h k z V
  go_wp2_with fail
  clear c7 f7
  generalize World.setCell w8 _ _ = x8 at H8 U8 K8 Z8 ⊢
  refine (Pk.rflag_any R s8 e8 _ H8.out).mono ?_
  rw [W.out.a8]
  rintro e w9 ⟨rfl, h⟩
  have k := K8.out.but h.2 (by have := hR.out; omega)
  have z := Z8.out.but h.2 (by have := hR.out; omega)
  have c8 := k.cells 8 _ rfl
  have f8 := k.free 8 _ rfl
  have K9 : Hid (Blk _ (w.heap.size + 1) [.int .i64 tr, .int .i64 id, .int .i64 pa, .int .i64 rv, .string sv, .string op, .int .i64 st, .int .i64 du, .bool gn]) := k.set 8 (.bool gn)
  have Z9 := Lib.hid (z.other (p := ⟨w.heap.size + 1, 8, none⟩) (by show w.heap.size ≠ w.heap.size + 1; omega) (.bool gn))
  have V := But.own (But.refl (w.heap.size + 1) w9) (i := 8) (.bool gn)
  have H9 := Lib.hid (Bx.but h.1 V (by have := hR.out; omega))
  have U9 := Lib.hid (But.new (U8.out.trans h.2) (p := ⟨w.heap.size + 1, 8, none⟩) (by show w.heap.size ≤ w.heap.size + 1; omega) (.bool gn))
  clear h k z V
  go_wp2_with fail
  clear c8 f8
  generalize World.setCell w9 _ _ = x9 at H9 U9 K9 Z9 ⊢
  by_cases he : e9 = 0
  · subst he
    have HR := Lib.hid (rdRec_ok HA.out)
    refine (Pk.err_any R s9 0 _ H9.out).mono ?_
    rintro e w10 ⟨rfl, rfl⟩
    obtain ⟨c0, c1, c2, c3, c4, c5, c6, c7, c8⟩ := K9.out.nine
    obtain ⟨z0, z1, z2, z3, z4, z5, z6, z7, z8⟩ := Z9.out.nine
    obtain ⟨f0, f1, f2, f3, f4, f5, f6, f7, f8⟩ := Z9.out.nineF
    have T := Z9.out.setNine (.int .i64 tr) (.int .i64 id) (.int .i64 pa) (.int .i64 rv) (.string sv) (.string op) (.int .i64 st) (.int .i64 du) (.bool gn)
    obtain ⟨t0, t1, t2, t3, t4, t5, t6, t7, t8⟩ := T.nine
    have G : Hid (Went R (s9, 0) w (st9 x9 w.heap.size (.int .i64 tr) (.int .i64 id) (.int .i64 pa) (.int .i64 rv) (.string sv) (.string op) (.int .i64 st) (.int .i64 du) (.bool gn))) := ⟨Bx.but H9.out (but_own9 w.heap.size x9 (.int .i64 tr) (.int .i64 id) (.int .i64 pa) (.int .i64 rv) (.string sv) (.string op) (.int .i64 st) (.int .i64 du) (.bool gn)) (by have := hR.out; omega), but_new9 U9.out (Nat.le_refl _) (.int .i64 tr) (.int .i64 id) (.int .i64 pa) (.int .i64 rv) (.string sv) (.string op) (.int .i64 st) (.int .i64 du) (.bool gn)⟩
    unfold st9 at t0 t1 t2 t3 t4 t5 t6 t7 t8
    clear T
    go_wp2_with fail
    refine bodyPost_ret (v := .agg #[.int .i64 tr, .int .i64 id, .int .i64 pa, .int .i64 rv, .string sv, .string op, .int .i64 st, .int .i64 du, .bool gn]) ?_ rfl ⟨by rw [HR.out]; rfl, by rw [HR.out]; exact G.out⟩
    simp [results, Try.results45, go_sem, t0, t1, t2, t3, t4, t5, t6, t7, t8]
  · have HR := Lib.hid (rdRec_bad HA.out he)
    have hq : ((e9 : Int) != 0) = true := by simp; omega
    refine (Pk.err_any R s9 e9 _ H9.out).mono ?_
    rintro e w10 ⟨rfl, rfl⟩
    obtain ⟨z0, z1, z2, z3, z4, z5, z6, z7, z8⟩ := Z9.out.nine
    obtain ⟨f0, f1, f2, f3, f4, f5, f6, f7, f8⟩ := Z9.out.nineF
    have T := Z9.out.setNine (.int .i64 0) (.int .i64 0) (.int .i64 0) (.int .i64 0) (.string ⟨#[]⟩) (.string ⟨#[]⟩) (.int .i64 0) (.int .i64 0) (.bool false)
    obtain ⟨t0, t1, t2, t3, t4, t5, t6, t7, t8⟩ := T.nine
    have G : Hid (Went R (s9, e9) w (st9 x9 w.heap.size (.int .i64 0) (.int .i64 0) (.int .i64 0) (.int .i64 0) (.string ⟨#[]⟩) (.string ⟨#[]⟩) (.int .i64 0) (.int .i64 0) (.bool false))) := ⟨Bx.but H9.out (but_own9 w.heap.size x9 (.int .i64 0) (.int .i64 0) (.int .i64 0) (.int .i64 0) (.string ⟨#[]⟩) (.string ⟨#[]⟩) (.int .i64 0) (.int .i64 0) (.bool false)) (by have := hR.out; omega), but_new9 U9.out (Nat.le_refl _) (.int .i64 0) (.int .i64 0) (.int .i64 0) (.int .i64 0) (.string ⟨#[]⟩) (.string ⟨#[]⟩) (.int .i64 0) (.int .i64 0) (.bool false)⟩
    unfold st9 at t0 t1 t2 t3 t4 t5 t6 t7 t8
    clear T
    go_wp2_with fail
    refine bodyPost_ret (v := .agg #[.int .i64 0, .int .i64 0, .int .i64 0, .int .i64 0, .string ⟨#[]⟩, .string ⟨#[]⟩, .int .i64 0, .int .i64 0, .bool false]) ?_ rfl ⟨by rw [HR.out]; rfl, by rw [HR.out]; exact G.out⟩
    simp [results, Try.results45, go_sem, t0, t1, t2, t3, t4, t5, t6, t7, t8]
end Go.Proofs.Ytafcgknpehphlaa.Cd
