/- What the document's Read reads. -/
import Derived.Test.YtafcgknpehphlaaCdMay
import Derived.Test.YtafcgknpehphlaaPkRef
namespace Go.Proofs.Ytafcgknpehphlaa.Cd
open Go.RowKit
open Pk (But Rd Went Bx rdNum rdText rdFlag tkN tkS)

set_option maxHeartbeats 6400000 in
set_option maxRecDepth 100000 in
theorem rread_any (R : Nat) (s : ByteArray) (e : Nat) (w : World) (h : Rd w R s e) (hs : s.size ≤ 1099511627776) :
    Calls Try.prog 28 #[.pointer (some ⟨R, 0, none⟩)] w fun en w' => en = .returned (recV (rdRec s e).1) ∧ Went R (rdRec s e).2 w w' := by
  have hR := h.lt
  have hs := Lib.hid hs
  obtain ⟨x, s1, e1, s2, e2, s3, e3, s4, e4, s5, e5, s6, e6, s7, e7, s8, e8, s9, e9, W0, hall⟩ := way s e
  have W := Lib.hid W0
  have HA := Lib.hid hall
  clear hall W0
  have Z0 := Lib.hid (Blk.start w 39 (recL zeroR))
  have b0 : Below w.heap.size w (w.alloc (.cells ⟨recL zeroR⟩ 39)) := (Below.refl _ w).alloc (Nat.le_refl _) _
  have H0 := Lib.hid (Bx.later h b0)
  have U0 := Lib.hid (But.of_below (B := R) b0)
  have hR := Lib.hid hR
  clear h b0
  obtain ⟨tr, id, pa, rv, sv, op, st, du, gn⟩ := x
  go_enter Try.func28, Try.ntmps28
  go_wp2_with fail
  refine (Pk.dnum_any R s e _ H0.out hs.out).mono ?_
  rw [W.out.a0]
  rintro e w1 ⟨rfl, h⟩
  have Z1 := Lib.hid (Z0.out.but h.2 (by have := hR.out; omega))
  have H1 : Hid (Rd w1 R s1 e1) := h.1
  have U1 := Lib.hid (U0.out.trans h.2)
  clear h
  go_wp2_with fail
  refine (Pk.dnum_any R s1 e1 _ H1.out (by have := hs.out; have := W.out.z1; omega)).mono ?_
  rw [W.out.a1]
  rintro e w2 ⟨rfl, h⟩
  have Z2 := Lib.hid (Z1.out.but h.2 (by have := hR.out; omega))
  have H2 : Hid (Rd w2 R s2 e2) := h.1
  have U2 := Lib.hid (U1.out.trans h.2)
  clear h
  go_wp2_with fail
  refine (Pk.dnum_any R s2 e2 _ H2.out (by have := hs.out; have := W.out.z2; omega)).mono ?_
  rw [W.out.a2]
  rintro e w3 ⟨rfl, h⟩
  have Z3 := Lib.hid (Z2.out.but h.2 (by have := hR.out; omega))
  have H3 : Hid (Rd w3 R s3 e3) := h.1
  have U3 := Lib.hid (U2.out.trans h.2)
  clear h
  go_wp2_with fail
  refine (Pk.dnum_any R s3 e3 _ H3.out (by have := hs.out; have := W.out.z3; omega)).mono ?_
  rw [W.out.a3]
  rintro e w4 ⟨rfl, h⟩
  have Z4 := Lib.hid (Z3.out.but h.2 (by have := hR.out; omega))
  have H4 : Hid (Rd w4 R s4 e4) := h.1
  have U4 := Lib.hid (U3.out.trans h.2)
  clear h
  go_wp2_with fail
  refine (Pk.dtext_any R s4 e4 24 _ H4.out (by have := hs.out; have := W.out.z4; omega)).mono ?_
  rw [W.out.a4]
  rintro e w5 ⟨rfl, h⟩
  have Z5 := Lib.hid (Z4.out.but h.2 (by have := hR.out; omega))
  have H5 : Hid (Rd w5 R s5 e5) := h.1
  have U5 := Lib.hid (U4.out.trans h.2)
  clear h
  go_wp2_with fail
  refine (Pk.dtext_any R s5 e5 24 _ H5.out (by have := hs.out; have := W.out.z5; omega)).mono ?_
  rw [W.out.a5]
  rintro e w6 ⟨rfl, h⟩
  have Z6 := Lib.hid (Z5.out.but h.2 (by have := hR.out; omega))
  have H6 : Hid (Rd w6 R s6 e6) := h.1
  have U6 := Lib.hid (U5.out.trans h.2)
  clear h
  go_wp2_with fail
  refine (Pk.dsigned_any R s6 e6 _ H6.out (by have := hs.out; have := W.out.z6; omega)).mono ?_
  rw [W.out.a6]
  rintro e w7 ⟨rfl, h⟩
  have Z7 := Lib.hid (Z6.out.but h.2 (by have := hR.out; omega))
  have H7 : Hid (Rd w7 R s7 e7) := h.1
  have U7 := Lib.hid (U6.out.trans h.2)
  clear h
  go_wp2_with fail
  refine (Pk.dsigned_any R s7 e7 _ H7.out (by have := hs.out; have := W.out.z7; omega)).mono ?_
  rw [W.out.a7]
  rintro e w8 ⟨rfl, h⟩
  have Z8 := Lib.hid (Z7.out.but h.2 (by have := hR.out; omega))
  have H8 : Hid (Rd w8 R s8 e8) := h.1
  have U8 := Lib.hid (U7.out.trans h.2)
  clear h
  go_wp2_with fail
  refine (Pk.dflag_any R s8 e8 _ H8.out).mono ?_
  rw [W.out.a8]
  rintro e w9 ⟨rfl, h⟩
  have Z9 := Lib.hid (Z8.out.but h.2 (by have := hR.out; omega))
  have H9 : Hid (Rd w9 R s9 e9) := h.1
  have U9 := Lib.hid (U8.out.trans h.2)
  have r1 := h.1.c1
  simp only at r1
  clear h
  by_cases he : e9 = 0
  · subst he
    have HR := Lib.hid (rdRec_ok HA.out)
    obtain ⟨z0, z1, z2, z3, z4, z5, z6, z7, z8⟩ := Z9.out.nine
    obtain ⟨f0, f1, f2, f3, f4, f5, f6, f7, f8⟩ := Z9.out.nineF
    have T := Z9.out.setNine (.int .i64 tr) (.int .i64 id) (.int .i64 pa) (.int .i64 rv) (.string sv) (.string op) (.int .i64 st) (.int .i64 du) (.bool gn)
    obtain ⟨t0, t1, t2, t3, t4, t5, t6, t7, t8⟩ := T.nine
    have G : Hid (Went R (s9, 0) w (st9 w9 w.heap.size (.int .i64 tr) (.int .i64 id) (.int .i64 pa) (.int .i64 rv) (.string sv) (.string op) (.int .i64 st) (.int .i64 du) (.bool gn))) := ⟨Bx.but H9.out (but_own9 w.heap.size w9 (.int .i64 tr) (.int .i64 id) (.int .i64 pa) (.int .i64 rv) (.string sv) (.string op) (.int .i64 st) (.int .i64 du) (.bool gn)) (by have := hR.out; omega), but_new9 U9.out (Nat.le_refl _) (.int .i64 tr) (.int .i64 id) (.int .i64 pa) (.int .i64 rv) (.string sv) (.string op) (.int .i64 st) (.int .i64 du) (.bool gn)⟩
    unfold st9 at t0 t1 t2 t3 t4 t5 t6 t7 t8
    clear T
    go_wp2_with fail
    refine bodyPost_ret (v := .agg #[.int .i64 tr, .int .i64 id, .int .i64 pa, .int .i64 rv, .string sv, .string op, .int .i64 st, .int .i64 du, .bool gn]) ?_ rfl ⟨by rw [HR.out]; rfl, by rw [HR.out]; exact G.out⟩
    simp [results, Try.results28, go_sem, t0, t1, t2, t3, t4, t5, t6, t7, t8]
  · have HR := Lib.hid (rdRec_bad HA.out he)
    have hq : ((e9 : Int) != 0) = true := by simp; omega
    obtain ⟨z0, z1, z2, z3, z4, z5, z6, z7, z8⟩ := Z9.out.nine
    obtain ⟨f0, f1, f2, f3, f4, f5, f6, f7, f8⟩ := Z9.out.nineF
    have T := Z9.out.setNine (.int .i64 0) (.int .i64 0) (.int .i64 0) (.int .i64 0) (.string ⟨#[]⟩) (.string ⟨#[]⟩) (.int .i64 0) (.int .i64 0) (.bool false)
    obtain ⟨t0, t1, t2, t3, t4, t5, t6, t7, t8⟩ := T.nine
    have G : Hid (Went R (s9, e9) w (st9 w9 w.heap.size (.int .i64 0) (.int .i64 0) (.int .i64 0) (.int .i64 0) (.string ⟨#[]⟩) (.string ⟨#[]⟩) (.int .i64 0) (.int .i64 0) (.bool false))) := ⟨Bx.but H9.out (but_own9 w.heap.size w9 (.int .i64 0) (.int .i64 0) (.int .i64 0) (.int .i64 0) (.string ⟨#[]⟩) (.string ⟨#[]⟩) (.int .i64 0) (.int .i64 0) (.bool false)) (by have := hR.out; omega), but_new9 U9.out (Nat.le_refl _) (.int .i64 0) (.int .i64 0) (.int .i64 0) (.int .i64 0) (.string ⟨#[]⟩) (.string ⟨#[]⟩) (.int .i64 0) (.int .i64 0) (.bool false)⟩
    unfold st9 at t0 t1 t2 t3 t4 t5 t6 t7 t8
    clear T
    go_wp2_with fail
    refine bodyPost_ret (v := .agg #[.int .i64 0, .int .i64 0, .int .i64 0, .int .i64 0, .string ⟨#[]⟩, .string ⟨#[]⟩, .int .i64 0, .int .i64 0, .bool false]) ?_ rfl ⟨by rw [HR.out]; rfl, by rw [HR.out]; exact G.out⟩
    simp [results, Try.results28, go_sem, t0, t1, t2, t3, t4, t5, t6, t7, t8]
end Go.Proofs.Ytafcgknpehphlaa.Cd
