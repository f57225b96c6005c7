/- What Take tells of bytes: by the document. -/
import Derived.Test.YtlcalemjhahdpaaCdRRead
import Derived.Test.YtlcalemjhahdpaaCdTake
namespace Go.Proofs.Ytlcalemjhahdpaa.Cd
open Go.RowKit
open Pk (But Rd Went Bx)

set_option maxHeartbeats 6400000 in
set_option maxRecDepth 100000 in
theorem rtake_any (s : ByteArray) (w : World) (hs : s.size ≤ 1099511627776) :
    Calls Try.prog 11 #[.string s] w fun e w' => e = .returned (.tuple #[recV (takeRec s).1, .int .i64 ((takeRec s).2 : Nat)]) ∧ Below w.heap.size w w' := by
  have HS := Lib.hid hs
  obtain ⟨⟨x, s9, e9⟩, hr⟩ : ∃ t, rdRec s 0 = t := ⟨_, rfl⟩
  have HT : Hid (takeRec s = if Pk.endE s9 e9 = 0 then (if may x = 0 then (x, 0) else (zeroR, may x)) else (zeroR, Pk.endE s9 e9)) := by unfold Hid takeRec; rw [hr]
  have XS := Lib.hid (rdRec_names hr)
  have HR := Lib.hid hr
  have z0 := Blk.start w 23 (recL zeroR)
  have b0 : Below w.heap.size w (w.alloc (.cells ⟨recL zeroR⟩ 23)) := (Below.refl _ w).alloc (Nat.le_refl _) _
  have hlt : w.heap.size < (w.alloc (.cells ⟨recL zeroR⟩ 23)).heap.size := by simp
  have hlt := Lib.hid hlt
  have Z0 := Lib.hid z0
  have B0 := Lib.hid b0
  have b1 : Below (w.alloc (.cells ⟨recL zeroR⟩ 23)).heap.size (w.alloc (.cells ⟨recL zeroR⟩ 23)) ((w.alloc (.cells ⟨recL zeroR⟩ 23)).alloc (.cells #[.string s, .int .i64 0] 43)) := (Below.refl _ _).alloc (Nat.le_refl _) _
  have hz : (w.alloc (.cells ⟨recL zeroR⟩ 23)).heap.size = w.heap.size + 1 := by simp
  have h1 := Bx.start (w.alloc (.cells ⟨recL zeroR⟩ 23)) 43 (.string s) (.int .i64 0)
  rw [hz] at h1
  have R1 : Hid (Rd ((w.alloc (.cells #[.int .i64 0, .int .i64 0, .int .i64 0, .int .i64 0, .string ⟨#[]⟩, .string ⟨#[]⟩, .int .i64 0, .int .i64 0, .bool false] 23)).alloc (.cells #[.string s, .int .i64 0] 43)) (w.heap.size + 1) s 0) := h1
  have Z1 : Hid (Blk ((w.alloc (.cells #[.int .i64 0, .int .i64 0, .int .i64 0, .int .i64 0, .string ⟨#[]⟩, .string ⟨#[]⟩, .int .i64 0, .int .i64 0, .bool false] 23)).alloc (.cells #[.string s, .int .i64 0] 43)) w.heap.size (recL zeroR)) := z0.later b1
  have B1 : Hid (Below w.heap.size w ((w.alloc (.cells #[.int .i64 0, .int .i64 0, .int .i64 0, .int .i64 0, .string ⟨#[]⟩, .string ⟨#[]⟩, .int .i64 0, .int .i64 0, .bool false] 23)).alloc (.cells #[.string s, .int .i64 0] 43))) := b0.trans (b1.mono b0.size)
  clear z0 b0 b1 hs hr h1 hz
  obtain ⟨N, HN⟩ : ∃ N, Hid (N = w.heap.size + 1) := ⟨_, rfl⟩
  obtain ⟨tr, id, pa, rv, sv, op, st, du, gn⟩ := x
  go_enter Try.func11, Try.ntmps11
  go_wp2_with fail
  rw [← HN.out]
  generalize World.alloc (World.alloc w _) _ = w1 at R1 Z1 B1 ⊢
  rw [← HN.out] at R1
  refine (rread_any N s 0 w1 R1.out HS.out).mono ?_
  rw [HR.out]
  rintro e w2 ⟨rfl, h2⟩
  have z2 := Z1.out.but h2.2 (by have := HN.out; omega)
  have b2 : Below w2.heap.size w2 (w2.alloc (.cells ⟨recL ⟨tr, id, pa, rv, sv, op, st, du, gn⟩⟩ 23)) := (Below.refl _ _).alloc (Nat.le_refl _) _
  have R3 : Hid (Rd (w2.alloc (.cells ⟨recL ⟨tr, id, pa, rv, sv, op, st, du, gn⟩⟩ 23)) N s9 e9) := Bx.later h2.1 b2
  have Z3 := Lib.hid (z2.later b2)
  have B2 : Below w.heap.size w w2 := B1.out.trans (h2.2.below (by have := HN.out; omega) B1.out.size)
  have B3 := Lib.hid (B2.trans (b2.mono B2.size))
  have K3 := Lib.hid (Blk.start w2 23 (recL ⟨tr, id, pa, rv, sv, op, st, du, gn⟩))
  clear h2 z2 b2 B2
  simp only [recV]
  go_wp2_with fail
  have HE := Lib.hid (Pk.dend_any N s9 e9 _ R3.out)
  refine (HE.out).mono ?_
  clear HE
  rintro e w3 ⟨rfl, rfl⟩
  generalize World.alloc w2 _ = w3 at R3 Z3 B3 K3 ⊢
  by_cases he : Pk.endE s9 e9 = 0
  · obtain ⟨c0, c1, c2, c3, c4, c5, c6, c7, c8⟩ := K3.out.nine
    have HT1 := Lib.hid (HT.out.trans (if_pos he))
    rw [he]
    clear he
    go_wp2_with fail
    refine (rmay_any ⟨tr, id, pa, rv, sv, op, st, du, gn⟩ _ (Nat.le_trans XS.out.1 (by decide)) (Nat.le_trans XS.out.2 (by decide))).mono ?_
    rcases may_01 ⟨tr, id, pa, rv, sv, op, st, du, gn⟩ with hm | hm
    · have HT2 := Lib.hid (HT1.out.trans (if_pos hm))
      rw [hm]
      clear hm
      rintro e w4 ⟨rfl, b4⟩
      have B4 := Lib.hid (B3.out.trans (b4.mono B3.out.size))
      have Z4 := Lib.hid (Z3.out.later b4)
      have K4 := Lib.hid (K3.out.later b4)
      clear b4 c0 c1 c2 c3 c4 c5 c6 c7 c8
      obtain ⟨c0, c1, c2, c3, c4, c5, c6, c7, c8⟩ := K4.out.nine
      obtain ⟨z0, z1, z2, z3, z4, z5, z6, z7, z8⟩ := Z4.out.nine
      obtain ⟨f0, f1, f2, f3, f4, f5, f6, f7, f8⟩ := Z4.out.nineF
      have T := Z4.out.setNine (.int .i64 tr) (.int .i64 id) (.int .i64 pa) (.int .i64 rv) (.string sv) (.string op) (.int .i64 st) (.int .i64 du) (.bool gn)
      obtain ⟨t0, t1, t2, t3, t4, t5, t6, t7, t8⟩ := T.nine
      have G : Hid (Below w.heap.size w (st9 w4 w.heap.size (.int .i64 tr) (.int .i64 id) (.int .i64 pa) (.int .i64 rv) (.string sv) (.string op) (.int .i64 st) (.int .i64 du) (.bool gn))) := below_new9 B4.out (Nat.le_refl _) (.int .i64 tr) (.int .i64 id) (.int .i64 pa) (.int .i64 rv) (.string sv) (.string op) (.int .i64 st) (.int .i64 du) (.bool gn)
      unfold st9 at t0 t1 t2 t3 t4 t5 t6 t7 t8
      clear T
      go_wp2_with fail
      refine bodyPost_ret (v := .tuple #[.agg #[.int .i64 tr, .int .i64 id, .int .i64 pa, .int .i64 rv, .string sv, .string op, .int .i64 st, .int .i64 du, .bool gn], .int .i64 0]) ?_ rfl ⟨by rw [HT2.out]; rfl, G.out⟩
      simp [results, Try.results11, go_sem, t0, t1, t2, t3, t4, t5, t6, t7, t8]
    · have HT2 := Lib.hid (HT1.out.trans (if_neg (by omega)))
      rw [hm] at HT2 ⊢
      clear hm
      rintro e w4 ⟨rfl, b4⟩
      have B4 := Lib.hid (B3.out.trans (b4.mono B3.out.size))
      have Z4 := Lib.hid (Z3.out.later b4)
      clear b4
      obtain ⟨z0, z1, z2, z3, z4, z5, z6, z7, z8⟩ := Z4.out.nine
      obtain ⟨f0, f1, f2, f3, f4, f5, f6, f7, f8⟩ := Z4.out.nineF
      have T := Z4.out.setNine (.int .i64 0) (.int .i64 0) (.int .i64 0) (.int .i64 0) (.string ⟨#[]⟩) (.string ⟨#[]⟩) (.int .i64 0) (.int .i64 0) (.bool false)
      obtain ⟨t0, t1, t2, t3, t4, t5, t6, t7, t8⟩ := T.nine
      have G : Hid (Below w.heap.size w (st9 w4 w.heap.size (.int .i64 0) (.int .i64 0) (.int .i64 0) (.int .i64 0) (.string ⟨#[]⟩) (.string ⟨#[]⟩) (.int .i64 0) (.int .i64 0) (.bool false))) := below_new9 B4.out (Nat.le_refl _) (.int .i64 0) (.int .i64 0) (.int .i64 0) (.int .i64 0) (.string ⟨#[]⟩) (.string ⟨#[]⟩) (.int .i64 0) (.int .i64 0) (.bool false)
      unfold st9 at t0 t1 t2 t3 t4 t5 t6 t7 t8
      clear T
      go_wp2_with fail
      refine bodyPost_ret (v := .tuple #[.agg #[.int .i64 0, .int .i64 0, .int .i64 0, .int .i64 0, .string ⟨#[]⟩, .string ⟨#[]⟩, .int .i64 0, .int .i64 0, .bool false], .int .i64 1]) ?_ rfl ⟨by rw [HT2.out]; rfl, G.out⟩
      simp [results, Try.results11, go_sem, t0, t1, t2, t3, t4, t5, t6, t7, t8]
  · have HT1 := Lib.hid (HT.out.trans (if_neg he))
    generalize Pk.endE s9 e9 = E at *
    have hq : ((E : Int) != 0) = true := by simp; omega
    obtain ⟨z0, z1, z2, z3, z4, z5, z6, z7, z8⟩ := Z3.out.nine
    obtain ⟨f0, f1, f2, f3, f4, f5, f6, f7, f8⟩ := Z3.out.nineF
    have T := Z3.out.setNine (.int .i64 0) (.int .i64 0) (.int .i64 0) (.int .i64 0) (.string ⟨#[]⟩) (.string ⟨#[]⟩) (.int .i64 0) (.int .i64 0) (.bool false)
    obtain ⟨t0, t1, t2, t3, t4, t5, t6, t7, t8⟩ := T.nine
    have G : Hid (Below w.heap.size w (st9 w3 w.heap.size (.int .i64 0) (.int .i64 0) (.int .i64 0) (.int .i64 0) (.string ⟨#[]⟩) (.string ⟨#[]⟩) (.int .i64 0) (.int .i64 0) (.bool false))) := below_new9 B3.out (Nat.le_refl _) (.int .i64 0) (.int .i64 0) (.int .i64 0) (.int .i64 0) (.string ⟨#[]⟩) (.string ⟨#[]⟩) (.int .i64 0) (.int .i64 0) (.bool false)
    unfold st9 at t0 t1 t2 t3 t4 t5 t6 t7 t8
    clear T
    go_wp2_with fail
    refine bodyPost_ret (v := .tuple #[.agg #[.int .i64 0, .int .i64 0, .int .i64 0, .int .i64 0, .string ⟨#[]⟩, .string ⟨#[]⟩, .int .i64 0, .int .i64 0, .bool false], .int .i64 (E : Nat)]) ?_ rfl ⟨by rw [HT1.out]; rfl, G.out⟩
    simp [results, Try.results11, go_sem, t0, t1, t2, t3, t4, t5, t6, t7, t8]
end Go.Proofs.Ytlcalemjhahdpaa.Cd
