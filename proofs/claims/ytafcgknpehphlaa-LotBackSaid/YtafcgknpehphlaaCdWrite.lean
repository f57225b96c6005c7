/- What Write lays behind what was written: a record's parts. -/
import Derived.Test.YtafcgknpehphlaaCdMay
namespace Go.Proofs.Ytafcgknpehphlaa.Cd
open Go.RowKit
open Pk (But Wr cat)
open Va (digs zig putD)

theorem left_put {B : Nat} {l : List ByteArray} {d : List UInt8} {w w' : World} (h : Pk.Left B l d w w') : ∃ q l', Hid (Wr w' B q l') ∧ Hid (cat l' = cat l ++ d) ∧ Hid (But B w w') := by
  obtain ⟨⟨q, l', h1, h2⟩, h3⟩ := h
  exact ⟨q, l', h1, h2, h3⟩
theorem flag_any (B : Nat) (p : Option Addr) (l : List ByteArray) (b : Bool) (w : World) (hw : Wr w B p l) (hl : (cat l).length ≤ 1073741824) :
    Calls Try.prog 38 #[.pointer (some ⟨B, 0, none⟩), .bool b] w fun e w' => e = .returned (.tuple #[]) ∧ Pk.Left B l (flB b) w w' := by
  cases b
  · exact Pk.wflag_false B p l w hw hl
  · exact Pk.wflag_true B p l w hw hl

set_option maxHeartbeats 3200000 in
set_option maxRecDepth 100000 in
theorem write_any (B : Nat) (p : Option Addr) (l : List ByteArray) (x : Rec) (w : World) (hw : Wr w B p l) (hl : (cat l).length ≤ 1000000) (hf : Fit x) :
    Calls Try.prog 19 #[.pointer (some ⟨B, 0, none⟩), recV x] w fun e w' => e = .returned (.tuple #[]) ∧ Pk.Left B l (recB x) w w' := by
  have hB := hw.cl.lt
  have K0 := Lib.hid (Blk.start w 39 (recL x))
  have b0 : Below w.heap.size w (w.alloc (.cells ⟨recL x⟩ 39)) := (Below.refl _ w).alloc (Nat.le_refl _) _
  have H0 := Lib.hid (hw.later b0)
  have U0 := Lib.hid (But.of_below (B := B) b0)
  obtain ⟨tr, id, pa, rv, sv, op, st, du, gn⟩ := x
  obtain ⟨f0, f1, f2, f3, f4, f5, f6, f7, f8, f9⟩ := hf
  simp only at f0 f1 f2 f3 f4 f5 f6 f7 f8 f9
  have hB := Lib.hid hB
  have L0 := Lib.hid (Pk.putD_len f0)
  have L1 := Lib.hid (Pk.putD_len f1)
  have L2 := Lib.hid (Pk.putD_len f2)
  have L3 := Lib.hid (Pk.putD_len f3)
  have L4 := Lib.hid (txB_len f4)
  have L5 := Lib.hid (txB_len f5)
  have L6 := Lib.hid (Va.digs_len10 (Va.zig_lt f6 f7))
  have L7 := Lib.hid (Va.digs_len10 (Va.zig_lt f8 f9))
  have hrec : recB ⟨tr, id, pa, rv, sv, op, st, du, gn⟩ = putD tr ++ putD id ++ putD pa ++ putD rv ++ txB sv ++ txB op ++ digs (zig st) ++ digs (zig du) ++ flB gn := rfl
  have N0 : Hid ((cat l).length ≤ 1000000) := hl
  have F0 := Lib.hid f0
  have F1 := Lib.hid f1
  have F2 := Lib.hid f2
  have F3 := Lib.hid f3
  have F4 := Lib.hid f4
  have F5 := Lib.hid f5
  have F6 := Lib.hid f6
  have F7 := Lib.hid f7
  have F8 := Lib.hid f8
  have F9 := Lib.hid f9
  clear hw b0 hl f0 f1 f2 f3 f4 f5 f6 f7 f8 f9
  rw [hrec]
  clear hrec
  unfold recV
  go_enter Try.func19, Try.ntmps19
  go_wp2_with fail
  refine (Pk.wnum_any B p l tr _ H0.out (by have := N0.out; omega) F0.out).mono ?_
  rintro e w1 ⟨rfl, h⟩
  obtain ⟨q1, l1, H1, E1, V1⟩ := left_put h
  have U1 : Hid (But B w w1) := U0.out.trans V1.out
  have N1 : Hid ((cat l1).length ≤ 1001100) := by have := N0.out; have := L0.out; unfold Hid; rw [E1.out, List.length_append]; omega
  have K1 := Lib.hid (K0.out.but V1.out (by have := hB.out; omega))
  obtain ⟨c0, c1, c2, c3, c4, c5, c6, c7, c8⟩ := K1.out.nine
  clear h
  go_wp2_with fail
  refine (Pk.wnum_any B q1 l1 id _ H1.out (by have := N1.out; omega) F1.out).mono ?_
  rintro e w2 ⟨rfl, h⟩
  obtain ⟨q2, l2, H2, E2, V2⟩ := left_put h
  have U2 : Hid (But B w w2) := U1.out.trans V2.out
  have N2 : Hid ((cat l2).length ≤ 1002200) := by have := N1.out; have := L1.out; unfold Hid; rw [E2.out, List.length_append]; omega
  have K2 := Lib.hid (K1.out.but V2.out (by have := hB.out; omega))
  clear c0 c1 c2 c3 c4 c5 c6 c7 c8
  obtain ⟨c0, c1, c2, c3, c4, c5, c6, c7, c8⟩ := K2.out.nine
  clear h
  go_wp2_with fail
  refine (Pk.wnum_any B q2 l2 pa _ H2.out (by have := N2.out; omega) F2.out).mono ?_
  rintro e w3 ⟨rfl, h⟩
  obtain ⟨q3, l3, H3, E3, V3⟩ := left_put h
  have U3 : Hid (But B w w3) := U2.out.trans V3.out
  have N3 : Hid ((cat l3).length ≤ 1003300) := by have := N2.out; have := L2.out; unfold Hid; rw [E3.out, List.length_append]; omega
  have K3 := Lib.hid (K2.out.but V3.out (by have := hB.out; omega))
  clear c0 c1 c2 c3 c4 c5 c6 c7 c8
  obtain ⟨c0, c1, c2, c3, c4, c5, c6, c7, c8⟩ := K3.out.nine
  clear h
  go_wp2_with fail
  refine (Pk.wnum_any B q3 l3 rv _ H3.out (by have := N3.out; omega) F3.out).mono ?_
  rintro e w4 ⟨rfl, h⟩
  obtain ⟨q4, l4, H4, E4, V4⟩ := left_put h
  have U4 : Hid (But B w w4) := U3.out.trans V4.out
  have N4 : Hid ((cat l4).length ≤ 1004400) := by have := N3.out; have := L3.out; unfold Hid; rw [E4.out, List.length_append]; omega
  have K4 := Lib.hid (K3.out.but V4.out (by have := hB.out; omega))
  clear c0 c1 c2 c3 c4 c5 c6 c7 c8
  obtain ⟨c0, c1, c2, c3, c4, c5, c6, c7, c8⟩ := K4.out.nine
  clear h
  go_wp2_with fail
  refine (Pk.wtext_any B q4 l4 sv _ H4.out (by have := N4.out; omega) (by have := F4.out; omega)).mono ?_
  rintro e w5 ⟨rfl, h⟩
  obtain ⟨q5, l5, H5, E5, V5⟩ := left_put (d := txB sv) h
  have U5 : Hid (But B w w5) := U4.out.trans V5.out
  have N5 : Hid ((cat l5).length ≤ 1005500) := by have := N4.out; have := L4.out; unfold Hid; rw [E5.out, List.length_append]; omega
  have K5 := Lib.hid (K4.out.but V5.out (by have := hB.out; omega))
  clear c0 c1 c2 c3 c4 c5 c6 c7 c8
  obtain ⟨c0, c1, c2, c3, c4, c5, c6, c7, c8⟩ := K5.out.nine
  clear h
  go_wp2_with fail
  refine (Pk.wtext_any B q5 l5 op _ H5.out (by have := N5.out; omega) (by have := F5.out; omega)).mono ?_
  rintro e w6 ⟨rfl, h⟩
  obtain ⟨q6, l6, H6, E6, V6⟩ := left_put (d := txB op) h
  have U6 : Hid (But B w w6) := U5.out.trans V6.out
  have N6 : Hid ((cat l6).length ≤ 1006600) := by have := N5.out; have := L5.out; unfold Hid; rw [E6.out, List.length_append]; omega
  have K6 := Lib.hid (K5.out.but V6.out (by have := hB.out; omega))
  clear c0 c1 c2 c3 c4 c5 c6 c7 c8
  obtain ⟨c0, c1, c2, c3, c4, c5, c6, c7, c8⟩ := K6.out.nine
  clear h
  go_wp2_with fail
  refine (Pk.wsigned_any B q6 l6 st _ H6.out (by have := N6.out; omega) F6.out F7.out).mono ?_
  rintro e w7 ⟨rfl, h⟩
  obtain ⟨q7, l7, H7, E7, V7⟩ := left_put h
  have U7 : Hid (But B w w7) := U6.out.trans V7.out
  have N7 : Hid ((cat l7).length ≤ 1007700) := by have := N6.out; have := L6.out; unfold Hid; rw [E7.out, List.length_append]; omega
  have K7 := Lib.hid (K6.out.but V7.out (by have := hB.out; omega))
  clear c0 c1 c2 c3 c4 c5 c6 c7 c8
  obtain ⟨c0, c1, c2, c3, c4, c5, c6, c7, c8⟩ := K7.out.nine
  clear h
  go_wp2_with fail
  refine (Pk.wsigned_any B q7 l7 du _ H7.out (by have := N7.out; omega) F8.out F9.out).mono ?_
  rintro e w8 ⟨rfl, h⟩
  obtain ⟨q8, l8, H8, E8, V8⟩ := left_put h
  have U8 : Hid (But B w w8) := U7.out.trans V8.out
  have N8 : Hid ((cat l8).length ≤ 1008800) := by have := N7.out; have := L7.out; unfold Hid; rw [E8.out, List.length_append]; omega
  have K8 := Lib.hid (K7.out.but V8.out (by have := hB.out; omega))
  clear c0 c1 c2 c3 c4 c5 c6 c7 c8
  obtain ⟨c0, c1, c2, c3, c4, c5, c6, c7, c8⟩ := K8.out.nine
  clear h
  go_wp2_with fail
  refine (flag_any B q8 l8 gn _ H8.out (by have := N8.out; omega)).mono ?_
  rintro e w9 ⟨rfl, h⟩
  obtain ⟨q9, l9, H9, E9, V9⟩ := left_put h
  have U9 : Hid (But B w w9) := U8.out.trans V9.out
  clear h
  go_wp2_with fail
  go_end0
  refine ⟨rfl, ⟨q9, l9, H9.out, ?_⟩, U9.out⟩
  rw [E9.out, E8.out, E7.out, E6.out, E5.out, E4.out, E3.out, E2.out, E1.out]
  simp only [List.append_assoc]
end Go.Proofs.Ytafcgknpehphlaa.Cd
