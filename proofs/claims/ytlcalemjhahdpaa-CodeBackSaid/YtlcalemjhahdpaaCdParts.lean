/- The walk of the second law of layer 9: records among other parts, written and read. -/
import Derived.Test.YtlcalemjhahdpaaCdIs
set_option linter.unusedSimpArgs false
namespace Go.Proofs.Ytlcalemjhahdpaa.Cd
open Go.RowKit
open Pk (But Rd Wr Went Bx cat rdNum tkN)

/-- what stands when the law's last line begins -/
structure Sit (w W : World) (xs ys : List Value) (NW NR NY XA XB : Nat) (l : List ByteArray) (s : ByteArray) (e : Nat) : Prop where
  kx : Blk W w.heap.size xs
  wr : ∃ q, Wr W NW q l
  r : Rd W NR s e
  y : Rd W NY s e
  ka : Blk W XA ys
  kb : Blk W XB ys
  below : Below w.heap.size w W
theorem Sit.later {w W W' : World} {xs ys : List Value} {NW NR NY XA XB : Nat} {l : List ByteArray} {s : ByteArray} {e : Nat} (h : Sit w W xs ys NW NR NY XA XB l s e) (hb : Below W.heap.size W W') : Sit w W' xs ys NW NR NY XA XB l s e := by
  obtain ⟨q, hq⟩ := h.wr
  exact ⟨h.kx.later hb, ⟨q, hq.later hb⟩, Bx.later h.r hb, Bx.later h.y hb, h.ka.later hb, h.kb.later hb, h.below.trans (hb.mono h.below.size)⟩

theorem Sit.facts {w w' : World} {tr id pa rv st du y0 y1 y2 y3 y6 y7 : Int} {sv op y4 y5 : ByteArray} {gn y8 : Bool} {NW NR NY XA XB : Nat} {l : List ByteArray} {s2 : ByteArray} {e2 : Nat} (h : Sit w w' [.int .i64 tr, .int .i64 id, .int .i64 pa, .int .i64 rv, .string sv, .string op, .int .i64 st, .int .i64 du, .bool gn] [.int .i64 y0, .int .i64 y1, .int .i64 y2, .int .i64 y3, .string y4, .string y5, .int .i64 y6, .int .i64 y7, .bool y8] NW NR NY XA XB l s2 e2) :
    (w'.cell? ⟨w.heap.size, 0, none⟩ = some (.int .i64 tr) ∧ w'.cell? ⟨w.heap.size, 1, none⟩ = some (.int .i64 id) ∧ w'.cell? ⟨w.heap.size, 2, none⟩ = some (.int .i64 pa) ∧ w'.cell? ⟨w.heap.size, 3, none⟩ = some (.int .i64 rv) ∧ w'.cell? ⟨w.heap.size, 4, none⟩ = some (.string sv) ∧ w'.cell? ⟨w.heap.size, 5, none⟩ = some (.string op) ∧ w'.cell? ⟨w.heap.size, 6, none⟩ = some (.int .i64 st) ∧ w'.cell? ⟨w.heap.size, 7, none⟩ = some (.int .i64 du) ∧ w'.cell? ⟨w.heap.size, 8, none⟩ = some (.bool gn)) ∧ (w'.cell? ⟨XA, 0, none⟩ = some (.int .i64 y0) ∧ w'.cell? ⟨XA, 1, none⟩ = some (.int .i64 y1) ∧ w'.cell? ⟨XA, 2, none⟩ = some (.int .i64 y2) ∧ w'.cell? ⟨XA, 3, none⟩ = some (.int .i64 y3) ∧ w'.cell? ⟨XA, 4, none⟩ = some (.string y4) ∧ w'.cell? ⟨XA, 5, none⟩ = some (.string y5) ∧ w'.cell? ⟨XA, 6, none⟩ = some (.int .i64 y6) ∧ w'.cell? ⟨XA, 7, none⟩ = some (.int .i64 y7) ∧ w'.cell? ⟨XA, 8, none⟩ = some (.bool y8)) ∧ (w'.cell? ⟨XB, 0, none⟩ = some (.int .i64 y0) ∧ w'.cell? ⟨XB, 1, none⟩ = some (.int .i64 y1) ∧ w'.cell? ⟨XB, 2, none⟩ = some (.int .i64 y2) ∧ w'.cell? ⟨XB, 3, none⟩ = some (.int .i64 y3) ∧ w'.cell? ⟨XB, 4, none⟩ = some (.string y4) ∧ w'.cell? ⟨XB, 5, none⟩ = some (.string y5) ∧ w'.cell? ⟨XB, 6, none⟩ = some (.int .i64 y6) ∧ w'.cell? ⟨XB, 7, none⟩ = some (.int .i64 y7) ∧ w'.cell? ⟨XB, 8, none⟩ = some (.bool y8)) ∧ w'.cell? ⟨NY, 0, none⟩ = some (.string s2) ∧ w'.cell? ⟨NY, 1, none⟩ = some (.int .i64 (e2 : Nat)) := ⟨h.kx.nine, h.ka.nine, h.kb.nine, h.y.c0, h.y.c1⟩

theorem seven_app (x : Rec) : (⟨#[7]⟩ : ByteArray) ++ (⟨(recB x).toArray⟩ : ByteArray) = ⟨(7 :: recB x).toArray⟩ := by
  apply ByteArray.ext
  simp [ByteArray.data_append]

set_option maxHeartbeats 12800000 in
set_option maxRecDepth 100000 in
theorem parts_any (x : Rec) (s : ByteArray) (w : World) (hx : W64 x) :
    Calls Try.prog 4 #[recV x, .string s] w fun e w' => e = .returned (.bool true) ∧ Below w.heap.size w w' := by
  have K0 := Lib.hid (Blk.start w 23 (recL x))
  have B0 := Lib.hid ((Below.refl _ w).alloc (Nat.le_refl _) (.cells ⟨recL x⟩ 23))
  have HX := Lib.hid hx
  have CS := Lib.hid (fun w => short_any x w)
  obtain ⟨tr, id, pa, rv, sv, op, st, du, gn⟩ := x
  clear hx
  have CS : Hid (∀ w, Calls Try.prog 6 #[.agg #[.int .i64 tr, .int .i64 id, .int .i64 pa, .int .i64 rv, .string sv, .string op, .int .i64 st, .int .i64 du, .bool gn]] w fun e w' => e = .returned (.bool (decide (sv.size ≤ 100) && decide (op.size ≤ 100))) ∧ Below w.heap.size w w') := CS.out
  by_cases hsh : (decide (sv.size ≤ 100) && decide (op.size ≤ 100)) = false
  · rw [hsh] at CS
    clear hsh
    unfold recV
    go_enter Try.func4, Try.ntmps4
    go_wp2_with fail
    refine (CS.out _).mono ?_
    rintro e w1 ⟨rfl, b1⟩
    have B1 := Lib.hid (B0.out.trans (b1.mono B0.out.size))
    clear b1
    go_wp2_with fail
    refine (awake_any w1).mono ?_
    rintro e w2 ⟨rfl, b2⟩
    have B2 := Lib.hid (B1.out.trans (b2.mono B1.out.size))
    clear b2
    go_wp2_with fail
    go_ret
    exact ⟨rfl, B2.out⟩
  have hsh : (decide (sv.size ≤ 100) && decide (op.size ≤ 100)) = true := by simpa using hsh
  rw [hsh] at CS
  by_cases hs : s.size > 200
  · have hs' : ((s.size : Int) > 200) := by omega
    clear hsh hs
    unfold recV
    go_enter Try.func4, Try.ntmps4
    go_wp2_with fail
    refine (CS.out _).mono ?_
    rintro e w1 ⟨rfl, b1⟩
    have B1 := Lib.hid (B0.out.trans (b1.mono B0.out.size))
    clear b1
    go_wp2_with fail
    refine (awake_any w1).mono ?_
    rintro e w2 ⟨rfl, b2⟩
    have B2 := Lib.hid (B1.out.trans (b2.mono B1.out.size))
    clear b2
    go_wp2_with fail
    go_ret
    exact ⟨rfl, B2.out⟩
  have hs' : ¬ ((s.size : Int) > 200) := by omega
  have HZ : Hid (s.size ≤ 1099511627776) := by show s.size ≤ _; omega
  have HF : Hid (Fit ⟨tr, id, pa, rv, sv, op, st, du, gn⟩) := by
    simp at hsh
    exact HX.out.fit hsh.1 hsh.2
  have HLO : Hid (-9223372036854775808 ≤ tr ∧ -9223372036854775808 ≤ id ∧ -9223372036854775808 ≤ pa ∧ -9223372036854775808 ≤ rv) := ⟨HX.out.tr0, HX.out.id0, HX.out.pa0, HX.out.rv0⟩
  have D7 : Hid (Pk.cat [] ++ Va.putD 7 = [7]) := by
    unfold Hid
    show Va.digs 7 = _
    rw [Va.digs_lt (by omega)]; rfl
  have PW := Lib.hid (fun W B q l h hl => write_any B q l ⟨tr, id, pa, rv, sv, op, st, du, gn⟩ W h hl HF.out)
  have PB := Lib.hid (fun W => rbytes_rec ⟨tr, id, pa, rv, sv, op, st, du, gn⟩ W HF.out HLO.out)
  obtain ⟨RB, hRB⟩ : ∃ R : ByteArray, (⟨(recB ⟨tr, id, pa, rv, sv, op, st, du, gn⟩).toArray⟩ : ByteArray) = R := ⟨_, rfl⟩
  have HRB := Lib.hid hRB
  have hsz : RB.size ≤ 2100 := by
    rw [← hRB]
    show (recB ⟨tr, id, pa, rv, sv, op, st, du, gn⟩).toArray.size ≤ 2100
    simp
    exact recB_len HF.out
  have HA : Hid ((⟨(7 :: recB ⟨tr, id, pa, rv, sv, op, st, du, gn⟩).toArray⟩ : ByteArray) = ⟨#[7]⟩ ++ RB) := by rw [← hRB]; exact (seven_app _).symm
  obtain ⟨⟨n, s1, e1⟩, hn⟩ : ∃ t, rdNum (tkN s) s 0 = t := ⟨_, rfl⟩
  have N1 := Lib.hid hn
  have z1 := rdNum_size (tkN s) s 0
  rw [hn] at z1
  have Z1 : Hid (s1.size ≤ 1099511627776) := Nat.le_trans z1 HZ.out
  have RA := fun R w h => read_any R s1 e1 w h Z1.out
  have RZ := fun R w h => rread_any R s1 e1 w h Z1.out
  generalize rdRec s1 e1 = t at RA RZ
  obtain ⟨⟨y0, y1, y2, y3, y4, y5, y6, y7, y8⟩, s2, e2⟩ := t
  simp only [recV] at PW PB RA RZ
  have RA := Lib.hid RA
  have RZ := Lib.hid RZ
  clear hsh hs HX hRB hn z1 HLO
  unfold recV
  go_enter Try.func4, Try.ntmps4
  go_wp2_with fail
  refine (CS.out _).mono ?_
  rintro e w1 ⟨rfl, b1⟩
  have B1 := Lib.hid (B0.out.trans (b1.mono B0.out.size))
  have K1 := Lib.hid (K0.out.later b1)
  have k2 : Below w1.heap.size w1 (w1.alloc (.cells #[.pointer none] 35)) := (Below.refl _ _).alloc (Nat.le_refl _) _
  have B2 := Lib.hid (B1.out.trans (k2.mono B1.out.size))
  have K2 := Lib.hid (K1.out.later k2)
  have H2 := Lib.hid (Wr.start w1 35)
  have hlt := Lib.hid K1.out.lt
  clear b1 k2
  unfold recL at K2
  go_wp2_with fail
  generalize World.alloc w1 _ = x1 at B2 K2 H2 ⊢
  generalize w1.heap.size = NW at H2 hlt ⊢
  refine (Pk.wnum_any NW none [] 7 _ H2.out (by simp [cat]) (by omega)).mono ?_
  rintro e w3 ⟨rfl, h⟩
  obtain ⟨q3, l3, H3, E3, V3⟩ := left_put h
  have E3 : Hid (cat l3 = [7]) := E3.out.trans D7.out
  have K3 := Lib.hid (K2.out.but V3.out (by have := hlt.out; omega))
  have B3 := Lib.hid (B2.out.trans (V3.out.below (by have := hlt.out; omega) B2.out.size))
  clear h V3 H2 D7
  obtain ⟨c0, c1, c2, c3, c4, c5, c6, c7, c8⟩ := K3.out.nine
  go_wp2_with fail
  refine (PW.out _ NW q3 l3 H3.out (by rw [E3.out]; decide)).mono ?_
  rintro e w4 ⟨rfl, h⟩
  obtain ⟨q4, l4, H4, E4, V4⟩ := left_put h
  have E4 : Hid (cat l4 = 7 :: recB ⟨tr, id, pa, rv, sv, op, st, du, gn⟩) := by unfold Hid; rw [E4.out, E3.out]; rfl
  have K4 := Lib.hid (K3.out.but V4.out (by have := hlt.out; omega))
  have B4 := Lib.hid (B3.out.trans (V4.out.below (by have := hlt.out; omega) B3.out.size))
  clear h V4 H3 E3 K3 K2 B3 B2 K1 B1 K0 B0 PW CS c0 c1 c2 c3 c4 c5 c6 c7 c8
  go_wp2_with fail
  refine (new_any' s w4).mono ?_
  rintro e w5 ⟨rfl, r5, b5, z5⟩
  have k6 : Below w5.heap.size w5 (w5.alloc (.cells #[.string s, .int .i64 0] 43)) := (Below.refl _ _).alloc (Nat.le_refl _) _
  have hlt6 := Lib.hid z5
  have R6 := Lib.hid (Bx.later r5 k6)
  have Y6 : Hid (Rd (w5.alloc (.cells #[.string s, .int .i64 0] 43)) w5.heap.size s 0) := Bx.start w5 43 _ _
  have C6 := Lib.hid (b5.trans (k6.mono b5.size))
  clear r5 b5 z5 k6
  go_wp2_with fail
  generalize World.alloc w5 _ = x5 at R6 Y6 C6 ⊢
  generalize w5.heap.size = NY at Y6 hlt6 ⊢
  refine (Pk.rnum_any w4.heap.size s 0 x5 R6.out HZ.out).mono ?_
  rw [N1.out]
  rintro e w7 ⟨rfl, h⟩
  have R7 : Hid (Rd w7 w4.heap.size s1 e1) := h.1
  have Y7 := Lib.hid (Bx.but Y6.out h.2 (by have := hlt6.out; omega))
  have C7 := Lib.hid (C6.out.trans (h.2.below (Nat.le_refl _) C6.out.size))
  clear h R6 Y6 C6
  go_wp2_with fail
  refine (Pk.dnum_any NY s 0 w7 Y7.out HZ.out).mono ?_
  rw [N1.out]
  rintro e w8 ⟨rfl, h⟩
  have Y8 : Hid (Rd w8 NY s1 e1) := h.1
  have R8 := Lib.hid (Bx.but R7.out h.2 (by have := hlt6.out; omega))
  have C8 := Lib.hid (C7.out.trans (h.2.below (Nat.le_of_lt hlt6.out) C7.out.size))
  clear h R7 Y7 C7
  go_wp2_with fail
  refine (RA.out w4.heap.size w8 R8.out).mono ?_
  rintro e w9 ⟨rfl, h⟩
  have R9 : Hid (Rd w9 w4.heap.size s2 e2) := h.1
  have Y9 := Lib.hid (Bx.but Y8.out h.2 (by have := hlt6.out; omega))
  have C9 := Lib.hid (C8.out.trans (h.2.below (Nat.le_refl _) C8.out.size))
  clear h R8 Y8 C8
  go_wp2_with fail
  refine (RZ.out NY w9 Y9.out).mono ?_
  rintro e w10 ⟨rfl, h⟩
  have Y10 : Hid (Rd w10 NY s2 e2) := h.1
  have R10 := Lib.hid (Bx.but R9.out h.2 (by have := hlt6.out; omega))
  have C10 := Lib.hid (C9.out.trans (h.2.below (Nat.le_of_lt hlt6.out) C9.out.size))
  clear h R9 Y9 C9
  go_wp2_with fail
  have a1 : Below w10.heap.size w10 (w10.alloc (.cells #[.int .i64 y0, .int .i64 y1, .int .i64 y2, .int .i64 y3, .string y4, .string y5, .int .i64 y6, .int .i64 y7, .bool y8] 23)) := (Below.refl _ _).alloc (Nat.le_refl _) _
  have a2 : Below (w10.alloc (.cells #[.int .i64 y0, .int .i64 y1, .int .i64 y2, .int .i64 y3, .string y4, .string y5, .int .i64 y6, .int .i64 y7, .bool y8] 23)).heap.size (w10.alloc (.cells #[.int .i64 y0, .int .i64 y1, .int .i64 y2, .int .i64 y3, .string y4, .string y5, .int .i64 y6, .int .i64 y7, .bool y8] 23)) ((w10.alloc (.cells #[.int .i64 y0, .int .i64 y1, .int .i64 y2, .int .i64 y3, .string y4, .string y5, .int .i64 y6, .int .i64 y7, .bool y8] 23)).alloc (.cells #[.int .i64 y0, .int .i64 y1, .int .i64 y2, .int .i64 y3, .string y4, .string y5, .int .i64 y6, .int .i64 y7, .bool y8] 23)) := (Below.refl _ _).alloc (Nat.le_refl _) _
  have ka : Blk (w10.alloc (.cells #[.int .i64 y0, .int .i64 y1, .int .i64 y2, .int .i64 y3, .string y4, .string y5, .int .i64 y6, .int .i64 y7, .bool y8] 23)) w10.heap.size [.int .i64 y0, .int .i64 y1, .int .i64 y2, .int .i64 y3, .string y4, .string y5, .int .i64 y6, .int .i64 y7, .bool y8] := Blk.start w10 23 _
  have kb : Blk ((w10.alloc (.cells #[.int .i64 y0, .int .i64 y1, .int .i64 y2, .int .i64 y3, .string y4, .string y5, .int .i64 y6, .int .i64 y7, .bool y8] 23)).alloc (.cells #[.int .i64 y0, .int .i64 y1, .int .i64 y2, .int .i64 y3, .string y4, .string y5, .int .i64 y6, .int .i64 y7, .bool y8] 23)) (w10.alloc (.cells #[.int .i64 y0, .int .i64 y1, .int .i64 y2, .int .i64 y3, .string y4, .string y5, .int .i64 y6, .int .i64 y7, .bool y8] 23)).heap.size [.int .i64 y0, .int .i64 y1, .int .i64 y2, .int .i64 y3, .string y4, .string y5, .int .i64 y6, .int .i64 y7, .bool y8] := Blk.start _ 23 _
  have hz : (w10.alloc (.cells #[.int .i64 y0, .int .i64 y1, .int .i64 y2, .int .i64 y3, .string y4, .string y5, .int .i64 y6, .int .i64 y7, .bool y8] 23)).heap.size = w10.heap.size + 1 := by simp
  have a3 := a1.trans (a2.mono a1.size)
  rw [hz] at kb
  have S0 : Sit w ((w10.alloc (.cells #[.int .i64 y0, .int .i64 y1, .int .i64 y2, .int .i64 y3, .string y4, .string y5, .int .i64 y6, .int .i64 y7, .bool y8] 23)).alloc (.cells #[.int .i64 y0, .int .i64 y1, .int .i64 y2, .int .i64 y3, .string y4, .string y5, .int .i64 y6, .int .i64 y7, .bool y8] 23)) [.int .i64 tr, .int .i64 id, .int .i64 pa, .int .i64 rv, .string sv, .string op, .int .i64 st, .int .i64 du, .bool gn] [.int .i64 y0, .int .i64 y1, .int .i64 y2, .int .i64 y3, .string y4, .string y5, .int .i64 y6, .int .i64 y7, .bool y8] NW w4.heap.size NY w10.heap.size (w10.heap.size + 1) l4 s2 e2 :=
    ⟨(K4.out.later C10.out).later a3, ⟨q4, (H4.out.later C10.out).later a3⟩, Bx.later R10.out a3, Bx.later Y10.out a3, ka.later a2, kb, (B4.out.trans (C10.out.mono B4.out.size)).trans (a3.mono (Nat.le_trans B4.out.size C10.out.size))⟩
  have T0 := Lib.hid (S0.later (Below.refl _ _).drew)
  have HV : Hid (Va.str (cat l4) = .string (⟨#[7]⟩ ++ RB)) := by unfold Hid; rw [E4.out]; exact congrArg Value.string HA.out
  have HV2 : Hid (Va.str (recB ⟨tr, id, pa, rv, sv, op, st, du, gn⟩) = .string RB) := congrArg Value.string HRB.out
  have HL : Hid ((cat l4).length ≤ 1073741824) := by unfold Hid; rw [E4.out]; have := recB_len HF.out; simp; omega
  clear a1 a2 ka kb hz a3 S0 Y10 R10 C10 K4 B4 H4 E4 HA HRB RA RZ N1 Z1
  have hle : ¬ (9223372036854775807 < 1 + RB.size) := by omega
  clear hsz
  have hStart := T0.out.facts
  generalize w10.heap.size = XA at T0 hStart ⊢
  refine wp_region_held_drew (S := fun w' => (w'.cell? ⟨w.heap.size, 0, none⟩ = some (.int .i64 tr) ∧ w'.cell? ⟨w.heap.size, 1, none⟩ = some (.int .i64 id) ∧ w'.cell? ⟨w.heap.size, 2, none⟩ = some (.int .i64 pa) ∧ w'.cell? ⟨w.heap.size, 3, none⟩ = some (.int .i64 rv) ∧ w'.cell? ⟨w.heap.size, 4, none⟩ = some (.string sv) ∧ w'.cell? ⟨w.heap.size, 5, none⟩ = some (.string op) ∧ w'.cell? ⟨w.heap.size, 6, none⟩ = some (.int .i64 st) ∧ w'.cell? ⟨w.heap.size, 7, none⟩ = some (.int .i64 du) ∧ w'.cell? ⟨w.heap.size, 8, none⟩ = some (.bool gn)) ∧ (w'.cell? ⟨XA, 0, none⟩ = some (.int .i64 y0) ∧ w'.cell? ⟨XA, 1, none⟩ = some (.int .i64 y1) ∧ w'.cell? ⟨XA, 2, none⟩ = some (.int .i64 y2) ∧ w'.cell? ⟨XA, 3, none⟩ = some (.int .i64 y3) ∧ w'.cell? ⟨XA, 4, none⟩ = some (.string y4) ∧ w'.cell? ⟨XA, 5, none⟩ = some (.string y5) ∧ w'.cell? ⟨XA, 6, none⟩ = some (.int .i64 y6) ∧ w'.cell? ⟨XA, 7, none⟩ = some (.int .i64 y7) ∧ w'.cell? ⟨XA, 8, none⟩ = some (.bool y8)) ∧ (w'.cell? ⟨(XA + 1), 0, none⟩ = some (.int .i64 y0) ∧ w'.cell? ⟨(XA + 1), 1, none⟩ = some (.int .i64 y1) ∧ w'.cell? ⟨(XA + 1), 2, none⟩ = some (.int .i64 y2) ∧ w'.cell? ⟨(XA + 1), 3, none⟩ = some (.int .i64 y3) ∧ w'.cell? ⟨(XA + 1), 4, none⟩ = some (.string y4) ∧ w'.cell? ⟨(XA + 1), 5, none⟩ = some (.string y5) ∧ w'.cell? ⟨(XA + 1), 6, none⟩ = some (.int .i64 y6) ∧ w'.cell? ⟨(XA + 1), 7, none⟩ = some (.int .i64 y7) ∧ w'.cell? ⟨(XA + 1), 8, none⟩ = some (.bool y8)) ∧ w'.cell? ⟨NY, 0, none⟩ = some (.string s2) ∧ w'.cell? ⟨NY, 1, none⟩ = some (.int .i64 (e2 : Nat))) (by kernel_rfl) (hStart) (fun hHeld => ?_)
  refine wpAnyH_take (i := 1) (oi := { dst := some 36, op := Op.load 23 (Operand.tmp 2), type := 23, pos := "law.go:50", after := #[], guard := none }) (v := ?_) rfl (by kernel_rfl) (by kernel_rfl) (by kernel_rfl) (fun _ _ _ h => h) (Or.inl ⟨by rfl, ?_⟩) (by assumption) ?_; rotate_left; (focus (intro w hSw; (try dsimp only at hSw); go_simp; all_goals (with_reducible rfl)))
  try simp only [Act.put, List.setIfInBounds_toArray, List.set_cons_zero, List.set_cons_succ]
  refine wpAnyH_ready (rs := [0]) (by kernel_rfl) (by simp) ?_
  refine AllReadyH.cons (o := { dst := some 35, op := Op.call { callee := Callee.value (Operand.func 21), args := #[Operand.tmp 5], argTypes := #[35] }, type := 9, pos := "law.go:50", after := #[], guard := none }) rfl (fun K hK => ?_) AllReadyH.nil
  go_simp
  obtain ⟨q, hq⟩ := T0.out.wr
  refine (Pk.bytes_any NW q l4 _ hq HL.out).mono ?_
  rw [HV.out]
  rintro e w11 ⟨rfl, b⟩
  have T1 := Lib.hid (T0.out.later b)
  have hKeep := T1.out.facts
  clear b
  go_wp2_with fail
  refine hK.out _ _ ?_ (fun hHeld => ?_)
  · exact hKeep
  clear hK K
  try simp only [Act.put, List.setIfInBounds_toArray, List.set_cons_zero, List.set_cons_succ]
  refine wpAnyH_ready (rs := [2]) (by kernel_rfl) (by simp) ?_
  refine AllReadyH.cons (o := { dst := some 37, op := Op.call { callee := Callee.value (Operand.func 22), args := #[Operand.tmp 36], argTypes := #[23] }, type := 9, pos := "law.go:50", after := #[{ on := 1, ground := Ground.data }, { on := 0, ground := Ground.chain }], guard := none }) rfl (fun K hK => ?_) AllReadyH.nil
  go_simp
  refine (PB.out _).mono ?_
  rw [HV2.out]
  rintro e w12 ⟨rfl, b⟩
  have T2 := Lib.hid (T1.out.later b)
  have hKeep := T2.out.facts
  clear b
  go_wp2_with fail
  refine hK.out _ _ ?_ (fun hHeld => ?_)
  · exact hKeep
  clear hK K
  try simp only [Act.put, List.setIfInBounds_toArray, List.set_cons_zero, List.set_cons_succ]
  refine wpAnyH_take (i := 3) (oi := { dst := some 38, op := Op.binOp BinOp.add 9 (Operand.const (Value.string { data := #[7] })) (Operand.tmp 37) 9, type := 9, pos := "law.go:50", after := #[{ on := 2, ground := Ground.data }], guard := none }) (v := ?_) rfl (by kernel_rfl) (by kernel_rfl) (by kernel_rfl) (fun _ _ _ h => h) (Or.inl ⟨by rfl, ?_⟩) (by assumption) ?_; rotate_left; (focus (intro w hSw; (try dsimp only at hSw); go_simp; all_goals (with_reducible rfl)))
  try simp only [Act.put, List.setIfInBounds_toArray, List.set_cons_zero, List.set_cons_succ]
  refine wpAnyH_take (i := 4) (oi := { dst := some 39, op := Op.binOp BinOp.eql 9 (Operand.tmp 35) (Operand.tmp 38) 9, type := 4, pos := "law.go:50", after := #[{ on := 0, ground := Ground.data }, { on := 3, ground := Ground.data }], guard := none }) (v := ?_) rfl (by kernel_rfl) (by kernel_rfl) (by kernel_rfl) (fun _ _ _ h => h) (Or.inl ⟨by rfl, ?_⟩) (by assumption) ?_; rotate_left; (focus (intro w hSw; (try dsimp only at hSw); go_simp; all_goals (with_reducible rfl)))
  try simp only [Act.put, List.setIfInBounds_toArray, List.set_cons_zero, List.set_cons_succ]
  refine wpAnyH_take (i := 5) (oi := { dst := some 40, op := Op.move (Operand.tmp 39), type := 4, pos := "law.go:50", after := #[{ on := 4, ground := Ground.data }, { on := 2, ground := Ground.chain }], guard := none }) (v := ?_) rfl (by kernel_rfl) (by kernel_rfl) (by kernel_rfl) (fun _ _ _ h => h) (Or.inl ⟨by rfl, ?_⟩) (by assumption) ?_; rotate_left; (focus (intro w hSw; (try dsimp only at hSw); go_simp; all_goals (with_reducible rfl)))
  try simp only [Act.put, List.setIfInBounds_toArray, List.set_cons_zero, List.set_cons_succ]
  first | (refine wpAnyH_take (i := 6) (oi := { dst := some 41, op := Op.load 23 (Operand.tmp 8), type := 23, pos := "law.go:50", after := #[{ on := 5, ground := Ground.guard }], guard := some (5, true) }) (v := ?_) rfl (by kernel_rfl) (by kernel_rfl) (by kernel_rfl) (fun _ _ _ h => h) (Or.inl ⟨by rfl, ?_⟩) (by assumption) ?_; rotate_left; (focus (intro w hSw; (try dsimp only at hSw); go_simp; all_goals (with_reducible rfl)))) | refine wpAnyH_take (i := 6) (oi := { dst := some 41, op := Op.load 23 (Operand.tmp 8), type := 23, pos := "law.go:50", after := #[{ on := 5, ground := Ground.guard }], guard := some (5, true) }) (v := undef) rfl (by kernel_rfl) (by kernel_rfl) (by kernel_rfl) (fun _ _ _ h => h) (Or.inr ⟨by rfl, rfl⟩) (by assumption) ?_
  try simp only [Act.put, List.setIfInBounds_toArray, List.set_cons_zero, List.set_cons_succ]
  first | (refine wpAnyH_take (i := 7) (oi := { dst := some 42, op := Op.load 23 (Operand.tmp 9), type := 23, pos := "law.go:50", after := #[{ on := 5, ground := Ground.guard }], guard := some (5, true) }) (v := ?_) rfl (by kernel_rfl) (by kernel_rfl) (by kernel_rfl) (fun _ _ _ h => h) (Or.inl ⟨by rfl, ?_⟩) (by assumption) ?_; rotate_left; (focus (intro w hSw; (try dsimp only at hSw); go_simp; all_goals (with_reducible rfl)))) | refine wpAnyH_take (i := 7) (oi := { dst := some 42, op := Op.load 23 (Operand.tmp 9), type := 23, pos := "law.go:50", after := #[{ on := 5, ground := Ground.guard }], guard := some (5, true) }) (v := undef) rfl (by kernel_rfl) (by kernel_rfl) (by kernel_rfl) (fun _ _ _ h => h) (Or.inr ⟨by rfl, rfl⟩) (by assumption) ?_
  try simp only [Act.put, List.setIfInBounds_toArray, List.set_cons_zero, List.set_cons_succ]
  first | (refine wpAnyH_take (i := 8) (oi := { dst := some 43, op := Op.binOp BinOp.eql 23 (Operand.tmp 41) (Operand.tmp 42) 23, type := 4, pos := "law.go:50", after := #[{ on := 6, ground := Ground.data }, { on := 7, ground := Ground.data }, { on := 5, ground := Ground.guard }], guard := some (5, true) }) (v := ?_) rfl (by kernel_rfl) (by kernel_rfl) (by kernel_rfl) (fun _ _ _ h => h) (Or.inl ⟨by rfl, ?_⟩) (by assumption) ?_; rotate_left; (focus (intro w hSw; (try dsimp only at hSw); go_simp; all_goals (with_reducible rfl)))) | refine wpAnyH_take (i := 8) (oi := { dst := some 43, op := Op.binOp BinOp.eql 23 (Operand.tmp 41) (Operand.tmp 42) 23, type := 4, pos := "law.go:50", after := #[{ on := 6, ground := Ground.data }, { on := 7, ground := Ground.data }, { on := 5, ground := Ground.guard }], guard := some (5, true) }) (v := undef) rfl (by kernel_rfl) (by kernel_rfl) (by kernel_rfl) (fun _ _ _ h => h) (Or.inr ⟨by rfl, rfl⟩) (by assumption) ?_
  try simp only [Act.put, List.setIfInBounds_toArray, List.set_cons_zero, List.set_cons_succ]
  refine wpAnyH_take (i := 9) (oi := { dst := some 44, op := Op.pick (Operand.tmp 40) (Operand.tmp 43) (Operand.const (Value.bool false)), type := 4, pos := "law.go:50", after := #[{ on := 5, ground := Ground.data }, { on := 8, ground := Ground.data }], guard := none }) (v := ?_) rfl (by kernel_rfl) (by kernel_rfl) (by kernel_rfl) (fun _ _ _ h => h) (Or.inl ⟨by rfl, ?_⟩) (by assumption) ?_; rotate_left; (focus (intro w hSw; (try dsimp only at hSw); go_simp; all_goals (with_reducible rfl)))
  try simp only [Act.put, List.setIfInBounds_toArray, List.set_cons_zero, List.set_cons_succ]
  refine wpAnyH_take (i := 10) (oi := { dst := some 45, op := Op.move (Operand.tmp 44), type := 4, pos := "law.go:50", after := #[{ on := 9, ground := Ground.data }, { on := 5, ground := Ground.chain }], guard := none }) (v := ?_) rfl (by kernel_rfl) (by kernel_rfl) (by kernel_rfl) (fun _ _ _ h => h) (Or.inl ⟨by rfl, ?_⟩) (by assumption) ?_; rotate_left; (focus (intro w hSw; (try dsimp only at hSw); go_simp; all_goals (with_reducible rfl)))
  try simp only [Act.put, List.setIfInBounds_toArray, List.set_cons_zero, List.set_cons_succ]
  first | (refine wpAnyH_take (i := 11) (oi := { dst := some 46, op := Op.move (Operand.tmp 6), type := 39, pos := "law.go:50", after := #[{ on := 10, ground := Ground.guard }], guard := some (10, true) }) (v := ?_) rfl (by kernel_rfl) (by kernel_rfl) (by kernel_rfl) (fun _ _ _ h => h) (Or.inl ⟨by rfl, ?_⟩) (by assumption) ?_; rotate_left; (focus (intro w hSw; (try dsimp only at hSw); go_simp; all_goals (with_reducible rfl)))) | refine wpAnyH_take (i := 11) (oi := { dst := some 46, op := Op.move (Operand.tmp 6), type := 39, pos := "law.go:50", after := #[{ on := 10, ground := Ground.guard }], guard := some (10, true) }) (v := undef) rfl (by kernel_rfl) (by kernel_rfl) (by kernel_rfl) (fun _ _ _ h => h) (Or.inr ⟨by rfl, rfl⟩) (by assumption) ?_
  try simp only [Act.put, List.setIfInBounds_toArray, List.set_cons_zero, List.set_cons_succ]
  first | (refine wpAnyH_take (i := 13) (oi := { dst := some 48, op := Op.move (Operand.tmp 7), type := 41, pos := "law.go:50", after := #[{ on := 10, ground := Ground.guard }], guard := some (10, true) }) (v := ?_) rfl (by kernel_rfl) (by kernel_rfl) (by kernel_rfl) (fun _ _ _ h => h) (Or.inl ⟨by rfl, ?_⟩) (by assumption) ?_; rotate_left; (focus (intro w hSw; (try dsimp only at hSw); go_simp; all_goals (with_reducible rfl)))) | refine wpAnyH_take (i := 13) (oi := { dst := some 48, op := Op.move (Operand.tmp 7), type := 41, pos := "law.go:50", after := #[{ on := 10, ground := Ground.guard }], guard := some (10, true) }) (v := undef) rfl (by kernel_rfl) (by kernel_rfl) (by kernel_rfl) (fun _ _ _ h => h) (Or.inr ⟨by rfl, rfl⟩) (by assumption) ?_
  try simp only [Act.put, List.setIfInBounds_toArray, List.set_cons_zero, List.set_cons_succ]
  first | (refine wpAnyH_take (i := 14) (oi := { dst := some 49, op := Op.nilCheck (Operand.tmp 48), type := 0, pos := "law.go:50", after := #[{ on := 13, ground := Ground.data }, { on := 10, ground := Ground.guard }], guard := some (10, true) }) (v := ?_) rfl (by kernel_rfl) (by kernel_rfl) (by kernel_rfl) (fun _ _ _ h => h) (Or.inl ⟨by rfl, ?_⟩) (by assumption) ?_; rotate_left; (focus (intro w hSw; (try dsimp only at hSw); go_simp; all_goals (with_reducible rfl)))) | refine wpAnyH_take (i := 14) (oi := { dst := some 49, op := Op.nilCheck (Operand.tmp 48), type := 0, pos := "law.go:50", after := #[{ on := 13, ground := Ground.data }, { on := 10, ground := Ground.guard }], guard := some (10, true) }) (v := undef) rfl (by kernel_rfl) (by kernel_rfl) (by kernel_rfl) (fun _ _ _ h => h) (Or.inr ⟨by rfl, rfl⟩) (by assumption) ?_
  try simp only [Act.put, List.setIfInBounds_toArray, List.set_cons_zero, List.set_cons_succ]
  first | (refine wpAnyH_take (i := 15) (oi := { dst := some 50, op := Op.fieldAddr 43 (Operand.tmp 49) 1, type := 0, pos := "law.go:50", after := #[{ on := 14, ground := Ground.data }, { on := 10, ground := Ground.guard }], guard := some (10, true) }) (v := ?_) rfl (by kernel_rfl) (by kernel_rfl) (by kernel_rfl) (fun _ _ _ h => h) (Or.inl ⟨by rfl, ?_⟩) (by assumption) ?_; rotate_left; (focus (intro w hSw; (try dsimp only at hSw); go_simp; all_goals (with_reducible rfl)))) | refine wpAnyH_take (i := 15) (oi := { dst := some 50, op := Op.fieldAddr 43 (Operand.tmp 49) 1, type := 0, pos := "law.go:50", after := #[{ on := 14, ground := Ground.data }, { on := 10, ground := Ground.guard }], guard := some (10, true) }) (v := undef) rfl (by kernel_rfl) (by kernel_rfl) (by kernel_rfl) (fun _ _ _ h => h) (Or.inr ⟨by rfl, rfl⟩) (by assumption) ?_
  try simp only [Act.put, List.setIfInBounds_toArray, List.set_cons_zero, List.set_cons_succ]
  first | (refine wpAnyH_take (i := 16) (oi := { dst := some 51, op := Op.load 26 (Operand.tmp 50), type := 26, pos := "law.go:50", after := #[{ on := 15, ground := Ground.data }, { on := 10, ground := Ground.guard }], guard := some (10, true) }) (v := ?_) rfl (by kernel_rfl) (by kernel_rfl) (by kernel_rfl) (fun _ _ _ h => h) (Or.inl ⟨by rfl, ?_⟩) (by assumption) ?_; rotate_left; (focus (intro w hSw; (try dsimp only at hSw); go_simp; all_goals (with_reducible rfl)))) | refine wpAnyH_take (i := 16) (oi := { dst := some 51, op := Op.load 26 (Operand.tmp 50), type := 26, pos := "law.go:50", after := #[{ on := 15, ground := Ground.data }, { on := 10, ground := Ground.guard }], guard := some (10, true) }) (v := undef) rfl (by kernel_rfl) (by kernel_rfl) (by kernel_rfl) (fun _ _ _ h => h) (Or.inr ⟨by rfl, rfl⟩) (by assumption) ?_
  try simp only [Act.put, List.setIfInBounds_toArray, List.set_cons_zero, List.set_cons_succ]
  refine wpAnyH_ready (rs := [12]) (by kernel_rfl) (by simp) ?_
  refine AllReadyH.cons (o := { dst := some 47, op := Op.call { callee := Callee.value (Operand.func 23), args := #[Operand.tmp 46], argTypes := #[39] }, type := 26, pos := "law.go:50", after := #[{ on := 11, ground := Ground.data }, { on := 10, ground := Ground.chain }, { on := 10, ground := Ground.guard }], guard := some (10, true) }) rfl (fun K hK => ?_) AllReadyH.nil
  go_simp
  refine (Pk.err_any w4.heap.size s2 e2 _ T2.out.r).mono ?_
  rintro e w13 ⟨rfl, rfl⟩
  have hKeep := T2.out.facts
  go_wp2_with fail
  refine hK.out _ _ ?_ (fun hHeld => ?_)
  · exact hKeep
  clear hK K
  try simp only [Act.put, List.setIfInBounds_toArray, List.set_cons_zero, List.set_cons_succ]
  first | (refine wpAnyH_take (i := 17) (oi := { dst := some 52, op := Op.binOp BinOp.eql 26 (Operand.tmp 47) (Operand.tmp 51) 26, type := 4, pos := "law.go:50", after := #[{ on := 12, ground := Ground.data }, { on := 16, ground := Ground.data }, { on := 10, ground := Ground.guard }], guard := some (10, true) }) (v := ?_) rfl (by kernel_rfl) (by kernel_rfl) (by kernel_rfl) (fun _ _ _ h => h) (Or.inl ⟨by rfl, ?_⟩) (by assumption) ?_; rotate_left; (focus (intro w hSw; (try dsimp only at hSw); go_simp; all_goals (with_reducible rfl)))) | refine wpAnyH_take (i := 17) (oi := { dst := some 52, op := Op.binOp BinOp.eql 26 (Operand.tmp 47) (Operand.tmp 51) 26, type := 4, pos := "law.go:50", after := #[{ on := 12, ground := Ground.data }, { on := 16, ground := Ground.data }, { on := 10, ground := Ground.guard }], guard := some (10, true) }) (v := undef) rfl (by kernel_rfl) (by kernel_rfl) (by kernel_rfl) (fun _ _ _ h => h) (Or.inr ⟨by rfl, rfl⟩) (by assumption) ?_
  try simp only [Act.put, List.setIfInBounds_toArray, List.set_cons_zero, List.set_cons_succ]
  refine wpAnyH_take (i := 18) (oi := { dst := some 53, op := Op.pick (Operand.tmp 45) (Operand.tmp 52) (Operand.const (Value.bool false)), type := 4, pos := "law.go:50", after := #[{ on := 10, ground := Ground.data }, { on := 17, ground := Ground.data }], guard := none }) (v := ?_) rfl (by kernel_rfl) (by kernel_rfl) (by kernel_rfl) (fun _ _ _ h => h) (Or.inl ⟨by rfl, ?_⟩) (by assumption) ?_; rotate_left; (focus (intro w hSw; (try dsimp only at hSw); go_simp; all_goals (with_reducible rfl)))
  try simp only [Act.put, List.setIfInBounds_toArray, List.set_cons_zero, List.set_cons_succ]
  refine wpAnyH_take (i := 19) (oi := { dst := some 54, op := Op.move (Operand.tmp 53), type := 4, pos := "law.go:50", after := #[{ on := 18, ground := Ground.data }, { on := 12, ground := Ground.chain }], guard := none }) (v := ?_) rfl (by kernel_rfl) (by kernel_rfl) (by kernel_rfl) (fun _ _ _ h => h) (Or.inl ⟨by rfl, ?_⟩) (by assumption) ?_; rotate_left; (focus (intro w hSw; (try dsimp only at hSw); go_simp; all_goals (with_reducible rfl)))
  try simp only [Act.put, List.setIfInBounds_toArray, List.set_cons_zero, List.set_cons_succ]
  first | (refine wpAnyH_take (i := 20) (oi := { dst := some 55, op := Op.move (Operand.tmp 6), type := 39, pos := "law.go:50", after := #[{ on := 19, ground := Ground.guard }], guard := some (19, true) }) (v := ?_) rfl (by kernel_rfl) (by kernel_rfl) (by kernel_rfl) (fun _ _ _ h => h) (Or.inl ⟨by rfl, ?_⟩) (by assumption) ?_; rotate_left; (focus (intro w hSw; (try dsimp only at hSw); go_simp; all_goals (with_reducible rfl)))) | refine wpAnyH_take (i := 20) (oi := { dst := some 55, op := Op.move (Operand.tmp 6), type := 39, pos := "law.go:50", after := #[{ on := 19, ground := Ground.guard }], guard := some (19, true) }) (v := undef) rfl (by kernel_rfl) (by kernel_rfl) (by kernel_rfl) (fun _ _ _ h => h) (Or.inr ⟨by rfl, rfl⟩) (by assumption) ?_
  try simp only [Act.put, List.setIfInBounds_toArray, List.set_cons_zero, List.set_cons_succ]
  first | (refine wpAnyH_take (i := 22) (oi := { dst := some 57, op := Op.move (Operand.tmp 7), type := 41, pos := "law.go:50", after := #[{ on := 19, ground := Ground.guard }], guard := some (19, true) }) (v := ?_) rfl (by kernel_rfl) (by kernel_rfl) (by kernel_rfl) (fun _ _ _ h => h) (Or.inl ⟨by rfl, ?_⟩) (by assumption) ?_; rotate_left; (focus (intro w hSw; (try dsimp only at hSw); go_simp; all_goals (with_reducible rfl)))) | refine wpAnyH_take (i := 22) (oi := { dst := some 57, op := Op.move (Operand.tmp 7), type := 41, pos := "law.go:50", after := #[{ on := 19, ground := Ground.guard }], guard := some (19, true) }) (v := undef) rfl (by kernel_rfl) (by kernel_rfl) (by kernel_rfl) (fun _ _ _ h => h) (Or.inr ⟨by rfl, rfl⟩) (by assumption) ?_
  try simp only [Act.put, List.setIfInBounds_toArray, List.set_cons_zero, List.set_cons_succ]
  first | (refine wpAnyH_take (i := 23) (oi := { dst := some 58, op := Op.nilCheck (Operand.tmp 57), type := 0, pos := "law.go:50", after := #[{ on := 22, ground := Ground.data }, { on := 19, ground := Ground.guard }], guard := some (19, true) }) (v := ?_) rfl (by kernel_rfl) (by kernel_rfl) (by kernel_rfl) (fun _ _ _ h => h) (Or.inl ⟨by rfl, ?_⟩) (by assumption) ?_; rotate_left; (focus (intro w hSw; (try dsimp only at hSw); go_simp; all_goals (with_reducible rfl)))) | refine wpAnyH_take (i := 23) (oi := { dst := some 58, op := Op.nilCheck (Operand.tmp 57), type := 0, pos := "law.go:50", after := #[{ on := 22, ground := Ground.data }, { on := 19, ground := Ground.guard }], guard := some (19, true) }) (v := undef) rfl (by kernel_rfl) (by kernel_rfl) (by kernel_rfl) (fun _ _ _ h => h) (Or.inr ⟨by rfl, rfl⟩) (by assumption) ?_
  try simp only [Act.put, List.setIfInBounds_toArray, List.set_cons_zero, List.set_cons_succ]
  first | (refine wpAnyH_take (i := 24) (oi := { dst := some 59, op := Op.fieldAddr 43 (Operand.tmp 58) 0, type := 0, pos := "law.go:50", after := #[{ on := 23, ground := Ground.data }, { on := 19, ground := Ground.guard }], guard := some (19, true) }) (v := ?_) rfl (by kernel_rfl) (by kernel_rfl) (by kernel_rfl) (fun _ _ _ h => h) (Or.inl ⟨by rfl, ?_⟩) (by assumption) ?_; rotate_left; (focus (intro w hSw; (try dsimp only at hSw); go_simp; all_goals (with_reducible rfl)))) | refine wpAnyH_take (i := 24) (oi := { dst := some 59, op := Op.fieldAddr 43 (Operand.tmp 58) 0, type := 0, pos := "law.go:50", after := #[{ on := 23, ground := Ground.data }, { on := 19, ground := Ground.guard }], guard := some (19, true) }) (v := undef) rfl (by kernel_rfl) (by kernel_rfl) (by kernel_rfl) (fun _ _ _ h => h) (Or.inr ⟨by rfl, rfl⟩) (by assumption) ?_
  try simp only [Act.put, List.setIfInBounds_toArray, List.set_cons_zero, List.set_cons_succ]
  first | (refine wpAnyH_take (i := 25) (oi := { dst := some 60, op := Op.load 9 (Operand.tmp 59), type := 9, pos := "law.go:50", after := #[{ on := 24, ground := Ground.data }, { on := 19, ground := Ground.guard }], guard := some (19, true) }) (v := ?_) rfl (by kernel_rfl) (by kernel_rfl) (by kernel_rfl) (fun _ _ _ h => h) (Or.inl ⟨by rfl, ?_⟩) (by assumption) ?_; rotate_left; (focus (intro w hSw; (try dsimp only at hSw); go_simp; all_goals (with_reducible rfl)))) | refine wpAnyH_take (i := 25) (oi := { dst := some 60, op := Op.load 9 (Operand.tmp 59), type := 9, pos := "law.go:50", after := #[{ on := 24, ground := Ground.data }, { on := 19, ground := Ground.guard }], guard := some (19, true) }) (v := undef) rfl (by kernel_rfl) (by kernel_rfl) (by kernel_rfl) (fun _ _ _ h => h) (Or.inr ⟨by rfl, rfl⟩) (by assumption) ?_
  try simp only [Act.put, List.setIfInBounds_toArray, List.set_cons_zero, List.set_cons_succ]
  first | (refine wpAnyH_take (i := 26) (oi := { dst := some 61, op := Op.call { callee := Callee.builtin Builtin.len, args := #[Operand.tmp 60], argTypes := #[9] }, type := 3, pos := "law.go:50", after := #[{ on := 25, ground := Ground.data }, { on := 19, ground := Ground.guard }], guard := some (19, true) }) (v := ?_) rfl (by kernel_rfl) (by kernel_rfl) (by kernel_rfl) (fun _ _ _ h => h) (Or.inl ⟨by rfl, ?_⟩) (by assumption) ?_; rotate_left; (focus (intro w hSw; (try dsimp only at hSw); go_simp; all_goals (with_reducible rfl)))) | refine wpAnyH_take (i := 26) (oi := { dst := some 61, op := Op.call { callee := Callee.builtin Builtin.len, args := #[Operand.tmp 60], argTypes := #[9] }, type := 3, pos := "law.go:50", after := #[{ on := 25, ground := Ground.data }, { on := 19, ground := Ground.guard }], guard := some (19, true) }) (v := undef) rfl (by kernel_rfl) (by kernel_rfl) (by kernel_rfl) (fun _ _ _ h => h) (Or.inr ⟨by rfl, rfl⟩) (by assumption) ?_
  try simp only [Act.put, List.setIfInBounds_toArray, List.set_cons_zero, List.set_cons_succ]
  refine wpAnyH_ready (rs := [21]) (by kernel_rfl) (by simp) ?_
  refine AllReadyH.cons (o := { dst := some 56, op := Op.call { callee := Callee.value (Operand.func 24), args := #[Operand.tmp 55], argTypes := #[39] }, type := 3, pos := "law.go:50", after := #[{ on := 20, ground := Ground.data }, { on := 19, ground := Ground.chain }, { on := 19, ground := Ground.guard }], guard := some (19, true) }) rfl (fun K hK => ?_) AllReadyH.nil
  go_simp
  refine (Pk.left_any w4.heap.size s2 e2 _ T2.out.r).mono ?_
  rintro e w13 ⟨rfl, rfl⟩
  have hKeep := T2.out.facts
  go_wp2_with fail
  refine hK.out _ _ ?_ (fun hHeld => ?_)
  · exact hKeep
  clear hK K
  try simp only [Act.put, List.setIfInBounds_toArray, List.set_cons_zero, List.set_cons_succ]
  first | (refine wpAnyH_take (i := 27) (oi := { dst := some 62, op := Op.binOp BinOp.eql 3 (Operand.tmp 56) (Operand.tmp 61) 3, type := 4, pos := "law.go:50", after := #[{ on := 21, ground := Ground.data }, { on := 26, ground := Ground.data }, { on := 19, ground := Ground.guard }], guard := some (19, true) }) (v := ?_) rfl (by kernel_rfl) (by kernel_rfl) (by kernel_rfl) (fun _ _ _ h => h) (Or.inl ⟨by rfl, ?_⟩) (by assumption) ?_; rotate_left; (focus (intro w hSw; (try dsimp only at hSw); go_simp; all_goals (with_reducible rfl)))) | refine wpAnyH_take (i := 27) (oi := { dst := some 62, op := Op.binOp BinOp.eql 3 (Operand.tmp 56) (Operand.tmp 61) 3, type := 4, pos := "law.go:50", after := #[{ on := 21, ground := Ground.data }, { on := 26, ground := Ground.data }, { on := 19, ground := Ground.guard }], guard := some (19, true) }) (v := undef) rfl (by kernel_rfl) (by kernel_rfl) (by kernel_rfl) (fun _ _ _ h => h) (Or.inr ⟨by rfl, rfl⟩) (by assumption) ?_
  try simp only [Act.put, List.setIfInBounds_toArray, List.set_cons_zero, List.set_cons_succ]
  refine wpAnyH_take (i := 28) (oi := { dst := some 63, op := Op.pick (Operand.tmp 54) (Operand.tmp 62) (Operand.const (Value.bool false)), type := 4, pos := "law.go:50", after := #[{ on := 19, ground := Ground.data }, { on := 27, ground := Ground.data }], guard := none }) (v := ?_) rfl (by kernel_rfl) (by kernel_rfl) (by kernel_rfl) (fun _ _ _ h => h) (Or.inl ⟨by rfl, ?_⟩) (by assumption) ?_; rotate_left; (focus (intro w hSw; (try dsimp only at hSw); go_simp; all_goals (with_reducible rfl)))
  try simp only [Act.put, List.setIfInBounds_toArray, List.set_cons_zero, List.set_cons_succ]
  refine wpAnyH_take (i := 29) (oi := { dst := some 64, op := Op.move (Operand.tmp 63), type := 4, pos := "law.go:50", after := #[{ on := 28, ground := Ground.data }, { on := 21, ground := Ground.chain }], guard := none }) (v := ?_) rfl (by kernel_rfl) (by kernel_rfl) (by kernel_rfl) (fun _ _ _ h => h) (Or.inl ⟨by rfl, ?_⟩) (by assumption) ?_; rotate_left; (focus (intro w hSw; (try dsimp only at hSw); go_simp; all_goals (with_reducible rfl)))
  try simp only [Act.put, List.setIfInBounds_toArray, List.set_cons_zero, List.set_cons_succ]
  refine wpAnyH_ready (rs := [30]) (by kernel_rfl) (by simp) ?_
  refine AllReadyH.cons (o := { dst := some 65, op := Op.call { callee := Callee.value (Operand.func 7), args := #[], argTypes := #[] }, type := 4, pos := "law.go:50", after := #[{ on := 29, ground := Ground.chain }, { on := 29, ground := Ground.guard }], guard := some (29, true) }) rfl (fun K hK => ?_) AllReadyH.nil
  go_simp
  refine (awake_any _).mono ?_
  rintro e w14 ⟨rfl, b⟩
  have T3 := Lib.hid (T2.out.later b)
  have hKeep := T3.out.facts
  clear b
  go_wp2_with fail
  refine hK.out _ _ ?_ (fun hHeld => ?_)
  · exact hKeep
  clear hK K
  try simp only [Act.put, List.setIfInBounds_toArray, List.set_cons_zero, List.set_cons_succ]
  refine wpAnyH_take (i := 31) (oi := { dst := some 66, op := Op.pick (Operand.tmp 64) (Operand.tmp 65) (Operand.const (Value.bool false)), type := 4, pos := "law.go:50", after := #[{ on := 29, ground := Ground.data }, { on := 30, ground := Ground.data }], guard := none }) (v := ?_) rfl (by kernel_rfl) (by kernel_rfl) (by kernel_rfl) (fun _ _ _ h => h) (Or.inl ⟨by rfl, ?_⟩) (by assumption) ?_; rotate_left; (focus (intro w hSw; (try dsimp only at hSw); go_simp; all_goals (with_reducible rfl)))
  try simp only [Act.put, List.setIfInBounds_toArray, List.set_cons_zero, List.set_cons_succ]
  refine wpAnyH_take (i := 32) (oi := { dst := some 4, op := Op.assign (Operand.tmp 66), type := 4, pos := "law.go:50", after := #[{ on := 31, ground := Ground.data }, { on := 30, ground := Ground.chain }, { on := 0, ground := Ground.phase }, { on := 1, ground := Ground.phase }, { on := 2, ground := Ground.phase }, { on := 3, ground := Ground.phase }, { on := 4, ground := Ground.phase }, { on := 5, ground := Ground.phase }, { on := 6, ground := Ground.phase }, { on := 7, ground := Ground.phase }, { on := 8, ground := Ground.phase }, { on := 9, ground := Ground.phase }, { on := 10, ground := Ground.phase }, { on := 11, ground := Ground.phase }, { on := 12, ground := Ground.phase }, { on := 13, ground := Ground.phase }, { on := 14, ground := Ground.phase }, { on := 15, ground := Ground.phase }, { on := 16, ground := Ground.phase }, { on := 17, ground := Ground.phase }, { on := 18, ground := Ground.phase }, { on := 19, ground := Ground.phase }, { on := 20, ground := Ground.phase }, { on := 21, ground := Ground.phase }, { on := 22, ground := Ground.phase }, { on := 23, ground := Ground.phase }, { on := 24, ground := Ground.phase }, { on := 25, ground := Ground.phase }, { on := 26, ground := Ground.phase }, { on := 27, ground := Ground.phase }, { on := 28, ground := Ground.phase }, { on := 29, ground := Ground.phase }, { on := 30, ground := Ground.phase }, { on := 31, ground := Ground.phase }], guard := none }) (v := ?_) rfl (by kernel_rfl) (by kernel_rfl) (by kernel_rfl) (fun _ _ _ h => h) (Or.inl ⟨by rfl, ?_⟩) (by assumption) ?_; rotate_left; (focus (intro w hSw; (try dsimp only at hSw); go_simp; all_goals (with_reducible rfl)))
  try simp only [Act.put, List.setIfInBounds_toArray, List.set_cons_zero, List.set_cons_succ]
  refine wpAnyH_done (by kernel_rfl) ?_ _
  clear hHeld hStart
  go_wp2_with fail
  go_ret
  exact ⟨rfl, T3.out.below⟩
end Go.Proofs.Ytlcalemjhahdpaa.Cd
