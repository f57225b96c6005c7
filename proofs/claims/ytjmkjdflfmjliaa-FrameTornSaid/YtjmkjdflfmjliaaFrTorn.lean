/- The walk of the third law of frames: what is put is taken as it was; cut off anywhere it is too short. -/
import Derived.Test.YtjmkjdflfmjliaaFrIs
namespace Go.Proofs.Ytjmkjdflfmjliaa.Fr
open Go.RowKit

set_option maxHeartbeats 4000000 in
set_option maxRecDepth 100000 in
theorem torn_ok (q : Nat) (d more : ByteArray) (cut : Nat) (hcut : cut < 65536) (q1 : 1 ≤ q) (q2 : q < 9223372036854775808) (hd : d.size ≤ 200) (hm : more.size ≤ 200) (w : World) :
    Calls Try.prog 5 #[.agg #[.int .i64 q, .string d], .string more, .int .u16 cut] w fun e w' => e = .returned (.bool true) ∧ Below w.heap.size w w' := by
  have d1 : decide (200 < (d.size : Int)) = false := by simp; omega
  have d2 : decide (200 < (more.size : Int)) = false := by simp; omega
  have d3 : decide ((q : Int) < 1) = false := by simp; omega
  have hs := fbS_size q d
  have P := Lib.hid (fput_ok q d q1 q2 (by omega))
  have T1 := ftake_any (fbS q d ++ more) (by rw [ByteArray.size_append]; omega)
  rw [tk_fb q d more q1 q2 (by omega), ← hs] at T1
  unfold TkV at T1
  have HT1 := Lib.hid T1
  clear T1
  have hc : cut % (fbS q d).size < 16 + d.size := by rw [hs]; exact Nat.mod_lt _ (by omega)
  have T2 := ftake_any ((fbS q d).extract 0 (cut % (fbS q d).size)) (by rw [ByteArray.size_extract]; omega)
  rw [tk_cut q d _ hc (by omega)] at T2
  unfold TkV no at T2
  have HT2 := Lib.hid T2
  clear T2
  rw [← hs] at hc
  have hk : (cut : Int) % ((fbS q d).size : Int) = ((cut % (fbS q d).size : Nat) : Int) := (Int.natCast_emod _ _).symm
  have d4 : (((fbS q d).size : Int) != 16 + (d.size : Int)) = false := by rw [hs]; simp
  have d5 : 0 < (fbS q d).size := by omega
  have d6 : (fbS q d).size ≤ 1000 := by omega
  generalize cut % (fbS q d).size = c at *
  generalize fbS q d = F at *
  have HS := Lib.hid hs
  clear hs
  have X0 := Lib.hid (Bx.start w 27 (.int .i64 q) (.string d))
  have B0 := Lib.hid ((Below.refl _ w).alloc (Nat.le_refl _) (.cells #[.int .i64 q, .string d] 27))
  go_enter Try.func5, Try.ntmps5
  go_wp2_with fail
  refine (P.out _).mono ?_
  rintro e w1 ⟨rfl, b1⟩
  have B1 := Lib.hid (B0.out.trans (b1.mono B0.out.size))
  have X1 := Lib.hid (X0.out.later b1)
  have c0 := X1.out.c0
  have c1 := X1.out.c1
  clear b1
  go_wp2_with fail
  refine (HT1.out w1).mono ?_
  rintro e w2 ⟨rfl, b2⟩
  have B2 := Lib.hid ((B1.out.trans (b2.mono B1.out.size)).alloc (by have := B1.out.size; have := b2.size; omega) (.cells #[.int .i64 q, .string d] 27))
  have X2 := Lib.hid (X1.out.later (b2.alloc b2.size (.cells #[.int .i64 q, .string d] 27)))
  have Y2 := Lib.hid (Bx.start w2 27 (.int .i64 q) (.string d))
  clear b2 c0 c1
  go_wp2_with fail
  refine (HT2.out _).mono ?_
  rintro e w3 ⟨rfl, b3⟩
  have B3 := Lib.hid ((B2.out.trans (b3.mono B2.out.size)).alloc (by have := B2.out.size; have := b3.size; omega) (.cells #[.int .i64 0, .string ⟨#[]⟩] 27))
  have hb3 := b3.alloc b3.size (.cells #[.int .i64 0, .string ⟨#[]⟩] 27)
  have x0 := (X2.out.later hb3).c0
  have x1 := (X2.out.later hb3).c1
  have y0 := (Y2.out.later hb3).c0
  have y1 := (Y2.out.later hb3).c1
  clear b3 hb3
  go_wp2_with fail
  refine (awake_any _).mono ?_
  rintro e w4 ⟨rfl, b4⟩
  have B4 := Lib.hid (B3.out.trans (b4.mono B3.out.size))
  clear b4
  go_wp2_with fail
  go_ret
  exact ⟨rfl, B4.out⟩

set_option maxHeartbeats 800000 in
set_option maxRecDepth 100000 in
theorem torn_arg (q : Int) (d more : ByteArray) (cut : Int) (q1 : q < 1) (hd : d.size ≤ 200) (hm : more.size ≤ 200) (w : World) :
    Calls Try.prog 5 #[.agg #[.int .i64 q, .string d], .string more, .int .u16 cut] w fun e w' => e = .returned (.bool true) ∧ Below w.heap.size w w' := by
  have d1 : decide (200 < (d.size : Int)) = false := by simp; omega
  have d2 : decide (200 < (more.size : Int)) = false := by simp; omega
  have d3 : decide (q < 1) = true := by simp; omega
  have P := fput_any q d (by omega) (by omega)
  have hp : pt q d = (⟨#[]⟩, 1) := by unfold pt; rw [if_pos q1]
  rw [hp] at P
  have HP := Lib.hid P
  clear P hp
  have X0 := Lib.hid (Bx.start w 27 (.int .i64 q) (.string d))
  have B0 := Lib.hid ((Below.refl _ w).alloc (Nat.le_refl _) (.cells #[.int .i64 q, .string d] 27))
  go_enter Try.func5, Try.ntmps5
  go_wp2_with fail
  refine (HP.out _).mono ?_
  rintro e w1 ⟨rfl, b1⟩
  have B1 := Lib.hid (B0.out.trans (b1.mono B0.out.size))
  have X1 := Lib.hid (X0.out.later b1)
  have c0 := X1.out.c0
  have c1 := X1.out.c1
  clear b1
  go_wp2_with fail
  refine (awake_any _).mono ?_
  rintro e w4 ⟨rfl, b4⟩
  have B4 := Lib.hid (B1.out.trans (b4.mono B1.out.size))
  clear b4
  go_wp2_with fail
  go_ret
  exact ⟨rfl, B4.out⟩

set_option maxHeartbeats 800000 in
set_option maxRecDepth 100000 in
theorem torn_out (q : Int) (d more : ByteArray) (cut : Int) (h : 200 < d.size ∨ 200 < more.size) (w : World) :
    Calls Try.prog 5 #[.agg #[.int .i64 q, .string d], .string more, .int .u16 cut] w fun e w' => e = .returned (.bool true) ∧ Below w.heap.size w w' := by
  have B0 := Lib.hid ((Below.refl _ w).alloc (Nat.le_refl _) (.cells #[.int .i64 q, .string d] 27))
  by_cases h1 : 200 < d.size
  · have d1 : decide (200 < (d.size : Int)) = true := by simp; omega
    clear h
    go_enter Try.func5, Try.ntmps5
    go_wp2_with fail
    refine (awake_any _).mono ?_
    rintro e w1 ⟨rfl, b1⟩
    have B1 := Lib.hid (B0.out.trans (b1.mono B0.out.size))
    clear b1
    go_wp2_with fail
    go_ret
    exact ⟨rfl, B1.out⟩
  · have d1 : decide (200 < (d.size : Int)) = false := by simp; omega
    have d2 : decide (200 < (more.size : Int)) = true := by simp; omega
    clear h
    go_enter Try.func5, Try.ntmps5
    go_wp2_with fail
    refine (awake_any _).mono ?_
    rintro e w1 ⟨rfl, b1⟩
    have B1 := Lib.hid (B0.out.trans (b1.mono B0.out.size))
    clear b1
    go_wp2_with fail
    go_ret
    exact ⟨rfl, B1.out⟩

theorem torn_all (q : Int) (d more : ByteArray) (cut : Int) (q2 : q < 9223372036854775808) (h0 : 0 ≤ cut) (h6 : cut < 65536) (w : World) :
    Calls Try.prog 5 #[.agg #[.int .i64 q, .string d], .string more, .int .u16 cut] w fun e w' => e = .returned (.bool true) ∧ Below w.heap.size w w' := by
  by_cases h : 200 < d.size ∨ 200 < more.size
  · exact torn_out q d more cut h w
  · by_cases h1 : q < 1
    · exact torn_arg q d more cut h1 (by omega) (by omega) w
    · obtain ⟨n, rfl⟩ := Int.eq_ofNat_of_zero_le (show 0 ≤ q by omega)
      obtain ⟨c, rfl⟩ := Int.eq_ofNat_of_zero_le h0
      exact torn_ok n d more c (by omega) (by omega) (by omega) (by omega) (by omega) w
end Go.Proofs.Ytjmkjdflfmjliaa.Fr
