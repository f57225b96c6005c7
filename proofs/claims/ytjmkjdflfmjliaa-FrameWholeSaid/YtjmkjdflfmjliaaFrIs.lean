/- The walk of the first law of frames: the program's answers are the document's. -/
import Derived.Test.YtjmkjdflfmjliaaFrAwake
namespace Go.Proofs.Ytjmkjdflfmjliaa.Fr
open Go.RowKit

theorem wf64 {n : Int} (h : (Lit.int .i64 n).wf = true) : -9223372036854775808 ≤ n ∧ n ≤ 9223372036854775807 := by
  simp [Lit.wf, IntKind.min, IntKind.max, IntKind.signed, IntKind.bits] at h
  omega

set_option maxHeartbeats 4000000 in
set_option maxRecDepth 100000 in
theorem is_any (q : Int) (d s : ByteArray) (q2 : q < 9223372036854775808) (hd : d.size ≤ 200) (hs : s.size ≤ 1024) (w : World) :
    Calls Try.prog 3 #[.int .i64 q, .string d, .string s] w fun e w' => e = .returned (.bool true) ∧ Below w.heap.size w w' := by
  have d1 : decide (200 < (d.size : Int)) = false := by simp; omega
  have d2 : decide (1024 < (s.size : Int)) = false := by simp; omega
  have hN := fs_len s
  have P1 := Lib.hid (fput_any q d q2 (by omega))
  have P2 := Lib.hid (rput_any q d q2 (by omega))
  have T1 := ftake_any s (by omega)
  have T2 := rtake_any s (by omega)
  unfold TkV at T1 T2
  have A1 := Lib.hid (fall_any s (by omega))
  have A2 := Lib.hid (rall_any s (by omega))
  have T1 := Lib.hid T1
  have T2 := Lib.hid T2
  have ht := tk_err s
  generalize pt q d = p at *
  generalize tk s = t at *
  generalize er s = er at *
  generalize pos (fs s) = po at *
  generalize hfs : fs s = l at *
  clear hfs
  obtain ⟨ps, pe⟩ := p
  obtain ⟨⟨tq, td⟩, tn, te⟩ := t
  go_enter Try.func3, Try.ntmps3
  go_wp2_with fail
  refine (P1.out w).mono ?_
  rintro e w1 ⟨rfl, b1⟩
  go_wp2_with fail
  refine (P2.out w1).mono ?_
  rintro e w2 ⟨rfl, b2⟩
  have B2 := Lib.hid (b1.trans (b2.mono b1.size))
  clear b1 b2
  go_wp2_with fail
  refine (T1.out w2).mono ?_
  rintro e w3 ⟨rfl, b3⟩
  have B3 := Lib.hid ((B2.out.trans (b3.mono B2.out.size)).alloc (by have := B2.out.size; have := b3.size; omega) (.cells #[.int .i64 tq, .string td] 27))
  have X3 := Lib.hid (Bx.start w3 27 (.int .i64 tq) (.string td))
  clear b3
  go_wp2_with fail
  refine (T2.out _).mono ?_
  rintro e w4 ⟨rfl, b4⟩
  have B4 := Lib.hid ((B3.out.trans (b4.mono B3.out.size)).alloc (by have := B3.out.size; have := b4.size; omega) (.cells #[.int .i64 tq, .string td] 27))
  have X4 := Lib.hid (X3.out.later (b4.alloc b4.size (.cells #[.int .i64 tq, .string td] 27)))
  have Y4 := Lib.hid (Bx.start w4 27 (.int .i64 tq) (.string td))
  clear b4
  go_wp2_with fail
  refine (A1.out _).mono ?_
  rintro e w5 ⟨v1, rfl, own1, b5⟩
  obtain ⟨a1, c1, rfl, hc1, hm1, fr1⟩ := own_frs rfl own1
  have B5 := Lib.hid (B4.out.trans (b5.mono B4.out.size))
  have X5 := Lib.hid (X4.out.later b5)
  have Y5 := Lib.hid (Y4.out.later b5)
  have F5 := Lib.hid fr1
  clear b5 own1 fr1
  go_wp2_with fail
  refine (A2.out _).mono ?_
  rintro e w6 ⟨v2, rfl, own2, b6⟩
  obtain ⟨a2, c2, rfl, hc2, hm2, fr2⟩ := own_frs rfl own2
  have B6 := Lib.hid (B5.out.trans (b6.mono B5.out.size))
  have F6 := Lib.hid (F5.out.later b6)
  have G6 := Lib.hid fr2
  have x0 := (X5.out.later b6).c0
  have x1 := (X5.out.later b6).c1
  have y0 := (Y5.out.later b6).c0
  have y1 := (Y5.out.later b6).c1
  clear b6 own2 fr2
  go_wp2_with fail
  refine (same_any a1 a2 c1 c2 l.length l rfl (by omega) w6 F6.out G6.out).mono ?_
  rintro e w7 ⟨rfl, b7⟩
  have B7 := Lib.hid (B6.out.trans (b7.mono B6.out.size))
  clear b7
  go_wp2_with fail
  refine (awake_any w7).mono ?_
  rintro e w8 ⟨rfl, b8⟩
  have B8 := Lib.hid (B7.out.trans (b8.mono B7.out.size))
  clear b8
  go_wp2_with fail
  go_ret
  exact ⟨rfl, B8.out⟩

set_option maxHeartbeats 800000 in
set_option maxRecDepth 100000 in
theorem is_out (q : Int) (d s : ByteArray) (h : 200 < d.size ∨ 1024 < s.size) (w : World) :
    Calls Try.prog 3 #[.int .i64 q, .string d, .string s] w fun e w' => e = .returned (.bool true) ∧ Below w.heap.size w w' := by
  by_cases h1 : 200 < d.size
  · have d1 : decide (200 < (d.size : Int)) = true := by simp; omega
    clear h
    go_enter Try.func3, Try.ntmps3
    go_wp2_with fail
    refine (awake_any w).mono ?_
    rintro e w1 ⟨rfl, b1⟩
    go_wp2_with fail
    go_ret
    exact ⟨rfl, b1⟩
  · have d1 : decide (200 < (d.size : Int)) = false := by simp; omega
    have d2 : decide (1024 < (s.size : Int)) = true := by simp; omega
    clear h
    go_enter Try.func3, Try.ntmps3
    go_wp2_with fail
    refine (awake_any w).mono ?_
    rintro e w1 ⟨rfl, b1⟩
    go_wp2_with fail
    go_ret
    exact ⟨rfl, b1⟩

theorem is_all (q : Int) (d s : ByteArray) (q2 : q < 9223372036854775808) (w : World) :
    Calls Try.prog 3 #[.int .i64 q, .string d, .string s] w fun e w' => e = .returned (.bool true) ∧ Below w.heap.size w w' := by
  by_cases h : 200 < d.size ∨ 1024 < s.size
  · exact is_out q d s h w
  · exact is_any q d s q2 (by omega) (by omega) w
end Go.Proofs.Ytjmkjdflfmjliaa.Fr
