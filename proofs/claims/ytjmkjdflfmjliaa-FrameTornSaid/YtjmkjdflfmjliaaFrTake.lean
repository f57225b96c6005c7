/- The walks of Take: the program's and the document's. -/
import Derived.Test.YtjmkjdflfmjliaaFrPut
import Derived.StillTailTactics
import Derived.RegionTactic
import Derived.ChangeAlike
import Derived.BigRegion
import Derived.Deep.QuietTactic
import Derived.Deep.RegionWith
import Derived.BigQuiet
namespace Go.Proofs.Ytjmkjdflfmjliaa.Fr
open Go.RowKit

theorem byte_len' (s : ByteArray) : s.data.toList.length = s.size := by simp

set_option maxHeartbeats 800000 in
set_option maxRecDepth 100000 in
/-- a text's own bytes anew -/
theorem lite_any (s : ByteArray) (w : World) (hlim : s.size ≤ 1099511627776) :
    Calls Try.prog 31 #[.string s] w fun e w' => e = .returned (.string s) ∧ Below w.heap.size w w' := by
  by_cases h0 : s.size = 0
  · obtain rfl : s = ⟨#[]⟩ := ByteArray.ext (Array.eq_empty_of_size_eq_zero h0)
    go_enter Try.func31, Try.ntmps31
    go_wp2
    go_ret
    exact ⟨rfl, Below.refl _ _⟩
  · obtain ⟨i0, hi, hz0, hz1, hz2⟩ := info_parts info8
    have hmk := run_make_row' (P := Try.prog) 42 5 (.int .u8 0) 1 Try.underlying42 info8 rfl .i64 .i64 s.size (by omega) (by omega)
    obtain ⟨M, hM⟩ : ∃ M, M = madeCells #[Value.int .u8 0] s.size := ⟨_, rfl⟩
    rw [← hM] at hmk
    have hMs : M.size = s.size := by rw [hM, size_madeCells]
    clear hM
    have hg : (w.alloc (.cells M 5)).heap[w.heap.size]? = some (.cells M 5 (0, 0)) := heap_alloc_new w _
    have hcp := Lib.run_copy_row_string (P := Try.prog) (w.alloc (.cells M 5)) 42 9 3 5 w.heap.size 0 s.size s.size s M 5 Try.underlying42 (by rw [hi]; simp [hz1]) hg (Nat.le_refl _) (by omega)
    obtain ⟨W2, hW2⟩ : ∃ W2, W2 = (w.alloc (.cells M 5)).setRow w.heap.size (M.toList.take 0 ++ Lib.byteCells s.data.toList ++ M.toList.drop (0 + s.size)).toArray := ⟨_, rfl⟩
    have hg2 : W2.heap[w.heap.size]? = some (.cells (Lib.byteCells s.data.toList).toArray 5 (0, 0)) := by
      rw [hW2, setRow_heap _ _ M _ 5 (0, 0) hg]
      simp only [List.take_zero, List.nil_append]
      rw [List.drop_eq_nil_of_le (by rw [Array.length_toList]; omega), List.append_nil]
    have hb2 : Below w.heap.size w W2 := by
      rw [hW2]
      exact ((Below.refl _ w).alloc (Nat.le_refl _) _).trans ⟨rfl, rfl, rfl, by simp, fun k hk => setRow_other _ _ _ _ (by omega)⟩
    rw [← hW2] at hcp
    clear hW2 hg
    have hl := byte_len' s
    have hus := Lib.run_unsafeString_row (P := Try.prog) W2 63 3 9 5 Try.underlying63 (by kernel_rfl) w.heap.size s.size (by unfold World.shape?; rw [hg2]; simp [Lib.byteCells]) s.data.toList (by intro e; rw [e] at hl; simp at hl; omega) (by omega) (by omega)
      (fun j x hx => by
        have e : (⟨w.heap.size, 0, none⟩ : Addr).add j = ⟨w.heap.size, j, none⟩ := by unfold Addr.add; split <;> simp_all
        rw [e, World.cell?, hg2]
        simp [Lib.byteCells, hx])
    rw [hl] at hus
    have HB2 := Lib.hid hb2
    clear hb2 hg2 hl
    go_enter Try.func31, Try.ntmps31
    go_wp2
    go_ret
    exact ⟨rfl, Lib.below_freeze HB2.out (p := ⟨w.heap.size, 0, none⟩) (Nat.le_refl _) _⟩

set_option maxHeartbeats 800000 in
set_option maxRecDepth 100000 in
theorem clone_any (s : ByteArray) (w : World) (hlim : s.size ≤ 1099511627776) :
    Calls Try.prog 24 #[.string s] w fun e w' => e = .returned (.string s) ∧ Below w.heap.size w w' := by
  go_enter Try.func24, Try.ntmps24
  go_wp2_with fail
  refine (lite_any s w hlim).mono ?_
  rintro e w1 ⟨rfl, h1⟩
  go_wp2_with fail
  go_ret
  exact ⟨rfl, h1⟩

theorem val_four (l : List UInt8) (h : l.length ≤ 4) : val l < 4294967296 := Nat.lt_of_lt_of_le (val_lt l) (Nat.pow_le_pow_right (by decide) h)
theorem sg_small {v : Nat} (h : v < 4294967296) : sg v = v := by unfold sg; rw [if_pos (by omega)]
theorem B_04 (s : ByteArray) : B (s.extract 0 4) = (B s).take 4 := by rw [B_extract, List.drop_zero]
theorem B_48 (s : ByteArray) : B (s.extract 4 8) = ((B s).drop 4).take 4 := B_extract s 4 8
theorem B_816 (s : ByteArray) : B (s.extract 8 16) = ((B s).drop 8).take 8 := B_extract s 8 16
theorem cnt_lt (l : List UInt8) : cnt l < 4294967296 := val_four _ (List.length_take_le _ _)
theorem chk_lt (l : List UInt8) : chk l < 4294967296 := val_four _ (List.length_take_le _ _)
theorem at_a (s : ByteArray) : sg (val (B (s.extract 0 4))) = (cnt (B s) : Nat) := by rw [B_04]; exact sg_small (cnt_lt (B s))
theorem at_b (s : ByteArray) : sg (val (B (s.extract 4 8))) = (chk (B s) : Nat) := by rw [B_48]; exact sg_small (chk_lt (B s))
theorem at_c (s : ByteArray) : sg (val (B (s.extract 8 16))) = num (B s) := by rw [B_816]; rfl
theorem size_a (s : ByteArray) : (s.extract 0 4).size ≤ 8 := by rw [ByteArray.size_extract]; omega
theorem size_b (s : ByteArray) : (s.extract 4 8).size ≤ 8 := by rw [ByteArray.size_extract]; omega
theorem size_c (s : ByteArray) : (s.extract 8 16).size ≤ 8 := by rw [ByteArray.size_extract]; omega
theorem own_eq (s : ByteArray) : Cr.sumB 0 (B (s.extract 0 4) ++ B (s.extract 8 (16 + cnt (B s)))) = own (B s) := by
  unfold own; rw [B_04, B_extract, show 16 + cnt (B s) - 8 = 8 + cnt (B s) by omega]

/-- the sum of two pieces, in a statement that draws its order -/
theorem sum_own (s : ByteArray) (hs : s.size ≤ 1000000) (w : World) :
    Calls Try.prog 19 #[.slice (some ⟨w.heap.size, 0, none⟩) 2 2] (w.alloc (.cells #[.string (s.extract 0 4), .string (s.extract 8 (16 + cnt (B s)))] 9)).drew fun e w' => e = .returned (.int .i64 ((own (B s) : Nat) : Int)) ∧ Below w.heap.size w w' := by
  have h := sum_two (s.extract 0 4) (s.extract 8 (16 + cnt (B s))) (by rw [ByteArray.size_extract]; omega) (by rw [ByteArray.size_extract]; omega) w.drew
  rw [own_eq] at h
  exact h.mono fun e w' h => ⟨h.1, (Below.refl _ w).drew.trans h.2⟩

/-- what Take tells -/
def TkV (t : Fm × Nat × Nat) : Value := .tuple #[.agg #[.int .i64 t.1.1, .string t.1.2], .int .i64 t.2.1, .int .i64 t.2.2]

set_option maxHeartbeats 800000 in
set_option maxRecDepth 100000 in
theorem ftake_short (s : ByteArray) (h : s.size < 16) (w : World) :
    Calls Try.prog 11 #[.string s] w fun e w' => e = .returned (TkV (no, 0, 3)) ∧ Below w.heap.size w w' := by
  have d1 : decide ((s.size : Int) < 16) = true := by simp; omega
  clear h
  go_enter Try.func11, Try.ntmps11
  go_wp2_with fail
  exact bodyPost_ret (v := TkV (no, 0, 3)) (by simp [results, Try.results11, go_sem, TkV, no]) rfl ⟨rfl, (Below.refl _ _).alloc (Nat.le_refl _) _⟩

set_option maxHeartbeats 1600000 in
set_option maxRecDepth 100000 in
theorem ftake_big (s : ByteArray) (h : ¬s.size < 16) (h2 : 65536 < cnt (B s)) (hs : s.size ≤ 1000000) (w : World) :
    Calls Try.prog 11 #[.string s] w fun e w' => e = .returned (TkV (no, 0, 12)) ∧ Below w.heap.size w w' := by
  have d1 : decide ((s.size : Int) < 16) = false := by simp; omega
  have d2 : decide (65536 < (cnt (B s) : Int)) = true := by simp; omega
  have ea := at_a s
  have eb := at_b s
  have ec := at_c s
  have hl := cnt_lt (B s)
  generalize cnt (B s) = n at *
  generalize chk (B s) = c at *
  generalize num (B s) = q at *
  go_enter Try.func11, Try.ntmps11
  go_wp2_with fail
  go_quiet ((go_at_call 23; refine Calls.quiet_of_same ((take_any _ (by first | exact size_a s | exact size_b s | exact size_c s) _).mono fun _ _ h => ⟨h.1, h.2.symm⟩)))
  have H := Bx.later (Bx.start w 27 (.int .i64 0) (.string ⟨#[]⟩)) (drewN_below (Below.refl _ _) nq)
  have hb := drewN_below ((Below.refl _ w).alloc (Nat.le_refl _) (.cells #[.int .i64 0, .string ⟨#[]⟩] 27)) nq
  generalize (w.alloc (Obj.cells #[Value.int .i64 0, Value.string ⟨#[]⟩] 27)).drewN nq = W at H hb ⊢
  have T3 := H.two (.int .i64 0) (.string ⟨#[]⟩)
  have HE := Lib.hid (below_two hb w.heap.size (Nat.le_refl _) (.int .i64 0) (.string ⟨#[]⟩))
  have c0 := H.c0
  have c1 := H.c1
  have f0 := H.f0
  have f1 := H.f1
  have s0 := T3.c0
  have s1 := T3.c1
  unfold two at s0 s1 HE
  clear T3
  clear H hb
  go_wp2_with fail
  refine bodyPost_ret (v := TkV ((0, ⟨#[]⟩), 0, 12)) ?_ rfl ⟨rfl, HE.out⟩
  simp [results, Try.results11, go_sem, TkV, s0, s1]

set_option maxHeartbeats 1600000 in
set_option maxRecDepth 100000 in
theorem ftake_cut (s : ByteArray) (h : ¬s.size < 16) (h2 : ¬65536 < cnt (B s)) (h3 : s.size < 16 + cnt (B s)) (hs : s.size ≤ 1000000) (w : World) :
    Calls Try.prog 11 #[.string s] w fun e w' => e = .returned (TkV (no, 0, 3)) ∧ Below w.heap.size w w' := by
  have d1 : decide ((s.size : Int) < 16) = false := by simp; omega
  have d2 : decide (65536 < (cnt (B s) : Int)) = false := by simp; omega
  have d3 : decide ((s.size : Int) < 16 + (cnt (B s) : Int)) = true := by simp; omega
  have ea := at_a s
  have eb := at_b s
  have ec := at_c s
  have hl := cnt_lt (B s)
  generalize cnt (B s) = n at *
  generalize chk (B s) = c at *
  generalize num (B s) = q at *
  go_enter Try.func11, Try.ntmps11
  go_wp2_with fail
  go_quiet ((go_at_call 23; refine Calls.quiet_of_same ((take_any _ (by first | exact size_a s | exact size_b s | exact size_c s) _).mono fun _ _ h => ⟨h.1, h.2.symm⟩)))
  have H := Bx.later (Bx.start w 27 (.int .i64 0) (.string ⟨#[]⟩)) (drewN_below (Below.refl _ _) nq)
  have hb := drewN_below ((Below.refl _ w).alloc (Nat.le_refl _) (.cells #[.int .i64 0, .string ⟨#[]⟩] 27)) nq
  generalize (w.alloc (Obj.cells #[Value.int .i64 0, Value.string ⟨#[]⟩] 27)).drewN nq = W at H hb ⊢
  have T3 := H.two (.int .i64 0) (.string ⟨#[]⟩)
  have HE := Lib.hid (below_two hb w.heap.size (Nat.le_refl _) (.int .i64 0) (.string ⟨#[]⟩))
  have c0 := H.c0
  have c1 := H.c1
  have f0 := H.f0
  have f1 := H.f1
  have s0 := T3.c0
  have s1 := T3.c1
  unfold two at s0 s1 HE
  clear T3
  clear H hb
  go_wp2_with fail
  refine bodyPost_ret (v := TkV ((0, ⟨#[]⟩), 0, 3)) ?_ rfl ⟨rfl, HE.out⟩
  simp [results, Try.results11, go_sem, TkV, s0, s1]

set_option maxHeartbeats 1600000 in
set_option maxRecDepth 100000 in
theorem ftake_sum (s : ByteArray) (h : ¬s.size < 16) (h2 : ¬65536 < cnt (B s)) (h3 : ¬s.size < 16 + cnt (B s)) (h4 : own (B s) ≠ chk (B s)) (hs : s.size ≤ 1000000) (w : World) :
    Calls Try.prog 11 #[.string s] w fun e w' => e = .returned (TkV (no, 0, 4)) ∧ Below w.heap.size w w' := by
  have d1 : decide ((s.size : Int) < 16) = false := by simp; omega
  have d2 : decide (65536 < (cnt (B s) : Int)) = false := by simp; omega
  have d3 : decide ((s.size : Int) < 16 + (cnt (B s) : Int)) = false := by simp; omega
  have d4 : ((own (B s) : Int) != (chk (B s) : Int)) = true := by simp; omega
  have ea := at_a s
  have eb := at_b s
  have ec := at_c s
  have hl := cnt_lt (B s)
  have HS2 := Lib.hid (sum_own s hs)
  generalize cnt (B s) = n at *
  generalize chk (B s) = c at *
  generalize num (B s) = q at *
  generalize own (B s) = o at *
  have ex : (16 + (n : Int)).toNat = 16 + n := by omega
  have g1 : 0 ≤ 16 + (n : Int) ∧ 16 + (n : Int) ≤ (s.size : Int) := by omega
  have g2 : 8 ≤ 16 + (n : Int) := by omega
  have g3 : 4 ≤ (s.size : Int) := by omega
  go_enter Try.func11, Try.ntmps11
  go_wp2_with fail
  go_quiet ((go_at_call 23; refine Calls.quiet_of_same ((take_any _ (by first | exact size_a s | exact size_b s | exact size_c s) _).mono fun _ _ h => ⟨h.1, h.2.symm⟩)))
  have H := Bx.later (Bx.start w 27 (.int .i64 0) (.string ⟨#[]⟩)) (drewN_below (Below.refl _ _) nq)
  have hb := drewN_below ((Below.refl _ w).alloc (Nat.le_refl _) (.cells #[.int .i64 0, .string ⟨#[]⟩] 27)) nq
  generalize (w.alloc (Obj.cells #[Value.int .i64 0, Value.string ⟨#[]⟩] 27)).drewN nq = W at H hb ⊢
  have H0 := Lib.hid H
  have HB0 := Lib.hid hb
  clear H hb
  go_wp2_with fail
  go_region_with (go_at_call 19; refine (HS2.out _).mono ?_; rintro e w1 ⟨rfl, h1⟩)
  all_goals
    have H1 := H0.out.later h1
    have hb1 := HB0.out.trans (h1.mono HB0.out.size)
    have T3 := H1.two (.int .i64 0) (.string ⟨#[]⟩)
    have HE := Lib.hid (below_two hb1 w.heap.size (Nat.le_refl _) (.int .i64 0) (.string ⟨#[]⟩))
    have c0 := H1.c0
    have c1 := H1.c1
    have f0 := H1.f0
    have f1 := H1.f1
    have s0 := T3.c0
    have s1 := T3.c1
    unfold two at s0 s1 HE
    clear T3 H1 hb1 h1
    go_wp2_with fail
    refine bodyPost_ret (v := TkV ((0, ⟨#[]⟩), 0, 4)) ?_ rfl ⟨rfl, HE.out⟩
    simp [results, Try.results11, go_sem, TkV, s0, s1]
set_option maxHeartbeats 1600000 in
set_option maxRecDepth 100000 in
theorem ftake_form (s : ByteArray) (h : ¬s.size < 16) (h2 : ¬65536 < cnt (B s)) (h3 : ¬s.size < 16 + cnt (B s)) (h4 : own (B s) = chk (B s)) (h5 : num (B s) < 1) (hs : s.size ≤ 1000000) (w : World) :
    Calls Try.prog 11 #[.string s] w fun e w' => e = .returned (TkV (no, 0, 2)) ∧ Below w.heap.size w w' := by
  have d1 : decide ((s.size : Int) < 16) = false := by simp; omega
  have d2 : decide (65536 < (cnt (B s) : Int)) = false := by simp; omega
  have d3 : decide ((s.size : Int) < 16 + (cnt (B s) : Int)) = false := by simp; omega
  have d4 : ((own (B s) : Int) != (chk (B s) : Int)) = false := by rw [h4]; simp
  have d5 : decide (num (B s) < 1) = true := by simpa using h5
  have H4 := Lib.hid h4
  clear h4
  have ea := at_a s
  have eb := at_b s
  have ec := at_c s
  have hl := cnt_lt (B s)
  have HS2 := Lib.hid (sum_own s hs)
  generalize cnt (B s) = n at *
  generalize chk (B s) = c at *
  generalize num (B s) = q at *
  generalize own (B s) = o at *
  have ex : (16 + (n : Int)).toNat = 16 + n := by omega
  have g1 : 0 ≤ 16 + (n : Int) ∧ 16 + (n : Int) ≤ (s.size : Int) := by omega
  have g2 : 8 ≤ 16 + (n : Int) := by omega
  have g3 : 4 ≤ (s.size : Int) := by omega
  go_enter Try.func11, Try.ntmps11
  go_wp2_with fail
  go_quiet ((go_at_call 23; refine Calls.quiet_of_same ((take_any _ (by first | exact size_a s | exact size_b s | exact size_c s) _).mono fun _ _ h => ⟨h.1, h.2.symm⟩)))
  have H := Bx.later (Bx.start w 27 (.int .i64 0) (.string ⟨#[]⟩)) (drewN_below (Below.refl _ _) nq)
  have hb := drewN_below ((Below.refl _ w).alloc (Nat.le_refl _) (.cells #[.int .i64 0, .string ⟨#[]⟩] 27)) nq
  generalize (w.alloc (Obj.cells #[Value.int .i64 0, Value.string ⟨#[]⟩] 27)).drewN nq = W at H hb ⊢
  have H0 := Lib.hid H
  have HB0 := Lib.hid hb
  clear H hb
  go_wp2_with fail
  go_region_with (go_at_call 19; refine (HS2.out _).mono ?_; rintro e w1 ⟨rfl, h1⟩)
  all_goals
    have H1 := H0.out.later h1
    have hb1 := HB0.out.trans (h1.mono HB0.out.size)
    have T3 := H1.two (.int .i64 0) (.string ⟨#[]⟩)
    have HE := Lib.hid (below_two hb1 w.heap.size (Nat.le_refl _) (.int .i64 0) (.string ⟨#[]⟩))
    have c0 := H1.c0
    have c1 := H1.c1
    have f0 := H1.f0
    have f1 := H1.f1
    have s0 := T3.c0
    have s1 := T3.c1
    unfold two at s0 s1 HE
    clear T3 H1 hb1 h1
    go_wp2_with fail
    refine bodyPost_ret (v := TkV ((0, ⟨#[]⟩), 0, 2)) ?_ rfl ⟨rfl, HE.out⟩
    simp [results, Try.results11, go_sem, TkV, s0, s1]
set_option maxHeartbeats 1600000 in
set_option maxRecDepth 100000 in
theorem ftake_ok (s : ByteArray) (h : ¬s.size < 16) (h2 : ¬65536 < cnt (B s)) (h3 : ¬s.size < 16 + cnt (B s)) (h4 : own (B s) = chk (B s)) (h5 : ¬num (B s) < 1) (hs : s.size ≤ 1000000) (w : World) :
    Calls Try.prog 11 #[.string s] w fun e w' => e = .returned (TkV ((num (B s), s.extract 16 (16 + cnt (B s))), 16 + cnt (B s), 0)) ∧ Below w.heap.size w w' := by
  have d1 : decide ((s.size : Int) < 16) = false := by simp; omega
  have d2 : decide (65536 < (cnt (B s) : Int)) = false := by simp; omega
  have d3 : decide ((s.size : Int) < 16 + (cnt (B s) : Int)) = false := by simp; omega
  have d4 : ((own (B s) : Int) != (chk (B s) : Int)) = false := by rw [h4]; simp
  have d5 : decide (num (B s) < 1) = false := by simpa using h5
  have H4 := Lib.hid h4
  clear h4
  have ea := at_a s
  have eb := at_b s
  have ec := at_c s
  have hl := cnt_lt (B s)
  have HS2 := Lib.hid (sum_own s hs)
  generalize cnt (B s) = n at *
  generalize chk (B s) = c at *
  generalize num (B s) = q at *
  generalize own (B s) = o at *
  have ex : (16 + (n : Int)).toNat = 16 + n := by omega
  have g1 : 0 ≤ 16 + (n : Int) ∧ 16 + (n : Int) ≤ (s.size : Int) := by omega
  have g2 : 8 ≤ 16 + (n : Int) := by omega
  have g3 : 4 ≤ (s.size : Int) := by omega
  have g4 : 16 ≤ 16 + (n : Int) := by omega
  go_enter Try.func11, Try.ntmps11
  go_wp2_with fail
  go_quiet ((go_at_call 23; refine Calls.quiet_of_same ((take_any _ (by first | exact size_a s | exact size_b s | exact size_c s) _).mono fun _ _ h => ⟨h.1, h.2.symm⟩)))
  have H := Bx.later (Bx.start w 27 (.int .i64 0) (.string ⟨#[]⟩)) (drewN_below (Below.refl _ _) nq)
  have hb := drewN_below ((Below.refl _ w).alloc (Nat.le_refl _) (.cells #[.int .i64 0, .string ⟨#[]⟩] 27)) nq
  generalize (w.alloc (Obj.cells #[Value.int .i64 0, Value.string ⟨#[]⟩] 27)).drewN nq = W at H hb ⊢
  have H0 := Lib.hid H
  have HB0 := Lib.hid hb
  clear H hb
  go_wp2_with fail
  go_region_with (go_at_call 19; refine (HS2.out _).mono ?_; rintro e w1 ⟨rfl, h1⟩)
  all_goals
    have H1 := Lib.hid (H0.out.later h1)
    have hb1 := Lib.hid (HB0.out.trans (h1.mono HB0.out.size))
    clear h1
    go_wp2_with fail
    refine (clone_any (s.extract 16 (16 + n)) w1 (by rw [ByteArray.size_extract]; omega)).mono ?_
    rintro e w2 ⟨rfl, h1⟩
    have H2 := H1.out.later h1
    have hb2 := hb1.out.trans (h1.mono hb1.out.size)
    have T3 := H2.two (.int .i64 q) (.string (s.extract 16 (16 + n)))
    have HE := Lib.hid (below_two hb2 w.heap.size (Nat.le_refl _) (.int .i64 q) (.string (s.extract 16 (16 + n))))
    have c0 := H2.c0
    have c1 := H2.c1
    have f0 := H2.f0
    have f1 := H2.f1
    have s0 := T3.c0
    have s1 := T3.c1
    unfold two at s0 s1 HE
    clear T3 H2 hb2 h1
    go_wp2_with fail
    refine bodyPost_ret (v := TkV ((q, s.extract 16 (16 + n)), 16 + n, 0)) ?_ rfl ⟨rfl, HE.out⟩
    simp [results, Try.results11, go_sem, TkV, s0, s1]

theorem ftake_any (s : ByteArray) (hs : s.size ≤ 1000000) (w : World) :
    Calls Try.prog 11 #[.string s] w fun e w' => e = .returned (TkV (tk s)) ∧ Below w.heap.size w w' := by
  unfold tk
  by_cases h1 : s.size < 16
  · rw [if_pos h1]; exact ftake_short s h1 w
  rw [if_neg h1]
  by_cases h2 : 65536 < cnt (B s)
  · rw [if_pos h2]; exact ftake_big s h1 h2 hs w
  rw [if_neg h2]
  by_cases h3 : s.size < 16 + cnt (B s)
  · rw [if_pos h3]; exact ftake_cut s h1 h2 h3 hs w
  rw [if_neg h3]
  by_cases h4 : own (B s) = chk (B s)
  · rw [if_neg (not_not_intro h4)]
    by_cases h5 : num (B s) < 1
    · rw [if_pos h5]; exact ftake_form s h1 h2 h3 h4 h5 hs w
    · rw [if_neg h5]; exact ftake_ok s h1 h2 h3 h4 h5 hs w
  · rw [if_pos h4]; exact ftake_sum s h1 h2 h3 h4 hs w
end Go.Proofs.Ytjmkjdflfmjliaa.Fr
