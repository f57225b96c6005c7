/- The walks of Take: the document's. -/
import Derived.Test.YtjmkjdflfmjliaaFrTake
namespace Go.Proofs.Ytjmkjdflfmjliaa.Fr
open Go.RowKit

theorem rsum_own (s : ByteArray) (hs : s.size ≤ 400000) (w : World) :
    Calls Try.prog 21 #[.string (s.extract 0 4 ++ s.extract 8 (16 + cnt (B s)))] w fun e w' => e = .returned (.int .i64 ((own (B s) : Nat) : Int)) ∧ w' = w := by
  have h := Cr.rsum_any (s.extract 0 4 ++ s.extract 8 (16 + cnt (B s))) (by rw [ByteArray.size_append, ByteArray.size_extract, ByteArray.size_extract]; omega) w
  have e := own_eq s
  rw [← B_append] at e
  rw [e] at h
  exact h.mono fun e w' h => ⟨h.1, h.2.symm⟩

set_option maxHeartbeats 800000 in
set_option maxRecDepth 100000 in
theorem rtake_short (s : ByteArray) (h : s.size < 16) (w : World) :
    Calls Try.prog 12 #[.string s] w fun e w' => e = .returned (TkV (no, 0, 3)) ∧ Below w.heap.size w w' := by
  have d1 : decide ((s.size : Int) < 16) = true := by simp; omega
  clear h
  go_enter Try.func12, Try.ntmps12
  go_wp2_with fail
  exact bodyPost_ret (v := TkV (no, 0, 3)) (by simp [results, Try.results12, go_sem, TkV, no]) rfl ⟨rfl, (Below.refl _ _).alloc (Nat.le_refl _) _⟩

set_option maxHeartbeats 1600000 in
set_option maxRecDepth 100000 in
theorem rtake_big (s : ByteArray) (h : ¬s.size < 16) (h2 : 65536 < cnt (B s)) (hs : s.size ≤ 400000) (w : World) :
    Calls Try.prog 12 #[.string s] w fun e w' => e = .returned (TkV (no, 0, 12)) ∧ Below w.heap.size w w' := by
  have d1 : decide ((s.size : Int) < 16) = false := by simp; omega
  have d2 : decide (65536 < (cnt (B s) : Int)) = true := by simp; omega
  have ea := at_a s
  have eb := at_b s
  have ec := at_c s
  have hl := cnt_lt (B s)
  generalize cnt (B s) = n at *
  generalize chk (B s) = c at *
  generalize num (B s) = q at *
  go_enter Try.func12, Try.ntmps12
  go_wp2_with fail
  refine (rback_any _ (size_a s) _).mono ?_
  rintro e w1 ⟨rfl, rfl⟩
  rw [ea]
  go_wp2_with fail
  exact bodyPost_ret (v := TkV (no, 0, 12)) (by simp [results, Try.results12, go_sem, TkV, no]) rfl ⟨rfl, (Below.refl _ _).alloc (Nat.le_refl _) _⟩

set_option maxHeartbeats 1600000 in
set_option maxRecDepth 100000 in
theorem rtake_cut (s : ByteArray) (h : ¬s.size < 16) (h2 : ¬65536 < cnt (B s)) (h3 : s.size < 16 + cnt (B s)) (hs : s.size ≤ 400000) (w : World) :
    Calls Try.prog 12 #[.string s] w fun e w' => e = .returned (TkV (no, 0, 3)) ∧ Below w.heap.size w w' := by
  have d1 : decide ((s.size : Int) < 16) = false := by simp; omega
  have d2 : decide (65536 < (cnt (B s) : Int)) = false := by simp; omega
  have d3 : decide ((s.size : Int) - 16 < (cnt (B s) : Int)) = true := by simp; omega
  have ea := at_a s
  have eb := at_b s
  have ec := at_c s
  have hl := cnt_lt (B s)
  generalize cnt (B s) = n at *
  generalize chk (B s) = c at *
  generalize num (B s) = q at *
  go_enter Try.func12, Try.ntmps12
  go_wp2_with fail
  refine (rback_any _ (size_a s) _).mono ?_
  rintro e w1 ⟨rfl, rfl⟩
  rw [ea]
  go_wp2_with fail
  exact bodyPost_ret (v := TkV (no, 0, 3)) (by simp [results, Try.results12, go_sem, TkV, no]) rfl ⟨rfl, (Below.refl _ _).alloc (Nat.le_refl _) _⟩

set_option maxHeartbeats 1600000 in
set_option maxRecDepth 100000 in
theorem rtake_sum (s : ByteArray) (h : ¬s.size < 16) (h2 : ¬65536 < cnt (B s)) (h3 : ¬s.size < 16 + cnt (B s)) (h4 : own (B s) ≠ chk (B s)) (hs : s.size ≤ 400000) (w : World) :
    Calls Try.prog 12 #[.string s] w fun e w' => e = .returned (TkV (no, 0, 4)) ∧ Below w.heap.size w w' := by
  have d1 : decide ((s.size : Int) < 16) = false := by simp; omega
  have d2 : decide (65536 < (cnt (B s) : Int)) = false := by simp; omega
  have d3 : decide ((s.size : Int) - 16 < (cnt (B s) : Int)) = false := by simp; omega
  have d4 : ((chk (B s) : Int) != (own (B s) : Int)) = true := by simp; omega
  have ea := at_a s
  have eb := at_b s
  have ec := at_c s
  have hl := cnt_lt (B s)
  have HSM := Lib.hid (rsum_own s hs)
  generalize cnt (B s) = n at *
  generalize chk (B s) = c at *
  generalize num (B s) = q at *
  generalize own (B s) = o at *
  have ex : (16 + (n : Int)).toNat = 16 + n := by omega
  have g1 : 0 ≤ 16 + (n : Int) ∧ 16 + (n : Int) ≤ (s.size : Int) := by omega
  have g2 : 8 ≤ 16 + (n : Int) := by omega
  have g3 : 4 ≤ (s.size : Int) := by omega
  have g4 : 8 ≤ (s.size : Int) := by omega
  go_enter Try.func12, Try.ntmps12
  go_wp2_with fail
  refine (rback_any _ (size_a s) _).mono ?_
  rintro e w1 ⟨rfl, rfl⟩
  rw [ea]
  go_wp2_with fail
  go_quiet ((first | (go_at_call 25; refine Calls.quiet_of_same ((rback_any _ (size_b s) _).mono fun _ _ h => ⟨h.1, h.2.symm⟩)) | (go_at_call 21; refine Calls.quiet_of_same (HSM.out _))))
  have H := Bx.later (Bx.start w 27 (.int .i64 0) (.string ⟨#[]⟩)) (drewN_below (Below.refl _ _) nq)
  have hb := drewN_below ((Below.refl _ w).alloc (Nat.le_refl _) (.cells #[.int .i64 0, .string ⟨#[]⟩] 27)) nq
  generalize (w.alloc (Obj.cells #[Value.int .i64 0, Value.string ⟨#[]⟩] 27)).drewN nq = W at H hb ⊢
  have T3 := H.two (.int .i64 0) (.string ⟨#[]⟩)
  have HE := Lib.hid (below_two hb w.heap.size (Nat.le_refl _) (.int .i64 0) (.string ⟨#[]⟩))
  have c0 := H.c0
  have c1 := H.c1
  have f0 := H.f0
  have f1 := H.f1
  have s0 := T3.c0
  have s1 := T3.c1
  unfold two at s0 s1 HE
  clear T3 H hb
  go_wp2_with fail
  refine bodyPost_ret (v := TkV ((0, ⟨#[]⟩), 0, 4)) ?_ rfl ⟨rfl, HE.out⟩
  simp [results, Try.results12, go_sem, TkV, s0, s1]

set_option maxHeartbeats 1600000 in
set_option maxRecDepth 100000 in
theorem rtake_form (s : ByteArray) (h : ¬s.size < 16) (h2 : ¬65536 < cnt (B s)) (h3 : ¬s.size < 16 + cnt (B s)) (h4 : own (B s) = chk (B s)) (h5 : num (B s) < 1) (hs : s.size ≤ 400000) (w : World) :
    Calls Try.prog 12 #[.string s] w fun e w' => e = .returned (TkV (no, 0, 2)) ∧ Below w.heap.size w w' := by
  have d1 : decide ((s.size : Int) < 16) = false := by simp; omega
  have d2 : decide (65536 < (cnt (B s) : Int)) = false := by simp; omega
  have d3 : decide ((s.size : Int) - 16 < (cnt (B s) : Int)) = false := by simp; omega
  have d4 : ((chk (B s) : Int) != (own (B s) : Int)) = false := by rw [h4]; simp
  have d5 : decide (num (B s) < 1) = true := by simpa using h5
  have H4 := Lib.hid h4
  clear h4
  have ea := at_a s
  have eb := at_b s
  have ec := at_c s
  have hl := cnt_lt (B s)
  have HSM := Lib.hid (rsum_own s hs)
  generalize cnt (B s) = n at *
  generalize chk (B s) = c at *
  generalize num (B s) = q at *
  generalize own (B s) = o at *
  have ex : (16 + (n : Int)).toNat = 16 + n := by omega
  have g1 : 0 ≤ 16 + (n : Int) ∧ 16 + (n : Int) ≤ (s.size : Int) := by omega
  have g2 : 8 ≤ 16 + (n : Int) := by omega
  have g3 : 4 ≤ (s.size : Int) := by omega
  have g4 : 8 ≤ (s.size : Int) := by omega
  go_enter Try.func12, Try.ntmps12
  go_wp2_with fail
  refine (rback_any _ (size_a s) _).mono ?_
  rintro e w1 ⟨rfl, rfl⟩
  rw [ea]
  go_wp2_with fail
  go_quiet ((first | (go_at_call 25; refine Calls.quiet_of_same ((rback_any _ (size_b s) _).mono fun _ _ h => ⟨h.1, h.2.symm⟩)) | (go_at_call 21; refine Calls.quiet_of_same (HSM.out _))))
  have H := Bx.later (Bx.start w 27 (.int .i64 0) (.string ⟨#[]⟩)) (drewN_below (Below.refl _ _) nq)
  have hb := drewN_below ((Below.refl _ w).alloc (Nat.le_refl _) (.cells #[.int .i64 0, .string ⟨#[]⟩] 27)) nq
  generalize (w.alloc (Obj.cells #[Value.int .i64 0, Value.string ⟨#[]⟩] 27)).drewN nq = W at H hb ⊢
  have T3 := H.two (.int .i64 0) (.string ⟨#[]⟩)
  have HE := Lib.hid (below_two hb w.heap.size (Nat.le_refl _) (.int .i64 0) (.string ⟨#[]⟩))
  have c0 := H.c0
  have c1 := H.c1
  have f0 := H.f0
  have f1 := H.f1
  have s0 := T3.c0
  have s1 := T3.c1
  unfold two at s0 s1 HE
  clear T3 H hb
  go_wp2_with fail
  refine (rback_any _ (size_c s) _).mono ?_
  rintro e w1 ⟨rfl, rfl⟩
  rw [ec]
  go_wp2_with fail
  refine bodyPost_ret (v := TkV ((0, ⟨#[]⟩), 0, 2)) ?_ rfl ⟨rfl, HE.out⟩
  simp [results, Try.results12, go_sem, TkV, s0, s1]

set_option maxHeartbeats 1600000 in
set_option maxRecDepth 100000 in
theorem rtake_ok (s : ByteArray) (h : ¬s.size < 16) (h2 : ¬65536 < cnt (B s)) (h3 : ¬s.size < 16 + cnt (B s)) (h4 : own (B s) = chk (B s)) (h5 : ¬num (B s) < 1) (hs : s.size ≤ 400000) (w : World) :
    Calls Try.prog 12 #[.string s] w fun e w' => e = .returned (TkV ((num (B s), s.extract 16 (16 + cnt (B s))), 16 + cnt (B s), 0)) ∧ Below w.heap.size w w' := by
  have d1 : decide ((s.size : Int) < 16) = false := by simp; omega
  have d2 : decide (65536 < (cnt (B s) : Int)) = false := by simp; omega
  have d3 : decide ((s.size : Int) - 16 < (cnt (B s) : Int)) = false := by simp; omega
  have d4 : ((chk (B s) : Int) != (own (B s) : Int)) = false := by rw [h4]; simp
  have d5 : decide (num (B s) < 1) = false := by simpa using h5
  have H4 := Lib.hid h4
  clear h4
  have ea := at_a s
  have eb := at_b s
  have ec := at_c s
  have hl := cnt_lt (B s)
  have HSM := Lib.hid (rsum_own s hs)
  generalize cnt (B s) = n at *
  generalize chk (B s) = c at *
  generalize num (B s) = q at *
  generalize own (B s) = o at *
  have ex : (16 + (n : Int)).toNat = 16 + n := by omega
  have g1 : 0 ≤ 16 + (n : Int) ∧ 16 + (n : Int) ≤ (s.size : Int) := by omega
  have g2 : 8 ≤ 16 + (n : Int) := by omega
  have g3 : 4 ≤ (s.size : Int) := by omega
  have g4 : 8 ≤ (s.size : Int) := by omega
  have g5 : 16 ≤ (s.size : Int) := by omega
  have g6 : 16 ≤ 16 + (n : Int) := by omega
  go_enter Try.func12, Try.ntmps12
  go_wp2_with fail
  refine (rback_any _ (size_a s) _).mono ?_
  rintro e w1 ⟨rfl, rfl⟩
  rw [ea]
  go_wp2_with fail
  go_quiet ((first | (go_at_call 25; refine Calls.quiet_of_same ((rback_any _ (size_b s) _).mono fun _ _ h => ⟨h.1, h.2.symm⟩)) | (go_at_call 21; refine Calls.quiet_of_same (HSM.out _))))
  have H := Bx.later (Bx.start w 27 (.int .i64 0) (.string ⟨#[]⟩)) (drewN_below (Below.refl _ _) nq)
  have hb := drewN_below ((Below.refl _ w).alloc (Nat.le_refl _) (.cells #[.int .i64 0, .string ⟨#[]⟩] 27)) nq
  generalize (w.alloc (Obj.cells #[Value.int .i64 0, Value.string ⟨#[]⟩] 27)).drewN nq = W at H hb ⊢
  have T3 := H.two (.int .i64 q) (.string (s.extract 16 (16 + n)))
  have HE := Lib.hid (below_two hb w.heap.size (Nat.le_refl _) (.int .i64 q) (.string (s.extract 16 (16 + n))))
  have c0 := H.c0
  have c1 := H.c1
  have f0 := H.f0
  have f1 := H.f1
  have s0 := T3.c0
  have s1 := T3.c1
  unfold two at s0 s1 HE
  clear T3 H hb
  go_wp2_with fail
  refine (rback_any _ (size_c s) _).mono ?_
  rintro e w1 ⟨rfl, rfl⟩
  rw [ec]
  go_wp2_with fail
  have g7 : IntKind.i64.wrap (16 + (n : Int)) = 16 + (n : Int) := by rw [IntKind.wrap_i64]; omega
  go_region_with (go_at_call 25; refine (rback_any _ (size_c s) _).mono ?_; rintro e w1 ⟨rfl, rfl⟩)
  all_goals (go_wp2_with fail)
  all_goals
    refine bodyPost_ret (v := TkV ((q, s.extract 16 (16 + n)), 16 + n, 0)) ?_ rfl ⟨rfl, HE.out.drew⟩
    simp [results, Try.results12, go_sem, TkV, s0, s1]

theorem rtake_any (s : ByteArray) (hs : s.size ≤ 400000) (w : World) :
    Calls Try.prog 12 #[.string s] w fun e w' => e = .returned (TkV (tk s)) ∧ Below w.heap.size w w' := by
  unfold tk
  by_cases h1 : s.size < 16
  · rw [if_pos h1]; exact rtake_short s h1 w
  rw [if_neg h1]
  by_cases h2 : 65536 < cnt (B s)
  · rw [if_pos h2]; exact rtake_big s h1 h2 hs w
  rw [if_neg h2]
  by_cases h3 : s.size < 16 + cnt (B s)
  · rw [if_pos h3]; exact rtake_cut s h1 h2 h3 hs w
  rw [if_neg h3]
  by_cases h4 : own (B s) = chk (B s)
  · rw [if_neg (not_not_intro h4)]
    by_cases h5 : num (B s) < 1
    · rw [if_pos h5]; exact rtake_form s h1 h2 h3 h4 h5 hs w
    · rw [if_neg h5]; exact rtake_ok s h1 h2 h3 h4 h5 hs w
  · rw [if_pos h4]; exact rtake_sum s h1 h2 h3 h4 hs w
end Go.Proofs.Ytjmkjdflfmjliaa.Fr
