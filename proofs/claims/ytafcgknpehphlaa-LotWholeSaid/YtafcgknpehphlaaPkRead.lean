/- A reader's methods: what each reads of what is left, and the first error; of nil: zero values. -/
import Derived.Test.YtafcgknpehphlaaPkCuts
namespace Go.Proofs.Ytafcgknpehphlaa.Pk
open Go.RowKit
open Va (takeR takeS)

/-- a reader: what is left, and the first error -/
def Rd (W : World) (R : Nat) (s : ByteArray) (e : Nat) : Prop := Bx W R (.string s) (.int .i64 (e : Nat))
/-- what a call of a reader leaves -/
def Went (R : Nat) (x : ByteArray × Nat) (w w' : World) : Prop := Rd w' R x.1 x.2 ∧ But R w w'

theorem beq_cast (e : Nat) : ((e : Int) == 0) = (e == 0) := by rw [Bool.eq_iff_iff]; simp

theorem goes_any (R : Nat) (s : ByteArray) (e : Nat) (w : World) (h : Rd w R s e) :
    Calls Try.prog 42 #[.pointer (some ⟨R, 0, none⟩)] w fun en w' => en = .returned (.bool (e == 0)) ∧ w = w' := by
  have c1 := h.c1
  go_enter Try.func42, Try.ntmps42
  go_wp2_with fail
  go_ret
  exact ⟨by simp; exact beq_cast e, rfl⟩

theorem goes_nil (w : World) :
    Calls Try.prog 42 #[.pointer none] w fun en w' => en = .returned (.bool false) ∧ w = w' := by
  go_enter Try.func42, Try.ntmps42
  go_wp2_with fail
  go_ret
  exact ⟨rfl, rfl⟩

set_option maxHeartbeats 800000 in
set_option maxRecDepth 100000 in
theorem rnum_any (R : Nat) (s : ByteArray) (e : Nat) (w : World) (h : Rd w R s e) (hs : s.size ≤ 1099511627776) :
    Calls Try.prog 24 #[.pointer (some ⟨R, 0, none⟩)] w fun en w' => en = .returned (.int .i64 (rdNum (tkN s) s e).1) ∧ Went R (rdNum (tkN s) s e).2 w w' := by
  have H := Lib.hid h
  clear h
  by_cases he : e = 0
  · subst he
    obtain ⟨x, hx⟩ : ∃ x, rdNum (tkN s) s 0 = x := ⟨_, rfl⟩
    have hc := Lib.hid (number_take R s (.int .i64 (0 : Nat)) w H.out hs)
    rw [hx] at hc ⊢
    clear hx
    obtain ⟨v, s', er⟩ := x
    go_enter Try.func24, Try.ntmps24
    go_wp2_with fail
    refine (goes_any R s 0 w H.out).mono ?_
    rintro en w1 ⟨rfl, rfl⟩
    go_wp2_with fail
    refine (hc.out).mono ?_
    rintro en w1 ⟨rfl, h1, h2⟩
    have H1 := Lib.hid h1
    have H2 := Lib.hid h2
    have c1 := h1.c1
    have f1 := h1.f1
    clear h1 h2
    go_wp2_with fail
    go_ret
    exact ⟨rfl, H1.out.set1 _, H2.out.setCell (p := ⟨R, 1, none⟩) rfl _⟩
  · have hr : Hid (rdNum (tkN s) s e = (0, s, e)) := by unfold Hid rdNum; rw [if_neg he]
    have hq : (e == 0) = false := by simp [he]
    rw [hr.out]
    go_enter Try.func24, Try.ntmps24
    go_wp2_with fail
    refine (goes_any R s e w H.out).mono ?_
    rintro en w1 ⟨rfl, rfl⟩
    go_wp2_with fail
    go_ret
    exact ⟨rfl, H.out, But.refl _ _⟩

theorem rnum_nil (w : World) :
    Calls Try.prog 24 #[.pointer none] w fun en w' => en = .returned (.int .i64 0) ∧ w = w' := by
  go_enter Try.func24, Try.ntmps24
  go_wp2_with fail
  refine (goes_nil w).mono ?_
  rintro en w1 ⟨rfl, rfl⟩
  go_wp2_with fail
  go_ret
  exact ⟨rfl, rfl⟩

set_option maxHeartbeats 800000 in
set_option maxRecDepth 100000 in
theorem rsigned_any (R : Nat) (s : ByteArray) (e : Nat) (w : World) (h : Rd w R s e) (hs : s.size ≤ 1099511627776) :
    Calls Try.prog 63 #[.pointer (some ⟨R, 0, none⟩)] w fun en w' => en = .returned (.int .i64 (rdNum (tkS s) s e).1) ∧ Went R (rdNum (tkS s) s e).2 w w' := by
  have H := Lib.hid h
  clear h
  by_cases he : e = 0
  · subst he
    obtain ⟨x, hx⟩ : ∃ x, rdNum (tkS s) s 0 = x := ⟨_, rfl⟩
    have hc := Lib.hid (number_takes R s (.int .i64 (0 : Nat)) w H.out hs)
    rw [hx] at hc ⊢
    clear hx
    obtain ⟨v, s', er⟩ := x
    go_enter Try.func63, Try.ntmps63
    go_wp2_with fail
    refine (goes_any R s 0 w H.out).mono ?_
    rintro en w1 ⟨rfl, rfl⟩
    go_wp2_with fail
    refine (hc.out).mono ?_
    rintro en w1 ⟨rfl, h1, h2⟩
    have H1 := Lib.hid h1
    have H2 := Lib.hid h2
    have c1 := h1.c1
    have f1 := h1.f1
    clear h1 h2
    go_wp2_with fail
    go_ret
    exact ⟨rfl, H1.out.set1 _, H2.out.setCell (p := ⟨R, 1, none⟩) rfl _⟩
  · have hr : Hid (rdNum (tkS s) s e = (0, s, e)) := by unfold Hid rdNum; rw [if_neg he]
    have hq : (e == 0) = false := by simp [he]
    rw [hr.out]
    go_enter Try.func63, Try.ntmps63
    go_wp2_with fail
    refine (goes_any R s e w H.out).mono ?_
    rintro en w1 ⟨rfl, rfl⟩
    go_wp2_with fail
    go_ret
    exact ⟨rfl, H.out, But.refl _ _⟩

theorem rsigned_nil (w : World) :
    Calls Try.prog 63 #[.pointer none] w fun en w' => en = .returned (.int .i64 0) ∧ w = w' := by
  go_enter Try.func63, Try.ntmps63
  go_wp2_with fail
  refine (goes_nil w).mono ?_
  rintro en w1 ⟨rfl, rfl⟩
  go_wp2_with fail
  go_ret
  exact ⟨rfl, rfl⟩

set_option maxHeartbeats 800000 in
set_option maxRecDepth 100000 in
theorem rtext_any (R : Nat) (s : ByteArray) (e : Nat) (most : Int) (w : World) (h : Rd w R s e) (hs : s.size ≤ 1099511627776) :
    Calls Try.prog 62 #[.pointer (some ⟨R, 0, none⟩), .int .i64 most] w fun en w' => en = .returned (.string (rdText most s e).1) ∧ Went R (rdText most s e).2 w w' := by
  have H := Lib.hid h
  clear h
  by_cases he : e = 0
  · subst he
    obtain ⟨x, hx⟩ : ∃ x, rdText most s 0 = x := ⟨_, rfl⟩
    have hc := Lib.hid (text_any R s (.int .i64 (0 : Nat)) most w H.out hs)
    rw [hx] at hc ⊢
    clear hx
    obtain ⟨v, s', er⟩ := x
    go_enter Try.func62, Try.ntmps62
    go_wp2_with fail
    refine (goes_any R s 0 w H.out).mono ?_
    rintro en w1 ⟨rfl, rfl⟩
    go_wp2_with fail
    refine (hc.out).mono ?_
    rintro en w1 ⟨rfl, h1, h2⟩
    have H1 := Lib.hid h1
    have H2 := Lib.hid h2
    have c1 := h1.c1
    have f1 := h1.f1
    clear h1 h2
    go_wp2_with fail
    go_ret
    exact ⟨rfl, H1.out.set1 _, H2.out.setCell (p := ⟨R, 1, none⟩) rfl _⟩
  · have hr : Hid (rdText most s e = (⟨#[]⟩, s, e)) := by unfold Hid rdText; rw [if_neg he]
    have hq : (e == 0) = false := by simp [he]
    rw [hr.out]
    go_enter Try.func62, Try.ntmps62
    go_wp2_with fail
    refine (goes_any R s e w H.out).mono ?_
    rintro en w1 ⟨rfl, rfl⟩
    go_wp2_with fail
    go_ret
    exact ⟨rfl, H.out, But.refl _ _⟩

theorem rtext_nil (most : Int) (w : World) :
    Calls Try.prog 62 #[.pointer none, .int .i64 most] w fun en w' => en = .returned (.string ⟨#[]⟩) ∧ w = w' := by
  go_enter Try.func62, Try.ntmps62
  go_wp2_with fail
  refine (goes_nil w).mono ?_
  rintro en w1 ⟨rfl, rfl⟩
  go_wp2_with fail
  go_ret
  exact ⟨rfl, rfl⟩

set_option maxHeartbeats 800000 in
set_option maxRecDepth 100000 in
theorem rflag_any (R : Nat) (s : ByteArray) (e : Nat) (w : World) (h : Rd w R s e) :
    Calls Try.prog 64 #[.pointer (some ⟨R, 0, none⟩)] w fun en w' => en = .returned (.bool (rdFlag s e).1) ∧ Went R (rdFlag s e).2 w w' := by
  have H := Lib.hid h
  clear h
  by_cases he : e = 0
  · subst he
    obtain ⟨x, hx⟩ : ∃ x, rdFlag s 0 = x := ⟨_, rfl⟩
    have hc := Lib.hid (flag_any R s (.int .i64 (0 : Nat)) w H.out)
    rw [hx] at hc ⊢
    clear hx
    obtain ⟨v, s', er⟩ := x
    go_enter Try.func64, Try.ntmps64
    go_wp2_with fail
    refine (goes_any R s 0 w H.out).mono ?_
    rintro en w1 ⟨rfl, rfl⟩
    go_wp2_with fail
    refine (hc.out).mono ?_
    rintro en w1 ⟨rfl, h1, h2⟩
    have H1 := Lib.hid h1
    have H2 := Lib.hid h2
    have c1 := h1.c1
    have f1 := h1.f1
    clear h1 h2
    go_wp2_with fail
    go_ret
    exact ⟨rfl, H1.out.set1 _, H2.out.setCell (p := ⟨R, 1, none⟩) rfl _⟩
  · have hr : Hid (rdFlag s e = (false, s, e)) := by unfold Hid rdFlag; rw [if_neg he]
    have hq : (e == 0) = false := by simp [he]
    rw [hr.out]
    go_enter Try.func64, Try.ntmps64
    go_wp2_with fail
    refine (goes_any R s e w H.out).mono ?_
    rintro en w1 ⟨rfl, rfl⟩
    go_wp2_with fail
    go_ret
    exact ⟨rfl, H.out, But.refl _ _⟩

theorem rflag_nil (w : World) :
    Calls Try.prog 64 #[.pointer none] w fun en w' => en = .returned (.bool false) ∧ w = w' := by
  go_enter Try.func64, Try.ntmps64
  go_wp2_with fail
  refine (goes_nil w).mono ?_
  rintro en w1 ⟨rfl, rfl⟩
  go_wp2_with fail
  go_ret
  exact ⟨rfl, rfl⟩

theorem left_any (R : Nat) (s : ByteArray) (e : Nat) (w : World) (h : Rd w R s e) :
    Calls Try.prog 47 #[.pointer (some ⟨R, 0, none⟩)] w fun en w' => en = .returned (.int .i64 (s.size : Nat)) ∧ w = w' := by
  have c0 := h.c0
  go_enter Try.func47, Try.ntmps47
  go_wp2_with fail
  go_ret
  exact ⟨rfl, rfl⟩
theorem left_nil (w : World) :
    Calls Try.prog 47 #[.pointer none] w fun en w' => en = .returned (.int .i64 0) ∧ w = w' := by
  go_enter Try.func47, Try.ntmps47
  go_wp2_with fail
  go_ret
  exact ⟨rfl, rfl⟩
theorem err_any (R : Nat) (s : ByteArray) (e : Nat) (w : World) (h : Rd w R s e) :
    Calls Try.prog 46 #[.pointer (some ⟨R, 0, none⟩)] w fun en w' => en = .returned (.int .i64 (e : Nat)) ∧ w = w' := by
  have c1 := h.c1
  go_enter Try.func46, Try.ntmps46
  go_wp2_with fail
  go_ret
  exact ⟨rfl, rfl⟩
theorem err_nil (w : World) :
    Calls Try.prog 46 #[.pointer none] w fun en w' => en = .returned (.int .i64 0) ∧ w = w' := by
  go_enter Try.func46, Try.ntmps46
  go_wp2_with fail
  go_ret
  exact ⟨rfl, rfl⟩

/-- what End tells -/
def endE (s : ByteArray) (e : Nat) : Nat := if e = 0 ∧ 0 < s.size then 2 else e

theorem end_any (R : Nat) (s : ByteArray) (e : Nat) (w : World) (h : Rd w R s e) :
    Calls Try.prog 26 #[.pointer (some ⟨R, 0, none⟩)] w fun en w' => en = .returned (.int .i64 (endE s e : Nat)) ∧ w = w' := by
  have H := Lib.hid h
  clear h
  by_cases he : e = 0
  · subst he
    by_cases hs : 0 < s.size
    · have hr : Hid (endE s 0 = 2) := if_pos ⟨rfl, hs⟩
      rw [hr.out]
      have hq : ((s.size : Int) > 0) := by omega
      go_enter Try.func26, Try.ntmps26
      go_wp2_with fail
      refine (err_any R s 0 w H.out).mono ?_
      rintro en w1 ⟨rfl, rfl⟩
      go_wp2_with fail
      refine (left_any R s 0 w H.out).mono ?_
      rintro en w1 ⟨rfl, rfl⟩
      go_wp2_with fail
      go_ret
      exact ⟨rfl, rfl⟩
    · have hr : Hid (endE s 0 = 0) := if_neg (fun h => hs h.2)
      rw [hr.out]
      have hq : ¬ ((s.size : Int) > 0) := by omega
      go_enter Try.func26, Try.ntmps26
      go_wp2_with fail
      refine (err_any R s 0 w H.out).mono ?_
      rintro en w1 ⟨rfl, rfl⟩
      go_wp2_with fail
      refine (left_any R s 0 w H.out).mono ?_
      rintro en w1 ⟨rfl, rfl⟩
      go_wp2_with fail
      refine (err_any R s 0 w H.out).mono ?_
      rintro en w1 ⟨rfl, rfl⟩
      go_wp2_with fail
      go_ret
      exact ⟨rfl, rfl⟩
  · have hr : Hid (endE s e = e) := if_neg (fun h => he h.1)
    rw [hr.out]
    have hq : ((e : Int) == 0) = false := by simp; omega
    go_enter Try.func26, Try.ntmps26
    go_wp2_with fail
    refine (err_any R s e w H.out).mono ?_
    rintro en w1 ⟨rfl, rfl⟩
    go_wp2_with fail
    refine (err_any R s e w H.out).mono ?_
    rintro en w1 ⟨rfl, rfl⟩
    go_wp2_with fail
    go_ret
    exact ⟨rfl, rfl⟩
theorem end_nil (w : World) :
    Calls Try.prog 26 #[.pointer none] w fun en w' => en = .returned (.int .i64 0) ∧ w = w' := by
  go_enter Try.func26, Try.ntmps26
  go_wp2_with fail
  refine (err_nil w).mono ?_
  rintro en w1 ⟨rfl, rfl⟩
  go_wp2_with fail
  refine (left_nil w).mono ?_
  rintro en w1 ⟨rfl, rfl⟩
  go_wp2_with fail
  refine (err_nil w).mono ?_
  rintro en w1 ⟨rfl, rfl⟩
  go_wp2_with fail
  go_ret
  exact ⟨rfl, rfl⟩

theorem new_any (s : ByteArray) (w : World) :
    Calls Try.prog 23 #[.string s] w fun en w' => en = .returned (.pointer (some ⟨w.heap.size, 0, none⟩)) ∧ Rd w' w.heap.size s 0 ∧ Below w.heap.size w w' ∧ w.heap.size < w'.heap.size := by
  go_enter Try.func23, Try.ntmps23
  go_wp2_with fail
  go_ret
  exact ⟨rfl, Bx.start w _ _ _, (Below.refl _ _).alloc (Nat.le_refl _) _, by simp⟩
end Go.Proofs.Ytafcgknpehphlaa.Pk
