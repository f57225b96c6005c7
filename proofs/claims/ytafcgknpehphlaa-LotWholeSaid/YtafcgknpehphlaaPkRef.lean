/- The document's reader: what each of its methods reads, and the first error. -/
import Derived.Test.YtafcgknpehphlaaPkRead
namespace Go.Proofs.Ytafcgknpehphlaa.Pk
open Go.RowKit
open Va (takeR takeS)

set_option maxHeartbeats 800000 in
set_option maxRecDepth 100000 in
theorem took_any (R : Nat) (s : ByteArray) (e : Nat) (t : Int × Nat × Nat) (w : World) (h : Rd w R s e) (hk : t.2.1 ≤ s.size) :
    Calls Try.prog 49 #[.pointer (some ⟨R, 0, none⟩), .int .i64 t.1, .int .i64 (t.2.1 : Nat), .int .i64 (t.2.2 : Nat)] w fun en w' => en = .returned (.int .i64 (rdNum t s e).1) ∧ Went R (rdNum t s e).2 w w' := by
  have H := Lib.hid h
  have c0 := h.c0
  have c1 := h.c1
  have f0 := h.f0
  have f1 := h.f1
  clear h
  obtain ⟨x, k, er⟩ := t
  simp only at hk
  by_cases he : e = 0
  · subst he
    by_cases hr : er = 0
    · subst hr
      have hr : Hid (rdNum (x, k, 0) s 0 = (x, s.extract k s.size, 0)) := rfl
      rw [hr.out]
      go_enter Try.func49, Try.ntmps49
      go_wp2_with fail
      go_ret
      exact ⟨rfl, H.out.set0 _, (But.refl R w).setCell (p := ⟨R, 0, none⟩) rfl _⟩
    · have hr' : Hid (rdNum (x, k, er) s 0 = (0, s, er)) := by unfold Hid rdNum; rw [if_pos rfl, if_neg hr]
      rw [hr'.out]
      have hq : ((er : Int) == 0) = false := by simp; omega
      go_enter Try.func49, Try.ntmps49
      go_wp2_with fail
      go_ret
      exact ⟨rfl, H.out.set1 _, (But.refl R w).setCell (p := ⟨R, 1, none⟩) rfl _⟩
  · have hr : Hid (rdNum (x, k, er) s e = (0, s, e)) := by unfold Hid rdNum; rw [if_neg he]
    rw [hr.out]
    have hq : ((e : Int) == 0) = false := by simp; omega
    go_enter Try.func49, Try.ntmps49
    go_wp2_with fail
    go_ret
    exact ⟨rfl, H.out, But.refl _ _⟩

set_option maxHeartbeats 800000 in
set_option maxRecDepth 100000 in
theorem dnum_any (R : Nat) (s : ByteArray) (e : Nat) (w : World) (h : Rd w R s e) (hs : s.size ≤ 1099511627776) :
    Calls Try.prog 27 #[.pointer (some ⟨R, 0, none⟩)] w fun en w' => en = .returned (.int .i64 (rdNum (tkN s) s e).1) ∧ Went R (rdNum (tkN s) s e).2 w w' := by
  have H := Lib.hid h
  have c0 := h.c0
  clear h
  have hle : (tkN s).2.1 ≤ s.size := by rw [← byte_len']; exact takeR_le _
  have hv : Hid (Calls Try.prog 48 #[.string s] w fun en w' => en = .returned (.tuple #[.int .i64 (tkN s).1, .int .i64 (tkN s).2.1, .int .i64 (tkN s).2.2]) ∧ w = w') := Va.rtake_any s w (by unfold maxLen; omega)
  generalize tkN s = t at *
  obtain ⟨x, k, er⟩ := t
  go_enter Try.func27, Try.ntmps27
  go_wp2_with fail
  refine (hv.out).mono ?_
  rintro en w1 ⟨rfl, rfl⟩
  go_wp2_with fail
  refine (took_any R s e (x, k, er) w H.out hle).mono ?_
  rintro en w1 ⟨rfl, h1⟩
  have H1 := Lib.hid h1
  clear h1
  go_wp2_with fail
  go_ret
  exact ⟨rfl, H1.out⟩

set_option maxHeartbeats 800000 in
set_option maxRecDepth 100000 in
theorem dsigned_any (R : Nat) (s : ByteArray) (e : Nat) (w : World) (h : Rd w R s e) (hs : s.size ≤ 1099511627776) :
    Calls Try.prog 51 #[.pointer (some ⟨R, 0, none⟩)] w fun en w' => en = .returned (.int .i64 (rdNum (tkS s) s e).1) ∧ Went R (rdNum (tkS s) s e).2 w w' := by
  have H := Lib.hid h
  have c0 := h.c0
  clear h
  have hle : (tkS s).2.1 ≤ s.size := by rw [← byte_len']; exact takeS_le _
  have hv : Hid (Calls Try.prog 67 #[.string s] w fun en w' => en = .returned (.tuple #[.int .i64 (tkS s).1, .int .i64 (tkS s).2.1, .int .i64 (tkS s).2.2]) ∧ w = w') := Va.rtakes_any s w (by unfold maxLen; omega)
  generalize tkS s = t at *
  obtain ⟨x, k, er⟩ := t
  go_enter Try.func51, Try.ntmps51
  go_wp2_with fail
  refine (hv.out).mono ?_
  rintro en w1 ⟨rfl, rfl⟩
  go_wp2_with fail
  refine (took_any R s e (x, k, er) w H.out hle).mono ?_
  rintro en w1 ⟨rfl, h1⟩
  have H1 := Lib.hid h1
  clear h1
  go_wp2_with fail
  go_ret
  exact ⟨rfl, H1.out⟩

set_option maxHeartbeats 1600000 in
set_option maxRecDepth 100000 in
theorem dtext_any (R : Nat) (s : ByteArray) (e : Nat) (most : Int) (w : World) (h : Rd w R s e) (hs : s.size ≤ 1099511627776) :
    Calls Try.prog 50 #[.pointer (some ⟨R, 0, none⟩), .int .i64 most] w fun en w' => en = .returned (.string (rdText most s e).1) ∧ Went R (rdText most s e).2 w w' := by
  have H := Lib.hid h
  have c0 := h.c0
  have c1 := h.c1
  have f0 := h.f0
  have f1 := h.f1
  clear h
  by_cases hz : e = 0
  · subst hz
    have hle : (takeR 9 s.data.toList).2.1 ≤ s.size := by rw [← byte_len']; exact takeR_le _
    have hv := Lib.hid (Va.rtake_any s w (by unfold maxLen; omega))
    have hr : Hid (∀ T, takeR 9 s.data.toList = T → rdText most s 0 = if T.2.2 = 0 then (if (T.1 : Int) > most then (⟨#[]⟩, s, 12) else if T.1 > s.size - T.2.1 then (⟨#[]⟩, s, 3) else (s.extract T.2.1 (T.2.1 + T.1), s.extract (T.2.1 + T.1) s.size, 0)) else (⟨#[]⟩, s, T.2.2)) := by
      rintro T rfl; rfl
    obtain ⟨⟨x, k, er⟩, hT⟩ : ∃ T, takeR 9 s.data.toList = T := ⟨_, rfl⟩
    have hR := Lib.hid (hr.out _ hT)
    rw [hT] at hle hv
    clear hr hT
    simp only at hle
    have step : ∀ y : ByteArray × ByteArray × Nat, rdText most s 0 = y → (Calls Try.prog 50 #[.pointer (some ⟨R, 0, none⟩), .int .i64 most] w fun en w' => en = .returned (.string y.1) ∧ Went R y.2 w w') → Calls Try.prog 50 #[.pointer (some ⟨R, 0, none⟩), .int .i64 most] w fun en w' => en = .returned (.string (rdText most s 0).1) ∧ Went R (rdText most s 0).2 w w' := by
      rintro y rfl hy; exact hy
    by_cases he : er = 0
    · subst he
      by_cases hm : (x : Int) > most
      · refine step (⟨#[]⟩, s, 12) (by rw [hR.out]; simp only [if_pos, hm]) ?_
        go_enter Try.func50, Try.ntmps50
        go_wp2_with fail
        refine (hv.out).mono ?_
        rintro e w1 ⟨rfl, rfl⟩
        go_wp2_with fail
        go_ret
        exact ⟨rfl, H.out.set1 _, (But.refl R w).setCell (p := ⟨R, 1, none⟩) rfl _⟩
      · have hwr : IntKind.i64.wrap ((s.size : Int) - (k : Int)) = ((s.size - k : Nat) : Int) := by rw [IntKind.wrap_i64]; omega
        by_cases hx : x > s.size - k
        · refine step (⟨#[]⟩, s, 3) (by rw [hR.out]; simp only []; rw [if_pos trivial, if_neg hm, if_pos hx]) ?_
          have hx' : ((x : Int) > ((s.size - k : Nat) : Int)) := by omega
          clear hx
          go_enter Try.func50, Try.ntmps50
          go_wp2_with fail
          refine (hv.out).mono ?_
          rintro e w1 ⟨rfl, rfl⟩
          go_wp2_with fail
          go_ret
          exact ⟨rfl, H.out.set1 _, (But.refl R w).setCell (p := ⟨R, 1, none⟩) rfl _⟩
        · refine step (s.extract k (k + x), s.extract (k + x) s.size, 0) (by rw [hR.out]; simp only []; rw [if_pos trivial, if_neg hm, if_neg hx]) ?_
          have hx' : ¬ ((x : Int) > ((s.size - k : Nat) : Int)) := by omega
          have hwa : IntKind.i64.wrap ((k : Int) + (x : Int)) = ((k + x : Nat) : Int) := by rw [IntKind.wrap_i64]; omega
          have hka : k + x ≤ s.size := by omega
          clear hx
          go_enter Try.func50, Try.ntmps50
          go_wp2_with fail
          refine (hv.out).mono ?_
          rintro e w1 ⟨rfl, rfl⟩
          go_wp2_with fail
          go_ret
          exact ⟨rfl, H.out.set0 _, (But.refl R w).setCell (p := ⟨R, 0, none⟩) rfl _⟩
    · refine step (⟨#[]⟩, s, er) (by rw [hR.out]; simp only []; rw [if_neg he]) ?_
      have hq : ((er : Int) == 0) = false := by simp; omega
      go_enter Try.func50, Try.ntmps50
      go_wp2_with fail
      refine (hv.out).mono ?_
      rintro e w1 ⟨rfl, rfl⟩
      go_wp2_with fail
      go_ret
      exact ⟨rfl, H.out.set1 _, (But.refl R w).setCell (p := ⟨R, 1, none⟩) rfl _⟩
  · have hr : Hid (rdText most s e = (⟨#[]⟩, s, e)) := by unfold Hid rdText; rw [if_neg hz]
    rw [hr.out]
    have hq : ((e : Int) == 0) = false := by simp; omega
    go_enter Try.func50, Try.ntmps50
    go_wp2_with fail
    go_ret
    exact ⟨rfl, H.out, But.refl _ _⟩

set_option maxHeartbeats 1600000 in
set_option maxRecDepth 100000 in
theorem dflag_any (R : Nat) (s : ByteArray) (e : Nat) (w : World) (h : Rd w R s e) :
    Calls Try.prog 52 #[.pointer (some ⟨R, 0, none⟩)] w fun en w' => en = .returned (.bool (rdFlag s e).1) ∧ Went R (rdFlag s e).2 w w' := by
  have H := Lib.hid h
  have c0 := h.c0
  have c1 := h.c1
  have f0 := h.f0
  have f1 := h.f1
  clear h
  by_cases hz : e = 0
  · subst hz
    by_cases h0 : s.size = 0
    · obtain rfl : s = ⟨#[]⟩ := ByteArray.ext (Array.eq_empty_of_size_eq_zero h0)
      rw [rdFlag_nil (s := ⟨#[]⟩) rfl]
      go_enter Try.func52, Try.ntmps52
      go_wp2_with fail
      go_ret
      exact ⟨rfl, H.out.set1 _, (But.refl R w).setCell (p := ⟨R, 1, none⟩) rfl _⟩
    · have hd := Va.drop_byte s 0 (by omega)
      rw [List.drop_zero] at hd
      have hq : (s.toList == []) = false := by rw [ByteArray.toList_eq, hd]; rfl
      have hq2 : s.toList.isEmpty = false := by rw [ByteArray.toList_eq, hd]; rfl
      have h1 : 1 ≤ s.size := by omega
      by_cases z0 : s[0].toNat = 0
      · rw [rdFlag_zero hd z0]
        clear hd
        go_enter Try.func52, Try.ntmps52
        go_wp2_with fail
        go_ret
        exact ⟨rfl, H.out.set0 _, (But.refl R w).setCell (p := ⟨R, 0, none⟩) rfl _⟩
      · by_cases z1 : s[0].toNat = 1
        · rw [rdFlag_one hd z1]
          clear hd z0
          go_enter Try.func52, Try.ntmps52
          go_wp2_with fail
          go_ret
          exact ⟨rfl, H.out.set0 _, (But.refl R w).setCell (p := ⟨R, 0, none⟩) rfl _⟩
        · rw [rdFlag_else hd z0 z1]
          have z2 : 1 < s[0].toNat := by omega
          clear hd z0 z1
          go_enter Try.func52, Try.ntmps52
          go_wp2_with fail
          go_ret
          exact ⟨rfl, H.out.set1 _, (But.refl R w).setCell (p := ⟨R, 1, none⟩) rfl _⟩
  · have hr : Hid (rdFlag s e = (false, s, e)) := by unfold Hid rdFlag; rw [if_neg hz]
    rw [hr.out]
    have hq : ((e : Int) == 0) = false := by simp; omega
    go_enter Try.func52, Try.ntmps52
    go_wp2_with fail
    go_ret
    exact ⟨rfl, H.out, But.refl _ _⟩

set_option maxHeartbeats 800000 in
set_option maxRecDepth 100000 in
theorem dend_any (R : Nat) (s : ByteArray) (e : Nat) (w : World) (h : Rd w R s e) :
    Calls Try.prog 29 #[.pointer (some ⟨R, 0, none⟩)] w fun en w' => en = .returned (.int .i64 (endE s e : Nat)) ∧ w = w' := by
  have c0 := h.c0
  have c1 := h.c1
  clear h
  by_cases hz : e = 0
  · subst hz
    by_cases h0 : s.size = 0
    · obtain rfl : s = ⟨#[]⟩ := ByteArray.ext (Array.eq_empty_of_size_eq_zero h0)
      rw [show endE ⟨#[]⟩ 0 = 0 from rfl]
      go_enter Try.func29, Try.ntmps29
      go_wp2_with fail
      go_ret
      exact ⟨rfl, rfl⟩
    · have hd := Va.drop_byte s 0 (by omega)
      rw [List.drop_zero] at hd
      have hq : (s.toList == []) = false := by rw [ByteArray.toList_eq, hd]; rfl
      have hq2 : s.toList.isEmpty = false := by rw [ByteArray.toList_eq, hd]; rfl
      have hr : Hid (endE s 0 = 2) := if_pos ⟨rfl, by omega⟩
      rw [hr.out]
      clear hd
      go_enter Try.func29, Try.ntmps29
      go_wp2_with fail
      go_ret
      exact ⟨rfl, rfl⟩
  · have hr : Hid (endE s e = e) := if_neg (fun h => hz h.1)
    rw [hr.out]
    have hq : ((e : Int) == 0) = false := by simp; omega
    go_enter Try.func29, Try.ntmps29
    go_wp2_with fail
    go_ret
    exact ⟨rfl, rfl⟩
end Go.Proofs.Ytafcgknpehphlaa.Pk
