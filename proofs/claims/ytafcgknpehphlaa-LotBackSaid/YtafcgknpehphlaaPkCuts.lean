/- How a text and a flag are cut off what is left. -/
import Derived.Test.YtafcgknpehphlaaPkRest
namespace Go.Proofs.Ytafcgknpehphlaa.Pk
open Go.RowKit
open Va (takeR takeS)

set_option maxHeartbeats 1600000 in
set_option maxRecDepth 100000 in
theorem text_any (R : Nat) (s : ByteArray) (b : Value) (most : Int) (w : World) (h : Bx w R (.string s) b) (hs : s.size ≤ 1099511627776) :
    Calls Try.prog 70 #[.pointer (some ⟨R, 0, none⟩), .int .i64 most] w fun e w' =>
      e = .returned (.tuple #[.string (rdText most s 0).1, .int .i64 (rdText most s 0).2.2]) ∧ Bx w' R (.string (rdText most s 0).2.1) b ∧ But R w w' := by
  have H := Lib.hid h
  have hle : (takeR 9 s.data.toList).2.1 ≤ s.size := by rw [← byte_len']; exact takeR_le _
  have hv := Lib.hid (Va.vtake_any s w (by unfold maxLen; omega))
  have c0 := h.c0
  clear h
  have hr : Hid (∀ T, takeR 9 s.data.toList = T → rdText most s 0 = if T.2.2 = 0 then (if (T.1 : Int) > most then (⟨#[]⟩, s, 12) else if T.1 > s.size - T.2.1 then (⟨#[]⟩, s, 3) else (s.extract T.2.1 (T.2.1 + T.1), s.extract (T.2.1 + T.1) s.size, 0)) else (⟨#[]⟩, s, T.2.2)) := by
    rintro T rfl; rfl
  obtain ⟨⟨x, k, er⟩, hT⟩ : ∃ T, takeR 9 s.data.toList = T := ⟨_, rfl⟩
  have hR := Lib.hid (hr.out _ hT)
  rw [hT] at hle hv
  clear hr hT
  simp only at hle
  by_cases he : er = 0
  · subst he
    by_cases hm : (x : Int) > most
    · have hr : Hid (rdText most s 0 = (⟨#[]⟩, s, 12)) := by unfold Hid; rw [hR.out]; simp only [if_pos, hm]
      rw [hr.out]
      go_enter Try.func70, Try.ntmps70
      go_wp2_with fail
      refine (hv.out).mono ?_
      rintro e w1 ⟨rfl, rfl⟩
      go_wp2_with fail
      go_ret2
      exact ⟨rfl, H.out, But.refl _ _⟩
    · have hwr : IntKind.i64.wrap ((s.size : Int) - (k : Int)) = ((s.size - k : Nat) : Int) := by rw [IntKind.wrap_i64]; omega
      by_cases hx : x > s.size - k
      · have hr : Hid (rdText most s 0 = (⟨#[]⟩, s, 3)) := by unfold Hid; rw [hR.out]; simp only []; rw [if_pos trivial, if_neg hm, if_pos hx]
        rw [hr.out]
        have hx' : ((x : Int) > ((s.size - k : Nat) : Int)) := by omega
        have hxs := Lib.hid hx
        clear hx
        go_enter Try.func70, Try.ntmps70
        go_wp2_with fail
        refine (hv.out).mono ?_
        rintro e w1 ⟨rfl, rfl⟩
        go_wp2_with fail
        go_ret2
        exact ⟨rfl, H.out, But.refl _ _⟩
      · have hr : Hid (rdText most s 0 = (s.extract k (k + x), s.extract (k + x) s.size, 0)) := by unfold Hid; rw [hR.out]; simp only []; rw [if_pos trivial, if_neg hm, if_neg hx]
        rw [hr.out]
        have hx' : ¬ ((x : Int) > ((s.size - k : Nat) : Int)) := by omega
        have hxs := Lib.hid hx
        clear hx
        obtain ⟨e1, e2⟩ := extract_from s k x (by have := hxs.out; omega)
        have E1 := Lib.hid e1
        have E2 := Lib.hid e2
        clear e1 e2
        go_enter Try.func70, Try.ntmps70
        go_wp2_with fail
        refine (hv.out).mono ?_
        rintro e w1 ⟨rfl, rfl⟩
        go_wp2_with fail
        refine (cut_any R s b k w H.out hle).mono ?_
        rintro e w1 ⟨rfl, h1⟩
        have H1 := Lib.hid (cut_bx H.out h1)
        clear h1
        go_wp2_with fail
        refine (cut_any R _ b x w1 H1.out.1 (by have := hxs.out; rw [ByteArray.size_extract]; omega)).mono ?_
        rintro e w2 ⟨rfl, h2⟩
        have H2 := Lib.hid (cut_bx H1.out.1 h2)
        clear h2
        rw [E2.out] at H2
        rw [E1.out]
        go_wp2_with fail
        refine (clone_any _ w2 (by rw [ByteArray.size_extract]; omega)).mono ?_
        rintro e w3 ⟨rfl, h3⟩
        have H3 := Lib.hid h3
        clear h3
        go_wp2_with fail
        go_ret2
        exact ⟨rfl, H2.out.1.later H3.out, (H1.out.2.trans H2.out.2).then H3.out⟩
  · have hr : Hid (rdText most s 0 = (⟨#[]⟩, s, er)) := by unfold Hid; rw [hR.out]; simp only []; rw [if_neg he]
    rw [hr.out]
    have hq : ((er : Int) == 0) = false := by simp; omega
    go_enter Try.func70, Try.ntmps70
    go_wp2_with fail
    refine (hv.out).mono ?_
    rintro e w1 ⟨rfl, rfl⟩
    go_wp2_with fail
    go_ret2
    exact ⟨rfl, H.out, But.refl _ _⟩

theorem first_byte {s : ByteArray} {c : UInt8} {r : List UInt8} (h : s.data.toList = c :: r) : s.extract 0 1 = ⟨#[c]⟩ ∧ 1 ≤ s.size := by
  have hl := byte_len' s
  rw [h] at hl
  simp at hl
  refine ⟨?_, by omega⟩
  apply ByteArray.ext
  rw [ByteArray.data_extract]
  apply Array.toList_inj.1
  rw [Array.toList_extract, h]
  simp [List.extract]

theorem rdFlag_nil {s : ByteArray} (h : s.data.toList = []) : rdFlag s 0 = (false, s, 3) := by unfold rdFlag; rw [if_pos rfl, h]
theorem rdFlag_zero {s : ByteArray} {c : UInt8} {r : List UInt8} (h : s.data.toList = c :: r) (z : c.toNat = 0) : rdFlag s 0 = (false, s.extract 1 s.size, 0) := by
  unfold rdFlag; rw [if_pos rfl, h]; simp only []; rw [if_pos z]
theorem rdFlag_one {s : ByteArray} {c : UInt8} {r : List UInt8} (h : s.data.toList = c :: r) (z : c.toNat = 1) : rdFlag s 0 = (true, s.extract 1 s.size, 0) := by
  unfold rdFlag; rw [if_pos rfl, h]; simp only []; rw [if_neg (by omega), if_pos z]
theorem rdFlag_else {s : ByteArray} {c : UInt8} {r : List UInt8} (h : s.data.toList = c :: r) (z0 : c.toNat ≠ 0) (z1 : c.toNat ≠ 1) : rdFlag s 0 = (false, s, 2) := by
  unfold rdFlag; rw [if_pos rfl, h]; simp only []; rw [if_neg z0, if_neg z1]

set_option maxHeartbeats 1600000 in
set_option maxRecDepth 100000 in
theorem flag_any (R : Nat) (s : ByteArray) (b : Value) (w : World) (h : Bx w R (.string s) b) :
    Calls Try.prog 72 #[.pointer (some ⟨R, 0, none⟩)] w fun e w' =>
      e = .returned (.tuple #[.bool (rdFlag s 0).1, .int .i64 (rdFlag s 0).2.2]) ∧ Bx w' R (.string (rdFlag s 0).2.1) b ∧ But R w w' := by
  have H := Lib.hid h
  have c0 := h.c0
  clear h
  obtain ⟨l, hl⟩ : ∃ l, s.data.toList = l := ⟨_, rfl⟩
  cases l with
  | nil =>
    have h0 : s.size = 0 := by rw [← byte_len', hl]; rfl
    rw [rdFlag_nil hl]
    clear hl
    go_enter Try.func72, Try.ntmps72
    go_wp2_with fail
    go_ret2
    exact ⟨rfl, H.out, But.refl _ _⟩
  | cons c r =>
    obtain ⟨hx, h1⟩ := first_byte hl
    by_cases z0 : c.toNat = 0
    · obtain rfl : c = 0 := UInt8.toNat_inj.1 z0
      rw [rdFlag_zero hl z0]
      clear hl
      go_enter Try.func72, Try.ntmps72
      go_wp2_with fail
      refine (cut_any R s b 1 w H.out h1).mono ?_
      rintro e w1 ⟨rfl, h2⟩
      have H1 := Lib.hid (cut_bx H.out h2)
      clear h2
      go_wp2_with fail
      go_ret2
      exact ⟨rfl, H1.out⟩
    · by_cases z1 : c.toNat = 1
      · obtain rfl : c = 1 := UInt8.toNat_inj.1 z1
        rw [rdFlag_one hl z1]
        clear hl z0 z1
        go_enter Try.func72, Try.ntmps72
        go_wp2_with fail
        refine (cut_any R s b 1 w H.out h1).mono ?_
        rintro e w1 ⟨rfl, h2⟩
        have H1 := Lib.hid (cut_bx H.out h2)
        clear h2
        go_wp2_with fail
        go_ret2
        exact ⟨rfl, H1.out⟩
      · have q0 : ((s.extract 0 1).toList == [0]) = false := by
          rw [hx, ByteArray.toList_eq]; show ([c] == [(0 : UInt8)]) = false; simp; intro e; exact z0 (by rw [e]; rfl)
        have q1 : ((s.extract 0 1).toList == [1]) = false := by
          rw [hx, ByteArray.toList_eq]; show ([c] == [(1 : UInt8)]) = false; simp; intro e; exact z1 (by rw [e]; rfl)
        rw [rdFlag_else hl z0 z1]
        clear hl hx
        go_enter Try.func72, Try.ntmps72
        go_wp2_with fail
        go_ret2
        exact ⟨rfl, H.out, But.refl _ _⟩
end Go.Proofs.Ytafcgknpehphlaa.Pk
