/- What the laws of layer 5 ask of a few constants: true. -/
import Derived.Test.YtbadlcjpddonpaaPkBytes
import Derived.Test.YtbadlcjpddonpaaPkParts
namespace Go.Proofs.Ytbadlcjpddonpaa.Pk
open Go.RowKit
open Va (digs zig putD str)

theorem rn : rdNum (tkN ⟨#[172, 2, 2, 97, 98, 1, 120]⟩) ⟨#[172, 2, 2, 97, 98, 1, 120]⟩ 0 = (300, ⟨#[2, 97, 98, 1, 120]⟩, 0) := by
  have h : tkN ⟨#[172, 2, 2, 97, 98, 1, 120]⟩ = (300, 2, 0) := by decide
  rw [h]; rfl
theorem rt : rdText 9 ⟨#[2, 97, 98, 1, 120]⟩ 0 = (⟨#[97, 98]⟩, ⟨#[1, 120]⟩, 0) := by
  have h : Va.takeR 9 (ByteArray.data ⟨#[2, 97, 98, 1, 120]⟩).toList = (2, 1, 0) := by decide
  unfold rdText; rw [h]; rfl
theorem rf : rdFlag ⟨#[1, 120]⟩ 0 = (true, ⟨#[120]⟩, 0) := by rw [rdFlag_one (c := 1) (r := [120]) rfl rfl]; rfl

theorem ap : ((⟨#[172, 2, 2, 97, 98, 1]⟩ : ByteArray) ++ (⟨#[120]⟩ : ByteArray)) = ⟨#[172, 2, 2, 97, 98, 1, 120]⟩ := rfl

set_option maxHeartbeats 1600000 in
set_option maxRecDepth 100000 in
theorem awake_any (w : World) :
    Calls Try.prog 7 #[] w fun e w' => e = .returned (.bool true) ∧ Below w.heap.size w w' := by
  have D1 : Hid (putD 300 = [172, 2]) := by
    unfold Hid
    show digs 300 = _
    rw [Va.digs_ge (by omega), Va.digs_lt (by omega)]; rfl
  have D2 : Hid (putD ((2 : Nat) : Int) = [2]) := by
    unfold Hid
    show digs 2 = _
    rw [Va.digs_lt (by omega)]; rfl
  have H0 := Lib.hid (Wr.start w 27)
  have B0 := Lib.hid ((Below.refl _ w).alloc (Nat.le_refl _) (.cells #[.pointer none] 27))
  have Z0 : Hid ((w.alloc (.cells #[.pointer none] 27)).heap.size = w.heap.size + 1) := by unfold Hid; simp
  go_enter Try.func7, Try.ntmps7
  go_wp2_with fail
  refine (wnum_any w.heap.size none [] 300 _ H0.out (by simp [cat]) (by omega)).mono ?_
  rintro e w1 ⟨rfl, ⟨q1, l1, h1, e1⟩, b1⟩
  rw [D1.out] at e1
  have H1 := Lib.hid h1
  have E1 : Hid (cat l1 = [172, 2]) := e1
  have B1 := Lib.hid (B0.out.trans (b1.below (Nat.le_refl _) (by rw [Z0.out]; omega)))
  clear h1 e1 b1
  go_wp2_with fail
  refine (wtext_any w.heap.size q1 l1 ⟨#[97, 98]⟩ _ H1.out (by rw [E1.out]; simp) (by decide)).mono ?_
  rintro e w2 ⟨rfl, ⟨q2, l2, h2, e2⟩, b2⟩
  have H2 := Lib.hid h2
  have E2 : Hid (cat l2 = [172, 2, 2, 97, 98]) := by
    unfold Hid; rw [e2, E1.out]
    show [172, 2] ++ (putD ((2 : Nat) : Int) ++ [97, 98]) = _
    rw [D2.out]; rfl
  have B2 := Lib.hid (B1.out.trans (b2.below (Nat.le_refl _) B1.out.size))
  clear h2 e2 b2
  go_wp2_with fail
  refine (wflag_true w.heap.size q2 l2 _ H2.out (by rw [E2.out]; simp)).mono ?_
  rintro e w3 ⟨rfl, ⟨q3, l3, h3, e3⟩, b3⟩
  have H3 := Lib.hid h3
  have E3 : Hid (cat l3 = [172, 2, 2, 97, 98, 1]) := by unfold Hid; rw [e3, E2.out]; rfl
  have B3 := Lib.hid (B2.out.trans (b3.below (Nat.le_refl _) B2.out.size))
  clear h3 e3 b3
  go_wp2_with fail
  refine (bytes_any w.heap.size q3 l3 _ H3.out (by rw [E3.out]; simp)).mono ?_
  rintro e w4 ⟨rfl, b4⟩
  have H4 := Lib.hid (H3.out.later b4)
  have B4 := Lib.hid (B3.out.trans (b4.mono B3.out.size))
  clear b4
  rw [E3.out]
  go_wp2_with fail
  rw [ap]
  refine (new_any _ w4).mono ?_
  rintro e w5 ⟨rfl, h5, b5, z5⟩
  have R5 := Lib.hid h5
  have B5 : Hid (But w4.heap.size w4 w5) := But.of_below b5
  clear h5 b5 z5
  go_wp2_with fail
  refine (rnum_any w4.heap.size _ 0 _ R5.out (by decide)).mono ?_
  rintro e w6 ⟨rfl, h6⟩
  rw [rn] at h6 ⊢
  have R6 : Hid (Rd w6 w4.heap.size ⟨#[2, 97, 98, 1, 120]⟩ 0) := h6.1
  have B6 := Lib.hid (B5.out.trans h6.2)
  clear h6
  go_wp2_with fail
  refine (rtext_any w4.heap.size _ 0 9 _ R6.out (by decide)).mono ?_
  rintro e w7 ⟨rfl, h7⟩
  rw [rt] at h7 ⊢
  have R7 : Hid (Rd w7 w4.heap.size ⟨#[1, 120]⟩ 0) := h7.1
  have B7 := Lib.hid (B6.out.trans h7.2)
  clear h7
  go_wp2_with fail
  refine (rflag_any w4.heap.size _ 0 _ R7.out).mono ?_
  rintro e w8 ⟨rfl, h8⟩
  rw [rf] at h8 ⊢
  have R8 : Hid (Rd w8 w4.heap.size ⟨#[120]⟩ 0) := h8.1
  have B8 := Lib.hid (B7.out.trans h8.2)
  have L8 : Hid (Below w4.heap.size w4 w8) := B8.out.below (Nat.le_refl _) (Nat.le_refl _)
  clear h8
  go_wp2_with fail
  refine (bytes_any w.heap.size q3 l3 _ (H4.out.later L8.out) (by rw [E3.out]; simp)).mono ?_
  rintro e w9 ⟨rfl, b9⟩
  have R9 : Hid (Rd w9 w4.heap.size ⟨#[120]⟩ 0) := Bx.later R8.out b9
  have B9 : Hid (Below w.heap.size w w9) := B4.out.trans ((L8.out.trans (b9.mono L8.out.size)).mono B4.out.size)
  clear b9
  rw [E3.out]
  go_wp2_with fail
  refine (left_any w4.heap.size _ 0 _ R9.out).mono ?_
  rintro e w10 ⟨rfl, rfl⟩
  go_wp2_with fail
  refine (err_any w4.heap.size _ 0 _ R9.out).mono ?_
  rintro e w10 ⟨rfl, rfl⟩
  go_wp2_with fail
  refine (end_any w4.heap.size _ 0 _ R9.out).mono ?_
  rintro e w10 ⟨rfl, rfl⟩
  rw [show endE ⟨#[120]⟩ 0 = 2 from rfl]
  go_wp2_with fail
  go_ret
  exact ⟨rfl, B9.out⟩
end Go.Proofs.Ytbadlcjpddonpaa.Pk
