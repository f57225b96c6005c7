/- What must come, whatever the arguments are. -/
import Derived.Test.YtinepcgjmcbcfaaDoorNmRNums
namespace Go.Proofs.YtinepcgjmcbcfaaDoor.Nm
open Go.RowKit Go.Sort
open Va (str str_app conv_one)
open Go.Lib (decDigits)

theorem n_log17 : nameOf 1 17 = [108, 111, 103, 46, 49, 55] := by
  rw [name_1, nbd, if_pos (by decide), show ((17 : Int).toNat) = 17 from rfl, dec_step 17 (by decide), dec_low (17 / 10) (by decide)]; rfl
theorem n_img1 : nameOf 2 1 = [105, 109, 97, 103, 101, 46, 49] := by
  rw [name_2, nbd, if_pos (by decide), show ((1 : Int).toNat) = 1 from rfl, dec_low 1 (by decide)]; rfl

set_option maxHeartbeats 1600000 in
set_option maxRecDepth 100000 in
theorem awake_any (w : World) (hT : Tab w) :
    Calls Tryd.prog 6 #[] w fun e w' => e = .returned (.bool true) ∧ Below w.heap.size w w' := by
  have HT := Lib.hid hT
  clear hT
  have K1 : ∀ W, Hid (Calls Tryd.prog 7 #[.string ⟨#[108, 111, 103, 46, 49, 55]⟩] W fun e w' => e = .returned (.tuple #[.int .i64 1, .int .i64 17]) ∧ W = w') := fun W => kind_any ⟨#[108, 111, 103, 46, 49, 55]⟩ W
  have O1 : ∀ W, Tab W → Hid (Calls Tryd.prog 9 #[.int .i64 1, .int .i64 17] W fun e w' => e = .returned (.string ⟨#[108, 111, 103, 46, 49, 55]⟩) ∧ Below W.heap.size W w') := fun W h => by
    have := of_any 1 17 (by decide) (by decide) W h
    rw [n_log17] at this; exact this
  have O2 : ∀ W, Tab W → Hid (Calls Tryd.prog 9 #[.int .i64 3, .int .i64 0] W fun e w' => e = .returned (.string ⟨#[109, 97, 105, 110]⟩) ∧ Below W.heap.size W w') := fun W h => of_any 3 0 (by decide) (by decide) W h
  have O3 : ∀ W, Tab W → Hid (Calls Tryd.prog 9 #[.int .i64 4, .int .i64 9] W fun e w' => e = .returned (.string ⟨#[109, 97, 105, 110, 46, 110, 101, 119]⟩) ∧ Below W.heap.size W w') := fun W h => of_any 4 9 (by decide) (by decide) W h
  have O4 : ∀ W, Tab W → Hid (Calls Tryd.prog 9 #[.int .i64 2, .int .i64 1] W fun e w' => e = .returned (.string ⟨#[105, 109, 97, 103, 101, 46, 49]⟩) ∧ Below W.heap.size W w') := fun W h => by
    have := of_any 2 1 (by decide) (by decide) W h
    rw [n_img1] at this; exact this
  go_enter Tryd.func6, Tryd.ntmps6
  go_wp2_with fail
  refine (K1 _).out.mono ?_
  rintro e w1 ⟨rfl, rfl⟩
  go_wp2_with fail
  refine (O1 _ HT.out).out.mono ?_
  rintro e w1 ⟨rfl, hb1⟩
  have HB1 := Lib.hid hb1
  clear hb1
  go_wp2_with fail
  refine (O2 _ (HT.out.later HB1.out)).out.mono ?_
  rintro e w2 ⟨rfl, hb2⟩
  have HB2 := Lib.hid (HB1.out.trans (hb2.mono HB1.out.size))
  clear hb2
  go_wp2_with fail
  refine (O3 _ (HT.out.later HB2.out)).out.mono ?_
  rintro e w3 ⟨rfl, hb3⟩
  have HB3 := Lib.hid (HB2.out.trans (hb3.mono HB2.out.size))
  clear hb3
  go_wp2_with fail
  refine (O4 _ (HT.out.later HB3.out)).out.mono ?_
  rintro e w4 ⟨rfl, hb4⟩
  have HB4 := Lib.hid (HB3.out.trans (hb4.mono HB3.out.size))
  clear hb4 O1 O2 O3 O4 K1
  have HX : Hid (Txts (some ⟨w4.heap.size, 0, none⟩) 2 [⟨#[108, 111, 103, 46, 49, 48]⟩, ⟨#[108, 111, 103, 46, 57]⟩] (w4.alloc (.cells #[.string ⟨#[108, 111, 103, 46, 49, 48]⟩, .string ⟨#[108, 111, 103, 46, 57]⟩] 9))) := by
    refine ⟨rfl, fun _ => ⟨_, _, rfl, by simp, fun j hj => ?_⟩⟩
    have : j = 0 ∨ j = 1 := by omega
    rcases this with rfl | rfl <;> simp
  go_wp2_with fail
  refine (numbers_any 1 _ 2 2 _ _ HX.out (by decide)).mono ?_
  rintro e w5 ⟨a, c, rfl, hR, hb5⟩
  rw [show insAll (nums 1 (byt [⟨#[108, 111, 103, 46, 49, 48]⟩, ⟨#[108, 111, 103, 46, 57]⟩])) = [9, 10] from by decide] at hR ⊢
  have HB5 : Hid (Below w.heap.size w w5) := (HB4.out.alloc HB4.out.size _).trans (hb5.mono (by have := HB4.out.size; simp; omega))
  have HR := Lib.hid hR
  clear hR hb5 HX
  have HY : Hid (Row (some ⟨w5.heap.size, 0, none⟩) 2 [9, 10] (w5.alloc (.cells #[.int .i64 9, .int .i64 10] 3))) := by
    refine ⟨rfl, fun _ => ⟨_, _, rfl, by simp, fun j hj => ?_⟩⟩
    have : j = 0 ∨ j = 1 := by omega
    rcases this with rfl | rfl <;> simp
  have HB6 : Hid (Below w.heap.size w (w5.alloc (.cells #[.int .i64 9, .int .i64 10] 3))) := HB5.out.alloc HB5.out.size _
  go_wp2_with fail
  refine (same_any a _ c 2 2 [9, 10] (by decide) _ (HR.out.later ((Below.refl _ _).alloc (Nat.le_refl _) _)) HY.out).mono ?_
  rintro e w6 ⟨rfl, hb6⟩
  have HB7 := Lib.hid (HB6.out.trans (hb6.mono HB6.out.size))
  clear hb6
  go_wp2_with fail
  go_ret
  exact ⟨rfl, HB7.out⟩
end Go.Proofs.YtinepcgjmcbcfaaDoor.Nm
