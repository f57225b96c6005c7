/- What the law asks of a few constants first: true. -/
import Derived.Test.YtpoifceaiknpeaaVaSigned
namespace Go.Proofs.Ytpoifceaiknpeaa.Va
open Go.RowKit

set_option maxHeartbeats 800000 in
set_option maxRecDepth 100000 in
theorem awake_any (w : World) :
    Calls Try.prog 6 #[] w fun e w' => e = .returned (.bool true) ∧ Below w.heap.size w w' := by
  have R1 : Hid (takeR 9 [172, 2, 120] = (300, 2, 0)) := by unfold Hid; decide
  have R2 : Hid (takeS [3] = (-2, 1, 0)) := by unfold Hid; decide
  have R3 : Hid (putD 300 = [172, 2]) := by
    unfold Hid
    show digs 300 = _
    rw [digs_ge (by omega), digs_lt (by omega)]; rfl
  have R4 : Hid (digs (zig (-2)) = [3]) := by
    unfold Hid
    show digs 3 = _
    rw [digs_lt (by omega)]; rfl
  have R5 : Hid (allD [1, 2] = [1, 2]) := by
    unfold Hid
    show digs 1 ++ (digs 2 ++ []) = _
    rw [digs_lt (u := 1) (by omega), digs_lt (u := 2) (by omega)]; rfl
  go_enter Try.func6, Try.ntmps6
  go_wp2_with fail
  refine (vtake_any ⟨#[172, 2, 120]⟩ w (by decide)).mono ?_
  rintro e w1 ⟨rfl, rfl⟩
  simp only [R1.out]
  go_wp2_with fail
  refine (vtakes_any ⟨#[3]⟩ w (by decide)).mono ?_
  rintro e w1 ⟨rfl, rfl⟩
  simp only [R2.out]
  go_wp2_with fail
  refine (vput_any 300 (by omega) w).mono ?_
  rintro e w1 ⟨rfl, hb1⟩
  simp only [R3.out]
  go_wp2_with fail
  refine (vputs_any (-2) (by omega) (by omega) w1).mono ?_
  rintro e w2 ⟨rfl, hb2⟩
  simp only [R4.out]
  go_wp2_with fail
  refine (all_any w2.heap.size 0 2 2 [1, 2] _ rfl (by omega) (by simp) ?_ ?_).mono ?_
  · intro j hj
    rcases (show j = 0 ∨ j = 1 by omega) with rfl | rfl
    · exact World.cell?_alloc_mark w2 _ _ _ 0
    · exact World.cell?_alloc_mark w2 _ _ _ 1
  · intro j hj
    rcases (show j = 0 ∨ j = 1 by omega) with rfl | rfl <;> decide
  rintro e w3 ⟨rfl, hb3⟩
  simp only [R5.out]
  go_wp2_with fail
  go_ret
  exact ⟨rfl, (hb1.trans (hb2.mono hb1.size)).trans (((Below.refl _ _).alloc (Nat.le_trans hb1.size hb2.size) _).trans (hb3.mono (by simp; have := hb1.size; have := hb2.size; omega)))⟩
end Go.Proofs.Ytpoifceaiknpeaa.Va
