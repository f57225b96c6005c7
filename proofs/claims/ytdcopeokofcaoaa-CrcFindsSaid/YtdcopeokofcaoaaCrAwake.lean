/- What must come, whatever the arguments are. -/
import Derived.Test.YtdcopeokofcaoaaCrSum
namespace Go.Proofs.Ytdcopeokofcaoaa.Cr
open Go.RowKit

theorem nine : sumB 0 [49, 50, 51, 52, 53, 54, 55, 56, 57] = 3808858755 := by decide +kernel

/-- the sum of one text, just laid -/
theorem sum_one (s : ByteArray) (hs : s.size ≤ 1000000) (w : World) :
    Calls Try.prog 6 #[.slice (some ⟨w.heap.size, 0, none⟩) 1 1] (w.alloc (.cells #[.string s] 9)) fun e w' => e = .returned (.int .i64 ((sumB 0 s.data.toList : Nat) : Int)) ∧ Below w.heap.size w w' := by
  refine (sum_any w.heap.size 0 1 1 [s] rfl (by omega) (w.alloc (.cells #[.string s] 9)) ?_ ?_).mono ?_
  · refine ⟨by simp, fun j hj => ?_⟩
    obtain rfl : j = 0 := by simpa using hj
    exact Go.cell_one_new w (.string s) 9 0 _ rfl
  · intro j hj
    obtain rfl : j = 0 := by omega
    exact hs
  · rintro e w' ⟨rfl, hb⟩
    exact ⟨by simp [cat], ((Below.refl _ _).alloc (Nat.le_refl _) _).trans (hb.mono (by simp))⟩

/-- the sum of the first four digits -/
def m4 : Nat := sumB 0 [49, 50, 51, 52]
theorem m4_more : sumB (((m4 : Nat) : Int) % 4294967296).toNat [53, 54, 55, 56, 57] = 3808858755 := by decide +kernel
theorem sum_nine (w : World) :
    Calls Try.prog 6 #[.slice (some ⟨w.heap.size, 0, none⟩) 1 1] (w.alloc (.cells #[.string ⟨#[49, 50, 51, 52, 53, 54, 55, 56, 57]⟩] 9)) fun e w' => e = .returned (.int .i64 3808858755) ∧ Below w.heap.size w w' :=
  (sum_one ⟨#[49, 50, 51, 52, 53, 54, 55, 56, 57]⟩ (by decide) w).mono fun _ _ h => ⟨by rw [h.1]; show Ending.returned (Value.int .i64 ((sumB 0 [49, 50, 51, 52, 53, 54, 55, 56, 57] : Nat) : Int)) = _; rw [nine]; rfl, h.2⟩
theorem sum_four (w : World) :
    Calls Try.prog 6 #[.slice (some ⟨w.heap.size, 0, none⟩) 1 1] (w.alloc (.cells #[.string ⟨#[49, 50, 51, 52]⟩] 9)) fun e w' => e = .returned (.int .i64 (m4 : Nat)) ∧ Below w.heap.size w w' :=
  (sum_one ⟨#[49, 50, 51, 52]⟩ (by decide) w).mono fun _ _ h => ⟨by rw [h.1]; rfl, h.2⟩
theorem slow_nine (w : World) :
    Calls Try.prog 8 #[.string ⟨#[49, 50, 51, 52, 53, 54, 55, 56, 57]⟩] w fun e w' => e = .returned (.int .i64 3808858755) ∧ w = w' :=
  (slow_any ⟨#[49, 50, 51, 52, 53, 54, 55, 56, 57]⟩ (by decide) w).mono fun _ _ h => ⟨by rw [h.1]; show Ending.returned (Value.int .i64 ((sumB 0 [49, 50, 51, 52, 53, 54, 55, 56, 57] : Nat) : Int)) = _; rw [nine]; rfl, h.2⟩
theorem more_five (w : World) :
    Calls Try.prog 9 #[.int .i64 (m4 : Nat), .string ⟨#[53, 54, 55, 56, 57]⟩] w fun e w' => e = .returned (.int .i64 3808858755) ∧ Below w.heap.size w w' :=
  (more_any (m4 : Nat) ⟨#[53, 54, 55, 56, 57]⟩ (by decide) w).mono fun _ _ h => ⟨by rw [h.1]; show Ending.returned (Value.int .i64 ((sumB (((m4 : Nat) : Int) % 4294967296).toNat [53, 54, 55, 56, 57] : Nat) : Int)) = _; rw [m4_more]; rfl, h.2⟩

set_option maxHeartbeats 1000000 in
theorem awake_any (w : World) :
    Calls Try.prog 11 #[] w fun e w' => e = .returned (.bool true) ∧ Below w.heap.size w w' := by
  go_enter Try.func11, Try.ntmps11
  go_wp2_with fail
  refine (sum_nine w).mono ?_
  rintro e w1 ⟨rfl, hb1⟩
  go_wp2_with fail
  refine (slow_nine w1).mono ?_
  rintro e w2 ⟨rfl, rfl⟩
  go_wp2_with fail
  refine (sum_none w1).mono ?_
  rintro e w2 ⟨rfl, hb2⟩
  go_wp2_with fail
  refine (sum_four w2).mono ?_
  rintro e w3 ⟨rfl, hb3⟩
  go_wp2_with fail
  refine (more_five w3).mono ?_
  rintro e w4 ⟨rfl, hb4⟩
  go_wp2
  go_ret
  have e1 := hb1.size
  have e2 := hb2.size
  have e3 := hb3.size
  exact ⟨rfl, hb1.trans ((hb2.mono e1).trans ((hb3.mono (by omega)).trans (hb4.mono (by omega))))⟩
end Go.Proofs.Ytdcopeokofcaoaa.Cr
