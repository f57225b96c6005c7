/- The walks of the first two laws of sums: true, whatever the arguments are. -/
import Derived.Test.YtdcopeokofcaoaaCrAwake
namespace Go.Proofs.Ytdcopeokofcaoaa.Cr
open Go.RowKit

set_option maxHeartbeats 1000000 in
theorem is_any (z : Int) (s : ByteArray) (w : World) :
    Calls Try.prog 3 #[.int .i64 z, .string s] w fun e w' => e = .returned (.bool true) ∧ Below w.heap.size w w' := by
  by_cases hl : 1024 < s.size
  · go_enter Try.func3, Try.ntmps3
    go_wp2_with fail
    refine (awake_any w).mono ?_
    rintro e w1 ⟨rfl, hb1⟩
    go_wp2
    go_ret
    exact ⟨rfl, hb1⟩
  · have hs : s.size ≤ 1000000 := by omega
    go_enter Try.func3, Try.ntmps3
    go_wp2_with fail
    refine (sum_one s hs w).mono ?_
    rintro e w1 ⟨rfl, hb1⟩
    go_wp2_with fail
    refine (rsum_any s hs w1).mono ?_
    rintro e w2 ⟨rfl, rfl⟩
    go_wp2_with fail
    refine (slow_any s hs w1).mono ?_
    rintro e w2 ⟨rfl, rfl⟩
    go_wp2_with fail
    refine (rsum_any s hs w1).mono ?_
    rintro e w2 ⟨rfl, rfl⟩
    go_wp2_with fail
    refine (more_any z s hs w1).mono ?_
    rintro e w2 ⟨rfl, hb2⟩
    go_wp2_with fail
    refine (rmore_any z s hs w2).mono ?_
    rintro e w3 ⟨rfl, rfl⟩
    go_wp2_with fail
    refine (awake_any w2).mono ?_
    rintro e w3 ⟨rfl, hb3⟩
    go_wp2
    go_ret
    have e1 := hb1.size
    have e2 := hb2.size
    exact ⟨rfl, hb1.trans ((hb2.mono e1).trans (hb3.mono (by omega)))⟩

/-- the sum of three texts, just laid -/
theorem sum_three (a b c : ByteArray) (ha : a.size ≤ 1000000) (hb : b.size ≤ 1000000) (hc : c.size ≤ 1000000) (w : World) :
    Calls Try.prog 6 #[.slice (some ⟨w.heap.size, 0, none⟩) 3 3] (w.alloc (.cells #[.string a, .string b, .string c] 9)) fun e w' => e = .returned (.int .i64 ((sumB 0 (a.data.toList ++ b.data.toList ++ c.data.toList) : Nat) : Int)) ∧ Below w.heap.size w w' := by
  refine (sum_any w.heap.size 0 3 3 [a, b, c] rfl (by omega) (w.alloc (.cells #[.string a, .string b, .string c] 9)) ?_ ?_).mono ?_
  · refine ⟨by simp, fun j hj => ?_⟩
    have hh := World.cell?_alloc_mark w #[.string a, .string b, .string c] 9 (0, 0) (0 + j)
    refine hh.trans ?_
    have hj3 : j < 3 := hj
    rcases j with _ | _ | _ | j
    · rfl
    · rfl
    · rfl
    · omega
  · intro j hj
    rcases j with _ | _ | _ | j
    · exact ha
    · exact hb
    · exact hc
    · omega
  · rintro e w' ⟨rfl, hb⟩
    exact ⟨by simp [cat], ((Below.refl _ _).alloc (Nat.le_refl _) _).trans (hb.mono (by simp))⟩

theorem app_list (a b : ByteArray) : (a ++ b).data.toList = a.data.toList ++ b.data.toList := by simp

/-- the sum of what stands behind a sum -/
theorem more_sum (l : List UInt8) (s : ByteArray) (hs : s.size ≤ 1000000) (w : World) :
    Calls Try.prog 9 #[.int .i64 ((sumB 0 l : Nat) : Int), .string s] w fun e w' => e = .returned (.int .i64 ((sumB 0 (l ++ s.data.toList) : Nat) : Int)) ∧ Below w.heap.size w w' :=
  (more_any ((sumB 0 l : Nat) : Int) s hs w).mono fun _ _ h => ⟨by
    have hl := sumB_lt (n := 0) (by decide) l
    rw [h.1, sumB_append, show (((sumB 0 l : Nat) : Int) % 4294967296).toNat = sumB 0 l from by omega], h.2⟩

set_option maxHeartbeats 1000000 in
theorem parts_any (a b c : ByteArray) (w : World) :
    Calls Try.prog 4 #[.string a, .string b, .string c] w fun e w' => e = .returned (.bool true) ∧ Below w.heap.size w w' := by
  by_cases hl : a.size ≤ 1024 ∧ b.size ≤ 1024 ∧ c.size ≤ 1024
  · obtain ⟨ha, hb, hc⟩ := hl
    have hda : decide (1024 < (a.size : Int)) = false := by simp; omega
    have hdb : decide (1024 < (b.size : Int)) = false := by simp; omega
    have hdc : decide (1024 < (c.size : Int)) = false := by simp; omega
    have habc : (a ++ b ++ c).size ≤ 1000000 := by simp; omega
    have hbc : (b ++ c).size ≤ 1000000 := by simp; omega
    obtain ⟨S, hS⟩ : ∃ S, sumB 0 (a.data.toList ++ b.data.toList ++ c.data.toList) = S := ⟨_, rfl⟩
    have HA : Hid (sumB 0 (a ++ b ++ c).data.toList = S) := by show _ = _; rw [← hS]; simp
    have HS := Lib.hid hS
    have HM : Hid (sumB 0 (a.data.toList ++ (b ++ c).data.toList) = S) := by show _ = _; rw [← hS]; simp
    have HE : Hid (sumB ((S : Int) % 4294967296).toNat (ByteArray.mk #[]).data.toList = S) := by
      have := sumB_lt (n := 0) (by decide) (a.data.toList ++ b.data.toList ++ c.data.toList)
      rw [hS] at this
      show sumB _ [] = _
      rw [sumB_nil]; omega
    clear hS
    go_enter Try.func4, Try.ntmps4
    go_wp2_with fail
    refine (slow_any (a ++ b ++ c) habc w).mono ?_
    rintro e w1 ⟨rfl, rfl⟩
    rw [HA.out]
    go_wp2_with fail
    refine (sum_three a b c (by omega) (by omega) (by omega) w).mono ?_
    rintro e w1 ⟨rfl, hb1⟩
    rw [HS.out]
    go_wp2_with fail
    refine (sum_one (a ++ b ++ c) habc w1).mono ?_
    rintro e w2 ⟨rfl, hb2⟩
    rw [HA.out]
    go_wp2_with fail
    refine (sum_one a (by omega) w2).mono ?_
    rintro e w3 ⟨rfl, hb3⟩
    go_wp2_with fail
    refine (more_sum a.data.toList (b ++ c) hbc w3).mono ?_
    rintro e w4 ⟨rfl, hb4⟩
    rw [HM.out]
    go_wp2_with fail
    refine (more_any (S : Int) ⟨#[]⟩ (by decide) w4).mono ?_
    rintro e w5 ⟨rfl, hb5⟩
    rw [HE.out]
    go_wp2_with fail
    refine (awake_any w5).mono ?_
    rintro e w6 ⟨rfl, hb6⟩
    go_wp2
    go_ret
    have e1 := hb1.size
    have e2 := hb2.size
    have e3 := hb3.size
    have e4 := hb4.size
    have e5 := hb5.size
    exact ⟨rfl, hb1.trans ((hb2.mono e1).trans ((hb3.mono (by omega)).trans ((hb4.mono (by omega)).trans ((hb5.mono (by omega)).trans (hb6.mono (by omega))))))⟩
  · by_cases ha : a.size ≤ 1024
    · have hda : decide (1024 < (a.size : Int)) = false := by simp; omega
      by_cases hb : b.size ≤ 1024
      · have hdb : decide (1024 < (b.size : Int)) = false := by simp; omega
        have hdc : decide (1024 < (c.size : Int)) = true := by simp; omega
        clear hl
        go_enter Try.func4, Try.ntmps4
        go_wp2_with fail
        refine (awake_any w).mono ?_
        rintro e w1 ⟨rfl, hb1⟩
        go_wp2
        go_ret
        exact ⟨rfl, hb1⟩
      · have hdb : decide (1024 < (b.size : Int)) = true := by simp; omega
        clear hl
        go_enter Try.func4, Try.ntmps4
        go_wp2_with fail
        refine (awake_any w).mono ?_
        rintro e w1 ⟨rfl, hb1⟩
        go_wp2
        go_ret
        exact ⟨rfl, hb1⟩
    · have hda : decide (1024 < (a.size : Int)) = true := by simp; omega
      clear hl
      go_enter Try.func4, Try.ntmps4
      go_wp2_with fail
      refine (awake_any w).mono ?_
      rintro e w1 ⟨rfl, hb1⟩
      go_wp2
      go_ret
      exact ⟨rfl, hb1⟩
end Go.Proofs.Ytdcopeokofcaoaa.Cr
