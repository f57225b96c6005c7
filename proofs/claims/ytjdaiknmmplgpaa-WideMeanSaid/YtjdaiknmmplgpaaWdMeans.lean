/- The walk of the fourth law: a mean is between the least and the greatest duration. -/
import Derived.Test.YtjdaiknmmplgpaaWdSums
namespace Go.Proofs.Ytjdaiknmmplgpaa.Wd
open Go.RowKit

set_option maxHeartbeats 4000000 in
set_option maxRecDepth 100000 in
theorem means_else (a : Option Addr) (len cap : Nat) (w : World) (hl : 60 < len ∨ len = 0) :
    Calls Try.prog 6 #[.slice a len cap] w fun e w' => e = .returned (.bool true) ∧ Below w.heap.size w w' := by
  rcases hl with hl | rfl
  · have d1 : decide ((len : Int) > 60) = true := by simp; omega
    go_enter Try.func6, Try.ntmps6
    go_wp2_with fail
    refine (awake_any _).mono ?_
    rintro e w1 ⟨rfl, hl1⟩
    go_wp2_with fail
    go_ret
    exact ⟨rfl, hl1⟩
  · go_enter Try.func6, Try.ntmps6
    go_wp2_with fail
    refine (awake_any _).mono ?_
    rintro e w1 ⟨rfl, hl1⟩
    go_wp2_with fail
    go_ret
    exact ⟨rfl, hl1⟩

set_option maxHeartbeats 8000000 in
set_option maxRecDepth 100000 in
theorem means_any (b off len cap : Nat) (zs : List Int) (w : World) (hz : Row (some ⟨b, off, none⟩) len zs w) (_hb : b < w.heap.size) (hcell : ∀ j, j < len → w.cell? ⟨b, off + j, none⟩ = some (.int .i64 (zs[j]?.getD 0))) (hl : len ≤ 60) (h0 : 0 < len) :
    Calls Try.prog 6 #[.slice (some ⟨b, off, none⟩) len cap] w fun e w' => e = .returned (.bool true) ∧ Below w.heap.size w w' := by
  have HZ := Lib.hid hz
  have HC := Lib.hid hcell
  clear hz hcell
  have d1 : decide ((60 : Int) < (len : Int)) = false := by simp; omega
  have d2 : ((len : Int) == 0) = false := by simp; omega
  go_enter Try.func6, Try.ntmps6
  go_wp2_with fail
  go_loop [3, 4, 5] (fun l h i => ∃ (k : Nat) (lo hi : Int), k ≤ len ∧ l = .int .i64 lo ∧ h = .int .i64 hi ∧ i = .int .i64 k ∧ Hid (Btw zs k lo hi)) (fun _ _ i => len - (intOf i).toNat)
  case atStart => exact ⟨0, _, _, by omega, rfl, rfl, rfl, Btw.start zs⟩
  case round =>
    obtain ⟨k, lo, hi, hk, rfl, rfl, rfl, HB⟩ := hrel
    by_cases hkl : k < len
    · have hc := HC.out k hkl
      have HN := Lib.hid (fun lo' hi' => HB.out.next (lo' := lo') (hi' := hi') (by rw [HZ.out.len_is]; exact hkl))
      have HD := Lib.hid (dur_cases (zs[k]?.getD 0))
      have l0 := HB.out.l0
      have l1 := HB.out.l1
      have i0 := HB.out.h0
      have i1 := HB.out.h1
      generalize zs[k]?.getD 0 = z at hc HN HD
      go_wp2_with fail
      all_goals
        have hD := HD.out
        generalize dur z = D at hD HN
        go_round
        case rel => exact ⟨k + 1, _, _, by omega, rfl, rfl, by go_num, HN.out _ _ (by omega) (by omega) (by omega) (by omega) (by omega) (by omega)⟩
        case measure => simp [intOf]; omega
    · obtain rfl : k = len := by omega
      have hm := HB.out
      rw [← HZ.out.len_is] at hm
      have hm := hm.mean (by rw [HZ.out.len_is]; omega) (by rw [HZ.out.len_is]; omega)
      rw [HZ.out.len_is] at hm
      obtain ⟨m1, m2⟩ := hm
      have KM := Lib.hid (fun W => mean_any (Wd.hi (ofT zs)) (Wd.lo (ofT zs)) (k : Int) (by omega) W)
      rw [tot_split (ofT_ge zs) (ofT_le zs)] at KM
      generalize meanT (ofT zs) (k : Int) = m at KM m1 m2
      have dm1 : decide (m ≥ lo) = true := by simp; omega
      have dm2 : decide (m ≤ hi) = true := by simp; omega
      go_wp2_with fail
      refine (of_any _ _ _ zs _ HZ.out (by omega)).mono ?_
      rintro e w1 ⟨rfl, hb1⟩
      go_wp2_with fail
      refine (KM.out _).mono ?_
      rintro e w2 ⟨rfl, hb2⟩
      have HBL : Hid (Below w.heap.size w w2) := hb1.trans (hb2.mono hb1.size)
      clear hb1 hb2
      go_wp2_with fail
      refine (awake_any _).mono ?_
      rintro e w3 ⟨rfl, hb3⟩
      go_wp2_with fail
      go_ret
      exact ⟨rfl, HBL.out.trans (hb3.mono HBL.out.size)⟩
end Go.Proofs.Ytjdaiknmmplgpaa.Wd
