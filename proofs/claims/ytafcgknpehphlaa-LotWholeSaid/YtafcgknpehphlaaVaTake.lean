/- What the program reads of bytes: the number, how many bytes it has, or why there is none; for every text. -/
import Derived.Test.YtafcgknpehphlaaVaDig
import Derived.Deep.LoopGhost
namespace Go.Proofs.Ytafcgknpehphlaa.Va
open Go.RowKit

set_option maxHeartbeats 800000 in
set_option maxRecDepth 100000 in
theorem take_any (s : ByteArray) (most : Nat) (hm0 : 9 ≤ most) (hm1 : most ≤ 10) (w : World) (hs : s.size ≤ maxLen) :
    Calls Try.prog 61 #[.string s, .int .i64 most] w fun e w' =>
      e = .returned (.tuple #[.int .u64 (takeR most s.data.toList).1, .int .i64 (takeR most s.data.toList).2.1, .int .i64 (takeR most s.data.toList).2.2]) ∧ w = w' := by
  unfold maxLen at hs
  by_cases hmin : most < s.size
  · go_enter Try.func61, Try.ntmps61
    go_wp2
    go_step3
    go_wp2
    go_step3
    go_wp2
    go_loop [7, 8, 15] (fun u z i => ∃ k : Nat, k ≤ most ∧ i = .int .i64 k ∧ z = .int .i64 0 ∧ u = .int .u64 (vk s.data.toList k) ∧ (∀ j, j < k → 128 ≤ (s.data.toList.getD j 0).toNat)) (fun _ _ i => most - (intOf i).toNat)
    case atStart => exact ⟨0, Nat.zero_le _, rfl, rfl, rfl, fun j hj => absurd hj (by omega)⟩
    case round =>
      obtain ⟨k, hk1, rfl, rfl, rfl, hj⟩ := hrel
      have HJ := Lib.hid hj
      clear hj
      by_cases hlt : k < most
      · have hg := getD_byte s k (by omega)
        have hor := or_vk s.data.toList k s[k] (by omega) (by simp; omega) hg
        have HG := Lib.hid hg
        clear hg
        have hks : k < s.size := by omega
        by_cases hc : 128 ≤ s[k].toNat
        · go_wp2
          go_round
          case rel =>
            refine ⟨k + 1, by omega, by go_num, rfl, rfl, fun j hj => ?_⟩
            by_cases e : j = k
            · subst e; rw [HG.out]; omega
            · exact HJ.out j (by omega)
          case measure => simp [intOf]; omega
        · have HF : Hid (fst most s.data.toList = some k) := (fst_some_iff most _ k).2 ⟨by omega, by simp; omega, by rw [HG.out]; omega, HJ.out⟩
          by_cases hz0 : s[k].toNat = 0
          · have hz2 : ((s[k].toNat : Int) == 0) = true := by simp [hz0]
            have HZ := Lib.hid hz0
            clear hz0
            by_cases hk0 : 0 < k
            · go_wp2
              go_ret3
              exact ⟨by simp only [takeR, HF.out]; rw [if_pos ⟨by omega, by rw [HG.out]; exact HZ.out⟩]; rfl, rfl⟩
            · go_wp2
              go_ret3
              exact ⟨by simp only [takeR, HF.out]; rw [if_neg (by omega)]; rfl, rfl⟩
          · have hz2 : ((s[k].toNat : Int) == 0) = false := by simp; omega
            have HZ := Lib.hid hz0
            clear hz0
            go_wp2
            go_ret3
            exact ⟨by simp only [takeR, HF.out]; rw [if_neg (fun h => HZ.out (by rw [← HG.out]; exact h.2))]; rfl, rfl⟩
      · have HF : Hid (fst most s.data.toList = none) := (fst_none_iff most _).2 fun j h1 h2 => HJ.out j (by simp at h2; omega)
        go_wp2
        go_ret3
        exact ⟨by simp only [takeR, HF.out]; rw [if_neg (by simp; omega)]; rfl, rfl⟩
  · have hmin' : s.size ≤ most := by omega
    go_enter Try.func61, Try.ntmps61
    go_wp2
    go_step3
    go_wp2
    go_step3
    go_wp2
    go_loop [7, 8, 15] (fun u z i => ∃ k : Nat, k ≤ s.size ∧ i = .int .i64 k ∧ z = .int .i64 0 ∧ u = .int .u64 (vk s.data.toList k) ∧ (∀ j, j < k → 128 ≤ (s.data.toList.getD j 0).toNat)) (fun _ _ i => s.size - (intOf i).toNat)
    case atStart => exact ⟨0, Nat.zero_le _, rfl, rfl, rfl, fun j hj => absurd hj (by omega)⟩
    case round =>
      obtain ⟨k, hk1, rfl, rfl, rfl, hj⟩ := hrel
      have HJ := Lib.hid hj
      clear hj
      by_cases hlt : k < s.size
      · have hg := getD_byte s k (by omega)
        have hor := or_vk s.data.toList k s[k] (by omega) (by simp; omega) hg
        have HG := Lib.hid hg
        clear hg
        have hks : k < s.size := by omega
        by_cases hc : 128 ≤ s[k].toNat
        · go_wp2
          go_round
          case rel =>
            refine ⟨k + 1, by omega, by go_num, rfl, rfl, fun j hj => ?_⟩
            by_cases e : j = k
            · subst e; rw [HG.out]; omega
            · exact HJ.out j (by omega)
          case measure => simp [intOf]; omega
        · have HF : Hid (fst most s.data.toList = some k) := (fst_some_iff most _ k).2 ⟨by omega, by simp; omega, by rw [HG.out]; omega, HJ.out⟩
          by_cases hz0 : s[k].toNat = 0
          · have hz2 : ((s[k].toNat : Int) == 0) = true := by simp [hz0]
            have HZ := Lib.hid hz0
            clear hz0
            by_cases hk0 : 0 < k
            · go_wp2
              go_ret3
              exact ⟨by simp only [takeR, HF.out]; rw [if_pos ⟨by omega, by rw [HG.out]; exact HZ.out⟩]; rfl, rfl⟩
            · go_wp2
              go_ret3
              exact ⟨by simp only [takeR, HF.out]; rw [if_neg (by omega)]; rfl, rfl⟩
          · have hz2 : ((s[k].toNat : Int) == 0) = false := by simp; omega
            have HZ := Lib.hid hz0
            clear hz0
            go_wp2
            go_ret3
            exact ⟨by simp only [takeR, HF.out]; rw [if_neg (fun h => HZ.out (by rw [← HG.out]; exact h.2))]; rfl, rfl⟩
      · have HF : Hid (fst most s.data.toList = none) := (fst_none_iff most _).2 fun j h1 h2 => HJ.out j (by simp at h2; omega)
        by_cases hsm : s.size < most
        · go_wp2
          go_ret3
          exact ⟨by simp only [takeR, HF.out]; rw [if_pos (by simpa using hsm)]; rfl, rfl⟩
        · go_wp2
          go_ret3
          exact ⟨by simp only [takeR, HF.out]; rw [if_neg (by simpa using hsm)]; rfl, rfl⟩

end Go.Proofs.Ytafcgknpehphlaa.Va
