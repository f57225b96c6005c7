/- What the program reads of digits. -/
import Derived.Test.YtinepcgjmcbcfaaDoorNmDig
import Derived.Test.YtinepcgjmcbcfaaDoorNmShelf
namespace Go.Proofs.YtinepcgjmcbcfaaDoor.Nm
open Go.RowKit
open Va (str str_app conv_one)
open Go.Lib (decDigits)

theorem getD_byte (s : ByteArray) (k : Nat) (h : k < s.size) : s.data.toList.getD k 0 = s[k] := by
  rw [List.getD_eq_getElem?_getD, List.getElem?_eq_getElem (by simpa using h)]; rfl
theorem drop_byte (s : ByteArray) (k : Nat) (h : k < s.size) : s.data.toList.drop k = s[k] :: s.data.toList.drop (k + 1) := by
  rw [List.drop_eq_getElem_cons (by simpa using h)]; rfl
theorem size_list (s : ByteArray) : s.data.toList.length = s.size := by rw [Array.length_toList]; rfl
theorem pow_step (k : Nat) (h : k < 18) : 10 ^ k ≤ 100000000000000000 := by
  have h3 : (10 : Nat) ^ 17 = 100000000000000000 := by decide
  rw [← h3]; exact Nat.pow_le_pow_right (by decide) (by omega)

set_option maxHeartbeats 800000 in
set_option maxRecDepth 100000 in
theorem number_any (s : ByteArray) (w : World) :
    Calls Tryd.prog 20 #[.string s] w fun e w' => e = .returned (.int .i64 (num s.data.toList : Nat)) ∧ w = w' := by
  by_cases hl : 18 < s.size
  · have hn : num s.data.toList = 0 := by unfold num; rw [size_list, if_pos hl]
    rw [hn]
    go_enter Tryd.func20, Tryd.ntmps20
    go_wp2
    go_ret
    exact ⟨rfl, rfl⟩
  · have hN : Hid (num s.data.toList = (rd 0 s.data.toList).getD 0) := by unfold Hid num; rw [size_list, if_neg hl]
    rw [hN.out]
    generalize hr : rd 0 s.data.toList = r
    have HR := Lib.hid hr
    clear hr
    go_enter Tryd.func20, Tryd.ntmps20
    go_wp2
    go_loop [3, 11] (fun n i => ∃ k m : Nat, k ≤ s.size ∧ i = .int .i64 k ∧ n = .int .i64 m ∧ m < 10 ^ k ∧ rd m (s.data.toList.drop k) = r) (fun _ i => s.size - (intOf i).toNat)
    case atStart => exact ⟨0, 0, Nat.zero_le _, rfl, rfl, by decide, HR.out⟩
    case round =>
      obtain ⟨k, m, hk, rfl, rfl, hm, hd⟩ := hrel
      have HM := Lib.hid hm
      clear hm
      have HD := Lib.hid hd
      clear hd
      by_cases hlt : k < s.size
      · have HB := Lib.hid (drop_byte s k hlt)
        have hc : s[k].toNat < 256 := s[k].toNat_lt
        have hm : m < 100000000000000000 := Nat.lt_of_lt_of_le HM.out (pow_step k (by omega))
        by_cases hbad : s[k].toNat < 48 ∨ 57 < s[k].toNat ∨ (s[k].toNat = 48 ∧ m = 0)
        · have HE : Hid (r = none) := by
            unfold Hid
            rw [← HD.out, HB.out, rd, if_pos hbad]
          clear HR HB HD HM
          rcases hbad with h | h | ⟨h, h2⟩
          · go_wp2
            go_ret
            exact ⟨by rw [HE.out]; rfl, rfl⟩
          · go_wp2
            go_ret
            exact ⟨by rw [HE.out]; rfl, rfl⟩
          · subst h2
            go_wp2
            go_ret
            exact ⟨by rw [HE.out]; rfl, rfl⟩
        · have HE : Hid (rd (m * 10 + (s[k].toNat - 48)) (s.data.toList.drop (k + 1)) = r) := by
            unfold Hid
            rw [← HD.out, HB.out, rd, if_neg hbad]
          have HP : Hid (m * 10 + (s[k].toNat - 48) < 10 ^ (k + 1)) := by
            have := HM.out
            unfold Hid
            rw [Nat.pow_succ]; omega
          clear HR HB HD HM
          have h1 : 48 ≤ s[k].toNat := by omega
          have h2 : s[k].toNat ≤ 57 := by omega
          have hw : IntKind.u8.wrap ((s[k].toNat : Int) - 48) = ((s[k].toNat - 48 : Nat) : Int) := by rw [IntKind.wrap_u8]; omega
          have HBad := Lib.hid hbad
          clear hbad
          by_cases h48 : s[k].toNat = 48
          · have hm0 : ((m : Int) == 0) = false := by have := HBad.out; simp; omega
            go_wp2
            go_round
            case rel => exact ⟨k + 1, m * 10 + (s[k].toNat - 48), by omega, by go_num, by go_num, HP.out, HE.out⟩
            case measure => simp [intOf]; omega
          · have hc0 : ((s[k].toNat : Int) == 48) = false := by simp; omega
            go_wp2
            go_round
            case rel => exact ⟨k + 1, m * 10 + (s[k].toNat - 48), by omega, by go_num, by go_num, HP.out, HE.out⟩
            case measure => simp [intOf]; omega
      · have hkk : k = s.size := by omega
        subst hkk
        have HE : Hid (r = some m) := by
          have h := HD.out
          rw [← size_list, List.drop_length] at h
          exact h.symm
        clear HD HR HM
        go_wp2
        go_ret
        exact ⟨by rw [HE.out]; rfl, rfl⟩
end Go.Proofs.YtinepcgjmcbcfaaDoor.Nm
