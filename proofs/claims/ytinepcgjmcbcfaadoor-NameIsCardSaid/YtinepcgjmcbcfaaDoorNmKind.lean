/- A name's kind and number: the program and the document. -/
import Derived.Test.YtinepcgjmcbcfaaDoorNmRNum
namespace Go.Proofs.YtinepcgjmcbcfaaDoor.Nm
open Go.RowKit
open Va (str str_app conv_one)
open Go.Lib (decDigits)

theorem bhd_less (h l : List UInt8) (hl : l.length ≤ h.length) : bhd h l = 0 := by
  unfold bhd
  split
  · rw [List.drop_eq_nil_of_le hl]; rfl
  · rfl
theorem pre_take (h l : List UInt8) : h.isPrefixOf l = true ↔ l.take h.length = h := by
  rw [List.isPrefixOf_iff_prefix, List.prefix_iff_eq_take]
  exact eq_comm
theorem bhd_yes (h l : List UInt8) (e : l.take h.length = h) : bhd h l = num (l.drop h.length) := by
  unfold bhd; rw [if_pos ((pre_take h l).2 e)]
theorem bhd_no (h l : List UInt8) (e : l.take h.length ≠ h) : bhd h l = 0 := by
  unfold bhd; rw [if_neg (fun hp => e ((pre_take h l).1 hp))]

set_option maxHeartbeats 400000 in
theorem behind_any (h s : ByteArray) (w : World) :
    Calls Tryd.prog 14 #[.string h, .string s] w fun e w' => e = .returned (.int .i64 (bhd h.data.toList s.data.toList : Nat)) ∧ w = w' := by
  cases hp : Lib.hasPrefix s.data.toList h.data.toList with
  | false =>
    have hb : Hid (bhd h.data.toList s.data.toList = 0) := by
      unfold Hid bhd; unfold Lib.hasPrefix at hp; rw [if_neg (by rw [hp]; decide)]
    go_enter Tryd.func14, Tryd.ntmps14
    go_wp2_with fail
    refine (Tryd.strings_CutPrefix s h w).mono ?_
    rw [hp]
    rintro e w1 ⟨rfl, rfl⟩
    go_wp2_with fail
    go_ret
    exact ⟨by rw [hb.out]; rfl, rfl⟩
  | true =>
    have hb : Hid (bhd h.data.toList s.data.toList = num (s.data.toList.drop h.data.toList.length)) := by
      unfold Hid bhd; unfold Lib.hasPrefix at hp; rw [if_pos hp]
    have ht : Lib.trimPrefix s.data.toList h.data.toList = s.data.toList.drop h.data.toList.length := by
      unfold Lib.trimPrefix; rw [if_pos hp]
    go_enter Tryd.func14, Tryd.ntmps14
    go_wp2_with fail
    refine (Tryd.strings_CutPrefix s h w).mono ?_
    rw [hp, ht]
    rintro e w1 ⟨rfl, rfl⟩
    go_wp2_with fail
    refine (number_any _ w1).mono ?_
    rintro e w2 ⟨rfl, rfl⟩
    go_wp2_with fail
    go_ret
    exact ⟨by rw [hb.out]; rfl, rfl⟩

abbrev two (p : Int × Int) : Value := .tuple #[.int .i64 p.1, .int .i64 p.2]

set_option maxHeartbeats 800000 in
set_option maxRecDepth 100000 in
theorem kind_any (s : ByteArray) (w : World) :
    Calls Tryd.prog 7 #[.string s] w fun e w' => e = .returned (two (kindOf s.data.toList)) ∧ w = w' := by
  have hk : Hid (kindOf s.data.toList = if s.data.toList = mainN then (3, 0) else if s.data.toList = freshN then (4, 0) else if 0 < bhd logN s.data.toList then (1, ((bhd logN s.data.toList : Nat) : Int)) else if 0 < bhd imgN s.data.toList then (2, ((bhd imgN s.data.toList : Nat) : Int)) else (0, 0)) := rfl
  by_cases hm : s.data.toList = mainN
  · have HE : Hid (kindOf s.data.toList = (3, 0)) := by unfold Hid; rw [hk.out, if_pos hm]
    have hq : (s.toList == [109, 97, 105, 110]) = true := by rw [ByteArray.toList_eq, hm]; rfl
    clear hk hm
    go_enter Tryd.func7, Tryd.ntmps7
    go_wp2_with fail
    go_ret2
    exact ⟨by rw [HE.out]; rfl, rfl⟩
  have hq : (s.toList == [109, 97, 105, 110]) = false := by rw [ByteArray.toList_eq]; simpa [mainN] using hm
  by_cases hf : s.data.toList = freshN
  · have HE : Hid (kindOf s.data.toList = (4, 0)) := by unfold Hid; rw [hk.out, if_neg hm, if_pos hf]
    have hq2 : (s.toList == [109, 97, 105, 110, 46, 110, 101, 119]) = true := by rw [ByteArray.toList_eq, hf]; rfl
    clear hk hm hf
    go_enter Tryd.func7, Tryd.ntmps7
    go_wp2_with fail
    go_ret2
    exact ⟨by rw [HE.out]; rfl, rfl⟩
  have hq2 : (s.toList == [109, 97, 105, 110, 46, 110, 101, 119]) = false := by rw [ByteArray.toList_eq]; simpa [freshN] using hf
  have C1 := Lib.hid (behind_any ⟨#[108, 111, 103, 46]⟩ s w)
  have C2 := Lib.hid (behind_any ⟨#[105, 109, 97, 103, 101, 46]⟩ s w)
  rw [show (⟨#[108, 111, 103, 46]⟩ : ByteArray).data.toList = logN from rfl] at C1
  rw [show (⟨#[105, 109, 97, 103, 101, 46]⟩ : ByteArray).data.toList = imgN from rfl] at C2
  rw [if_neg hm, if_neg hf] at hk
  generalize bhd logN s.data.toList = a at *
  generalize bhd imgN s.data.toList = b at *
  generalize kindOf s.data.toList = z at *
  by_cases ha : 0 < a
  · have HE : Hid (z = (1, (a : Int))) := by unfold Hid; rw [hk.out, if_pos ha]
    clear hk hm hf
    go_enter Tryd.func7, Tryd.ntmps7
    go_wp2_with fail
    refine C1.out.mono ?_
    rintro e w1 ⟨rfl, rfl⟩
    go_wp2_with fail
    go_ret2
    exact ⟨by rw [HE.out]; rfl, rfl⟩
  · by_cases hb : 0 < b
    · have HE : Hid (z = (2, (b : Int))) := by unfold Hid; rw [hk.out, if_neg ha, if_pos hb]
      clear hk hm hf
      go_enter Tryd.func7, Tryd.ntmps7
      go_wp2_with fail
      refine C1.out.mono ?_
      rintro e w1 ⟨rfl, rfl⟩
      go_wp2_with fail
      refine C2.out.mono ?_
      rintro e w1 ⟨rfl, rfl⟩
      go_wp2_with fail
      go_ret2
      exact ⟨by rw [HE.out]; rfl, rfl⟩
    · have HE : Hid (z = (0, 0)) := by unfold Hid; rw [hk.out, if_neg ha, if_neg hb]
      clear hk hm hf
      go_enter Tryd.func7, Tryd.ntmps7
      go_wp2_with fail
      refine C1.out.mono ?_
      rintro e w1 ⟨rfl, rfl⟩
      go_wp2_with fail
      refine C2.out.mono ?_
      rintro e w1 ⟨rfl, rfl⟩
      go_wp2_with fail
      go_ret2
      exact ⟨by rw [HE.out]; rfl, rfl⟩
end Go.Proofs.YtinepcgjmcbcfaaDoor.Nm
