/- A name's kind and number, as the document tells them. -/
import Derived.Test.YtinepcgjmcbcfaaDoorNmKind
namespace Go.Proofs.YtinepcgjmcbcfaaDoor.Nm
open Go.RowKit
open Va (str str_app conv_one)
open Go.Lib (decDigits)

theorem ext_take (s : ByteArray) (a : Nat) : (s.extract 0 a).data.toList = s.data.toList.take a := by
  simp [ByteArray.data_extract, Array.toList_extract, List.extract_eq_take_drop]
theorem ext_drop (s : ByteArray) (a : Nat) : (s.extract a s.size).data.toList = s.data.toList.drop a := by
  simp only [ByteArray.data_extract, Array.toList_extract, List.extract_eq_take_drop]
  rw [List.take_of_length_le]
  rw [List.length_drop, size_list]; omega

/-- what the document's look behind a beginning comes to -/
theorem rnum_drop (s : ByteArray) (a : Nat) (w : World) :
    Calls Tryd.prog 15 #[.string (s.extract a s.size)] w fun e w' => e = .returned (.int .i64 (num (s.data.toList.drop a) : Nat)) ∧ Below w.heap.size w w' := by
  have h := rnumber_any (s.extract a s.size) w
  rw [ext_drop] at h
  exact h

set_option maxHeartbeats 1600000 in
set_option maxRecDepth 100000 in
theorem rkind_any (s : ByteArray) (w : World) :
    Calls Tryd.prog 8 #[.string s] w fun e w' => e = .returned (two (kindOf s.data.toList)) ∧ Below w.heap.size w w' := by
  have hk : Hid (kindOf s.data.toList = if s.data.toList = mainN then (3, 0) else if s.data.toList = freshN then (4, 0) else if 0 < bhd logN s.data.toList then (1, ((bhd logN s.data.toList : Nat) : Int)) else if 0 < bhd imgN s.data.toList then (2, ((bhd imgN s.data.toList : Nat) : Int)) else (0, 0)) := rfl
  by_cases hm : s.data.toList = mainN
  · have HE : Hid (kindOf s.data.toList = (3, 0)) := by unfold Hid; rw [hk.out, if_pos hm]
    have hq : (s.toList == [109, 97, 105, 110]) = true := by rw [ByteArray.toList_eq, hm]; rfl
    clear hk hm
    go_enter Tryd.func8, Tryd.ntmps8
    go_wp2_with fail
    go_ret2
    exact ⟨by rw [HE.out]; rfl, Below.refl _ _⟩
  have hq : (s.toList == [109, 97, 105, 110]) = false := by rw [ByteArray.toList_eq]; simpa [mainN] using hm
  by_cases hf : s.data.toList = freshN
  · have HE : Hid (kindOf s.data.toList = (4, 0)) := by unfold Hid; rw [hk.out, if_neg hm, if_pos hf]
    have hq2 : (s.toList == [109, 97, 105, 110, 46, 110, 101, 119]) = true := by rw [ByteArray.toList_eq, hf]; rfl
    clear hk hm hf
    go_enter Tryd.func8, Tryd.ntmps8
    go_wp2_with fail
    go_ret2
    exact ⟨by rw [HE.out]; rfl, Below.refl _ _⟩
  have hq2 : (s.toList == [109, 97, 105, 110, 46, 110, 101, 119]) = false := by rw [ByteArray.toList_eq]; simpa [freshN] using hf
  rw [if_neg hm, if_neg hf] at hk
  clear hm hf
  have C1 : ∀ W, Hid (Calls Tryd.prog 15 #[.string (s.extract 4 s.size)] W fun e w' => e = .returned (.int .i64 (num (s.data.toList.drop 4) : Nat)) ∧ Below W.heap.size W w') := fun W => rnum_drop s 4 W
  have C2 : ∀ W, Hid (Calls Tryd.prog 15 #[.string (s.extract 6 s.size)] W fun e w' => e = .returned (.int .i64 (num (s.data.toList.drop 6) : Nat)) ∧ Below W.heap.size W w') := fun W => rnum_drop s 6 W
  have hl : s.data.toList.length = s.size := size_list s
  by_cases h4 : s.size ≤ 4
  · have HE : Hid (kindOf s.data.toList = (0, 0)) := by
      unfold Hid
      rw [hk.out, bhd_less logN _ (by rw [hl]; exact h4), bhd_less imgN _ (by rw [hl]; show s.size ≤ 6; omega)]; rfl
    clear hk hl
    go_enter Tryd.func8, Tryd.ntmps8
    go_wp2_with fail
    go_ret2
    exact ⟨by rw [HE.out]; rfl, Below.refl _ _⟩
  by_cases t4 : s.data.toList.take 4 = logN
  · have hq4 : ((s.extract 0 4).toList == [108, 111, 103, 46]) = true := by rw [ByteArray.toList_eq, ext_take, t4]; rfl
    have hb1 := Lib.hid (bhd_yes logN s.data.toList t4)
    have hb2 : Hid (bhd imgN s.data.toList = 0) := bhd_no imgN _ (by
      intro e
      have h1 : (s.data.toList.take 6).take 4 = imgN.take 4 := by rw [show imgN.length = 6 from rfl] at e; rw [e]
      rw [List.take_take, show min 4 6 = 4 from rfl, t4] at h1
      revert h1; decide)
    rw [hb1.out, hb2.out] at hk
    rw [show logN.length = 4 from rfl] at hk
    have hq6 : ((s.extract 0 6).toList == [105, 109, 97, 103, 101, 46]) = false := by
      rw [ByteArray.toList_eq, ext_take]
      simp only [beq_eq_false_iff_ne, ne_eq]
      intro e
      have h1 : (s.data.toList.take 6).take 4 = imgN.take 4 := by rw [e]; rfl
      rw [List.take_take, show min 4 6 = 4 from rfl, t4] at h1
      revert h1; decide
    clear t4 hb1 hb2 hl
    generalize num (s.data.toList.drop 4) = a at *
    by_cases ha : 0 < a
    · have HE : Hid (kindOf s.data.toList = (1, (a : Int))) := by unfold Hid; rw [hk.out, if_pos ha]
      clear hk
      go_enter Tryd.func8, Tryd.ntmps8
      go_wp2_with fail
      refine (C1 _).out.mono ?_
      rintro e w1 ⟨rfl, hl1⟩
      have HL1 := Lib.hid hl1
      clear hl1
      go_wp2_with fail
      refine (C1 _).out.mono ?_
      rintro e w2 ⟨rfl, hl2⟩
      have HL2 := Lib.hid hl2
      clear hl2
      go_wp2_with fail
      go_ret2
      exact ⟨by rw [HE.out]; rfl, HL1.out.trans (HL2.out.mono HL1.out.size)⟩
    · have HE : Hid (kindOf s.data.toList = (0, 0)) := by unfold Hid; rw [hk.out, if_neg ha]; rfl
      clear hk
      by_cases h6 : s.size ≤ 6
      · go_enter Tryd.func8, Tryd.ntmps8
        go_wp2_with fail
        refine (C1 _).out.mono ?_
        rintro e w1 ⟨rfl, hl1⟩
        have HL1 := Lib.hid hl1
        clear hl1
        go_wp2_with fail
        go_ret2
        exact ⟨by rw [HE.out]; rfl, HL1.out⟩
      · go_enter Tryd.func8, Tryd.ntmps8
        go_wp2_with fail
        refine (C1 _).out.mono ?_
        rintro e w1 ⟨rfl, hl1⟩
        have HL1 := Lib.hid hl1
        clear hl1
        go_wp2_with fail
        go_ret2
        exact ⟨by rw [HE.out]; rfl, HL1.out⟩
  · have hq4 : ((s.extract 0 4).toList == [108, 111, 103, 46]) = false := by
      rw [ByteArray.toList_eq, ext_take]
      simpa [logN] using t4
    have hb1 := Lib.hid (bhd_no logN s.data.toList t4)
    rw [hb1.out] at hk
    rw [if_neg (by omega)] at hk
    clear hb1 t4
    by_cases h6 : s.size ≤ 6
    · have HE : Hid (kindOf s.data.toList = (0, 0)) := by
        unfold Hid
        rw [hk.out, bhd_less imgN _ (by rw [hl]; exact h6)]; rfl
      clear hk hl
      go_enter Tryd.func8, Tryd.ntmps8
      go_wp2_with fail
      go_ret2
      exact ⟨by rw [HE.out]; rfl, Below.refl _ _⟩
    by_cases t6 : s.data.toList.take 6 = imgN
    · have hq6 : ((s.extract 0 6).toList == [105, 109, 97, 103, 101, 46]) = true := by rw [ByteArray.toList_eq, ext_take, t6]; rfl
      have hb2 := Lib.hid (bhd_yes imgN s.data.toList t6)
      rw [hb2.out] at hk
      rw [show imgN.length = 6 from rfl] at hk
      clear t6 hb2 hl
      generalize num (s.data.toList.drop 6) = a at *
      by_cases ha : 0 < a
      · have HE : Hid (kindOf s.data.toList = (2, (a : Int))) := by unfold Hid; rw [hk.out, if_pos ha]
        clear hk
        go_enter Tryd.func8, Tryd.ntmps8
        go_wp2_with fail
        refine (C2 _).out.mono ?_
        rintro e w1 ⟨rfl, hl1⟩
        have HL1 := Lib.hid hl1
        clear hl1
        go_wp2_with fail
        refine (C2 _).out.mono ?_
        rintro e w2 ⟨rfl, hl2⟩
        have HL2 := Lib.hid hl2
        clear hl2
        go_wp2_with fail
        go_ret2
        exact ⟨by rw [HE.out]; rfl, HL1.out.trans (HL2.out.mono HL1.out.size)⟩
      · have HE : Hid (kindOf s.data.toList = (0, 0)) := by unfold Hid; rw [hk.out, if_neg ha]
        clear hk
        go_enter Tryd.func8, Tryd.ntmps8
        go_wp2_with fail
        refine (C2 _).out.mono ?_
        rintro e w1 ⟨rfl, hl1⟩
        have HL1 := Lib.hid hl1
        clear hl1
        go_wp2_with fail
        go_ret2
        exact ⟨by rw [HE.out]; rfl, HL1.out⟩
    · have hq6 : ((s.extract 0 6).toList == [105, 109, 97, 103, 101, 46]) = false := by
        rw [ByteArray.toList_eq, ext_take]
        simpa [imgN] using t6
      have HE : Hid (kindOf s.data.toList = (0, 0)) := by
        unfold Hid
        rw [hk.out, bhd_no imgN _ t6]; rfl
      clear hk hl t6
      go_enter Tryd.func8, Tryd.ntmps8
      go_wp2_with fail
      go_ret2
      exact ⟨by rw [HE.out]; rfl, Below.refl _ _⟩
end Go.Proofs.YtinepcgjmcbcfaaDoor.Nm
