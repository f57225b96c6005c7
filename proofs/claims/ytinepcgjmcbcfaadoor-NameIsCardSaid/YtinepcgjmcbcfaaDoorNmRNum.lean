/- What the document reads of digits: the number, and whether it has just these digits. -/
import Derived.Test.YtinepcgjmcbcfaaDoorNmNum
namespace Go.Proofs.YtinepcgjmcbcfaaDoor.Nm
open Go.RowKit
open Va (str str_app conv_one)
open Go.Lib (decDigits)

theorem take_byte (s : ByteArray) (k : Nat) (h : k < s.size) : s.data.toList.take (k + 1) = s.data.toList.take k ++ [s[k]] := by
  rw [List.take_succ_eq_append_getElem (by simpa using h)]; rfl
theorem w64_in (n : Int) (h : -9223372036854775808 ≤ n ∧ n ≤ 9223372036854775807) : wrap64 n = n := by unfold wrap64; omega
/-- the step as it is computed, whatever the byte is -/
def stp (n : Int) (c : Nat) : Int := wrap64 (wrap64 (wrap64 (n * 10) + wrap64 c) - 48)
theorem stp_bd (n : Int) (c : Nat) : -9223372036854775808 ≤ stp n c ∧ stp n c ≤ 9223372036854775807 := by
  unfold stp; generalize wrap64 (wrap64 (n * 10) + wrap64 c) - 48 = z; unfold wrap64; omega
theorem stp_dig (n : Nat) (c : Nat) (h1 : 48 ≤ c) (h2 : c ≤ 57) (hn : n < 100000000000000000) : stp n c = ((n * 10 + (c - 48) : Nat) : Int) := by
  unfold stp
  rw [w64_in ((n : Int) * 10) (by omega), w64_in (c : Int) (by omega), w64_in ((n : Int) * 10 + c) (by omega), w64_in _ (by omega)]; omega
/-- so far as they are digits, the number is theirs -/
def Same (s : ByteArray) (k : Nat) (n : Int) : Prop := ∀ x, rd 0 (s.data.toList.take k) = some x → n = (x : Int) ∧ x < 10 ^ k
theorem Same.step {s : ByteArray} {k : Nat} {n : Int} (h : Same s k n) (hk : k < s.size) (h18 : k < 18) : Same s (k + 1) (stp n s[k].toNat) := by
  intro y hy
  rw [take_byte s k hk, rd_append] at hy
  cases hx : rd 0 (s.data.toList.take k) with
  | none => rw [hx] at hy; cases hy
  | some x =>
    obtain ⟨rfl, hlt⟩ := h x hx
    rw [hx] at hy
    simp only [Option.bind_some, rd] at hy
    split at hy
    · cases hy
    rename_i hb
    simp only [Option.some.injEq] at hy
    have hx17 : x < 100000000000000000 := Nat.lt_of_lt_of_le hlt (pow_step k h18)
    rw [stp_dig x _ (by omega) (by omega) hx17, hy]
    refine ⟨rfl, ?_⟩
    rw [Nat.pow_succ]; omega
theorem Same.last {s : ByteArray} {n : Int} (h : Same s s.size n) (x : Nat) (hx : rd 0 s.data.toList = some x) : n = x := by
  refine (h x ?_).1
  rw [← size_list, List.take_length]; exact hx

set_option maxHeartbeats 800000 in
set_option maxRecDepth 100000 in
theorem rnumber_any (s : ByteArray) (w : World) :
    Calls Tryd.prog 15 #[.string s] w fun e w' => e = .returned (.int .i64 (num s.data.toList : Nat)) ∧ Below w.heap.size w w' := by
  by_cases hl : 18 < s.size
  · have hn : num s.data.toList = 0 := by unfold num; rw [size_list, if_pos hl]
    rw [hn]
    go_enter Tryd.func15, Tryd.ntmps15
    go_wp2
    go_loop [3, 4] (fun n i => n = .int .i64 0 ∧ i = .int .i64 0) (fun _ _ => 0)
    case atStart => exact ⟨rfl, rfl⟩
    case round =>
      obtain ⟨rfl, rfl⟩ := hrel
      go_wp2
      go_ret
      exact ⟨rfl, Below.refl _ _⟩
  · have hN : Hid (num s.data.toList = (rd 0 s.data.toList).getD 0) := by unfold Hid num; rw [size_list, if_neg hl]
    go_enter Tryd.func15, Tryd.ntmps15
    go_wp2
    go_loop [3, 4] (fun n i => ∃ (k : Nat) (m : Int), k ≤ s.size ∧ i = .int .i64 k ∧ n = .int .i64 m ∧ -9223372036854775808 ≤ m ∧ m ≤ 9223372036854775807 ∧ Same s k m) (fun _ i => s.size - (intOf i).toNat)
    case atStart => exact ⟨0, 0, Nat.zero_le _, rfl, rfl, by decide, by decide, fun x hx => by
      have e : x = 0 := by simpa [rd] using hx.symm
      subst e; exact ⟨rfl, by decide⟩⟩
    case round =>
      obtain ⟨k, m, hk, rfl, rfl, hm0, hm1, hs⟩ := hrel
      have HS := Lib.hid hs
      clear hs
      by_cases hlt : k < s.size
      · have HX : Hid (Same s (k + 1) (stp m s[k].toNat)) := HS.out.step hlt (by omega)
        have hbd := stp_bd m s[k].toNat
        have hst : wrap64 (wrap64 (wrap64 (m * 10) + wrap64 (s[k].toNat : Int)) - 48) = stp m s[k].toNat := rfl
        have HST := Lib.hid hst
        clear hst
        clear HS hN
        generalize stp m s[k].toNat = m2 at *
        go_wp2
        go_round
        case rel => exact ⟨k + 1, m2, by omega, by go_num, congrArg (Value.int .i64) HST.out, hbd.1, hbd.2, HX.out⟩
        case measure => simp [intOf]; omega
      · have hkk : k = s.size := by omega
        subst hkk
        by_cases hm : m < 1
        · have HE : Hid (num s.data.toList = 0) := by
            unfold Hid
            rw [hN.out]
            cases hr : rd 0 s.data.toList with
            | none => rfl
            | some x => have := HS.out.last x hr; simp only [Option.getD_some]; omega
          clear HS hN
          go_wp2
          go_ret
          exact ⟨by rw [HE.out]; rfl, Below.refl _ _⟩
        · obtain ⟨u, rfl⟩ : ∃ u : Nat, m = u := ⟨m.toNat, by omega⟩
          by_cases he : decDigits u = s.data.toList
          · have HE : Hid (num s.data.toList = u) := by
              unfold Hid
              rw [← he]
              refine num_dec u (by omega) ((dec_18 u (by omega)).1 ?_)
              rw [he, size_list]; omega
            have hq : (decDigits u == s.toList) = true := by rw [ByteArray.toList_eq, he]; simp
            have HE2 := Lib.hid he
            clear he HS hN
            go_wp2_with fail
            refine (dec_any u (by omega) (by omega) w).mono ?_
            rintro e w1 ⟨rfl, hb⟩
            go_wp2_with fail
            go_ret
            exact ⟨by rw [HE.out]; rfl, hb⟩
          · have HE : Hid (num s.data.toList = 0) := by
              unfold Hid
              apply Classical.byContradiction
              intro hne
              obtain ⟨h1, h2⟩ := dec_num s.data.toList (by omega)
              have h3 := rd_dec (num s.data.toList) (by omega)
              rw [h1] at h3
              have h4 := HS.out.last _ h3
              apply he
              rw [← h1]; congr 1; omega
            have hq : (decDigits u == s.toList) = false := by rw [ByteArray.toList_eq]; simpa using he
            have HE2 := Lib.hid he
            clear he HS hN
            go_wp2_with fail
            refine (dec_any u (by omega) (by omega) w).mono ?_
            rintro e w1 ⟨rfl, hb⟩
            go_wp2_with fail
            go_ret
            exact ⟨by rw [HE.out]; rfl, hb⟩
end Go.Proofs.YtinepcgjmcbcfaaDoor.Nm
