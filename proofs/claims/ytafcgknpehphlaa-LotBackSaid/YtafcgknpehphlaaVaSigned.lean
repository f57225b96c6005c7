/- What the program and the document read of numbers that may be below 0: the same, for every text. -/
import Derived.Test.YtafcgknpehphlaaVaSign
namespace Go.Proofs.Ytafcgknpehphlaa.Va
open Go.RowKit

/-- what bytes begin with: a number that may be below 0, how many bytes it has, and the error's number -/
def takeS (s : List UInt8) : Int × Nat × Nat :=
  match fst 10 s with
  | some k => if (k ≠ 0 ∧ (s.getD k 0).toNat = 0) ∨ (k = 9 ∧ 1 < (s.getD k 0).toNat) then (0, 0, 2) else (zag (vk s (k + 1)), k + 1, 0)
  | none => if s.length < 10 then (0, 0, 3) else (0, 0, 2)

theorem takeS_bad {k : Nat} {s : List UInt8} (h : fst 10 s = some k) (hz : (k ≠ 0 ∧ (s.getD k 0).toNat = 0) ∨ (k = 9 ∧ 1 < (s.getD k 0).toNat)) : takeS s = (0, 0, 2) := by
  unfold takeS; rw [h]; simp only []; rw [if_pos hz]
theorem takeS_ok {k : Nat} {s : List UInt8} (h : fst 10 s = some k) (hz : ¬ ((k ≠ 0 ∧ (s.getD k 0).toNat = 0) ∨ (k = 9 ∧ 1 < (s.getD k 0).toNat))) : takeS s = (zag (vk s (k + 1)), k + 1, 0) := by
  unfold takeS; rw [h]; simp only []; rw [if_neg hz]
theorem takeS_short {s : List UInt8} (h : fst 10 s = none) (hl : s.length < 10) : takeS s = (0, 0, 3) := by
  unfold takeS; rw [h]; simp only []; rw [if_pos hl]
theorem takeS_long {s : List UInt8} (h : fst 10 s = none) (hl : ¬ s.length < 10) : takeS s = (0, 0, 2) := by
  unfold takeS; rw [h]; simp only []; rw [if_neg hl]

theorem and_one (u : Nat) (h : u < 18446744073709551616) : bits .and .u64 (u : Int) 1 = ((u % 2 : Nat) : Int) := by
  have e := bits_mask .u64 64 (by decide) (fun n h0 h1 => by rw [IntKind.wrap_u64]; omega) 1 (by decide) (u : Int) (by omega) (by omega)
  simpa using e

theorem xor_neg (b : Nat) (hb : b < 9223372036854775808) : bits .xor .i64 (-1) (b : Int) = -(b : Int) - 1 := by
  have h1 : BitVec.ofInt 64 (-1) = BitVec.allOnes 64 := by decide
  have h2 : (BitVec.ofInt 64 (b : Int)).toNat = b := by
    rw [BitVec.ofInt_natCast, BitVec.toNat_ofNat]; exact Nat.mod_eq_of_lt (by omega)
  show IntKind.i64.wrap ((BitVec.ofInt 64 (-1) ^^^ BitVec.ofInt 64 (b : Int)).toNat : Int) = _
  rw [h1, BitVec.allOnes_xor, BitVec.toNat_not, h2, IntKind.wrap_i64]
  omega

set_option maxHeartbeats 800000 in
set_option maxRecDepth 100000 in
theorem vtakes_err (s : ByteArray) (w : World) (hs : s.size ≤ maxLen) (q : Nat) (hr : takeR 10 s.data.toList = (0, 0, q)) :
    Calls Try.prog 71 #[.string s] w fun e w' => e = .returned (.tuple #[.int .i64 0, .int .i64 0, .int .i64 q]) ∧ w = w' := by
  have HR := Lib.hid hr
  clear hr
  go_enter Try.func71, Try.ntmps71
  go_wp2_with fail
  refine (take_any s 10 (by omega) (by omega) w hs).mono ?_
  rintro e w1 ⟨rfl, rfl⟩
  rw [HR.out]
  go_wp2
  go_ret3
  exact ⟨rfl, rfl⟩

set_option maxHeartbeats 800000 in
set_option maxRecDepth 100000 in
theorem vtakes_big (s : ByteArray) (w : World) (hs : s.size ≤ maxLen) (u : Nat) (hr : takeR 10 s.data.toList = (u, 10, 0)) (h9 : 9 < s.size) (hb : 1 < s[9].toNat) :
    Calls Try.prog 71 #[.string s] w fun e w' => e = .returned (.tuple #[.int .i64 0, .int .i64 0, .int .i64 2]) ∧ w = w' := by
  have HR := Lib.hid hr
  clear hr
  go_enter Try.func71, Try.ntmps71
  go_wp2_with fail
  refine (take_any s 10 (by omega) (by omega) w hs).mono ?_
  rintro e w1 ⟨rfl, rfl⟩
  rw [HR.out]
  go_wp2
  go_ret3
  exact ⟨rfl, rfl⟩

set_option maxHeartbeats 800000 in
set_option maxRecDepth 100000 in
theorem vtakes_ok (s : ByteArray) (w : World) (hs : s.size ≤ maxLen) (u n : Nat) (hr : takeR 10 s.data.toList = (u, n, 0)) (hu : u < 18446744073709551616) (hn : n = 10 → ∃ h9 : 9 < s.size, s[9].toNat ≤ 1) :
    Calls Try.prog 71 #[.string s] w fun e w' => e = .returned (.tuple #[.int .i64 (zag u), .int .i64 n, .int .i64 0]) ∧ w = w' := by
  have HR := Lib.hid hr
  clear hr
  have ha := and_one u hu
  by_cases hp : u % 2 = 1
  · have hq : (bits .and .u64 (u : Int) 1 == 1) = true := by rw [ha, hp]; rfl
    have hz : zag u = bits .xor .i64 (-1) ((u : Int) / 2) := by
      have e : ((u : Int) / 2) = ((u / 2 : Nat) : Int) := rfl
      rw [e, xor_neg _ (by omega)]; unfold zag; rw [if_pos hp]
    have HZ := Lib.hid hz
    clear ha hp hz
    by_cases hn0 : n = 10
    · obtain ⟨h9, h1⟩ := hn hn0
      have hn1 : ((n : Int) == 10) = true := by simp [hn0]
      clear hn hn0
      go_enter Try.func71, Try.ntmps71
      go_wp2_with fail
      refine (take_any s 10 (by omega) (by omega) w hs).mono ?_
      rintro e w1 ⟨rfl, rfl⟩
      rw [HR.out]
      go_wp2
      go_ret3
      exact ⟨by rw [HZ.out]; rfl, rfl⟩
    · have hn1 : ((n : Int) == 10) = false := by simp; omega
      clear hn hn0
      go_enter Try.func71, Try.ntmps71
      go_wp2_with fail
      refine (take_any s 10 (by omega) (by omega) w hs).mono ?_
      rintro e w1 ⟨rfl, rfl⟩
      rw [HR.out]
      go_wp2
      go_ret3
      exact ⟨by rw [HZ.out]; rfl, rfl⟩
  · have hq : (bits .and .u64 (u : Int) 1 == 1) = false := by rw [ha]; simp; omega
    have hz : zag u = ((u / 2 : Nat) : Int) := by unfold zag; rw [if_neg hp]
    have HZ := Lib.hid hz
    clear ha hp hz
    by_cases hn0 : n = 10
    · obtain ⟨h9, h1⟩ := hn hn0
      have hn1 : ((n : Int) == 10) = true := by simp [hn0]
      clear hn hn0
      go_enter Try.func71, Try.ntmps71
      go_wp2_with fail
      refine (take_any s 10 (by omega) (by omega) w hs).mono ?_
      rintro e w1 ⟨rfl, rfl⟩
      rw [HR.out]
      go_wp2
      go_ret3
      exact ⟨by rw [HZ.out]; rfl, rfl⟩
    · have hn1 : ((n : Int) == 10) = false := by simp; omega
      clear hn hn0
      go_enter Try.func71, Try.ntmps71
      go_wp2_with fail
      refine (take_any s 10 (by omega) (by omega) w hs).mono ?_
      rintro e w1 ⟨rfl, rfl⟩
      rw [HR.out]
      go_wp2
      go_ret3
      exact ⟨by rw [HZ.out]; rfl, rfl⟩

theorem vk_lt (l : List UInt8) (k : Nat) : vk l k < 18446744073709551616 := Nat.mod_lt _ (by decide)

theorem vtakes_any (s : ByteArray) (w : World) (hs : s.size ≤ maxLen) :
    Calls Try.prog 71 #[.string s] w fun e w' =>
      e = .returned (.tuple #[.int .i64 (takeS s.data.toList).1, .int .i64 (takeS s.data.toList).2.1, .int .i64 (takeS s.data.toList).2.2]) ∧ w = w' := by
  cases hf : fst 10 s.data.toList with
  | none =>
    by_cases hl : s.data.toList.length < 10
    · rw [takeS_short hf hl]; exact vtakes_err s w hs 3 (takeR_short hf hl)
    · rw [takeS_long hf hl]; exact vtakes_err s w hs 2 (takeR_long hf hl)
  | some k =>
    obtain ⟨hk, hks, _, _⟩ := (fst_some_iff 10 _ k).1 hf
    have hks' : k < s.size := by simpa using hks
    have hg := getD_byte s k hks'
    by_cases hz : k ≠ 0 ∧ (s.data.toList.getD k 0).toNat = 0
    · rw [takeS_bad hf (Or.inl hz)]; exact vtakes_err s w hs 2 (takeR_zero hf hz)
    · have hr := takeR_some hf hz
      by_cases hb : k = 9 ∧ 1 < (s.data.toList.getD k 0).toNat
      · rw [takeS_bad hf (Or.inr hb)]
        obtain ⟨rfl, h1⟩ := hb
        exact vtakes_big s w hs _ hr hks' (by rw [hg] at h1; exact h1)
      · rw [takeS_ok hf (fun h => h.elim hz hb)]
        exact vtakes_ok s w hs _ (k + 1) hr (vk_lt _ _) (fun e => by
          obtain rfl : k = 9 := by omega
          exact ⟨hks', by rw [hg] at hb; omega⟩)

set_option maxHeartbeats 800000 in
set_option maxRecDepth 100000 in
theorem rtakes_none (s : ByteArray) (w : World) (hf : fst 10 s.data.toList = none) :
    Calls Try.prog 67 #[.string s] w fun e w' =>
      e = .returned (.tuple #[.int .i64 (takeS s.data.toList).1, .int .i64 (takeS s.data.toList).2.1, .int .i64 (takeS s.data.toList).2.2]) ∧ w = w' := by
  have hl : lastI 10 s.data.toList = -1 := by unfold lastI; rw [hf]
  have HL := Lib.hid hl
  clear hl
  by_cases h9 : 10 ≤ s.size
  · rw [takeS_long hf (by simp; omega)]
    clear hf
    go_enter Try.func67, Try.ntmps67
    go_wp2_with fail
    refine (last_any s 10 (by omega) w).mono ?_
    rintro e w1 ⟨rfl, rfl⟩
    rw [HL.out]
    go_wp2
    go_ret3
    exact ⟨rfl, rfl⟩
  · rw [takeS_short hf (by simp; omega)]
    clear hf
    go_enter Try.func67, Try.ntmps67
    go_wp2_with fail
    refine (last_any s 10 (by omega) w).mono ?_
    rintro e w1 ⟨rfl, rfl⟩
    rw [HL.out]
    go_wp2
    go_ret3
    exact ⟨rfl, rfl⟩

set_option maxHeartbeats 800000 in
set_option maxRecDepth 100000 in
theorem rtakes_bad0 (s : ByteArray) (w : World) (k : Nat) (hk : 0 < k) (hks : k < s.size) (hz2 : ((s[k].toNat : Int) == 0) = true) (HL : Hid (lastI 10 s.data.toList = k)) :
    Calls Try.prog 67 #[.string s] w fun e w' => e = .returned (.tuple #[.int .i64 0, .int .i64 0, .int .i64 2]) ∧ w = w' := by
  go_enter Try.func67, Try.ntmps67
  go_wp2_with fail
  refine (last_any s 10 (by omega) w).mono ?_
  rintro e w1 ⟨rfl, rfl⟩
  rw [HL.out]
  go_wp2
  go_ret3
  exact ⟨rfl, rfl⟩

set_option maxHeartbeats 800000 in
set_option maxRecDepth 100000 in
theorem rtakes_bad9 (s : ByteArray) (w : World) (hks : 9 < s.size) (h1 : 1 < s[9].toNat) (HL : Hid (lastI 10 s.data.toList = (9 : Nat))) :
    Calls Try.prog 67 #[.string s] w fun e w' => e = .returned (.tuple #[.int .i64 0, .int .i64 0, .int .i64 2]) ∧ w = w' := by
  have hz2 : ((s[9].toNat : Int) == 0) = false := by simp; omega
  go_enter Try.func67, Try.ntmps67
  go_wp2_with fail
  refine (last_any s 10 (by omega) w).mono ?_
  rintro e w1 ⟨rfl, rfl⟩
  rw [HL.out]
  go_wp2
  go_ret3
  exact ⟨rfl, rfl⟩

set_option maxHeartbeats 800000 in
set_option maxRecDepth 100000 in
/-- the tail: what is reckoned of the digits -/
theorem rtakes_ok (s : ByteArray) (w : World) (hs : s.size ≤ maxLen) (k : Nat) (hk10 : k < 10) (hks : k < s.size) (hz : ¬ (0 < k ∧ s[k].toNat = 0)) (h9 : ¬ (k = 9 ∧ 1 < s[k].toNat)) (HL : Hid (lastI 10 s.data.toList = k)) :
    Calls Try.prog 67 #[.string s] w fun e w' => e = .returned (.tuple #[.int .i64 (zag (vk s.data.toList (k + 1))), .int .i64 ((k : Int) + 1), .int .i64 0]) ∧ w = w' := by
  have hu := vk_lt s.data.toList (k + 1)
  obtain ⟨u, hu'⟩ : ∃ u, vk s.data.toList (k + 1) = u := ⟨_, rfl⟩
  have HU := Lib.hid hu'
  rw [hu'] at hu ⊢
  clear hu'
  by_cases hp : u % 2 = 1
  · have hq : ((u : Int) % 2 == 1) = true := by simp; omega
    have hzz : zag u = -((u : Int) / 2) - 1 := by unfold zag; rw [if_pos hp]; rfl
    have HZ := Lib.hid hzz
    clear hp hzz
    have HE := Lib.hid hz
    by_cases hc0 : s[k].toNat = 0
    · have hz2 : ((s[k].toNat : Int) == 0) = true := by simp [hc0]
      have hk0 : ¬ 0 < k := fun h => hz ⟨h, hc0⟩
      have hk9 : ((k : Int) == 9) = false := by simp; omega
      clear hz h9 hc0 HE
      go_enter Try.func67, Try.ntmps67
      go_wp2_with fail
      refine (last_any s 10 (by omega) w).mono ?_
      rintro e w1 ⟨rfl, rfl⟩
      rw [HL.out]
      go_wp2_with fail
      refine (value_ext s (k + 1) w hs).mono ?_
      rintro e w1 ⟨rfl, rfl⟩
      rw [HU.out]
      go_wp2
      go_ret3
      exact ⟨by rw [HZ.out]; rfl, rfl⟩
    · have hz2 : ((s[k].toNat : Int) == 0) = false := by simp; omega
      by_cases hk9 : k = 9
      · have hk9' : ((k : Int) == 9) = true := by simp [hk9]
        have hc1 : s[k].toNat ≤ 1 := by omega
        have hk0 : 0 < k := by omega
        clear hz h9 hc0 HE hk9
        go_enter Try.func67, Try.ntmps67
        go_wp2_with fail
        refine (last_any s 10 (by omega) w).mono ?_
        rintro e w1 ⟨rfl, rfl⟩
        rw [HL.out]
        go_wp2_with fail
        refine (value_ext s (k + 1) w hs).mono ?_
        rintro e w1 ⟨rfl, rfl⟩
        rw [HU.out]
        go_wp2
        go_ret3
        exact ⟨by rw [HZ.out]; rfl, rfl⟩
      · have hk9' : ((k : Int) == 9) = false := by simp; omega
        clear hz h9 hc0 HE hk9
        by_cases hk0 : 0 < k
        all_goals
          go_enter Try.func67, Try.ntmps67
          go_wp2_with fail
          refine (last_any s 10 (by omega) w).mono ?_
          rintro e w1 ⟨rfl, rfl⟩
          rw [HL.out]
          go_wp2_with fail
          refine (value_ext s (k + 1) w hs).mono ?_
          rintro e w1 ⟨rfl, rfl⟩
          rw [HU.out]
          go_wp2
          go_ret3
          exact ⟨by rw [HZ.out]; rfl, rfl⟩
  · have hq : ((u : Int) % 2 == 1) = false := by simp; omega
    have hzz : zag u = (u : Int) / 2 := by unfold zag; rw [if_neg hp]; rfl
    have HZ := Lib.hid hzz
    clear hp hzz
    have HE := Lib.hid hz
    by_cases hc0 : s[k].toNat = 0
    · have hz2 : ((s[k].toNat : Int) == 0) = true := by simp [hc0]
      have hk0 : ¬ 0 < k := fun h => hz ⟨h, hc0⟩
      have hk9 : ((k : Int) == 9) = false := by simp; omega
      clear hz h9 hc0 HE
      go_enter Try.func67, Try.ntmps67
      go_wp2_with fail
      refine (last_any s 10 (by omega) w).mono ?_
      rintro e w1 ⟨rfl, rfl⟩
      rw [HL.out]
      go_wp2_with fail
      refine (value_ext s (k + 1) w hs).mono ?_
      rintro e w1 ⟨rfl, rfl⟩
      rw [HU.out]
      go_wp2
      go_ret3
      exact ⟨by rw [HZ.out]; rfl, rfl⟩
    · have hz2 : ((s[k].toNat : Int) == 0) = false := by simp; omega
      by_cases hk9 : k = 9
      · have hk9' : ((k : Int) == 9) = true := by simp [hk9]
        have hc1 : s[k].toNat ≤ 1 := by omega
        have hk0 : 0 < k := by omega
        clear hz h9 hc0 HE hk9
        go_enter Try.func67, Try.ntmps67
        go_wp2_with fail
        refine (last_any s 10 (by omega) w).mono ?_
        rintro e w1 ⟨rfl, rfl⟩
        rw [HL.out]
        go_wp2_with fail
        refine (value_ext s (k + 1) w hs).mono ?_
        rintro e w1 ⟨rfl, rfl⟩
        rw [HU.out]
        go_wp2
        go_ret3
        exact ⟨by rw [HZ.out]; rfl, rfl⟩
      · have hk9' : ((k : Int) == 9) = false := by simp; omega
        clear hz h9 hc0 HE hk9
        by_cases hk0 : 0 < k
        all_goals
          go_enter Try.func67, Try.ntmps67
          go_wp2_with fail
          refine (last_any s 10 (by omega) w).mono ?_
          rintro e w1 ⟨rfl, rfl⟩
          rw [HL.out]
          go_wp2_with fail
          refine (value_ext s (k + 1) w hs).mono ?_
          rintro e w1 ⟨rfl, rfl⟩
          rw [HU.out]
          go_wp2
          go_ret3
          exact ⟨by rw [HZ.out]; rfl, rfl⟩

theorem rtakes_any (s : ByteArray) (w : World) (hs : s.size ≤ maxLen) :
    Calls Try.prog 67 #[.string s] w fun e w' =>
      e = .returned (.tuple #[.int .i64 (takeS s.data.toList).1, .int .i64 (takeS s.data.toList).2.1, .int .i64 (takeS s.data.toList).2.2]) ∧ w = w' := by
  cases hf : fst 10 s.data.toList with
  | none => exact rtakes_none s w hf
  | some k =>
    obtain ⟨hk, hks, _, _⟩ := (fst_some_iff 10 _ k).1 hf
    have hks' : k < s.size := by simpa using hks
    have hg := getD_byte s k hks'
    have HL : Hid (lastI 10 s.data.toList = k) := by unfold Hid lastI; rw [hf]
    by_cases hz : k ≠ 0 ∧ (s.data.toList.getD k 0).toNat = 0
    · rw [takeS_bad hf (Or.inl hz)]
      exact rtakes_bad0 s w k (by omega) hks' (by rw [← hg]; simp only [hz.2]; rfl) HL
    · by_cases hb : k = 9 ∧ 1 < (s.data.toList.getD k 0).toNat
      · rw [takeS_bad hf (Or.inr hb)]
        obtain ⟨rfl, h1⟩ := hb
        exact rtakes_bad9 s w hks' (by rw [hg] at h1; exact h1) HL
      · rw [takeS_ok hf (fun h => h.elim hz hb)]
        rw [hg] at hz hb
        exact rtakes_ok s w hs k hk hks' (fun h => hz ⟨by omega, h.2⟩) hb HL

end Go.Proofs.Ytafcgknpehphlaa.Va
