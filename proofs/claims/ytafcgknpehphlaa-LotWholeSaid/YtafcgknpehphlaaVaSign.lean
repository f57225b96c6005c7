/- What the program writes and reads of numbers that may be below 0, and what the document does: the same. -/
import Derived.Test.YtafcgknpehphlaaVaPut
namespace Go.Proofs.Ytafcgknpehphlaa.Va
open Go.RowKit

/-- twice a number, or minus twice it less 1 -/
def zig (z : Int) : Nat := if 0 ≤ z then (2 * z).toNat else (-2 * z - 1).toNat
/-- and back -/
def zag (u : Nat) : Int := if u % 2 = 1 then -((u / 2 : Nat) : Int) - 1 else ((u / 2 : Nat) : Int)

theorem zag_zig (z : Int) : zag (zig z) = z := by
  unfold zag zig
  split <;> split <;> omega
theorem zig_zag (u : Nat) : zig (zag u) = u := by
  unfold zag zig
  split <;> split <;> omega
theorem zig_lt {z : Int} (h0 : -9223372036854775808 ≤ z) (h1 : z ≤ 9223372036854775807) : zig z < 18446744073709551616 := by
  unfold zig; split <;> omega

theorem xor_max (b : Nat) (hb : b < 18446744073709551616) : bits .xor .u64 IntKind.u64.max (b : Int) = 18446744073709551615 - (b : Int) := by
  have h1 : BitVec.ofInt 64 IntKind.u64.max = BitVec.allOnes 64 := by decide
  have h2 : (BitVec.ofInt 64 (b : Int)).toNat = b := by
    rw [BitVec.ofInt_natCast, BitVec.toNat_ofNat]; exact Nat.mod_eq_of_lt (by omega)
  show IntKind.u64.wrap ((BitVec.ofInt 64 IntKind.u64.max ^^^ BitVec.ofInt 64 (b : Int)).toNat : Int) = _
  rw [h1, BitVec.allOnes_xor, BitVec.toNat_not, h2, IntKind.wrap_u64]
  omega

set_option maxHeartbeats 800000 in
set_option maxRecDepth 100000 in
theorem twice_any (z : Int) (h0 : -9223372036854775808 ≤ z) (h1 : z ≤ 9223372036854775807) (w : World) :
    Calls Try.prog 75 #[.int .i64 z] w fun e w' => e = .returned (.int .u64 (zig z)) ∧ w = w' := by
  by_cases h : 0 ≤ z
  · have e : ((zig z : Nat) : Int) = 2 * z := by unfold zig; rw [if_pos h]; omega
    have E := Lib.hid e
    clear e
    go_enter Try.func75, Try.ntmps75
    go_wp2
    go_ret
    exact ⟨by rw [E.out]; rfl, rfl⟩
  · have e : ((zig z : Nat) : Int) = 2 * -(z + 1) + 1 := by unfold zig; rw [if_neg h]; omega
    have E := Lib.hid e
    clear e
    go_enter Try.func75, Try.ntmps75
    go_wp2
    go_ret
    exact ⟨by rw [E.out]; rfl, rfl⟩

set_option maxHeartbeats 800000 in
set_option maxRecDepth 100000 in
theorem rputs_any (z : Int) (h0 : -9223372036854775808 ≤ z) (h1 : z ≤ 9223372036854775807) (w : World) :
    Calls Try.prog 73 #[.int .i64 z] w fun e w' => e = .returned (str (digs (zig z))) ∧ Below w.heap.size w w' := by
  have hz := zig_lt h0 h1
  go_enter Try.func73, Try.ntmps73
  go_wp2_with fail
  refine (twice_any z h0 h1 w).mono ?_
  rintro e w1 ⟨rfl, rfl⟩
  go_wp2_with fail
  refine (digits_any (zig z) hz w).mono ?_
  rintro e w1 ⟨rfl, hb⟩
  go_wp2
  go_ret
  exact ⟨rfl, hb⟩

set_option maxHeartbeats 800000 in
set_option maxRecDepth 100000 in
theorem vputs_any (z : Int) (h0 : -9223372036854775808 ≤ z) (h1 : z ≤ 9223372036854775807) (w : World) :
    Calls Try.prog 57 #[.int .i64 z] w fun e w' => e = .returned (str (digs (zig z))) ∧ Below w.heap.size w w' := by
  have hz := zig_lt h0 h1
  by_cases h : 0 ≤ z
  · have e : z * 2 = ((zig z : Nat) : Int) := by unfold zig; rw [if_pos h]; omega
    have E := Lib.hid e
    clear e
    go_enter Try.func57, Try.ntmps57
    go_wp2_with fail
    rw [E.out]
    refine (put_any (zig z) hz (.slice none 0 0) 0 w.heap.size [] w (World.ownsRow_nil _ _ _ _) (Nat.le_refl _) (by omega)).mono ?_
    rintro e w1 ⟨v1, rfl, hown, hb⟩
    have hcv := conv_own hown
    go_wp2
    go_ret
    exact ⟨rfl, hb⟩
  · have e : bits BinOp.xor IntKind.u64 IntKind.u64.max (IntKind.u64.wrap (IntKind.u64.wrap z * 2)) = ((zig z : Nat) : Int) := by
      have e1 : IntKind.u64.wrap (IntKind.u64.wrap z * 2) = ((2 * z + 18446744073709551616).toNat : Int) := by
        rw [IntKind.wrap_u64, IntKind.wrap_u64]; omega
      rw [e1, xor_max _ (by omega)]
      unfold zig; rw [if_neg h]; omega
    have E := Lib.hid e
    clear e
    go_enter Try.func57, Try.ntmps57
    go_wp2_with fail
    rw [E.out]
    refine (put_any (zig z) hz (.slice none 0 0) 0 w.heap.size [] w (World.ownsRow_nil _ _ _ _) (Nat.le_refl _) (by omega)).mono ?_
    rintro e w1 ⟨v1, rfl, hown, hb⟩
    have hcv := conv_own hown
    go_wp2
    go_ret
    exact ⟨rfl, hb⟩

theorem takeR_lt (m : Nat) (s : List UInt8) : (takeR m s).1 < 18446744073709551616 := by
  unfold takeR
  split
  · split
    · show 0 < _; omega
    · exact Nat.mod_lt _ (by omega)
  · split <;> (show 0 < _; omega)

theorem takeR9_lt (s : List UInt8) : (takeR 9 s).1 < 9223372036854775808 := by
  unfold takeR
  cases h : fst 9 s with
  | some k =>
    have hk := ((fst_some_iff 9 s k).1 h).1
    simp only []
    split
    · show 0 < _; omega
    · have hl : (s.take (k + 1)).length ≤ 9 := by rw [List.length_take]; omega
      have h1 := val_lt (s.take (k + 1))
      have h2 : 128 ^ (s.take (k + 1)).length ≤ 128 ^ 9 := Nat.pow_le_pow_right (by omega) hl
      have h3 : val (s.take (k + 1)) < 9223372036854775808 := Nat.lt_of_lt_of_le h1 (Nat.le_trans h2 (by decide))
      exact Nat.lt_of_le_of_lt (Nat.mod_le _ _) h3
  | none =>
    simp only []
    split <;> (show 0 < _; omega)

theorem takeR_n (m : Nat) (s : List UInt8) : (takeR m s).2.1 ≤ m ∧ (takeR m s).2.1 ≤ s.length := by
  unfold takeR
  cases h : fst m s with
  | some k =>
    have hk := (fst_some_iff m s k).1 h
    simp only []
    split
    · exact ⟨Nat.zero_le _, Nat.zero_le _⟩
    · exact ⟨hk.1, hk.2.1⟩
  | none =>
    simp only []
    split <;> exact ⟨Nat.zero_le _, Nat.zero_le _⟩

set_option maxHeartbeats 800000 in
set_option maxRecDepth 100000 in
theorem vtake_any (s : ByteArray) (w : World) (hs : s.size ≤ maxLen) :
    Calls Try.prog 44 #[.string s] w fun e w' =>
      e = .returned (.tuple #[.int .i64 (takeR 9 s.data.toList).1, .int .i64 (takeR 9 s.data.toList).2.1, .int .i64 (takeR 9 s.data.toList).2.2]) ∧ w = w' := by
  have hlt := takeR9_lt s.data.toList
  go_enter Try.func44, Try.ntmps44
  go_wp2_with fail
  refine (take_any s 9 (by omega) (by omega) w hs).mono ?_
  rintro e w1 ⟨rfl, rfl⟩
  go_wp2
  go_ret3
  exact ⟨rfl, rfl⟩

theorem ext_list (s : ByteArray) (k : Nat) : (s.extract 0 k).data.toList = s.data.toList.take k := by
  simp [ByteArray.data_extract]

theorem value_ext (s : ByteArray) (k : Nat) (w : World) (hs : s.size ≤ maxLen) :
    Calls Try.prog 66 #[.string (s.extract 0 k)] w fun e w' => e = .returned (.int .u64 (vk s.data.toList k : Nat)) ∧ w = w' := by
  refine (value_any (s.extract 0 k) w (by simp; omega)).mono ?_
  rintro e w1 ⟨rfl, rfl⟩
  refine ⟨?_, rfl⟩
  rw [ext_list]; rfl

theorem takeR_some {m k : Nat} {s : List UInt8} (h : fst m s = some k) (hz : ¬ (k ≠ 0 ∧ (s.getD k 0).toNat = 0)) : takeR m s = (vk s (k + 1), k + 1, 0) := by
  unfold takeR; rw [h]; simp only []; rw [if_neg hz]; rfl
theorem takeR_zero {m k : Nat} {s : List UInt8} (h : fst m s = some k) (hz : k ≠ 0 ∧ (s.getD k 0).toNat = 0) : takeR m s = (0, 0, 2) := by
  unfold takeR; rw [h]; simp only []; rw [if_pos hz]
theorem takeR_short {m : Nat} {s : List UInt8} (h : fst m s = none) (hl : s.length < m) : takeR m s = (0, 0, 3) := by
  unfold takeR; rw [h]; simp only []; rw [if_pos hl]
theorem takeR_long {m : Nat} {s : List UInt8} (h : fst m s = none) (hl : ¬ s.length < m) : takeR m s = (0, 0, 2) := by
  unfold takeR; rw [h]; simp only []; rw [if_neg hl]

set_option maxHeartbeats 800000 in
set_option maxRecDepth 100000 in
theorem rtake_any (s : ByteArray) (w : World) (hs : s.size ≤ maxLen) :
    Calls Try.prog 48 #[.string s] w fun e w' =>
      e = .returned (.tuple #[.int .i64 (takeR 9 s.data.toList).1, .int .i64 (takeR 9 s.data.toList).2.1, .int .i64 (takeR 9 s.data.toList).2.2]) ∧ w = w' := by
  have hlt := takeR9_lt s.data.toList
  cases hf : fst 9 s.data.toList with
  | none =>
    have hl : lastI 9 s.data.toList = -1 := by unfold lastI; rw [hf]
    have HL := Lib.hid hl
    clear hl
    by_cases h9 : 9 ≤ s.size
    · rw [takeR_long hf (by simp; omega)]
      clear hf hlt
      go_enter Try.func48, Try.ntmps48
      go_wp2_with fail
      refine (last_any s 9 (by omega) w).mono ?_
      rintro e w1 ⟨rfl, rfl⟩
      rw [HL.out]
      go_wp2
      go_ret3
      exact ⟨rfl, rfl⟩
    · rw [takeR_short hf (by simp; omega)]
      clear hf hlt
      go_enter Try.func48, Try.ntmps48
      go_wp2_with fail
      refine (last_any s 9 (by omega) w).mono ?_
      rintro e w1 ⟨rfl, rfl⟩
      rw [HL.out]
      go_wp2
      go_ret3
      exact ⟨rfl, rfl⟩
  | some k =>
    obtain ⟨hk, hks, _, _⟩ := (fst_some_iff 9 _ k).1 hf
    have hks' : k < s.size := by simpa using hks
    have hg := getD_byte s k hks'
    have hl : lastI 9 s.data.toList = k := by unfold lastI; rw [hf]
    have HL := Lib.hid hl
    clear hl
    by_cases hz0 : s[k].toNat = 0
    · have hz2 : ((s[k].toNat : Int) == 0) = true := by simp [hz0]
      by_cases hk0 : 0 < k
      · rw [takeR_zero hf ⟨by omega, by rw [hg]; exact hz0⟩]
        clear hf hlt hz0 hg
        go_enter Try.func48, Try.ntmps48
        go_wp2_with fail
        refine (last_any s 9 (by omega) w).mono ?_
        rintro e w1 ⟨rfl, rfl⟩
        rw [HL.out]
        go_wp2
        go_ret3
        exact ⟨rfl, rfl⟩
      · rw [takeR_some hf (by omega)] at hlt ⊢
        clear hf hz0 hg
        go_enter Try.func48, Try.ntmps48
        go_wp2_with fail
        refine (last_any s 9 (by omega) w).mono ?_
        rintro e w1 ⟨rfl, rfl⟩
        rw [HL.out]
        go_wp2_with fail
        refine (value_ext s (k + 1) w hs).mono ?_
        rintro e w1 ⟨rfl, rfl⟩
        go_wp2
        go_ret3
        exact ⟨rfl, rfl⟩
    · have hz2 : ((s[k].toNat : Int) == 0) = false := by simp; omega
      rw [takeR_some hf (fun h => hz0 (by rw [← hg]; exact h.2))] at hlt ⊢
      clear hf hz0 hg
      go_enter Try.func48, Try.ntmps48
      go_wp2_with fail
      refine (last_any s 9 (by omega) w).mono ?_
      rintro e w1 ⟨rfl, rfl⟩
      rw [HL.out]
      by_cases hk0 : 0 < k
      all_goals
        go_wp2_with fail
        refine (value_ext s (k + 1) w hs).mono ?_
        rintro e w1 ⟨rfl, rfl⟩
        go_wp2
        go_ret3
        exact ⟨rfl, rfl⟩

end Go.Proofs.Ytafcgknpehphlaa.Va
