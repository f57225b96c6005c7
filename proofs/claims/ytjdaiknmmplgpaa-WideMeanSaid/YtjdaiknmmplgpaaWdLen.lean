/- How many bits a word needs. -/
import Derived.Test.YtjdaiknmmplgpaaWdNum
import Derived.Lib.Strings
import Derived.Lib.Slices
import Derived.Lib.Small
import Derived.Lib.Walk
import Derived.Lib.BitFns
namespace Go.Proofs.Ytjdaiknmmplgpaa.Wd
open Go.RowKit

/-- how many bits a number above 0 needs -/
def lg (x : Int) : Nat := Nat.log2 x.toNat + 1
theorem lg_low {x : Int} (h : 1 ≤ x) : (2 : Int) ^ (lg x - 1) ≤ x := by
  unfold lg
  have := Nat.log2_self_le (n := x.toNat) (by omega)
  rw [Nat.add_sub_cancel]
  have h2 : ((2 ^ x.toNat.log2 : Nat) : Int) ≤ (x.toNat : Int) := by exact_mod_cast this
  rw [Int.toNat_of_nonneg (by omega)] at h2
  simpa using h2
theorem lg_high {x : Int} (h : 1 ≤ x) : x < (2 : Int) ^ lg x := by
  unfold lg
  have := Nat.lt_log2_self (n := x.toNat)
  have h2 : (x.toNat : Int) < ((2 ^ (x.toNat.log2 + 1) : Nat) : Int) := by exact_mod_cast this
  rw [Int.toNat_of_nonneg (by omega)] at h2
  simpa using h2
theorem lg_pos (x : Int) : 1 ≤ lg x := by unfold lg; omega
theorem lg_le {x : Int} (h : 1 ≤ x) (h2 : x ≤ 18446744073709551615) : lg x ≤ 64 := by
  unfold lg
  have := (Nat.log2_lt (n := x.toNat) (k := 64) (by omega)).2 (by omega)
  omega
theorem lg_of {x : Int} {k : Nat} (hx : 1 ≤ x) (h1 : (2 : Int) ^ k ≤ x) (h2 : x < (2 : Int) ^ (k + 1)) : lg x = k + 1 := by
  unfold lg
  have hl : 2 ^ k ≤ x.toNat := by
    have : ((2 ^ k : Nat) : Int) ≤ (x.toNat : Int) := by rw [Int.toNat_of_nonneg (by omega)]; simpa using h1
    exact_mod_cast this
  have hh : x.toNat < 2 ^ (k + 1) := by
    have : (x.toNat : Int) < ((2 ^ (k + 1) : Nat) : Int) := by rw [Int.toNat_of_nonneg (by omega)]; simpa using h2
    exact_mod_cast this
  have a := (Nat.le_log2 (n := x.toNat) (k := k) (by omega)).2 hl
  have b := (Nat.log2_lt (n := x.toNat) (k := k + 1) (by omega)).2 hh
  omega
theorem tab_is : ∀ n : Fin 256, n.val ≠ 0 → Lib.len8 (n.val : Int) = ((Nat.log2 n.val + 1 : Nat) : Int) := by decide +kernel
theorem leaf (c : Nat) {C x b : Int} (hC : C = 2 ^ c) (hb : b = x / C) (b1 : 1 ≤ b) (b2 : b ≤ 255) : (c : Int) + Lib.len8 b = ((lg x : Nat) : Int) := by
  have e := tab_is ⟨b.toNat, by omega⟩ (by simp; omega)
  simp only [Int.toNat_of_nonneg (show 0 ≤ b by omega)] at e
  rw [e]
  have hCp : 0 < C := by rw [hC]; exact Int.pow_pos (by decide)
  have l1 := lg_low b1
  have l2 := lg_high b1
  unfold lg at l1 l2
  rw [Nat.add_sub_cancel] at l1
  generalize b.toNat.log2 = k at *
  have hx : 1 ≤ x := by
    have := Int.ediv_mul_le x (b := C) (by omega)
    rw [← hb] at this
    have : 1 ≤ b * C := Int.le_trans (by omega) (Int.mul_le_mul_of_nonneg_right b1 (by omega))
    omega
  have a1 : (2 : Int) ^ (c + k) ≤ x := by
    rw [Int.pow_add, ← hC, Int.mul_comm]
    exact (Int.le_ediv_iff_mul_le hCp).1 (by rw [← hb]; exact l1)
  have a2 : x < (2 : Int) ^ (c + k + 1) := by
    rw [Nat.add_assoc, Int.pow_add, ← hC, Int.mul_comm]
    exact (Int.ediv_lt_iff_lt_mul hCp).1 (by rw [← hb]; exact l2)
  rw [lg_of hx a1 a2]
  omega

theorem get_is {b : Int} (h : b.toNat < Lib.len8tab.size) : ((Lib.len8tab[b.toNat].toNat : Nat) : Int) = Lib.len8 b := by
  unfold Lib.len8
  rw [getElem?_pos Lib.len8tab b.toNat h]
  rfl
theorem leaf_wrap (c : Nat) {C x b : Int} (hC : C = 2 ^ c) (hb : b = x / C) (b1 : 1 ≤ b) (b2 : b ≤ 255) (hc : c ≤ 56) : wrap64 ((c : Int) + wrap64 (Lib.len8 b)) = ((lg x : Nat) : Int) := by
  have e := leaf c hC hb b1 b2
  have e2 := leaf 0 (C := 1) (x := b) (b := b) rfl (by omega) b1 b2
  have l := lg_pos b
  have l8 : lg b ≤ 8 := by
    unfold lg
    have := (Nat.log2_lt (n := b.toNat) (k := 8) (by omega)).2 (by omega)
    omega
  rw [← e]
  unfold wrap64
  omega

set_option maxHeartbeats 4000000 in
set_option maxRecDepth 100000 in
theorem len_any (x : Int) (w : World) (h0 : 1 ≤ x) (h1 : x ≤ 18446744073709551615) :
    Calls Try.prog 28 #[.int .u64 x] w fun e w' => e = .returned (.int .i64 ((lg x : Nat) : Int)) ∧ w = w' := by
  have H1 := Lib.hid h1
  clear h1
  go_enter Try.func28, Try.ntmps28
  go_wp2
  all_goals have hs := Lib.len8tab_size
  all_goals have h1 := H1.out
  all_goals try (exfalso; omega)
  all_goals
    go_ret
    refine ⟨ret_int ?_, rfl⟩
    try rw [get_is (by omega)]
    first
      | exact leaf_wrap 56 (C := 72057594037927936) (by decide) (by omega) (by omega) (by omega) (by decide)
      | exact leaf_wrap 48 (C := 281474976710656) (by decide) (by omega) (by omega) (by omega) (by decide)
      | exact leaf_wrap 40 (C := 1099511627776) (by decide) (by omega) (by omega) (by omega) (by decide)
      | exact leaf_wrap 32 (C := 4294967296) (by decide) (by omega) (by omega) (by omega) (by decide)
      | exact leaf_wrap 24 (C := 16777216) (by decide) (by omega) (by omega) (by omega) (by decide)
      | exact leaf_wrap 16 (C := 65536) (by decide) (by omega) (by omega) (by omega) (by decide)
      | exact leaf_wrap 8 (C := 256) (by decide) (by omega) (by omega) (by omega) (by decide)
      | (rw [show wrap64 (wrap64 (Lib.len8 x)) = wrap64 (((0 : Nat) : Int) + wrap64 (Lib.len8 x)) from by unfold wrap64; omega]
         exact leaf_wrap 0 (C := 1) (by decide) (by omega) (by omega) (by omega) (by decide))

theorem zeros_any (x : Int) (w : World) (h0 : 1 ≤ x) (h1 : x ≤ 18446744073709551615) :
    Calls Try.prog 27 #[.int .u64 x] w fun e w' => e = .returned (.int .i64 (64 - ((lg x : Nat) : Int))) ∧ w = w' := by
  have l1 := lg_pos x
  have l2 := lg_le h0 h1
  generalize hn : lg x = n at l1 l2 ⊢
  have HN := Lib.hid hn
  clear hn
  go_enter Try.func27, Try.ntmps27
  go_wp2_with fail
  refine (len_any x w h0 h1).mono ?_
  rintro e w1 ⟨rfl, rfl⟩
  rw [HN.out]
  go_wp2
  go_ret
  exact ⟨rfl, rfl⟩
end Go.Proofs.Ytjdaiknmmplgpaa.Wd
