/- The walk of the bytes by the table: what a number becomes, half a byte at a time. -/
import Derived.Test.YtjmkjdflfmjliaaCrTab
namespace Go.Proofs.Ytjmkjdflfmjliaa.Cr
open Go.RowKit

theorem take_snoc (s : ByteArray) (k : Nat) (h : k < s.size) : s.data.toList.take (k + 1) = s.data.toList.take k ++ [s[k]] := by
  rw [List.take_succ_eq_append_getElem (by simpa using h)]; rfl

theorem half (x : Nat) (hx : x < 4294967296) : bits .xor .u32 ((x : Int) / 16) ((sts 4 (x % 16) : Nat) : Int) = ((sts 4 x : Nat) : Int) := by
  have := u32_xor_nat (x / 16) (sts 4 (x % 16)) (by omega) (sts_lt 4 (by omega))
  rw [four] at this
  simpa using this

set_option maxHeartbeats 800000 in
theorem over_any (n : Nat) (hn : n < 4294967296) (s : ByteArray) (hs : s.size ≤ 1000000) (w : World) :
    Calls Try.prog 28 #[.int .u32 n, .string s, .agg (tabA 16)] w fun e w' => e = .returned (.int .u32 (feed n s.data.toList)) ∧ Below w.heap.size w w' := by
  have hcell : Hid (∀ m, m < 16 → (w.alloc (Obj.cells (tabA 16) 54)).cell? ⟨w.heap.size, m, none⟩ = some (.int .u32 (sts 4 m))) := fun m hm => by
    rw [cell_of_row _ _ _ _ _ _ (heap_alloc_new w _), tabA_get 16 m hm]
    unfold tabV
    rw [if_pos hm]
  have hb : Below w.heap.size w (w.alloc (Obj.cells (tabA 16) 54)) := (Below.refl _ _).alloc (Nat.le_refl _) _
  go_enter Try.func28, Try.ntmps28
  go_wp2
  generalize w.alloc (Obj.cells (tabA 16) 54) = W at hcell hb
  go_loop [0, 10] (fun n' i => ∃ (k : Nat), k ≤ s.size ∧ n' = .int .u32 (feed n (s.data.toList.take k)) ∧ i = .int .i64 k) (fun _ i => s.size - (intOf i).toNat)
  case atStart => exact ⟨0, by omega, rfl, rfl⟩
  case round =>
    obtain ⟨k, hk, rfl, rfl⟩ := hrel
    have hx := feed_lt (s.data.toList.take k) hn
    by_cases hlt : k < s.size
    · have hsn : feed n (s.data.toList.take (k + 1)) = sts 8 (feed n (s.data.toList.take k) ^^^ s[k].toNat) := by rw [take_snoc s k hlt, feed_snoc]
      have HS := Lib.hid hsn
      clear hsn
      generalize feed n (s.data.toList.take k) = x at hx HS
      have hbt := byte_lt s[k]
      have hx1 : bits .xor .u32 (x : Int) (s[k].toNat : Int) = ((x ^^^ s[k].toNat : Nat) : Int) := u32_xor_nat x _ hx (by omega)
      have hy : x ^^^ s[k].toNat < 4294967296 := xor_lt hx (by omega)
      generalize hyy : x ^^^ s[k].toNat = y at hx1 hy HS
      have HY := Lib.hid hyy
      clear hyy
      go_wp2
      go_loop [0, 19] (fun n' i => ∃ (j z : Nat), j ≤ 2 ∧ z < 4294967296 ∧ n' = .int .u32 z ∧ i = .int .i64 j ∧ Hid (sts (4 * (2 - j)) z = sts 8 y)) (fun _ i => 2 - (intOf i).toNat)
      case atStart => exact ⟨0, y, by omega, hy, rfl, rfl, rfl⟩
      case round =>
        obtain ⟨j, z, hj, hz, rfl, rfl, HJ⟩ := hrel
        by_cases hj2 : j < 2
        · have hc := hcell.out (z % 16) (by omega)
          have hh := half z hz
          go_wp2
          go_round
          case rel =>
            refine ⟨j + 1, sts 4 z, by omega, sts_lt 4 hz, rfl, by go_num, ?_⟩
            have h := HJ.out
            rw [show 4 * (2 - j) = 4 + 4 * (2 - (j + 1)) from by omega, sts_add] at h
            exact h
          case measure => simp [intOf]; omega
        · obtain rfl : j = 2 := by omega
          go_wp2
          go_round
          case rel => 
            refine ⟨k + 1, by omega, ?_, by go_num⟩
            rw [HS.out, ← HJ.out]; rfl
          case measure => simp [intOf]; omega
    · go_wp2
      go_ret
      refine ⟨?_, hb⟩
      rw [List.take_of_length_le (by simp; omega)]; rfl
end Go.Proofs.Ytjmkjdflfmjliaa.Cr
