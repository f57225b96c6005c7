/- What the program and the document write of numbers: the same digits; for up to 1000 numbers. -/
import Derived.Test.YtafcgknpehphlaaVaTake
namespace Go.Proofs.Ytafcgknpehphlaa.Va
open Go.RowKit

theorem put_int (u : Int) (h0 : 0 ≤ u) (h1 : u < 18446744073709551616) (v : Value) (n B : Nat) (l : List UInt8) (w : World)
    (hown : w.ownsRow B 5 1 v n (bs l)) (hB : B ≤ w.heap.size) (hn : n ≤ 1000000) :
    Calls Try.prog 68 #[v, .int .u64 u] w (PutPost B n l u.toNat w) := by
  obtain ⟨m, rfl⟩ := Int.eq_ofNat_of_zero_le h0
  exact put_any m (by omega) v n B l w hown hB hn

set_option maxHeartbeats 800000 in
set_option maxRecDepth 100000 in
theorem all_any (b off len cap : Nat) (zs : List Int) (w : World) (hlen : zs.length = len) (hl : len ≤ 1000) (hb : b < w.heap.size)
    (hc : ∀ j, j < len → w.cell? ⟨b, off + j, none⟩ = some (.int .i64 (zs[j]?.getD 0))) (hz : ∀ j, j < len → zs[j]?.getD 0 ≤ 9223372036854775807) :
    Calls Try.prog 56 #[.slice (some ⟨b, off, none⟩) len cap] w fun e w' => e = .returned (str (allD zs)) ∧ Below w.heap.size w w' := by
  have HL := Lib.hid hlen
  have HC := Lib.hid hc
  have HZ := Lib.hid hz
  clear hlen hc hz
  go_enter Try.func56, Try.ntmps56
  go_wp2
  go_loopw [3, 8] (fun v i wr => ∃ (k : Nat) (pre : List UInt8), k ≤ len ∧ i = .int .i64 k ∧ wr.ownsRow w.heap.size 5 1 v pre.length (bs pre) ∧ pre = allD (zs.take k) ∧ pre.length ≤ 10 * k ∧ Below w.heap.size w wr) (fun _ i _ => len - (intOf i).toNat)
  case atStart => exact ⟨0, [], Nat.zero_le _, rfl, World.ownsRow_nil _ _ _ _, rfl, by simp, Below.refl _ _⟩
  case round =>
    obtain ⟨k, pre, hk, rfl, hown, hpre, hpl, hbl⟩ := hrel
    have HP := Lib.hid hpre
    clear hpre
    have hS := hbl.size
    by_cases hlt : k < len
    · have hcell : wr.cell? ⟨b, off + k, none⟩ = some (.int .i64 (zs[k]?.getD 0)) := (hbl.cell hb).trans (HC.out k hlt)
      have hzk := HZ.out k hlt
      have hsn := take_snoc_int zs k (by rw [HL.out]; exact hlt)
      have HS := Lib.hid hsn
      clear hsn
      by_cases hnn : 0 ≤ zs[k]?.getD 0
      · go_wp2_with fail
        refine (put_int (zs[k]?.getD 0) hnn (by omega) u3 pre.length w.heap.size pre wr hown hS (by omega)).mono ?_
        rintro e w1 ⟨v1, rfl, hown1, hb1⟩
        have hd := digs_len10 (u := (zs[k]?.getD 0).toNat) (by omega)
        go_wp2
        go_roundw
        case rel =>
          refine ⟨k + 1, pre ++ digs (zs[k]?.getD 0).toNat, by omega, by go_num, ?_, ?_, ?_, hbl.trans hb1⟩
          · rw [List.length_append]; exact hown1
          · rw [HS.out, allD_snoc, if_pos hnn, HP.out]
          · rw [List.length_append]; omega
        case measure => simp [intOf]; omega
      · go_wp2_with fail
        go_roundw
        case rel =>
          refine ⟨k + 1, pre, by omega, by go_num, hown, ?_, by omega, hbl⟩
          rw [HS.out, allD_snoc, if_neg hnn, HP.out]; simp
        case measure => simp [intOf]; omega
    · have hcv := conv_own hown
      go_wp2
      go_ret
      refine ⟨?_, hbl⟩
      rw [HP.out, List.take_of_length_le (by rw [HL.out]; omega)]
      rfl

set_option maxHeartbeats 800000 in
set_option maxRecDepth 100000 in
theorem all_none (a : Option Addr) (cap : Nat) (w : World) :
    Calls Try.prog 56 #[.slice a 0 cap] w fun e w' => e = .returned (str []) ∧ Below w.heap.size w w' := by
  have hcv := conv_own (World.ownsRow_nil w w.heap.size 5 1) (l := [])
  go_enter Try.func56, Try.ntmps56
  go_wp2
  refine wp_loop_rounds 1 ?_
  rw [rounds_succ]
  go_wp2
  go_ret
  exact ⟨rfl, Below.refl _ _⟩

/-- what Put and All of one number are -/
def putD (z : Int) : List UInt8 := if 0 ≤ z then digs z.toNat else []

set_option maxHeartbeats 800000 in
set_option maxRecDepth 100000 in
theorem vput_any (z : Int) (hz : z ≤ 9223372036854775807) (w : World) :
    Calls Try.prog 35 #[.int .i64 z] w fun e w' => e = .returned (str (putD z)) ∧ Below w.heap.size w w' := by
  go_enter Try.func35, Try.ntmps35
  go_wp2_with fail
  refine (all_any w.heap.size 0 1 1 [z] (w.alloc (.cells #[.int .i64 z] 3)) rfl (by omega) (by simp) ?_ ?_).mono ?_
  · intro j hj
    obtain rfl : j = 0 := by omega
    exact Go.cell_one_new w (.int .i64 z) 3 0 _ rfl
  · intro j hj
    obtain rfl : j = 0 := by omega
    simpa using hz
  rintro e w1 ⟨rfl, hb1⟩
  go_wp2
  go_ret
  exact ⟨by simp [putD, allD], ((Below.refl _ _).alloc (Nat.le_refl _) _).trans (hb1.mono (by simp))⟩

set_option maxHeartbeats 800000 in
set_option maxRecDepth 100000 in
theorem rput_any (z : Int) (hz : z ≤ 9223372036854775807) (w : World) :
    Calls Try.prog 21 #[.int .i64 z] w fun e w' => e = .returned (str (putD z)) ∧ Below w.heap.size w w' := by
  by_cases h : 0 ≤ z
  · obtain ⟨n, rfl⟩ := Int.eq_ofNat_of_zero_le h
    go_enter Try.func21, Try.ntmps21
    go_wp2_with fail
    refine (digits_any n (by omega) w).mono ?_
    rintro e w1 ⟨rfl, hb1⟩
    go_wp2
    go_ret
    exact ⟨by simp [putD], hb1⟩
  · go_enter Try.func21, Try.ntmps21
    go_wp2
    go_ret
    exact ⟨by rw [show putD z = [] from if_neg (by omega)]; rfl, Below.refl _ _⟩

end Go.Proofs.Ytafcgknpehphlaa.Va
