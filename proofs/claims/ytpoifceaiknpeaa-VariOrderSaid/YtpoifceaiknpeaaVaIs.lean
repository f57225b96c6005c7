/- The walk of the first law: true, whatever the numbers and the bytes are. -/
import Derived.Test.YtpoifceaiknpeaaVaAwake
import Derived.Deep.RegionHeld3
import Derived.Deep.DeepCutAuto
namespace Go.Proofs.Ytpoifceaiknpeaa.Va
open Go.RowKit

/-- what a list of numbers came in as: its cells -/
structure Ints (b off len : Nat) (zs : List Int) (w : World) : Prop where
  lenIs : zs.length = len
  blk : b < w.heap.size
  cell : ∀ j, j < len → w.cell? ⟨b, off + j, none⟩ = some (.int .i64 (zs[j]?.getD 0))
  low : ∀ j, j < len → -9223372036854775808 ≤ zs[j]?.getD 0
  high : ∀ j, j < len → zs[j]?.getD 0 ≤ 9223372036854775807

theorem Ints.later {b off len : Nat} {zs : List Int} {w w' : World} (h : Ints b off len zs w) (hb : Below w.heap.size w w') : Ints b off len zs w' :=
  ⟨h.lenIs, Nat.lt_of_lt_of_le h.blk hb.size, fun j hj => (hb.cell h.blk).trans (h.cell j hj), h.low, h.high⟩

theorem keep_step {b o : Nat} {z : Value} {w wx w1 : World} (h1 : wx.cell? ⟨b, o, none⟩ = some z) (h2 : Below w.heap.size w wx) (hb : Below wx.heap.size wx w1) (hblk : b < w.heap.size) :
    w1.cell? ⟨b, o, none⟩ = some z ∧ Below w.heap.size w w1 :=
  ⟨(hb.cell (Nat.lt_of_lt_of_le hblk h2.size)).trans h1, h2.trans (hb.mono h2.size)⟩

set_option maxHeartbeats 1000000 in
set_option maxRecDepth 100000 in
theorem is_any (b off len cap : Nat) (zs : List Int) (s : ByteArray) (w : World) (hz : Ints b off len zs w) (hl : len ≤ 60) (hs : s.size ≤ 100) :
    Calls Try.prog 3 #[.slice (some ⟨b, off, none⟩) len cap, .string s] w fun e w' => e = .returned (.bool true) ∧ Below w.heap.size w w' := by
  have HZ := Lib.hid hz
  clear hz
  go_enter Try.func3, Try.ntmps3
  go_wp2_with fail
  go_loopw [5] (fun i wr => ∃ k : Nat, k ≤ len ∧ i = .int .i64 k ∧ Below w.heap.size w wr) (fun i _ => len - (intOf i).toNat)
  case atStart => exact ⟨0, Nat.zero_le _, rfl, Below.refl _ _⟩
  case round =>
    obtain ⟨k, hk, rfl, hbl⟩ := hrel
    have hS := hbl.size
    have hblk := HZ.out.blk
    by_cases hlt : k < len
    · have hcell : wr.cell? ⟨b, off + k, none⟩ = some (.int .i64 (zs[k]?.getD 0)) := (hbl.cell hblk).trans (HZ.out.cell k hlt)
      have hlo := HZ.out.low k hlt
      have hhi := HZ.out.high k hlt
      generalize zs[k]?.getD 0 = z at hcell hlo hhi
      go_wp2_with fail
      go_region_held3 (fun w' => w'.cell? ⟨b, off + k, none⟩ = some (.int .i64 z) ∧ Below w.heap.size w w')
        (first | (refine ⟨?_, hbl.drew⟩; go_keep; done) | (go_split_ands; exact keep_step (by assumption) (by assumption) hb1 hblk))
        (first | (go_at_call 7; refine (vput_any z hhi _).mono ?_; rintro e w1 ⟨rfl, hb1⟩) | (go_at_call 8; refine (rput_any z hhi _).mono ?_; rintro e w1 ⟨rfl, hb1⟩) | (go_at_call 9; refine (vputs_any z hlo hhi _).mono ?_; rintro e w1 ⟨rfl, hb1⟩) | (go_at_call 10; refine (rputs_any z hlo hhi _).mono ?_; rintro e w1 ⟨rfl, hb1⟩))
      obtain ⟨_, hbe⟩ := ‹_ ∧ Below w.heap.size w _›
      go_wp2
      go_roundw
      case rel => exact ⟨k + 1, by omega, by go_num, hbe⟩
      case measure => simp [intOf]; omega
    · have hsm : s.size ≤ maxLen := by unfold maxLen; omega
      have hz1 := Lib.hid (HZ.out.later hbl)
      go_wp2_with fail
      refine (vtake_any s wr hsm).mono ?_
      rintro e w1 ⟨rfl, rfl⟩
      go_wp2_with fail
      refine (rtake_any s wr hsm).mono ?_
      rintro e w1 ⟨rfl, rfl⟩
      go_wp2_with fail
      refine (vtakes_any s wr hsm).mono ?_
      rintro e w1 ⟨rfl, rfl⟩
      go_wp2_with fail
      refine (rtakes_any s wr hsm).mono ?_
      rintro e w1 ⟨rfl, rfl⟩
      go_wp2_with fail
      refine (all_any b off len cap zs wr hz1.out.lenIs (by omega) hz1.out.blk hz1.out.cell hz1.out.high).mono ?_
      rintro e w1 ⟨rfl, hb1⟩
      go_wp2_with fail
      refine (have hz2 := hz1.out.later hb1; rall_any b off len cap zs w1 hz2.lenIs (by omega) hz2.blk hz2.cell hz2.high).mono ?_
      rintro e w2 ⟨rfl, hb2⟩
      go_wp2_with fail
      refine (awake_any w2).mono ?_
      rintro e w3 ⟨rfl, hb3⟩
      go_wp2
      go_ret
      have e1 := hb1.size
      have e2 := hb2.size
      exact ⟨rfl, hbl.trans ((hb1.mono hS).trans ((hb2.mono (by omega)).trans (hb3.mono (by omega))))⟩

set_option maxHeartbeats 1000000 in
set_option maxRecDepth 100000 in
theorem is_none (a : Option Addr) (cap : Nat) (s : ByteArray) (w : World) (hs : s.size ≤ 100) :
    Calls Try.prog 3 #[.slice a 0 cap, .string s] w fun e w' => e = .returned (.bool true) ∧ Below w.heap.size w w' := by
  have hsm : s.size ≤ maxLen := by unfold maxLen; omega
  go_enter Try.func3, Try.ntmps3
  go_wp2_with fail
  refine wp_loop_rounds 1 ?_
  rw [rounds_succ]
  go_wp2_with fail
  refine (vtake_any s w hsm).mono ?_
  rintro e w1 ⟨rfl, rfl⟩
  go_wp2_with fail
  refine (rtake_any s w hsm).mono ?_
  rintro e w1 ⟨rfl, rfl⟩
  go_wp2_with fail
  refine (vtakes_any s w hsm).mono ?_
  rintro e w1 ⟨rfl, rfl⟩
  go_wp2_with fail
  refine (rtakes_any s w hsm).mono ?_
  rintro e w1 ⟨rfl, rfl⟩
  go_wp2_with fail
  refine (all_none a cap w).mono ?_
  rintro e w1 ⟨rfl, hb1⟩
  go_wp2_with fail
  refine (rall_none a cap w1).mono ?_
  rintro e w2 ⟨rfl, hb2⟩
  go_wp2_with fail
  refine (awake_any w2).mono ?_
  rintro e w3 ⟨rfl, hb3⟩
  go_wp2
  go_ret
  have e1 := hb1.size
  have e2 := hb2.size
  exact ⟨rfl, hb1.trans ((hb2.mono (by omega)).trans (hb3.mono (by omega)))⟩

set_option maxHeartbeats 1000000 in
set_option maxRecDepth 100000 in
theorem is_long (a : Option Addr) (len cap : Nat) (s : ByteArray) (w : World) (hl : 60 < len ∨ 100 < s.size) :
    Calls Try.prog 3 #[.slice a len cap, .string s] w fun e w' => e = .returned (.bool true) ∧ Below w.heap.size w w' := by
  by_cases h : 60 < len
  · clear hl
    go_enter Try.func3, Try.ntmps3
    go_wp2_with fail
    refine (awake_any w).mono ?_
    rintro e w3 ⟨rfl, hb3⟩
    go_wp2
    go_ret
    exact ⟨rfl, hb3⟩
  · have h2 : 100 < s.size := by omega
    clear hl
    go_enter Try.func3, Try.ntmps3
    go_wp2_with fail
    refine (awake_any w).mono ?_
    rintro e w3 ⟨rfl, hb3⟩
    go_wp2
    go_ret
    exact ⟨rfl, hb3⟩
end Go.Proofs.Ytpoifceaiknpeaa.Va
