/- The walk of the fourth law of frames: with bits changed in its number and its data it is no frame. -/
import Derived.Test.YtjmkjdflfmjliaaFrIs
import Derived.Laws.IdiomStrings
namespace Go.Proofs.Ytjmkjdflfmjliaa.Fr
open Go.RowKit
open Cr (chg eb chg_len)

set_option maxHeartbeats 4000000 in
set_option maxRecDepth 100000 in
theorem finds_ok (q : Nat) (d : ByteArray) (at_ bs : Nat) (h1 : at_ < 65536) (h2 : bs < 4294967296) (hb : 0 < bs) (q1 : 1 ≤ q) (q2 : q < 9223372036854775808) (hd : d.size ≤ 200) (w : World) :
    Calls Try.prog 6 #[.agg #[.int .i64 q, .string d], .int .u16 at_, .int .u32 bs] w fun e w' => e = .returned (.bool true) ∧ Below w.heap.size w w' := by
  have d1 : decide (200 < (d.size : Int)) = false := by simp; omega
  have d3 : decide ((q : Int) < 1) = false := by simp; omega
  have d4 : ((bs : Int) == 0) = false := by simp; omega
  have hs := fbS_size q d
  have P := Lib.hid (fput_ok q d q1 q2 (by omega))
  obtain ⟨k, hk, hk8, hkl⟩ : ∃ k : Nat, 8 + (at_ : Int) % (((fbS q d).size : Int) - 11) = (k : Int) ∧ 8 ≤ k ∧ k + 4 ≤ (fbS q d).size := by
    refine ⟨8 + at_ % ((fbS q d).size - 11), ?_, by omega, ?_⟩
    · rw [show ((fbS q d).size : Int) - 11 = (((fbS q d).size - 11 : Nat) : Int) from by omega]; push_cast; rfl
    · have := Nat.mod_lt at_ (show (fbS q d).size - 11 > 0 by omega); omega
  have T := Lib.hid (tk_chg q d k bs hk8 (by omega) (by omega) hb h2)
  have hF : Hid (B (fbS q d) = fb q (B d)) := rfl
  have hFl : Hid ((fb q (B d)).length = (fbS q d).size) := by unfold Hid; rw [fb_len, hs, B_len]
  generalize fbS q d = F at *
  generalize fb q (B d) = L at *
  have HS := Lib.hid hs
  have d5 : decide ((F.size : Int) < 16) = false := by simp; omega
  have d6 : F.size ≤ 1000 := by omega
  have d7 : 11 < F.size := by omega
  clear hs
  have X0 := Lib.hid (Bx.start w 27 (.int .i64 q) (.string d))
  have B0 := Lib.hid ((Below.refl _ w).alloc (Nat.le_refl _) (.cells #[.int .i64 q, .string d] 27))
  go_enter Try.func6, Try.ntmps6
  go_wp2_with fail
  refine (P.out _).mono ?_
  rintro e w1 ⟨rfl, b1⟩
  have B1 := Lib.hid (B0.out.trans (b1.mono B0.out.size))
  clear b1
  have hcv := run_bytes_of_string (P := Try.prog) w1 9 42 5 F Try.underlying9 Try.underlying42 Try.underlying5
  have hW : Below w.heap.size w (w1.drew.alloc (.cells (bytesRow F (grownCap w1 F.size 0 5)) 5 ((bytesRow F (grownCap w1 F.size 0 5)).size, (bytesRow F (grownCap w1 F.size 0 5)).size + 1))) := B1.out.drew.alloc B1.out.size _
  have hY : Hid (Byt w1.heap.size L (w1.drew.alloc (.cells (bytesRow F (grownCap w1 F.size 0 5)) 5 ((bytesRow F (grownCap w1 F.size 0 5)).size, (bytesRow F (grownCap w1 F.size 0 5)).size + 1)))) := by
    unfold Hid
    rw [← hF.out]
    refine ⟨by simp, fun j hj => ?_⟩
    have hj' : j < F.data.size := by simpa using hj
    have hr : j < (bytesRow F (grownCap w1 F.size 0 5)).size := by unfold bytesRow; simp only [Array.size_append, Array.size_map]; omega
    constructor
    · refine (World.cell?_alloc_mark w1.drew _ _ _ j).trans ?_
      rw [bytesRow_at F _ j hj']
      rw [List.getD_eq_getElem?_getD, List.getElem?_eq_getElem hj]; rfl
    · refine (World.frozen?_alloc_mark w1.drew _ _ _ _ j).trans ?_
      simp; omega
  generalize w1.drew.alloc (.cells (bytesRow F (grownCap w1 F.size 0 5)) 5 ((bytesRow F (grownCap w1 F.size 0 5)).size, (bytesRow F (grownCap w1 F.size 0 5)).size + 1)) = W at hcv hW hY
  generalize grownCap w1 F.size 0 5 = C at hcv
  have HW := Lib.hid hW
  clear hW
  have hBw := B1.out.size
  go_wp2_with fail
  go_loopw [11] (fun i wr => ∃ n : Nat, n ≤ 4 ∧ i = .int .i64 n ∧ Hid (Byt w1.heap.size (chg L k bs n) wr) ∧ Hid (Below w.heap.size w wr)) (fun i _ => 4 - (intOf i).toNat)
  case atStart => exact ⟨0, by omega, rfl, hY, HW⟩
  case round =>
    obtain ⟨n, hn, rfl, hB, hbl⟩ := hrel
    by_cases hn4 : n < 4
    · have hlen : k + n < (chg L k bs n).length := by rw [chg_len, hFl.out]; omega
      obtain ⟨hc, hf⟩ := hB.out.2 (k + n) hlen
      generalize hcc : (chg L k bs n).getD (k + n) 0 = c at hc
      have HC := Lib.hid hcc
      clear hcc
      have hx : bits .xor .u8 (c.toNat : Int) ((bs : Int) / 2 ^ (8 * n) % 256) = (((c ^^^ eb bs n).toNat : Nat) : Int) := by
        have e : (eb bs n).toNat = bs / 2 ^ (8 * n) % 256 := by unfold eb; rw [UInt8.toNat_ofNat']; omega
        rw [UInt8.toNat_xor, e, ← u8_xor_nat _ _ (Cr.byte_lt c) (by omega)]
        congr 1
      go_wp2_with fail
      go_region
      go_wp2_with fail
      go_roundw
      case rel =>
        refine ⟨n + 1, by omega, by go_num, ?_, (hbl.out.setCell (by simpa using hBw) _).drew⟩
        have := (hB.out.set (k + n) hlen (c ^^^ eb bs n)).drew
        show Byt _ _ _
        unfold chg
        rw [HC.out]
        exact this
      case measure => simp [intOf]; omega
    · obtain rfl : n = 4 := by omega
      have hlc : (chg L k bs 4).length = F.size := by rw [chg_len, hFl.out]
      have hcb := hB.out.conv F.size C hlc
      have T1 := ftake_any ⟨(chg L k bs 4).toArray⟩ (by rw [size_mk, hlc]; omega)
      rw [T.out] at T1
      unfold TkV no at T1
      have HT1 := Lib.hid T1
      clear T1
      clear hcv hY HW
      go_wp2_with fail
      refine (HT1.out wr).mono ?_
      rintro e w2 ⟨rfl, b2⟩
      have B2 := Lib.hid ((hbl.out.trans (b2.mono hbl.out.size)).alloc (by have := hbl.out.size; have := b2.size; omega) (.cells #[.int .i64 0, .string ⟨#[]⟩] 27))
      clear b2
      go_wp2_with fail
      refine (awake_any _).mono ?_
      rintro e w4 ⟨rfl, b4⟩
      have B4 := Lib.hid (B2.out.trans (b4.mono B2.out.size))
      clear b4
      go_wp2_with fail
      go_ret
      exact ⟨rfl, B4.out⟩

set_option maxHeartbeats 800000 in
set_option maxRecDepth 100000 in
theorem finds_out (q : Int) (d : ByteArray) (at_ bs : Int) (h : 200 < d.size ∨ q < 1 ∨ bs = 0) (w : World) :
    Calls Try.prog 6 #[.agg #[.int .i64 q, .string d], .int .u16 at_, .int .u32 bs] w fun e w' => e = .returned (.bool true) ∧ Below w.heap.size w w' := by
  have B0 := Lib.hid ((Below.refl _ w).alloc (Nat.le_refl _) (.cells #[.int .i64 q, .string d] 27))
  by_cases h1 : 200 < d.size
  · have d1 : decide (200 < (d.size : Int)) = true := by simp; omega
    clear h
    go_enter Try.func6, Try.ntmps6
    go_wp2_with fail
    refine (awake_any _).mono ?_
    rintro e w1 ⟨rfl, b1⟩
    have B1 := Lib.hid (B0.out.trans (b1.mono B0.out.size))
    clear b1
    go_wp2_with fail
    go_ret
    exact ⟨rfl, B1.out⟩
  have d1 : decide (200 < (d.size : Int)) = false := by simp; omega
  by_cases h2 : q < 1
  · have d2 : decide (q < 1) = true := by simp; omega
    clear h
    go_enter Try.func6, Try.ntmps6
    go_wp2_with fail
    refine (awake_any _).mono ?_
    rintro e w1 ⟨rfl, b1⟩
    have B1 := Lib.hid (B0.out.trans (b1.mono B0.out.size))
    clear b1
    go_wp2_with fail
    go_ret
    exact ⟨rfl, B1.out⟩
  have d2 : decide (q < 1) = false := by simp; omega
  obtain rfl : bs = 0 := by omega
  clear h
  go_enter Try.func6, Try.ntmps6
  go_wp2_with fail
  refine (awake_any _).mono ?_
  rintro e w1 ⟨rfl, b1⟩
  have B1 := Lib.hid (B0.out.trans (b1.mono B0.out.size))
  clear b1
  go_wp2_with fail
  go_ret
  exact ⟨rfl, B1.out⟩

theorem finds_all (q : Int) (d : ByteArray) (at_ bs : Int) (q2 : q < 9223372036854775808) (h1 : 0 ≤ at_ ∧ at_ < 65536) (h2 : 0 ≤ bs ∧ bs < 4294967296) (w : World) :
    Calls Try.prog 6 #[.agg #[.int .i64 q, .string d], .int .u16 at_, .int .u32 bs] w fun e w' => e = .returned (.bool true) ∧ Below w.heap.size w w' := by
  by_cases h : 200 < d.size ∨ q < 1 ∨ bs = 0
  · exact finds_out q d at_ bs h w
  · obtain ⟨a, rfl⟩ := Int.eq_ofNat_of_zero_le h1.1
    obtain ⟨b, rfl⟩ := Int.eq_ofNat_of_zero_le h2.1
    obtain ⟨n, rfl⟩ := Int.eq_ofNat_of_zero_le (show 0 ≤ q by omega)
    exact finds_ok n d a b (by omega) (by omega) (by omega) (by omega) (by omega) (by omega) w
end Go.Proofs.Ytjmkjdflfmjliaa.Fr
