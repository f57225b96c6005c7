/- The walk of the second law of layer 11: what is put is taken as it was; cut off anywhere it is too short. -/
import Derived.Test.YtafcgknpehphlaaLtIs
set_option linter.unusedSimpArgs false
namespace Go.Proofs.Ytafcgknpehphlaa.Lt
open Go.RowKit
open Cd (Rec Fit may recB zeroR recV recL Blk)
open Rk (At9 Recs rcs W64 shB FewEnd)

theorem ext_upto (s : ByteArray) (b : Nat) : (s.extract 0 b).data.toList = s.data.toList.take b := by
  rw [ByteArray.data_extract, Array.toList_extract]
  simp [List.extract]
theorem lotB_pos (l : List Rec) : 1 ≤ (lotB l).length := by
  unfold lotB
  rw [List.length_append, Cd.putD_digs (by omega)]
  have : (Va.digs ((l.length : Nat) : Int).toNat) ≠ [] := Va.digs_ne _
  cases h : Va.digs ((l.length : Nat) : Int).toNat with
  | nil => exact absurd h this
  | cons a b => simp; omega
/-- a lot's bytes, cut off -/
theorem cut_off {l : List Rec} (g : Good l) (hl : l.length ≤ 256) {p : Nat} (hp : p < (lotB l).length) : takeL ((⟨(lotB l).toArray⟩ : ByteArray).extract 0 p) = ([], 3) := by
  refine take_cut g hl (t := (lotB l).drop p) (fun h => ?_) ?_
  · have := congrArg List.length h
    rw [List.length_drop] at this
    simp at this; omega
  · rw [ext_upto]
    exact List.take_append_drop p (lotB l)
theorem of_list {s : ByteArray} {l : List UInt8} (h : s.data.toList = l) : (⟨l.toArray⟩ : ByteArray) = s := by
  apply ByteArray.ext
  rw [← h]

set_option maxHeartbeats 12800000 in
set_option maxRecDepth 100000 in
theorem back_any (a : Option Addr) (len cap : Nat) (l : List Rec) (s : ByteArray) (cut : Int) (w : World) (hr : Recs a len l w) (hok : ∀ x ∈ l, W64 x) (h0 : 0 ≤ cut) (h6 : cut ≤ 65535) :
    Calls Try.prog 4 #[.slice a len cap, .string s, .int .u16 cut] w fun e w' => e = .returned (.bool true) ∧ Below w.heap.size w w' := by
  have HR := Lib.hid hr
  have HLEN := Lib.hid hr.len_is
  have HOK := Lib.hid hok
  have FE := Lib.hid (fun w h => Rk.few_any 20 a len cap l w h (by omega))
  clear hr hok
  go_enter Try.func4, Try.ntmps4
  go_wp2_with fail
  refine (FE.out _ HR.out).mono ?_
  rintro e w1 ⟨⟨f, rfl, hf⟩, b1⟩
  have L1 : Hid (Ls w w1 a len l) := ⟨HR.out.later b1, b1⟩
  have HF := Lib.hid hf
  clear b1 hf
  cases f
  · go_wp2_with fail
    refine (awake_any _).mono ?_
    rintro e w9 ⟨rfl, b9⟩
    have B9 := Lib.hid (L1.out.below.trans (b9.mono L1.out.below.size))
    clear b9
    go_wp2_with fail
    go_ret
    exact ⟨rfl, B9.out⟩
  have HSH := Lib.hid (HF.out (by trivial))
  have hl20 : len ≤ 20 := by have := HSH.out.1; have := HLEN.out; omega
  by_cases hs : s.size > 1024
  · have hs' : ((s.size : Int) > 1024) := by omega
    go_wp2_with fail
    refine (awake_any _).mono ?_
    rintro e w9 ⟨rfl, b9⟩
    have B9 := Lib.hid (L1.out.below.trans (b9.mono L1.out.below.size))
    clear b9
    go_wp2_with fail
    go_ret
    exact ⟨rfl, B9.out⟩
  have hs' : ¬ ((s.size : Int) > 1024) := by omega
  have HFIT : Hid (∀ x ∈ l, Fit x) := few_fit HOK.out HSH.out.2
  have PA := fun W h => put_any a len cap l W h (by omega) HFIT.out
  -- the second half: what is taken of s
  have TS := fun W => take_any s W (by omega)
  have HTB := Lib.hid (take_back s)
  by_cases hall : ∀ x ∈ l, may x = 0
  · have HG : Hid (Good l) := fun x hx => ⟨HFIT.out x hx, hall x hx⟩
    have HPL := putL_good HG.out (by have := HLEN.out; omega)
    rw [HPL] at PA
    have hbl := recsB_len HFIT.out
    have HP1 := lotB_pos l
    have hzl : (lotB l).length ≤ 100000 := by
      unfold lotB
      rw [List.length_append]
      have := Pk.putD_len (n := ((l.length : Nat) : Int)) (by have := HLEN.out; omega)
      have := HLEN.out; omega
    obtain ⟨S, hS⟩ : ∃ S : ByteArray, (⟨(lotB l).toArray⟩ : ByteArray) = S := ⟨_, rfl⟩
    have hSz : S.size = (lotB l).length := by rw [← hS]; show (lotB l).toArray.size = _; rw [List.size_toArray]
    have TA := fun W => take_any S W (by omega)
    have htp : takeL S = (l, 0) := take_put HG.out (by have := HLEN.out; omega) (by rw [← hS])
    rw [htp] at TA
    obtain ⟨p, hp⟩ : ∃ p : Nat, cut.toNat % S.size = p := ⟨_, rfl⟩
    have hpl : p < S.size := by rw [← hp]; exact Nat.mod_lt _ (by omega)
    have hmod : cut.tmod (S.size : Int) = (p : Int) := by
      obtain ⟨c, rfl⟩ : ∃ c : Nat, cut = (c : Int) := ⟨cut.toNat, by omega⟩
      rw [← hp, Int.toNat_natCast]
      rfl
    have hco : takeL (S.extract 0 p) = ([], 3) := by rw [← hS]; exact cut_off (p := p) HG.out (by have := HLEN.out; omega) (by rw [← hSz]; exact hpl)
    have hex2 : (S.extract 0 p).size ≤ 1099511627776 := by
      rw [ByteArray.size_extract]
      have hS3 : S.size ≤ 100000 := by omega
      have : min p S.size ≤ S.size := Nat.min_le_right _ _
      omega
    have TC := fun W => take_any (S.extract 0 p) W hex2
    rw [hco] at TC
    unfold Va.str at PA
    simp only at PA
    rw [hS] at PA
    have hS1 : 1 ≤ S.size := by omega
    have hS2 : S.size ≤ 100000 := by omega
    have hq0 : ((S.size : Int) == 0) = false := beq_eq_false_iff_ne.2 (by omega)
    have PA := Lib.hid PA
    have TA := Lib.hid TA
    have TC := Lib.hid TC
    have TS := Lib.hid TS
    have HZL := Lib.hid hSz
    clear HPL hbl HP1 hzl hS htp hp hco hall hSz hs
    have hll : l.length = len := HLEN.out
    have HLL := Lib.hid hll
    clear hll
    go_wp2_with fail
    refine (PA.out _ L1.out.recs).mono ?_
    rintro e w2 ⟨rfl, b2⟩
    have L2 := Lib.hid (L1.out.later b2)
    clear b2
    go_wp2_with fail
    refine (TA.out _).mono ?_
    rintro e w3 ⟨⟨v3, rfl, a3, c3, rfl, hr3, _⟩, b3⟩
    have L3 := Lib.hid (L2.out.later b3)
    have R3 := Lib.hid hr3
    clear b3 hr3
    rw [HLL.out] at R3 ⊢
    go_wp2_with fail
    refine (same_recs a3 a len c3 cap l _ R3.out L3.out.recs (by omega)).mono ?_
    rintro e w4 ⟨rfl, b4⟩
    have L4 := Lib.hid (L3.out.later b4)
    clear b4
    go_wp2_with fail
    refine (TC.out _).mono ?_
    rintro e w5 ⟨⟨v5, rfl, a5, c5, rfl, _⟩, b5⟩
    have L5 := Lib.hid (L4.out.later b5)
    clear b5
    simp only [List.length_nil]
    go_wp2_with fail
    rcases HTB.out with ⟨l2, ht2, hg2, hn2, hb2⟩ | ⟨e2, he2, ht2⟩
    · rw [ht2] at TS
      have PB := fun W a cap h => put_any a l2.length cap l2 W h (by omega) (fun x hx => (hg2 x hx).1)
      rw [putL_good hg2 hn2] at PB
      unfold Va.str at PB
      simp only at PB
      rw [of_list hb2] at PB
      have PB := Lib.hid PB
      clear ht2 hg2 hb2
      refine (TS.out _).mono ?_
      rintro e w7 ⟨⟨v7, rfl, a7, c7, rfl, hr7, _⟩, b7⟩
      have L7 := Lib.hid (L5.out.later b7)
      have R7 := Lib.hid hr7
      clear b7 hr7
      simp only at R7
      go_wp2_with fail
      refine (PB.out _ a7 c7 R7.out).mono ?_
      rintro e w8 ⟨rfl, b8⟩
      have L8 := Lib.hid (L7.out.later b8)
      clear b8
      go_wp2_with fail
      refine (awake_any _).mono ?_
      rintro e w9 ⟨rfl, b9⟩
      have B9 := Lib.hid (L8.out.below.trans (b9.mono L8.out.below.size))
      clear b9
      go_wp2_with fail
      go_ret
      exact ⟨rfl, B9.out⟩
    · rw [ht2] at TS
      have hq2 : ((e2 : Int) != 0) = true := by simp; omega
      clear ht2
      refine (TS.out _).mono ?_
      rintro e w7 ⟨⟨v7, rfl, a7, c7, rfl, _⟩, b7⟩
      have L7 := Lib.hid (L5.out.later b7)
      clear b7
      simp only [List.length_nil]
      go_wp2_with fail
      refine (awake_any _).mono ?_
      rintro e w9 ⟨rfl, b9⟩
      have B9 := Lib.hid (L7.out.below.trans (b9.mono L7.out.below.size))
      clear b9
      go_wp2_with fail
      go_ret
      exact ⟨rfl, B9.out⟩
  · have hex : ∃ x ∈ l, may x = 1 := by
      apply Classical.byContradiction
      intro hn
      refine hall (fun x hx => ?_)
      apply Classical.byContradiction
      intro h
      exact hn ⟨x, hx, may_one h⟩
    obtain ⟨x, hx, hm⟩ := hex
    have HPL := putL_bad (by have := HLEN.out; omega) hx hm
    rw [HPL] at PA
    have PA := Lib.hid PA
    have TS := Lib.hid TS
    clear HPL hall hx hm hs
    go_wp2_with fail
    refine (PA.out _ L1.out.recs).mono ?_
    rintro e w2 ⟨rfl, b2⟩
    have L2 := Lib.hid (L1.out.later b2)
    clear b2
    go_wp2_with fail
    rcases HTB.out with ⟨l2, ht2, hg2, hn2, hb2⟩ | ⟨e2, he2, ht2⟩
    · rw [ht2] at TS
      have PB := fun W a cap h => put_any a l2.length cap l2 W h (by omega) (fun x hx => (hg2 x hx).1)
      rw [putL_good hg2 hn2] at PB
      unfold Va.str at PB
      simp only at PB
      rw [of_list hb2] at PB
      have PB := Lib.hid PB
      clear ht2 hg2 hb2
      refine (TS.out _).mono ?_
      rintro e w7 ⟨⟨v7, rfl, a7, c7, rfl, hr7, _⟩, b7⟩
      have L7 := Lib.hid (L2.out.later b7)
      have R7 := Lib.hid hr7
      clear b7 hr7
      simp only at R7
      go_wp2_with fail
      refine (PB.out _ a7 c7 R7.out).mono ?_
      rintro e w8 ⟨rfl, b8⟩
      have L8 := Lib.hid (L7.out.later b8)
      clear b8
      go_wp2_with fail
      refine (awake_any _).mono ?_
      rintro e w9 ⟨rfl, b9⟩
      have B9 := Lib.hid (L8.out.below.trans (b9.mono L8.out.below.size))
      clear b9
      go_wp2_with fail
      go_ret
      exact ⟨rfl, B9.out⟩
    · rw [ht2] at TS
      have hq2 : ((e2 : Int) != 0) = true := by simp; omega
      clear ht2
      refine (TS.out _).mono ?_
      rintro e w7 ⟨⟨v7, rfl, a7, c7, rfl, _⟩, b7⟩
      have L7 := Lib.hid (L2.out.later b7)
      clear b7
      simp only [List.length_nil]
      go_wp2_with fail
      refine (awake_any _).mono ?_
      rintro e w9 ⟨rfl, b9⟩
      have B9 := Lib.hid (L7.out.below.trans (b9.mono L7.out.below.size))
      clear b9
      go_wp2_with fail
      go_ret
      exact ⟨rfl, B9.out⟩
end Go.Proofs.Ytafcgknpehphlaa.Lt
