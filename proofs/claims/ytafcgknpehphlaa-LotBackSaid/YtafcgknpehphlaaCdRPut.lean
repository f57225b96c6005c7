/- What Put tells of a record, and whether its names are short, by the document. -/
import Derived.Test.YtafcgknpehphlaaCdRBytes
namespace Go.Proofs.Ytafcgknpehphlaa.Cd
open Go.RowKit
open Pk (But)

set_option maxHeartbeats 3200000 in
set_option maxRecDepth 100000 in
theorem rput_any (x : Rec) (w : World) (hf : Fit x) (lo : -9223372036854775808 ≤ x.tr ∧ -9223372036854775808 ≤ x.id ∧ -9223372036854775808 ≤ x.pa ∧ -9223372036854775808 ≤ x.rv) :
    Calls Try.prog 22 #[recV x] w fun e w' => e = .returned (.tuple #[Va.str (putB x), .int .i64 (may x : Nat)]) ∧ Below w.heap.size w w' := by
  have K0 := Lib.hid (Blk.start w 39 (recL x))
  have B0 := Lib.hid ((Below.refl _ w).alloc (Nat.le_refl _) (.cells ⟨recL x⟩ 39))
  have HF := Lib.hid hf
  have LO := Lib.hid lo
  clear lo
  obtain ⟨tr, id, pa, rv, sv, op, st, du, gn⟩ := x
  rcases may_01 ⟨tr, id, pa, rv, sv, op, st, du, gn⟩ with hm | hm
  · have HM := Lib.hid hm
    have HP := Lib.hid (putB_ok hm)
    rw [HP.out, HM.out]
    clear hm
    unfold recV
    go_enter Try.func22, Try.ntmps22
    go_wp2_with fail
    refine (rmay_any ⟨tr, id, pa, rv, sv, op, st, du, gn⟩ _ HF.out.sv HF.out.op).mono ?_
    rw [HM.out]
    rintro e w1 ⟨rfl, b1⟩
    have B1 := Lib.hid (B0.out.trans (b1.mono B0.out.size))
    obtain ⟨c0, c1, c2, c3, c4, c5, c6, c7, c8⟩ := (K0.out.later b1).nine
    clear b1
    go_wp2_with fail
    refine (rbytes_rec ⟨tr, id, pa, rv, sv, op, st, du, gn⟩ _ HF.out LO.out).mono ?_
    rintro e w2 ⟨rfl, b2⟩
    have B2 := Lib.hid (B1.out.trans (b2.mono B1.out.size))
    clear b2 c0 c1 c2 c3 c4 c5 c6 c7 c8
    go_wp2_with fail
    go_ret2
    exact ⟨rfl, B2.out⟩
  · have HM := Lib.hid hm
    have HP := Lib.hid (putB_bad hm)
    rw [HP.out, HM.out]
    clear hm
    unfold recV
    go_enter Try.func22, Try.ntmps22
    go_wp2_with fail
    refine (rmay_any ⟨tr, id, pa, rv, sv, op, st, du, gn⟩ _ HF.out.sv HF.out.op).mono ?_
    rw [HM.out]
    rintro e w1 ⟨rfl, b1⟩
    have B1 := Lib.hid (B0.out.trans (b1.mono B0.out.size))
    clear b1
    go_wp2_with fail
    go_ret2
    exact ⟨rfl, B1.out⟩

set_option maxHeartbeats 1600000 in
set_option maxRecDepth 100000 in
theorem short_any (x : Rec) (w : World) :
    Calls Try.prog 15 #[recV x] w fun e w' => e = .returned (.bool (decide (x.sv.size ≤ 100) && decide (x.op.size ≤ 100))) ∧ Below w.heap.size w w' := by
  have B0 := Lib.hid ((Below.refl _ w).alloc (Nat.le_refl _) (.cells ⟨recL x⟩ 39))
  obtain ⟨tr, id, pa, rv, sv, op, st, du, gn⟩ := x
  show Calls _ _ _ _ fun e w' => e = .returned (.bool (decide (sv.size ≤ 100) && decide (op.size ≤ 100))) ∧ Below w.heap.size w w'
  by_cases h0 : sv.size ≤ 100
  · have q0 : ((sv.size : Int) ≤ 100) := by omega
    by_cases h1 : op.size ≤ 100
    · have q1 : ((op.size : Int) ≤ 100) := by omega
      rw [decide_eq_true h0, decide_eq_true h1]
      unfold recV
      go_enter Try.func15, Try.ntmps15
      go_wp2_with fail
      go_ret
      exact ⟨rfl, B0.out⟩
    · have q1 : ¬ ((op.size : Int) ≤ 100) := by omega
      rw [decide_eq_true h0, decide_eq_false h1]
      unfold recV
      go_enter Try.func15, Try.ntmps15
      go_wp2_with fail
      go_ret
      exact ⟨rfl, B0.out⟩
  · have q0 : ¬ ((sv.size : Int) ≤ 100) := by omega
    rw [decide_eq_false h0]
    unfold recV
    go_enter Try.func15, Try.ntmps15
    go_wp2_with fail
    go_ret
    exact ⟨rfl, B0.out⟩

/-- a small record -/
def smallR : Rec := ⟨1, 2, 0, 0, ⟨#[115]⟩, ⟨#[111]⟩, -1, 3, false⟩
end Go.Proofs.Ytafcgknpehphlaa.Cd
