/- What Put tells of a record: its bytes, or an error. -/
import Derived.Test.YtngmcefbljkgaaaCdWrite
import Derived.Test.YtngmcefbljkgaaaPkBytes
namespace Go.Proofs.Ytngmcefbljkgaaa.Cd
open Go.RowKit
open Pk (But Wr cat)

/-- the bytes of a record that may be -/
def putB (x : Rec) : List UInt8 := if may x = 0 then recB x else []
theorem putB_ok {x : Rec} (h : may x = 0) : putB x = recB x := if_pos h
theorem putB_bad {x : Rec} (h : may x = 1) : putB x = [] := if_neg (by omega)

set_option maxHeartbeats 3200000 in
set_option maxRecDepth 100000 in
theorem put_any (x : Rec) (w : World) (hf : Fit x) :
    Calls Try.prog 24 #[recV x] w fun e w' => e = .returned (.tuple #[Va.str (putB x), .int .i64 (may x : Nat)]) ∧ Below w.heap.size w w' := by
  have K0 := Lib.hid (Blk.start w 23 (recL x))
  have B0 := Lib.hid ((Below.refl _ w).alloc (Nat.le_refl _) (.cells ⟨recL x⟩ 23))
  have HF := Lib.hid hf
  obtain ⟨tr, id, pa, rv, sv, op, st, du, gn⟩ := x
  rcases may_01 ⟨tr, id, pa, rv, sv, op, st, du, gn⟩ with hm | hm
  · have HM := Lib.hid hm
    have HP := Lib.hid (putB_ok hm)
    rw [HP.out, HM.out]
    clear hm
    unfold recV
    go_enter Try.func24, Try.ntmps24
    go_wp2_with fail
    refine (may_any ⟨tr, id, pa, rv, sv, op, st, du, gn⟩ _).mono ?_
    rw [HM.out]
    rintro e w1 ⟨rfl, b1⟩
    have B1 := Lib.hid (B0.out.trans (b1.mono B0.out.size))
    have b2 : Below w1.heap.size w1 (w1.alloc (.cells #[.pointer none] 47)) := (Below.refl _ _).alloc (Nat.le_refl _) _
    have K2 := Lib.hid ((K0.out.later b1).later b2)
    have H2 := Lib.hid (Wr.start w1 47)
    have B2 := Lib.hid (B1.out.trans (b2.mono B1.out.size))
    have hlt := Lib.hid (K0.out.later b1).lt
    obtain ⟨c0, c1, c2, c3, c4, c5, c6, c7, c8⟩ := K2.out.nine
    clear b1 b2
    go_wp2_with fail
    refine (write_any w1.heap.size none [] ⟨tr, id, pa, rv, sv, op, st, du, gn⟩ _ H2.out (by simp [cat]) HF.out).mono ?_
    rintro e w3 ⟨rfl, h⟩
    obtain ⟨q, l', H3, E3, U3⟩ := left_put h
    have E3 : Hid (cat l' = recB ⟨tr, id, pa, rv, sv, op, st, du, gn⟩) := E3
    have B3 := Lib.hid (B2.out.trans (U3.out.below (by have := hlt.out; omega) B2.out.size))
    clear h c0 c1 c2 c3 c4 c5 c6 c7 c8
    go_wp2_with fail
    refine (Pk.bytes_any w1.heap.size q l' _ H3.out (by rw [E3.out]; have := recB_len HF.out; omega)).mono ?_
    rw [E3.out]
    rintro e w4 ⟨rfl, b4⟩
    have B4 := Lib.hid (B3.out.trans (b4.mono B3.out.size))
    clear b4
    go_wp2_with fail
    go_ret2
    exact ⟨rfl, B4.out⟩
  · have HM := Lib.hid hm
    have HP := Lib.hid (putB_bad hm)
    rw [HP.out, HM.out]
    clear hm
    unfold recV
    go_enter Try.func24, Try.ntmps24
    go_wp2_with fail
    refine (may_any ⟨tr, id, pa, rv, sv, op, st, du, gn⟩ _).mono ?_
    rw [HM.out]
    rintro e w1 ⟨rfl, b1⟩
    have B1 := Lib.hid (B0.out.trans (b1.mono B0.out.size))
    clear b1
    go_wp2_with fail
    go_ret2
    exact ⟨rfl, B1.out⟩
end Go.Proofs.Ytngmcefbljkgaaa.Cd
