/- Whether all records may be, by the program. -/
import Derived.Test.YtafcgknpehphlaaLtTk
import Derived.Test.YtafcgknpehphlaaCdMay
namespace Go.Proofs.Ytafcgknpehphlaa.Lt
open Go.RowKit
open Cd (Rec Fit may recB zeroR recV recL Blk)
open Rk (At9 Recs)

/-- whether one of the records may not be -/
def mayL (xs : List Rec) : Nat := if xs.all (fun x => may x == 0) then 0 else 1
theorem mayL_ok {xs : List Rec} (h : ∀ x ∈ xs, may x = 0) : mayL xs = 0 := if_pos (by rw [List.all_eq_true]; intro x hx; rw [h x hx]; rfl)
theorem mayL_bad {xs : List Rec} {x : Rec} (hx : x ∈ xs) (h : may x = 1) : mayL xs = 1 := if_neg (fun g => by
  rw [List.all_eq_true] at g
  have := g x hx
  rw [h] at this; cases this)
theorem mayL_01 (xs : List Rec) : (mayL xs = 0 ∧ ∀ x ∈ xs, may x = 0) ∨ (mayL xs = 1 ∧ ∃ x ∈ xs, may x = 1) := by
  by_cases h : ∀ x ∈ xs, may x = 0
  · exact .inl ⟨mayL_ok h, h⟩
  · obtain ⟨x, h⟩ := Classical.not_forall.1 h
    obtain ⟨hx, h⟩ := Classical.not_imp.1 h
    exact .inr ⟨mayL_bad hx (may_one h), x, hx, may_one h⟩

set_option maxHeartbeats 3200000 in
set_option maxRecDepth 100000 in
theorem mayL_any (a : Option Addr) (len cap : Nat) (xs : List Rec) (w : World) (hr : Recs a len xs w) (hl : len ≤ 1000) :
    Calls Try.prog 17 #[.slice a len cap] w fun e w' => e = .returned (.int .i64 (mayL xs : Nat)) ∧ Below w.heap.size w w' := by
  have HR := Lib.hid hr
  have HLEN := Lib.hid hr.len_is
  have HRET : Hid (∀ {n : Nat}, mayL xs = n → (Ending.returned (.int .i64 (n : Nat)) : Ending) = .returned (.int .i64 (mayL xs : Nat))) := fun h => by rw [h]
  clear hr
  go_enter Try.func17, Try.ntmps17
  go_wp2_with fail
  go_loopw [8] (fun iv wr => ∃ k : Nat, k ≤ len ∧ iv = .int .i64 k ∧ Hid (∀ x ∈ xs.take k, may x = 0) ∧ Hid (Below w.heap.size w wr)) (fun iv _ => len - (intOf iv).toNat)
  case atStart => exact ⟨0, Nat.zero_le _, rfl, (fun x hx => by rw [List.take_zero] at hx; cases hx), Below.refl _ _⟩
  case round =>
    obtain ⟨k, hk, rfl, HM, HB⟩ := hrel
    by_cases hkl : k < len
    · obtain ⟨y, hy⟩ : ∃ y, xs[k]? = some y := ⟨_, List.getElem?_eq_getElem (by have := HLEN.out; omega)⟩
      have hmem := List.mem_of_getElem? hy
      obtain ⟨b, off, rfl, hb, hc⟩ := (HR.out.later HB.out).at_ (by omega)
      have cy := hc k y hy
      have MA := fun W => Cd.may_any y W
      have HP1 : Hid (may y = 1 → mayL xs = 1) := fun h => mayL_bad hmem h
      have HNX : Hid (may y = 0 → ∀ x ∈ xs.take (k + 1), may x = 0) := fun h => drop_take hy HM.out h
      have HM01 := Lib.hid (Cd.may_01 y)
      have kb : Below wr.heap.size wr (wr.alloc (.cells ⟨recL y⟩ 39)) := (Below.refl _ _).alloc (Nat.le_refl _) _
      have HB1 := Lib.hid (HB.out.trans (kb.mono HB.out.size))
      generalize may y = m at *
      clear hc hy hmem kb
      obtain ⟨y0, y1, y2, y3, y4, y5, y6, y7, y8⟩ := y
      simp only [recV] at MA
      have MA := Lib.hid MA
      obtain ⟨c0, c1, c2, c3, c4, c5, c6, c7, c8⟩ := cy
      simp only at c0 c1 c2 c3 c4 c5 c6 c7 c8
      go_wp2_with fail
      refine (MA.out _).mono ?_
      rintro e w2 ⟨rfl, b2⟩
      have HB2 := Lib.hid (HB1.out.trans (b2.mono HB1.out.size))
      clear b2 c0 c1 c2 c3 c4 c5 c6 c7 c8
      rcases HM01.out with rfl | rfl
      · go_wp2_with fail
        go_roundw
        case rel => exact ⟨k + 1, by omega, by go_num, HNX.out (by trivial), HB2.out⟩
        case measure => simp [intOf]; omega
      · go_wp2_with fail
        go_ret
        exact ⟨HRET.out (HP1.out (by trivial)), HB2.out⟩
    · have HP : Hid (mayL xs = 0) := mayL_ok (by have h := HM.out; rw [List.take_of_length_le (by have := HLEN.out; omega)] at h; exact h)
      go_wp2_with fail
      go_ret
      exact ⟨HRET.out HP.out, HB.out⟩
end Go.Proofs.Ytafcgknpehphlaa.Lt
