/- Whether records are few, and their names short. -/
import Derived.Test.YtngmcefbljkgaaaRkRBest
namespace Go.Proofs.Ytngmcefbljkgaaa.Rk
open Go.RowKit
open Cd (Rec Fit may putB recB zeroR recV recL Blk)

/-- are a record's names short? -/
def shB (x : Rec) : Bool := decide (x.sv.size ≤ 100) && decide (x.op.size ≤ 100)
theorem shB_iff (x : Rec) : shB x = true ↔ x.sv.size ≤ 100 ∧ x.op.size ≤ 100 := by unfold shB; simp
/-- what is told of whether records are few -/
def FewEnd (xs : List Rec) (e : Ending) : Prop := ∃ f : Bool, e = .returned (.bool f) ∧ (f = true → xs.length ≤ 12 ∧ ∀ x ∈ xs, shB x = true)

set_option maxHeartbeats 1600000 in
set_option maxRecDepth 100000 in
theorem few_any (a : Option Addr) (len cap : Nat) (xs : List Rec) (w : World) (hr : Recs a len xs w) :
    Calls Try.prog 7 #[.slice a len cap, .int .i64 12] w fun e w' => FewEnd xs e ∧ Below w.heap.size w w' := by
  have HR := Lib.hid hr
  have HLEN := Lib.hid hr.len_is
  clear hr
  go_enter Try.func7, Try.ntmps7
  go_wp2_with fail
  go_loopw [5] (fun iv wr => ∃ k : Nat, k ≤ len ∧ k ≤ 12 ∧ iv = .int .i64 k ∧ Hid (∀ x ∈ xs.take k, shB x = true) ∧ Hid (Below w.heap.size w wr)) (fun iv _ => len - (intOf iv).toNat)
  case atStart => exact ⟨0, by omega, by omega, rfl, (fun x hx => by rw [List.take_zero] at hx; cases hx), Below.refl _ _⟩
  case round =>
    obtain ⟨k, hk, h12, rfl, HJ, HB⟩ := hrel
    by_cases hkl : k < len
    · by_cases hk4 : k < 12
      · obtain ⟨b, off, rfl, hb, hcell⟩ := HR.out.at_ (by omega)
        obtain ⟨y, hy⟩ : ∃ y, xs[k]? = some y := ⟨_, List.getElem?_eq_getElem (by have := HLEN.out; omega)⟩
        have cy := (hcell k y hy).later hb HB.out
        have hbw := Nat.lt_of_lt_of_le hb HB.out.size
        have SH := fun w => Cd.short_any y w
        have HNEXT : Hid (shB y = true → ∀ x ∈ xs.take (k + 1), shB x = true) := by
          intro h x hx
          obtain ⟨hk', he⟩ := List.getElem?_eq_some_iff.1 hy
          rw [List.take_succ_eq_append_getElem hk', List.mem_append] at hx
          rcases hx with hx | hx
          · exact HJ.out x hx
          · rw [he] at hx; rw [List.mem_singleton.1 hx]; exact h
        have SH : ∀ w, Calls Try.prog 6 #[recV y] w fun e w' => e = .returned (.bool (shB y)) ∧ Below w.heap.size w w' := SH
        generalize shB y = s at SH HNEXT
        clear hcell hy
        obtain ⟨y0, y1, y2, y3, y4, y5, y6, y7, y8⟩ := y
        have SH : Hid (∀ w, Calls Try.prog 6 #[.agg #[.int .i64 y0, .int .i64 y1, .int .i64 y2, .int .i64 y3, .string y4, .string y5, .int .i64 y6, .int .i64 y7, .bool y8]] w fun e w' => e = .returned (.bool s) ∧ Below w.heap.size w w') := SH
        obtain ⟨c0, c1, c2, c3, c4, c5, c6, c7, c8⟩ := cy
        simp only at c0 c1 c2 c3 c4 c5 c6 c7 c8
        go_wp2_with fail
        refine (SH.out _).mono ?_
        rintro e w2 ⟨rfl, b2⟩
        have HB2 := Lib.hid (HB.out.trans (b2.mono HB.out.size))
        clear b2 c0 c1 c2 c3 c4 c5 c6 c7 c8
        cases s
        · go_wp2_with fail
          go_ret
          exact ⟨⟨false, rfl, fun h => by cases h⟩, HB2.out⟩
        · go_wp2_with fail
          go_roundw
          case rel => exact ⟨k + 1, by omega, by omega, by go_num, HNEXT.out (by trivial), HB2.out⟩
          case measure => simp [intOf]; omega
      · have hk12 : k = 12 := by omega
        subst hk12
        have hn : ¬ ((len : Int) ≤ 12) := by omega
        go_wp2_with fail
        go_ret
        exact ⟨⟨false, rfl, fun h => by cases h⟩, HB.out⟩
    · have hkn : k = len := by omega
      subst hkn
      have HE : Hid (xs.length ≤ 12 ∧ ∀ x ∈ xs, shB x = true) := ⟨by have := HLEN.out; omega, by have h := HJ.out; rw [List.take_of_length_le (by have := HLEN.out; omega)] at h; exact h⟩
      have hn : ((k : Int) ≤ 12) := by omega
      go_wp2_with fail
      go_ret
      exact ⟨⟨_, rfl, fun _ => HE.out⟩, HB.out⟩
end Go.Proofs.Ytngmcefbljkgaaa.Rk
