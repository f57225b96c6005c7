/- awake holds: what must come, whatever the arguments are. -/
import Derived.Test.YtlmhghcoohalaaaDkAct
namespace Go.Proofs.Ytlmhghcoohalaaa.Dk
open Go.RowKit

def fF : ByteArray := ⟨#[102]⟩
def s0 : St := ⟨true, true, 9, [], 0, -1⟩
def s1 : St := ⟨true, true, 9, [⟨fF, [97, 98], 0⟩], 1, -1⟩
def s2 : St := ⟨true, true, 9, [⟨fF, [97, 98], 2⟩], 2, -1⟩
def s3 : St := ⟨true, true, 9, [⟨fF, [97, 98, 99, 100, 101], 2⟩], 3, -1⟩
def s4 : St := ⟨true, true, 9, [⟨fF, [97, 98, 99, 100, 101], 2⟩], 3, 0⟩
def s5 : St := ⟨true, false, 9, [⟨fF, [97, 98, 99, 100, 101], 2⟩], 4, -1⟩
def s6 : St := ⟨true, true, 9, [⟨fF, [97, 98, 99], 3⟩], 4, -1⟩
theorem e0 : born 9 = s0 := rfl
theorem e1 : app s0 fF ⟨#[97, 98]⟩ = (s1, 0) := by kernel_rfl
theorem e2 : sync s1 fF = (s2, 0) := by kernel_rfl
theorem e3 : app s2 fF ⟨#[99, 100, 101]⟩ = (s3, 0) := by kernel_rfl
theorem e4 : app s3 ⟨#[103]⟩ ⟨#[49, 50, 51, 52, 53]⟩ = (s3, 5) := by kernel_rfl
theorem e5 : app s3 ⟨#[71]⟩ ⟨#[]⟩ = (s3, 1) := by kernel_rfl
theorem e6 : readOf s3 fF = ⟨#[97, 98, 99, 100, 101]⟩ ∧ look s3 fF = 0 := ⟨by kernel_rfl, by kernel_rfl⟩
theorem e7 : fused s3 0 = s4 := by kernel_rfl
theorem e8 : rem s4 fF = (s5, 9) := by kernel_rfl
theorem e9 : up s5 [1] = s6 := by kernel_rfl
theorem e10 : readOf s6 fF = ⟨#[97, 98, 99]⟩ ∧ look s6 fF = 0 := ⟨by kernel_rfl, by kernel_rfl⟩
theorem e11 : used s6.fs = 3 ∧ sureOf s6 fF = 3 := ⟨by kernel_rfl, by kernel_rfl⟩
theorem ok0 : Ok s0 := ok_born 9 (by decide)
theorem ok1 : Ok s1 := by have := ok0.app fF ⟨#[97, 98]⟩; rw [e1] at this; exact this
theorem ok2 : Ok s2 := by have := ok1.sync fF; rw [e2] at this; exact this
theorem ok3 : Ok s3 := by have := ok2.app fF ⟨#[99, 100, 101]⟩; rw [e3] at this; exact this
theorem ok4 : Ok s4 := by have := ok3.fused 0 (by decide); rw [e7] at this; exact this
theorem ok5 : Ok s5 := by have := ok4.rem fF; rw [e8] at this; exact this
theorem ok6 : Ok s6 := by have := ok5.up [1]; rw [e9] at this; exact this
theorem lim_of {s : St} (h : s.ops ≤ 4) (k : used s.fs ≤ 5) : Lim s := ⟨by omega, by omega⟩

/-- a number that was just laid -/
theorem krow_new (base B : Nat) (W : World) (hB : B < W.heap.size) : KRow base B (W.alloc (.cells #[.int .i64 1] 3)) (some ⟨W.heap.size, 0, none⟩) 1 1 [1] :=
  ⟨rfl, Nat.le_refl _, by omega, fun z hz => by simp at hz; subst hz; omega, fun _ => ⟨W.heap.size, 0, _, rfl, heap_alloc_new W _, .inr ⟨by omega, fun t ht h => by
    have h2 : t = 3 := by simpa [tg] using h.symm
    subst h2
    exact absurd ht (by decide)⟩, fun j z hz => by
    cases j with
    | zero => simp at hz; subst hz; simp
    | succ j => simp at hz⟩⟩

set_option maxHeartbeats 3200000 in
set_option maxRecDepth 100000 in
theorem awake_any (w : World) : Calls Try.prog 7 #[] w fun e w' => e = .returned (.bool true) ∧ Below w.heap.size w w' := by
  go_enter Try.func7, Try.ntmps7
  go_wp2_with fail
  refine (new_any 9 w.heap.size w (Nat.le_refl _)).mono ?_
  rintro e w0 ⟨rfl, h0, b0, z0⟩
  have H0 : Hid (Dk w.heap.size w0 w.heap.size s0) := ⟨_, _, h0⟩
  have B0 := Lib.hid b0
  clear h0 b0 z0
  go_wp2_with fail
  have A1 := app_any w.heap.size w.heap.size s0 fF ⟨#[97, 98]⟩ w0 H0.out ok0 (lim_of (by decide) (by decide)) (by decide)
  unfold Does at A1
  rw [e1] at A1
  refine A1.mono ?_
  rintro e w1 ⟨rfl, h1, k1⟩
  have H1 := Lib.hid h1
  have K1 := Lib.hid k1
  clear A1 h1 k1
  go_wp2_with fail
  have A2 := sync_any w.heap.size w.heap.size s1 fF w1 H1.out ok1 (lim_of (by decide) (by decide))
  unfold Does at A2
  rw [e2] at A2
  refine A2.mono ?_
  rintro e w2 ⟨rfl, h2, k2⟩
  have H2 := Lib.hid h2
  have K2 := Lib.hid (K1.out.trans k2)
  clear A2 h2 k2
  go_wp2_with fail
  have A3 := app_any w.heap.size w.heap.size s2 fF ⟨#[99, 100, 101]⟩ w2 H2.out ok2 (lim_of (by decide) (by decide)) (by decide)
  unfold Does at A3
  rw [e3] at A3
  refine A3.mono ?_
  rintro e w3 ⟨rfl, h3, k3⟩
  have H3 := Lib.hid h3
  have K3 := Lib.hid (K2.out.trans k3)
  clear A3 h3 k3
  go_wp2_with fail
  have A4 := app_any w.heap.size w.heap.size s3 ⟨#[103]⟩ ⟨#[49, 50, 51, 52, 53]⟩ w3 H3.out ok3 (lim_of (by decide) (by decide)) (by decide)
  unfold Does at A4
  rw [e4] at A4
  refine A4.mono ?_
  rintro e w4 ⟨rfl, h4, k4⟩
  have H4 := Lib.hid h4
  have K4 := Lib.hid (K3.out.trans k4)
  clear A4 h4 k4
  go_wp2_with fail
  have A5 := app_any w.heap.size w.heap.size s3 ⟨#[71]⟩ ⟨#[]⟩ w4 H4.out ok3 (lim_of (by decide) (by decide)) (by decide)
  unfold Does at A5
  rw [e5] at A5
  refine A5.mono ?_
  rintro e w5 ⟨rfl, h5, k5⟩
  have H5 := Lib.hid h5
  have K5 := Lib.hid (K4.out.trans k5)
  clear A5 h5 k5
  go_wp2_with fail
  have A6 := read_any w.heap.size w.heap.size s3 fF w5 H5.out ok3
  rw [e6.1, e6.2] at A6
  refine A6.mono ?_
  rintro e w6 ⟨rfl, b6⟩
  have H6 := Lib.hid (H5.out.later b6)
  have K6 := Lib.hid (K5.out.trans (Kp.of_below b6))
  clear A6 b6
  go_wp2_with fail
  obtain ⟨v6, L6, h6⟩ := H6.out
  have A7 := fuse_at w.heap.size w.heap.size s3 0 v6 L6 w6 h6
  rw [e7] at A7
  refine A7.mono ?_
  rintro e w7 ⟨rfl, h7, k7⟩
  have H7 : Hid (Dk w.heap.size w7 w.heap.size s4) := ⟨_, _, h7⟩
  have K7 := Lib.hid (K6.out.trans (k7.mono (by simp)))
  clear A7 h6 h7 k7
  go_wp2_with fail
  have A8 := rem_any w.heap.size w.heap.size s4 fF w7 H7.out ok4 (lim_of (by decide) (by decide))
  unfold Does at A8
  rw [e8] at A8
  refine A8.mono ?_
  rintro e w8 ⟨rfl, h8, k8⟩
  have H8 := Lib.hid h8
  have K8 := Lib.hid (K7.out.trans k8)
  clear A8 h8 k8
  go_wp2_with fail
  refine (on_any w.heap.size w.heap.size s5 w8 H8.out).mono ?_
  rintro e w9 ⟨rfl, rfl⟩
  rw [show s5.on = false from rfl]
  have hB8 : w.heap.size < w8.heap.size := by obtain ⟨v, L, h⟩ := H8.out; exact lt_of_block h.blk
  have hb8 : Below w8.heap.size w8 (w8.alloc (.cells #[.int .i64 1] 3)) := (Below.refl _ _).alloc (Nat.le_refl _) _
  have HU := Lib.hid (up_any w.heap.size w.heap.size s5 (some ⟨w8.heap.size, 0, none⟩) 1 1 [1] _ (H8.out.later hb8) ok5 (lim_of (by decide) (by decide)) (krow_new w.heap.size w.heap.size w8 hB8))
  rw [e9] at HU
  have K9 := Lib.hid (K8.out.trans (Kp.of_below hb8))
  clear hB8 hb8
  go_wp2_with fail
  refine HU.out.mono ?_
  rintro e w10 ⟨rfl, h10, k10⟩
  have H10 := Lib.hid h10
  have K10 := Lib.hid (K9.out.trans k10)
  clear h10 k10
  go_wp2_with fail
  have A11 := read_any w.heap.size w.heap.size s6 fF w10 H10.out ok6
  rw [e10.1, e10.2] at A11
  refine A11.mono ?_
  rintro e w11 ⟨rfl, b11⟩
  have H11 := Lib.hid (H10.out.later b11)
  have K11 := Lib.hid (K10.out.trans (Kp.of_below b11))
  clear A11 b11
  go_wp2_with fail
  have A12 := used_any w.heap.size w.heap.size s6 w11 H11.out ok6
  rw [e11.1] at A12
  refine A12.mono ?_
  rintro e w12 ⟨rfl, rfl⟩
  clear A12
  go_wp2_with fail
  have A13 := sure_any w.heap.size w.heap.size s6 fF w11 H11.out ok6
  rw [e11.2] at A13
  refine A13.mono ?_
  rintro e w13 ⟨rfl, b13⟩
  have H13 := Lib.hid (H11.out.later b13)
  have K13 := Lib.hid (K11.out.trans (Kp.of_below b13))
  clear A13 b13
  go_wp2_with fail
  refine (ops_any w.heap.size w.heap.size s6 w13 H13.out).mono ?_
  rintro e w14 ⟨rfl, rfl⟩
  rw [show ((s6.ops : Nat) : Int) = 4 from rfl]
  go_wp2_with fail
  go_ret
  exact ⟨rfl, B0.out.trans (K13.out.below (Nat.le_of_lt_succ (by have := B0.out.size; omega)))⟩
end Go.Proofs.Ytlmhghcoohalaaa.Dk
