/- Means: what the document does, bit by bit. -/
import Derived.Test.YtjdaiknmmplgpaaWdMean
namespace Go.Proofs.Ytjdaiknmmplgpaa.Wd
open Go.RowKit

/-- the cells of the first block that was made -/
def Box (w W : World) (a b : Value) : Prop := (W.cell? ⟨w.heap.size, 0, none⟩ = some a ∧ W.cell? ⟨w.heap.size, 1, none⟩ = some b) ∧ w.heap.size < W.heap.size ∧ Below w.heap.size w W
theorem Box.later {w W W' : World} {a b : Value} (h : Box w W a b) (hl : Below W.heap.size W W') : Box w W' a b := by
  obtain ⟨⟨h1, h2⟩, h3, h4⟩ := h
  have e := hl.size
  exact ⟨⟨(hl.cell (p := ⟨w.heap.size, 0, none⟩) h3).trans h1, (hl.cell (p := ⟨w.heap.size, 1, none⟩) h3).trans h2⟩, by omega, h4.trans (hl.mono h4.size)⟩
theorem Box.start (w : World) (ty : TypeId) (a b : Value) : Box w (w.alloc (.cells #[a, b] ty)) a b := by
  refine ⟨⟨?_, ?_⟩, by simp, (Below.refl _ _).alloc (Nat.le_refl _) _⟩ <;> simp

theorem bit_low_eq {H L : Int} {k : Nat} (hk : k < 62) : (H * 4611686018427387904 + L) / 2 ^ k % 2 = L / 2 ^ k % 2 := by
  have e : H * 4611686018427387904 = H * 2 ^ (61 - k) * 2 * 2 ^ k := by
    rw [Int.mul_assoc, Int.mul_assoc, Int.mul_comm 2, ← Int.mul_assoc (2 ^ (61 - k)), ← Int.pow_add, show 61 - k + k = 61 by omega]
    rfl
  rw [e, Int.add_comm, Int.add_mul_ediv_right _ _ (Int.ne_of_gt (Int.pow_pos (by decide)))]
  generalize H * 2 ^ (61 - k) = X
  generalize L / 2 ^ k = Y
  omega
theorem bit_high_eq {H L : Int} {j : Nat} (l0 : 0 ≤ L) (l1 : L < 4611686018427387904) : (H * 4611686018427387904 + L) / 2 ^ (62 + j) = H / 2 ^ j := by
  rw [Int.pow_add, ← Int.ediv_ediv_of_nonneg (by decide : (0 : Int) ≤ 2 ^ 62), show ((2 : Int) ^ 62) = 4611686018427387904 by decide, show (H * 4611686018427387904 + L) / 4611686018427387904 = H by omega]

set_option maxHeartbeats 1600000 in
set_option maxRecDepth 100000 in
theorem bit_any (H L : Int) (h0 : 0 ≤ H) (h1 : H ≤ 4294967296) (l0 : 0 ≤ L) (l1 : L < 4611686018427387904) (k : Nat) (hk : k ≤ 95) (w : World) :
    Calls Try.prog 25 #[.agg #[.int .i64 H, .int .i64 L], .int .i64 k] w fun e w' => e = .returned (.int .u64 ((H * 4611686018427387904 + L) / 2 ^ k % 2)) ∧ Below w.heap.size w w' := by
  have hb := Below.refl w.heap.size w
  by_cases hk2 : k < 62
  · have HE := Lib.hid (bit_low_eq (H := H) (L := L) hk2)
    have hmin : min k 64 = k := by omega
    have htm : (L / 2 ^ k).tmod 2 = L / 2 ^ k % 2 := Int.tmod_eq_emod_of_nonneg (Int.ediv_nonneg l0 (Int.le_of_lt (Int.pow_pos (by decide))))
    go_enter Try.func25, Try.ntmps25
    go_wp2_with fail
    go_ret
    exact ⟨by rw [HE.out]; rfl, hb.alloc (Nat.le_refl _) _⟩
  · obtain ⟨j, hj⟩ : ∃ j, k = 62 + j := ⟨k - 62, by omega⟩
    have HE := Lib.hid (bit_high_eq (H := H) (L := L) (j := j) l0 l1)
    have hmin : min j 64 = j := by omega
    have htm : (H / 2 ^ j).tmod 2 = H / 2 ^ j % 2 := Int.tmod_eq_emod_of_nonneg (Int.ediv_nonneg h0 (Int.le_of_lt (Int.pow_pos (by decide))))
    have hs : (k : Int) - 62 = (j : Int) := by omega
    have HJ := Lib.hid hj
    clear hj
    go_enter Try.func25, Try.ntmps25
    go_wp2_with fail
    go_ret
    exact ⟨by rw [HJ.out, HE.out]; rfl, hb.alloc (Nat.le_refl _) _⟩

/-- the division bit by bit: the first bits' quotient, and what is left -/
structure Bits (T c : Int) (n : Nat) (m r : Int) : Prop where
  is : T / 2 ^ n = m * c + r
  r0 : 0 ≤ r
  r1 : r < c
  m0 : 0 ≤ m
theorem half (T : Int) (k : Nat) : T / 2 ^ k = 2 * (T / 2 ^ (k + 1)) + T / 2 ^ k % 2 := by
  have e : T / 2 ^ (k + 1) = T / 2 ^ k / 2 := by
    rw [Int.pow_succ, Int.ediv_ediv_of_nonneg (Int.le_of_lt (Int.pow_pos (by decide)))]
  rw [e]; omega
theorem Bits.over {T c m r : Int} {k : Nat} (h : Bits T c (k + 1) m r) (hc : 1 ≤ c) (hm : 4611686018427387904 ≤ m) : 9223372036854775807 < T / c := by
  have h1 : m * c ≤ T / 2 ^ (k + 1) := by have := h.is; have := h.r0; omega
  have hp : 0 < (2 : Int) ^ k := Int.pow_pos (by decide)
  have h2 := (Int.le_ediv_iff_mul_le (Int.pow_pos (by decide))).1 h1
  have h3 : 4611686018427387904 * c ≤ m * c := Int.mul_le_mul_of_nonneg_right hm (by omega)
  have h4 : m * c * 2 ≤ m * c * 2 ^ (k + 1) := Int.mul_le_mul_of_nonneg_left (by rw [Int.pow_succ]; omega) (by omega)
  have : 9223372036854775808 ≤ T / c := by
    rw [Int.le_ediv_iff_mul_le (by omega)]; omega
  omega
theorem Bits.one {T c m r : Int} {k : Nat} (h : Bits T c (k + 1) m r) (hr : c ≤ r * 2 + T / 2 ^ k % 2) : Bits T c k (m * 2 + 1) (r * 2 + T / 2 ^ k % 2 - c) := by
  have e := half T k
  have i := h.is
  have := h.r1
  have := h.m0
  rw [i] at e
  refine ⟨?_, by omega, by omega, by omega⟩
  rw [Int.add_mul, Int.mul_assoc, Int.mul_comm 2 c, ← Int.mul_assoc, Int.one_mul]
  omega
theorem Bits.zero {T c m r : Int} {k : Nat} (h : Bits T c (k + 1) m r) (hr : r * 2 + T / 2 ^ k % 2 < c) : Bits T c k (m * 2) (r * 2 + T / 2 ^ k % 2) := by
  have e := half T k
  have i := h.is
  have := h.r0
  have := h.m0
  rw [i] at e
  refine ⟨?_, by omega, by omega, by omega⟩
  rw [Int.mul_assoc, Int.mul_comm 2 c, ← Int.mul_assoc]
  omega
theorem Bits.quo {T c m r : Int} (h : Bits T c 0 m r) : T / c = m := by
  have i := h.is
  have := h.r0
  have := h.r1
  simp only [Int.pow_zero, Int.ediv_one] at i
  rw [i, Int.add_comm, Int.add_mul_ediv_right _ _ (by omega), Int.ediv_eq_zero_of_lt h.r0 h.r1]
  omega

set_option maxHeartbeats 3200000 in
set_option maxRecDepth 100000 in
theorem rmean_any (h l c : Int) (c1 : c ≤ 9223372036854775807) (w : World) :
    Calls Try.prog 13 #[.agg #[.int .i64 h, .int .i64 l], .int .i64 c] w fun e w' => e = .returned (.int .i64 (meanT (tot h l) c)) ∧ Below w.heap.size w w' := by
  have t0 := tot_ge h l
  have t1 := tot_le h l
  have hright := fun w => right_at h l w
  by_cases hc : c < 1
  · have HM : Hid (meanT (tot h l) c = 0) := if_pos hc
    have hb := Below.refl w.heap.size w
    generalize meanT (tot h l) c = A at HM ⊢
    generalize hi (tot h l) = H at *
    generalize lo (tot h l) = L at *
    have HC := Lib.hid hright
    clear hright
    go_enter Try.func13, Try.ntmps13
    go_wp2_with fail
    refine (HC.out _).mono ?_
    rintro e w1 ⟨rfl, rfl⟩
    go_wp2_with fail
    go_ret
    exact ⟨ret_int HM.out.symm, (((hb.alloc (by simp) _).alloc (by simp) _).alloc (by simp; try omega) _).alloc (by simp; try omega) _⟩
  · have HM : Hid (meanT (tot h l) c = if 9223372036854775807 < tot h l / c then 9223372036854775807 else tot h l / c) := if_neg hc
    have hc1 : 1 ≤ c := by omega
    clear hc
    have h0 := hi_ge t0
    have h1 := hi_le t1
    have l0 := lo_ge (tot h l)
    have l1 := lo_lt (tot h l)
    have hN : hi (tot h l) * 4611686018427387904 + lo (tot h l) = tot h l := by unfold hi lo; omega
    generalize meanT (tot h l) c = A at HM ⊢
    generalize hT : tot h l = T at *
    generalize hH : hi T = H at *
    generalize hL : lo T = L at *
    clear hT hH hL
    have HC := Lib.hid hright
    clear hright
    have HN := Lib.hid hN
    clear hN
    have hS : Box w (((w.alloc (.cells #[.int .i64 H, .int .i64 L] 23)).alloc (.cells #[.int .i64 h, .int .i64 l] 23)).alloc (.cells #[.int .i64 H, .int .i64 L] 23) |>.alloc (.cells #[.int .i64 h, .int .i64 l] 23)) (.int .i64 H) (.int .i64 L) :=
      (Box.start w _ _ _).later ((((Below.refl _ _).alloc (Nat.le_refl _) _).alloc (by simp) _).alloc (by simp; try omega) _)
    go_enter Try.func13, Try.ntmps13
    go_wp2_with fail
    refine (HC.out _).mono ?_
    rintro e w1 ⟨rfl, rfl⟩
    go_wp2_with fail
    generalize World.alloc (World.alloc _ _) _ = W at hS ⊢
    go_loopw [5, 6, 7] (fun a b k wr => ∃ (n : Nat) (m r : Int), n ≤ 96 ∧ a = .int .u64 r ∧ b = .int .u64 m ∧ k = .int .i64 ((n : Int) - 1) ∧ Hid (Bits T c n m r) ∧ m < 9223372036854775808 ∧ Hid (Box w wr (.int .i64 H) (.int .i64 L))) (fun _ _ k _ => (intOf k + 1).toNat)
    case atStart => exact ⟨96, 0, 0, by omega, rfl, rfl, rfl, ⟨by rw [Int.ediv_eq_zero_of_lt t0 (by rw [show ((2 : Int) ^ 96) = 79228162514264337593543950336 by decide]; omega)]; omega, by omega, by omega, by omega⟩, by omega, hS⟩
    case round =>
      obtain ⟨n, m, r, hn, rfl, rfl, rfl, HB, hm, HX⟩ := hrel
      cases n with
      | zero =>
        have hq := HB.out.quo
        have HQ := Lib.hid hq
        clear hq
        have m0 := HB.out.m0
        go_wp2_with fail
        go_ret
        refine ⟨ret_int ?_, HX.out.2.2⟩
        rw [HM.out, HQ.out, if_neg (by omega)]
      | succ k =>
        have hk : ((k + 1 : Nat) : Int) - 1 = (k : Int) := by omega
        rw [hk]
        have hk1 : (k : Int) - 1 = (k : Int) - 1 := rfl
        clear hk hk1
        obtain ⟨⟨hx1, hx2⟩, hlt, hbl⟩ := HX.out
        have m0 := HB.out.m0
        have r0 := HB.out.r0
        have r1 := HB.out.r1
        go_wp2_with fail
        refine (bit_any H L h0 h1 l0 l1 k (by omega) wr).mono ?_
        rintro e w1 ⟨rfl, hb1⟩
        rw [HN.out]
        have HX1 : Hid (Box w w1 (.int .i64 H) (.int .i64 L)) := HX.out.later hb1
        have b0 : 0 ≤ T / 2 ^ k % 2 := by omega
        have b1 : T / 2 ^ k % 2 ≤ 1 := by omega
        have HO := Lib.hid (fun hm => HB.out.over hc1 hm)
        have H1 := Lib.hid (fun hr => HB.out.one hr)
        have H0 := Lib.hid (fun hr => HB.out.zero hr)
        generalize T / 2 ^ k % 2 = b at *
        clear hb1 hx1 hx2 hlt hbl HX
        by_cases hm2 : 4611686018427387904 ≤ m
        · go_wp2_with fail
          go_ret
          exact ⟨ret_int (by rw [HM.out, if_pos (HO.out hm2)]), HX1.out.2.2⟩
        · have hm3 : m < 4611686018427387904 := by omega
          clear hm2
          by_cases hr : c ≤ r * 2 + b
          · go_wp2_with fail
            go_roundw
            case rel => exact ⟨k, m * 2 + 1, r * 2 + b - c, by omega, rfl, rfl, rfl, H1.out hr, by omega, HX1⟩
            case measure => simp [intOf]
          · have hr2 : r * 2 + b < c := by omega
            clear hr
            go_wp2_with fail
            go_roundw
            case rel => exact ⟨k, m * 2, r * 2 + b, by omega, rfl, rfl, rfl, H0.out hr2, by omega, HX1⟩
            case measure => simp [intOf]
end Go.Proofs.Ytjdaiknmmplgpaa.Wd
