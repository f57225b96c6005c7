/- Means: what the program does. -/
import Derived.Test.YtjdaiknmmplgpaaWdDiv
import Derived.Test.YtjdaiknmmplgpaaWdSub
namespace Go.Proofs.Ytjdaiknmmplgpaa.Wd
open Go.RowKit

/-- a mean -/
def meanT (n c : Int) : Int := if c < 1 then 0 else if 9223372036854775807 < n / c then 9223372036854775807 else n / c

set_option maxHeartbeats 3200000 in
set_option maxRecDepth 100000 in
theorem mean_any (h l c : Int) (c1 : c ≤ 9223372036854775807) (w : World) :
    Calls Try.prog 12 #[.agg #[.int .i64 h, .int .i64 l], .int .i64 c] w fun e w' => e = .returned (.int .i64 (meanT (tot h l) c)) ∧ Below w.heap.size w w' := by
  have t0 := tot_ge h l
  have t1 := tot_le h l
  by_cases hc : c < 1
  · go_enter Try.func12, Try.ntmps12
    go_wp2_with fail
    go_ret
    refine ⟨ret_int (by unfold meanT; rw [if_pos hc]), (Below.refl _ _).alloc (Nat.le_refl _) _⟩
  · have HM : Hid (meanT (tot h l) c = if 9223372036854775807 < tot h l / c then 9223372036854775807 else tot h l / c) := if_neg hc
    have hc1 : 1 ≤ c := by omega
    clear hc
    have h0 := hi_ge t0
    have h1 := hi_le t1
    have l0 := lo_ge (tot h l)
    have l1 := lo_lt (tot h l)
    have hN : hi (tot h l) * 4611686018427387904 + lo (tot h l) = tot h l := by unfold hi lo; omega
    have hcnt := fun w => counted_at h l w
    generalize meanT (tot h l) c = A at HM ⊢
    generalize hT : tot h l = T at *
    generalize hH : hi T = H at *
    generalize hL : lo T = L at *
    clear hT hH hL
    have HC := Lib.hid hcnt
    clear hcnt
    have eO : bits .or .u64 (IntKind.u64.wrap (H * 4611686018427387904)) L = (H % 4) * 4611686018427387904 + L := by
      rw [wrap_u64_mod, show H * 4611686018427387904 % 18446744073709551616 = (H % 4) * 2 ^ 62 from by omega]
      exact or_parts 62 (by omega) l0 (by omega) (by omega)
    have hX : (H / 4) * 18446744073709551616 + ((H % 4) * 4611686018427387904 + L) = T := by omega
    have x0 : 0 ≤ (H % 4) * 4611686018427387904 + L := by omega
    have x1 : (H % 4) * 4611686018427387904 + L < 18446744073709551616 := by omega
    generalize (H % 4) * 4611686018427387904 + L = X at *
    have hm0 : 0 ≤ T / c := Int.ediv_nonneg t0 (by omega)
    have hbig : c ≤ H / 4 → 9223372036854775807 < T / c := by
      intro hh
      have : 18446744073709551616 ≤ T / c := by
        rw [Int.le_ediv_iff_mul_le (by omega)]; omega
      omega
    have HB := Lib.hid hbig
    have HX := Lib.hid hX
    clear hbig hX
    have hb := Below.refl w.heap.size w
    go_enter Try.func12, Try.ntmps12
    go_wp2_with fail
    refine (HC.out _).mono ?_
    rintro e w1 ⟨rfl, rfl⟩
    go_wp2_with fail
    · go_ret
      refine ⟨ret_int (by rw [HM.out, if_pos (HB.out (by assumption))]), ?_⟩
      exact (((hb.alloc (by simp) _).alloc (by simp) _).alloc (by simp; try omega) _).alloc (by simp; try omega) _
    · have hb4 := (((hb.alloc (by simp) (.cells #[.int .i64 H, .int .i64 L] 23)).alloc (by simp) (.cells #[.int .i64 h, .int .i64 l] 23)).alloc (by simp; try omega) (.cells #[.int .i64 H, .int .i64 L] 23)).alloc (by simp; try omega) (.cells #[.int .i64 h, .int .i64 l] 23)
      have hs4 := hb4.size
      refine (div_any (H / 4) X c (by omega) (by assumption) x0 x1 (by omega) _).mono ?_
      rintro e w1 ⟨⟨r, rfl⟩, hb1⟩
      rw [HX.out]
      have hb5 := hb4.trans (hb1.mono hs4)
      clear hb1 hb4 hs4
      generalize T / c = m at *
      go_wp2
      all_goals
        go_ret
        refine ⟨ret_int (by rw [HM.out]; split <;> omega), hb5⟩
end Go.Proofs.Ytjdaiknmmplgpaa.Wd
