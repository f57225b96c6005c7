/- Two words divided as one: the walk. -/
import Derived.Test.YtjdaiknmmplgpaaWdDivMath
import Derived.RegionTactic
import Derived.ChangeAlike
import Derived.BigRegion
import Derived.Deep.QuietTactic
import Derived.BigQuiet
import Derived.Deep.CutRange
import Derived.Deep.CutBlock
namespace Go.Proofs.Ytjdaiknmmplgpaa.Wd
open Go.RowKit
theorem drewN_below' {B : Nat} {a w : World} (h : Below B a w) (n : Nat) : Below B a (w.drewN n) := h.trans ⟨rfl, rfl, rfl, Nat.le_refl _, fun _ _ => rfl⟩

set_option maxHeartbeats 4000000 in
set_option maxRecDepth 100000 in
theorem div_any (h l y : Int) (h0 : 0 ≤ h) (hy : h < y) (l0 : 0 ≤ l) (l1 : l < 18446744073709551616) (y1 : y < 18446744073709551616) (w : World) :
    Calls Try.prog 24 #[.int .u64 h, .int .u64 l, .int .u64 y] w fun e w' => (∃ r, e = .returned (.tuple #[.int .u64 ((h * 18446744073709551616 + l) / y), .int .u64 r])) ∧ Below w.heap.size w w' := by
  have dy : (y == 0) = false := by simp; omega
  have dh : decide (y ≤ h) = false := by simp; omega
  by_cases hz : h = 0
  · subst hz
    go_enter Try.func24, Try.ntmps24
    go_wp2_with fail
    go_quiet (fail)
    go_wp2
    refine bodyPost_ret (v := .tuple #[.int .u64 (l / y), .int .u64 (l % y)]) (by simp [results, Try.results24, go_sem]) rfl ⟨⟨l % y, by rw [Int.zero_mul, Int.zero_add]⟩, drewN_below' (Below.refl _ _) nq⟩
  · have dz : (h == 0) = false := by simp; omega
    obtain ⟨k, hk, hk63⟩ : ∃ k : Nat, 64 - ((lg y : Nat) : Int) = (k : Int) ∧ k ≤ 63 := ⟨64 - lg y, by have := lg_le (x := y) (by omega) (by omega); omega, by have := lg_pos y; omega⟩
    have hmin : min k 64 = k := by omega
    obtain ⟨v, v1, v0, u, m, m1, m0, e1, e2, e3, e4, e5, e6, e7, hn⟩ := nrm h l y h0 hy l0 l1 y1 k hk hk63
    have HK := Lib.hid hk
    have HN := Lib.hid hn
    have dv : ¬ v1 = 0 := by have := hn.v1a; omega
    have D1 : Hid (Div u m1 v1 v0) := ⟨hn.v1a, hn.v1b, hn.v0a, hn.v0b, hn.u0, by rw [← hn.vs]; exact hn.uv, hn.m1a, hn.m1b⟩
    have v1a := hn.v1a
    have v1b := hn.v1b
    clear hk hn
    go_enter Try.func24, Try.ntmps24
    go_wp2_with fail
    refine (zeros_any y w (by omega) (by omega)).mono ?_
    rintro e w1 ⟨rfl, rfl⟩
    rw [HK.out]
    obtain ⟨e8, e9⟩ := D1.out.first
    have HQ : Hid (Inv u m1 v1 v0 (u / v1) (u % v1)) := Inv.start D1.out
    generalize u / v1 = q at *
    generalize u % v1 = r at *
    go_upto_block 0 with fail
    go_cut [15, 16] from 67 to 85 (fun a b wc => a = .int .u64 ((u * 4294967296 + m1) / (v1 * 4294967296 + v0)) ∧ (∃ b', b = .int .u64 b') ∧ wc = w)
    case first =>
      clear e1 e2 e3 e4 e5 e6 e7 e8 e9 hmin hk63 HK dz hz dh dy
      go_wp2_with fail
      go_loop [15, 16] (fun a b => ∃ q r : Int, a = .int .u64 q ∧ b = .int .u64 r ∧ Hid (Inv u m1 v1 v0 q r)) (fun _ b => (4294967296 - intOf b).toNat)
      case atStart => exact ⟨q, r, rfl, rfl, HQ⟩
      case round =>
        obtain ⟨q, r, rfl, rfl, HQ⟩ := hrel
        have i2 := HQ.out.r0
        have i3 := HQ.out.r1
        have i4 := HQ.out.q0
        have i5 := HQ.out.q1
        have v0a := HN.out.v0a
        have v0b := HN.out.v0b
        by_cases hbig : 4294967296 ≤ q
        · have HL : Hid ((u * 4294967296 + m1) / (v1 * 4294967296 + v0) < q) := HQ.out.big D1.out hbig
          have g1 : IntKind.u64.wrap (q - 1) = q - 1 := wrap_u64 (by omega) (by omega)
          have g2 : IntKind.u64.wrap (r + v1) = r + v1 := wrap_u64 (by omega) (by omega)
          go_wp2_with fail
          · go_meet
            exact ⟨by rw [HQ.out.early D1.out HL.out (by assumption)], ⟨_, rfl⟩, rfl⟩
          · go_round
            case rel => exact ⟨q - 1, r + v1, rfl, rfl, HQ.out.next D1.out HL.out (by assumption)⟩
            case measure => simp [intOf]; omega
        · have hbig' : q < 4294967296 := by omega
          have z0 : 0 ≤ q * v0 := Int.mul_nonneg i4 v0a
          have z1 : q * v0 ≤ 4294967295 * 4294967295 := Int.mul_le_mul (by omega) (by omega) v0a (by omega)
          have m1a := HN.out.m1a
          have m1b := HN.out.m1b
          generalize hZ : q * v0 = Z at z0 z1
          have f1 : IntKind.u64.wrap (q * v0) = Z := by rw [hZ]; exact wrap_u64 z0 (by omega)
          have f2 : IntKind.u64.wrap (IntKind.u64.wrap (4294967296 * r) + m1) = 4294967296 * r + m1 := by rw [wrap_u64 (n := 4294967296 * r) (by omega) (by omega)]; exact wrap_u64 (by omega) (by omega)
          have HZ := Lib.hid hZ
          clear hZ hbig
          by_cases hgt : 4294967296 * r + m1 < Z
          · have HL : Hid ((u * 4294967296 + m1) / (v1 * 4294967296 + v0) < q) := HQ.out.more D1.out (by rw [HZ.out]; exact hgt)
            have hq1 := HQ.out.pos D1.out HL.out
            have g1 : IntKind.u64.wrap (q - 1) = q - 1 := wrap_u64 (by omega) (by omega)
            have g2 : IntKind.u64.wrap (r + v1) = r + v1 := wrap_u64 (by omega) (by omega)
            go_wp2_with fail
            · go_meet
              exact ⟨by rw [HQ.out.early D1.out HL.out (by assumption)], ⟨_, rfl⟩, rfl⟩
            · go_round
              case rel => exact ⟨q - 1, r + v1, rfl, rfl, HQ.out.next D1.out HL.out (by assumption)⟩
              case measure => simp [intOf]; omega
          · have hgt' : Z ≤ 4294967296 * r + m1 := by omega
            go_wp2_with fail
            go_meet
            exact ⟨by rw [HQ.out.done D1.out (by rw [HZ.out]; exact hgt')], ⟨_, rfl⟩, rfl⟩
    case rest =>
      obtain ⟨rfl, ⟨b', rfl⟩, rfl⟩ := hcut
      clear e8 e9 HQ
      obtain ⟨s1, d2⟩ := D1.out.second (m0 := m0) HN.out.vs HN.out.m0a HN.out.m0b
      have hw := D1.out.whole (m := m) HN.out.vs HN.out.ms HN.out.m0a HN.out.m0b
      rw [HN.out.quo] at hw
      have HQ2 : Hid (Inv ((u * 4294967296 + m1) % v) m0 v1 v0 ((u * 4294967296 + m1) % v / v1) ((u * 4294967296 + m1) % v % v1)) := Inv.start d2
      obtain ⟨c8, c9⟩ := d2.first
      generalize (u * 4294967296 + m1) / (v1 * 4294967296 + v0) = Q1 at s1 hw ⊢
      generalize (u * 4294967296 + m1) % v = u2 at *
      generalize u2 / v1 = q at *
      generalize u2 % v1 = r at *
      have D2 := Lib.hid d2
      have HW := Lib.hid hw
      clear d2 hw
      go_upto_block 2 with fail
      go_cut [18, 16] from 102 to 120 (fun a b wc' => a = .int .u64 ((u2 * 4294967296 + m0) / (v1 * 4294967296 + v0)) ∧ (∃ b', b = .int .u64 b') ∧ wc' = wc)
      case first =>
        clear e1 e2 e3 e4 e5 e6 e7 s1 c8 c9 hmin hk63 HK dz hz dh dy
        go_wp2_with fail
        go_loop [18, 16] (fun a b => ∃ q r : Int, a = .int .u64 q ∧ b = .int .u64 r ∧ Hid (Inv u2 m0 v1 v0 q r)) (fun _ b => (4294967296 - intOf b).toNat)
        case atStart => exact ⟨q, r, rfl, rfl, HQ2⟩
        case round =>
          obtain ⟨q, r, rfl, rfl, HQ⟩ := hrel
          have i2 := HQ.out.r0
          have i3 := HQ.out.r1
          have i4 := HQ.out.q0
          have i5 := HQ.out.q1
          have v0a := HN.out.v0a
          have v0b := HN.out.v0b
          by_cases hbig : 4294967296 ≤ q
          · have HL : Hid ((u2 * 4294967296 + m0) / (v1 * 4294967296 + v0) < q) := HQ.out.big D2.out hbig
            have g1 : IntKind.u64.wrap (q - 1) = q - 1 := wrap_u64 (by omega) (by omega)
            have g2 : IntKind.u64.wrap (r + v1) = r + v1 := wrap_u64 (by omega) (by omega)
            go_wp2_with fail
            · go_meet
              exact ⟨by rw [HQ.out.early D2.out HL.out (by assumption)], ⟨_, rfl⟩, rfl⟩
            · go_round
              case rel => exact ⟨q - 1, r + v1, rfl, rfl, HQ.out.next D2.out HL.out (by assumption)⟩
              case measure => simp [intOf]; omega
          · have hbig' : q < 4294967296 := by omega
            have z0 : 0 ≤ q * v0 := Int.mul_nonneg i4 v0a
            have z1 : q * v0 ≤ 4294967295 * 4294967295 := Int.mul_le_mul (by omega) (by omega) v0a (by omega)
            have m0a := HN.out.m0a
            have m0b := HN.out.m0b
            generalize hZ : q * v0 = Z at z0 z1
            have f1 : IntKind.u64.wrap (q * v0) = Z := by rw [hZ]; exact wrap_u64 z0 (by omega)
            have f2 : IntKind.u64.wrap (IntKind.u64.wrap (4294967296 * r) + m0) = 4294967296 * r + m0 := by rw [wrap_u64 (n := 4294967296 * r) (by omega) (by omega)]; exact wrap_u64 (by omega) (by omega)
            have HZ := Lib.hid hZ
            clear hZ hbig
            by_cases hgt : 4294967296 * r + m0 < Z
            · have HL : Hid ((u2 * 4294967296 + m0) / (v1 * 4294967296 + v0) < q) := HQ.out.more D2.out (by rw [HZ.out]; exact hgt)
              have hq1 := HQ.out.pos D2.out HL.out
              have g1 : IntKind.u64.wrap (q - 1) = q - 1 := wrap_u64 (by omega) (by omega)
              have g2 : IntKind.u64.wrap (r + v1) = r + v1 := wrap_u64 (by omega) (by omega)
              go_wp2_with fail
              · go_meet
                exact ⟨by rw [HQ.out.early D2.out HL.out (by assumption)], ⟨_, rfl⟩, rfl⟩
              · go_round
                case rel => exact ⟨q - 1, r + v1, rfl, rfl, HQ.out.next D2.out HL.out (by assumption)⟩
                case measure => simp [intOf]; omega
            · have hgt' : Z ≤ 4294967296 * r + m0 := by omega
              go_wp2_with fail
              go_meet
              exact ⟨by rw [HQ.out.done D2.out (by rw [HZ.out]; exact hgt')], ⟨_, rfl⟩, rfl⟩
      case rest =>
        obtain ⟨rfl, ⟨b', rfl⟩, rfl⟩ := hcut
        clear c8 c9 s1
        generalize (u2 * 4294967296 + m0) / (v1 * 4294967296 + v0) = Q0 at HW ⊢
        go_wp2_with fail
        exact bodyPost_ret (v := .tuple #[.int .u64 (IntKind.u64.wrap (IntKind.u64.wrap (Q1 * 4294967296) + Q0)), .int .u64 (IntKind.u64.wrap (IntKind.u64.wrap (IntKind.u64.wrap (u2 * 4294967296) + m0) - IntKind.u64.wrap (Q0 * v)) / 2 ^ k)]) (by simp [results, Try.results24, go_sem]) rfl ⟨⟨_, by rw [HW.out]⟩, Below.refl _ _⟩
end Go.Proofs.Ytjdaiknmmplgpaa.Wd
