/- Two words divided as one: the numbers alone. -/
import Derived.Test.YtjdaiknmmplgpaaWdLen
import Derived.Laws.BitsAllLaws
namespace Go.Proofs.Ytjdaiknmmplgpaa.Wd
open Go.RowKit

theorem and_mask {v : Int} (h0 : 0 ≤ v) (h1 : v < 18446744073709551616) : bits .and .u64 v 4294967295 = v % 4294967296 := by
  obtain ⟨n, rfl⟩ := Int.eq_ofNat_of_zero_le h0
  have e := u64_and_nat n 4294967295 (by omega) (by omega)
  rw [show n &&& 4294967295 = n % 4294967296 from Nat.and_two_pow_sub_one_eq_mod n 32] at e
  exact e
theorem or_parts {a b : Int} (k : Nat) (a0 : 0 ≤ a) (b0 : 0 ≤ b) (b1 : b < 2 ^ k) (hs : a * 2 ^ k + b < 18446744073709551616) : bits .or .u64 (a * 2 ^ k) b = a * 2 ^ k + b := by
  obtain ⟨n, rfl⟩ := Int.eq_ofNat_of_zero_le a0
  obtain ⟨m, rfl⟩ := Int.eq_ofNat_of_zero_le b0
  have hm : m < 2 ^ k := by
    have : (m : Int) < ((2 ^ k : Nat) : Int) := by simpa using b1
    exact_mod_cast this
  have hnm : n * 2 ^ k + m < 18446744073709551616 := by
    have : ((n * 2 ^ k + m : Nat) : Int) < (18446744073709551616 : Nat) := by simpa using hs
    exact_mod_cast this
  have e := u64_or_nat (n * 2 ^ k) m (by omega) (by omega)
  rw [Nat.mul_comm, ← Nat.two_pow_add_eq_or_of_lt hm] at e
  have : bits .or .u64 ((n : Int) * 2 ^ k) (m : Int) = ((2 ^ k * n + m : Nat) : Int) := by
    rw [← e]; congr 1; simp [Int.mul_comm]
  rw [this]; simp [Int.mul_comm]
theorem wrap_u64 {n : Int} (h0 : 0 ≤ n) (h1 : n < 18446744073709551616) : IntKind.u64.wrap n = n := by
  simp [IntKind.wrap, IntKind.signed, IntKind.bits]; omega
theorem wrap_u64_mod (n : Int) : IntKind.u64.wrap n = n % 18446744073709551616 := by
  simp [IntKind.wrap, IntKind.signed, IntKind.bits]

/-- what is divided, and by what, moved up until the divisor's highest bit is one -/
structure Nrm (h l y v v1 v0 u m m1 m0 : Int) : Prop where
  vs : v = v1 * 4294967296 + v0
  v1a : 2147483648 ≤ v1
  v1b : v1 < 4294967296
  v0a : 0 ≤ v0
  v0b : v0 < 4294967296
  u0 : 0 ≤ u
  uv : u < v
  ms : m = m1 * 4294967296 + m0
  m1a : 0 ≤ m1
  m1b : m1 < 4294967296
  m0a : 0 ≤ m0
  m0b : m0 < 4294967296
  quo : (u * 18446744073709551616 + m) / v = (h * 18446744073709551616 + l) / y

theorem nrm (h l y : Int) (h0 : 0 ≤ h) (hy : h < y) (l0 : 0 ≤ l) (l1 : l < 18446744073709551616) (_y1 : y < 18446744073709551616) (k : Nat) (hk : 64 - ((lg y : Nat) : Int) = (k : Int)) (hk63 : k ≤ 63) :
    ∃ v v1 v0 u m m1 m0 : Int, IntKind.u64.wrap (y * 2 ^ k) = v ∧ v / 4294967296 = v1 ∧ bits .and .u64 v 4294967295 = v0 ∧ bits .or .u64 (IntKind.u64.wrap (h * 2 ^ k)) (l / 2 ^ (64 - k)) = u ∧
      IntKind.u64.wrap (l * 2 ^ k) = m ∧ m / 4294967296 = m1 ∧ bits .and .u64 m 4294967295 = m0 ∧ Nrm h l y v v1 v0 u m m1 m0 := by
  have hpr : (2 : Int) ^ k * 2 ^ (64 - k) = 18446744073709551616 := by
    rw [← Int.pow_add, show k + (64 - k) = 64 by omega]; decide
  have hP : 0 < (2 : Int) ^ k := Int.pow_pos (by decide)
  have hR : 0 < (2 : Int) ^ (64 - k) := Int.pow_pos (by decide)
  have hl : lg y = 64 - k := by omega
  have y2 := lg_high (x := y) (by omega)
  have y3 := lg_low (x := y) (by omega)
  rw [hl] at y2 y3
  have hR2 : (2 : Int) ^ (64 - k) = 2 ^ (64 - k - 1) * 2 := by
    conv => lhs; rw [show 64 - k = 64 - k - 1 + 1 by omega]
    rw [Int.pow_succ]
  generalize hPP : (2 : Int) ^ k = P at *
  generalize hRR : (2 : Int) ^ (64 - k) = R at *
  generalize (2 : Int) ^ (64 - k - 1) = S at *
  have hvl : y * P < 18446744073709551616 := by
    rw [← hpr, Int.mul_comm P R]; exact Int.mul_lt_mul_of_pos_right y2 hP
  have hvg : 9223372036854775808 ≤ y * P := by
    have a : S * P ≤ y * P := Int.mul_le_mul_of_nonneg_right y3 (Int.le_of_lt hP)
    have b : S * P * 2 = 18446744073709551616 := by rw [← hpr, hR2, Int.mul_comm P, Int.mul_assoc, Int.mul_assoc, Int.mul_comm P 2]
    omega
  have hh : (h + 1) * P ≤ y * P := Int.mul_le_mul_of_nonneg_right (by omega) (Int.le_of_lt hP)
  rw [Int.add_mul, Int.one_mul] at hh
  have hhp : 0 ≤ h * P := Int.mul_nonneg h0 (Int.le_of_lt hP)
  have hlr0 : 0 ≤ l / R := Int.ediv_nonneg l0 (Int.le_of_lt hR)
  have hlr1 : l / R < P := by
    refine (Int.ediv_lt_iff_lt_mul hR).2 ?_
    rw [hpr]; exact l1
  have hld := Int.mul_ediv_add_emod l R
  have hlm0 := Int.emod_nonneg l (show R ≠ 0 by omega)
  have hlm1 := Int.emod_lt_of_pos l hR
  have hlp : l * P = (l / R) * 18446744073709551616 + (l % R) * P := by
    conv => lhs; rw [← hld]
    rw [Int.add_mul, ← hpr, Int.mul_comm R, Int.mul_assoc, Int.mul_comm R P]
  have hlq0 : 0 ≤ (l % R) * P := Int.mul_nonneg hlm0 (Int.le_of_lt hP)
  have hlq1 : (l % R) * P < 18446744073709551616 := by
    rw [← hpr, Int.mul_comm P R]; exact Int.mul_lt_mul_of_pos_right hlm1 hP
  have hm : IntKind.u64.wrap (l * P) = (l % R) * P := by rw [wrap_u64_mod, hlp]; omega
  have hu : bits .or .u64 (IntKind.u64.wrap (h * P)) (l / R) = h * P + l / R := by
    rw [wrap_u64 hhp (by omega), ← hPP]
    refine or_parts k h0 hlr0 (by rw [hPP]; exact hlr1) (by rw [hPP]; omega)
  have hv : IntKind.u64.wrap (y * P) = y * P := wrap_u64 (by omega) hvl
  have hq : (h * P + l / R) * 18446744073709551616 + (l % R) * P = (h * 18446744073709551616 + l) * P := by
    rw [Int.add_mul, Int.add_mul, hlp, Int.mul_assoc h P, Int.mul_comm P, ← Int.mul_assoc h]; omega
  refine ⟨y * P, _, _, h * P + l / R, (l % R) * P, _, _, hv, rfl, and_mask (by omega) hvl, hu, hm, rfl, and_mask hlq0 hlq1, ?_⟩
  refine ⟨by omega, by omega, by omega, by omega, by omega, by omega, by omega, by omega, by omega, by omega, by omega, by omega, ?_⟩
  rw [hq, Int.mul_ediv_mul_of_pos_left _ _ hP]

/-- one round of the division by hand: too great, not too great, or left early -/
theorem too_great {u m v1 v0 q r : Int} (hu : u = q * v1 + r) (hv : 0 < v1 * 4294967296 + v0) (h : 4294967296 * r + m < q * v0) : (u * 4294967296 + m) / (v1 * 4294967296 + v0) < q := by
  rw [Int.ediv_lt_iff_lt_mul hv, Int.mul_add, ← Int.mul_assoc]
  generalize q * v1 = X at *
  generalize q * v0 = Z at *
  omega
theorem too_big {u m v1 v0 q : Int} (hv : 0 < v1 * 4294967296 + v0) (hu : u < v1 * 4294967296 + v0) (hm : m < 4294967296) (h : 4294967296 ≤ q) : (u * 4294967296 + m) / (v1 * 4294967296 + v0) < q := by
  have : (u * 4294967296 + m) / (v1 * 4294967296 + v0) < 4294967296 := by
    rw [Int.ediv_lt_iff_lt_mul hv]; omega
  omega
theorem not_great {u m v1 v0 q r : Int} (hu : u = q * v1 + r) (hv : 0 < v1 * 4294967296 + v0) (h : q * v0 ≤ 4294967296 * r + m) : q ≤ (u * 4294967296 + m) / (v1 * 4294967296 + v0) := by
  rw [Int.le_ediv_iff_mul_le hv, Int.mul_add, ← Int.mul_assoc]
  generalize q * v1 = X at *
  generalize q * v0 = Z at *
  omega
theorem not_early {u m v1 v0 q r : Int} (hu : u = q * v1 + r) (hv : 0 < v1 * 4294967296 + v0) (hr : 4294967296 ≤ r) (_hq0 : 0 ≤ q) (hq : q ≤ 4294967296) (h0 : 0 ≤ v0) (h1 : v0 < 4294967296) (hm : 0 ≤ m) : q ≤ (u * 4294967296 + m) / (v1 * 4294967296 + v0) := by
  refine not_great hu hv ?_
  have : q * v0 ≤ 4294967296 * 4294967295 := Int.mul_le_mul hq (by omega) h0 (by omega)
  omega
theorem first_le {u v1 v0 : Int} (h1 : 2147483648 ≤ v1) (h0 : v0 < 4294967296) (hu : u < v1 * 4294967296 + v0) : u / v1 ≤ 4294967297 := by
  have : u / v1 < 4294967298 := by rw [Int.ediv_lt_iff_lt_mul (by omega)]; omega
  omega
theorem first_ge {u m v1 v0 : Int} (h1 : 2147483648 ≤ v1) (h0 : 0 ≤ v0) (hm : m < 4294967296) (hu : 0 ≤ u) : (u * 4294967296 + m) / (v1 * 4294967296 + v0) ≤ u / v1 := by
  have hlt : u < (u / v1 + 1) * v1 := Int.lt_ediv_add_one_mul_self u (by omega)
  have hq : 0 ≤ u / v1 := Int.ediv_nonneg hu (by omega)
  have : (u * 4294967296 + m) / (v1 * 4294967296 + v0) < u / v1 + 1 := by
    rw [Int.ediv_lt_iff_lt_mul (by omega), Int.mul_add, ← Int.mul_assoc]
    have : 0 ≤ (u / v1 + 1) * v0 := Int.mul_nonneg (by omega) h0
    generalize (u / v1 + 1) * v1 = X at *
    generalize (u / v1 + 1) * v0 = Z at *
    omega
  omega
theorem quo_lt {u m v : Int} (hv : 0 < v) (hu : u < v) (hm : m < 4294967296) : (u * 4294967296 + m) / v < 4294967296 := by
  rw [Int.ediv_lt_iff_lt_mul hv]; omega
/-- two rounds make the whole -/
theorem two_rounds {u m1 m0 v : Int} (hv : 0 < v) : (u * 18446744073709551616 + (m1 * 4294967296 + m0)) / v = ((u * 4294967296 + m1) / v) * 4294967296 + ((u * 4294967296 + m1) % v * 4294967296 + m0) / v := by
  have e := Int.mul_ediv_add_emod (u * 4294967296 + m1) v
  have : u * 18446744073709551616 + (m1 * 4294967296 + m0) = ((u * 4294967296 + m1) % v * 4294967296 + m0) + ((u * 4294967296 + m1) / v * 4294967296) * v := by
    generalize (u * 4294967296 + m1) / v = Q at *
    have : Q * 4294967296 * v = v * Q * 4294967296 := by rw [Int.mul_comm v Q, Int.mul_assoc, Int.mul_comm 4294967296, ← Int.mul_assoc]
    omega
  rw [this, Int.add_mul_ediv_right _ _ (by omega)]
  omega
/-- what is left, in 64 bits -/
theorem left_is {u m v q : Int} (hv : 0 < v) (hv1 : v < 18446744073709551616) (hq : q = (u * 4294967296 + m) / v) : (u * 4294967296 + m - q * v) % 18446744073709551616 = (u * 4294967296 + m) % v := by
  have e := Int.mul_ediv_add_emod (u * 4294967296 + m) v
  have a := Int.emod_nonneg (u * 4294967296 + m) (show v ≠ 0 by omega)
  have b := Int.emod_lt_of_pos (u * 4294967296 + m) hv
  rw [Int.mul_comm v, ← hq] at e
  generalize q * v = X at *
  omega

/-- what holds at the head of a round's loop: q is not too small, and r is what it leaves -/
structure Inv (u m v1 v0 q r : Int) : Prop where
  is : u = q * v1 + r
  r0 : 0 ≤ r
  r1 : r < 4294967296
  q0 : 0 ≤ q
  q1 : q ≤ 4294967297
  ge : (u * 4294967296 + m) / (v1 * 4294967296 + v0) ≤ q
/-- the divisor's halves, and a digit -/
structure Div (u m v1 v0 : Int) : Prop where
  v1a : 2147483648 ≤ v1
  v1b : v1 < 4294967296
  v0a : 0 ≤ v0
  v0b : v0 < 4294967296
  u0 : 0 ≤ u
  uv : u < v1 * 4294967296 + v0
  m0 : 0 ≤ m
  m1 : m < 4294967296
theorem Div.pos {u m v1 v0 : Int} (d : Div u m v1 v0) : 0 < v1 * 4294967296 + v0 := by have := d.v1a; have := d.v0a; omega
theorem Inv.start {u m v1 v0 : Int} (d : Div u m v1 v0) : Inv u m v1 v0 (u / v1) (u % v1) := by
  have a := d.v1a
  have b := d.v1b
  have e := Int.mul_ediv_add_emod u v1
  rw [Int.mul_comm] at e
  exact ⟨e.symm, Int.emod_nonneg u (by omega), by have := Int.emod_lt_of_pos u (show 0 < v1 by omega); omega, Int.ediv_nonneg d.u0 (by omega), first_le a d.v0b d.uv, first_ge a d.v0a d.m1 d.u0⟩
theorem Inv.big {u m v1 v0 q r : Int} (d : Div u m v1 v0) (_h : Inv u m v1 v0 q r) (hb : 4294967296 ≤ q) : (u * 4294967296 + m) / (v1 * 4294967296 + v0) < q := too_big d.pos d.uv d.m1 hb
theorem Inv.more {u m v1 v0 q r : Int} (d : Div u m v1 v0) (h : Inv u m v1 v0 q r) (hb : 4294967296 * r + m < q * v0) : (u * 4294967296 + m) / (v1 * 4294967296 + v0) < q := too_great h.is d.pos hb
theorem Inv.step {u m v1 v0 q r : Int} (h : Inv u m v1 v0 q r) : u = (q - 1) * v1 + (r + v1) := by
  have := h.is
  rw [Int.sub_mul]; omega
theorem Inv.pos {u m v1 v0 q r : Int} (d : Div u m v1 v0) (_h : Inv u m v1 v0 q r) (hb : (u * 4294967296 + m) / (v1 * 4294967296 + v0) < q) : 1 ≤ q := by
  have : 0 ≤ (u * 4294967296 + m) / (v1 * 4294967296 + v0) := Int.ediv_nonneg (by have := d.u0; have := d.m0; omega) (Int.le_of_lt d.pos)
  omega
theorem Inv.next {u m v1 v0 q r : Int} (d : Div u m v1 v0) (h : Inv u m v1 v0 q r) (hb : (u * 4294967296 + m) / (v1 * 4294967296 + v0) < q) (hr : r + v1 < 4294967296) : Inv u m v1 v0 (q - 1) (r + v1) := by
  have := h.pos d hb
  have := h.q1
  exact ⟨h.step, by have := h.r0; have := d.v1a; omega, hr, by omega, by omega, by omega⟩
theorem Inv.early {u m v1 v0 q r : Int} (d : Div u m v1 v0) (h : Inv u m v1 v0 q r) (hb : (u * 4294967296 + m) / (v1 * 4294967296 + v0) < q) (hr : 4294967296 ≤ r + v1) : q - 1 = (u * 4294967296 + m) / (v1 * 4294967296 + v0) := by
  have := h.pos d hb
  have := h.q1
  have := not_early h.step d.pos hr (by omega) (by omega) d.v0a d.v0b d.m0
  omega
theorem Inv.done {u m v1 v0 q r : Int} (d : Div u m v1 v0) (h : Inv u m v1 v0 q r) (hb : q * v0 ≤ 4294967296 * r + m) : q = (u * 4294967296 + m) / (v1 * 4294967296 + v0) := by
  have := not_great h.is d.pos hb
  have := h.ge
  omega
theorem Div.u_lt {u m v1 v0 : Int} (d : Div u m v1 v0) : u < 18446744073709551616 := by have := d.uv; have := d.v1b; have := d.v0b; omega
/-- how the program finds the first q and r -/
theorem Div.first {u m v1 v0 : Int} (d : Div u m v1 v0) : IntKind.u64.wrap (u.tdiv v1) = u / v1 ∧ IntKind.u64.wrap (u - IntKind.u64.wrap (u / v1 * v1)) = u % v1 := by
  have i := Inv.start d
  have ub := d.u_lt
  have u0 := d.u0
  have a := d.v1a
  have := i.q0
  have := i.q1
  have := i.is
  have := i.r0
  have := i.r1
  have hX : 0 ≤ u / v1 * v1 := Int.mul_nonneg i.q0 (by omega)
  constructor
  · rw [Int.tdiv_eq_ediv_of_nonneg u0]; exact wrap_u64 i.q0 (by omega)
  · rw [wrap_u64 hX (by omega), wrap_u64 (by omega) (by omega)]; omega
/-- the second round's numbers -/
theorem Div.second {u m1 v1 v0 m0 v : Int} (d : Div u m1 v1 v0) (hv : v = v1 * 4294967296 + v0) (a : 0 ≤ m0) (b : m0 < 4294967296) :
    IntKind.u64.wrap (IntKind.u64.wrap (IntKind.u64.wrap (u * 4294967296) + m1) - IntKind.u64.wrap ((u * 4294967296 + m1) / (v1 * 4294967296 + v0) * v)) = (u * 4294967296 + m1) % v ∧ Div ((u * 4294967296 + m1) % v) m0 v1 v0 := by
  have hp := d.pos
  rw [← hv] at hp
  have h1 := d.v1b
  have h0 := d.v0b
  constructor
  · rw [← left_is (u := u) (m := m1) (v := v) (q := (u * 4294967296 + m1) / (v1 * 4294967296 + v0)) hp (by omega) (by rw [hv])]
    simp only [wrap_u64_mod]
    generalize (u * 4294967296 + m1) / (v1 * 4294967296 + v0) * v = X
    omega
  · refine ⟨d.v1a, d.v1b, d.v0a, d.v0b, Int.emod_nonneg _ (by omega), ?_, a, b⟩
    rw [← hv]; exact Int.emod_lt_of_pos _ hp
theorem Div.quo {u m v1 v0 : Int} (d : Div u m v1 v0) : 0 ≤ (u * 4294967296 + m) / (v1 * 4294967296 + v0) ∧ (u * 4294967296 + m) / (v1 * 4294967296 + v0) < 4294967296 :=
  ⟨Int.ediv_nonneg (by have := d.u0; have := d.m0; omega) (Int.le_of_lt d.pos), quo_lt d.pos d.uv d.m1⟩
theorem Div.whole {u m1 v1 v0 m0 v m : Int} (d : Div u m1 v1 v0) (hv : v = v1 * 4294967296 + v0) (hm : m = m1 * 4294967296 + m0) (a : 0 ≤ m0) (b : m0 < 4294967296) :
    IntKind.u64.wrap (IntKind.u64.wrap ((u * 4294967296 + m1) / (v1 * 4294967296 + v0) * 4294967296) + ((u * 4294967296 + m1) % v * 4294967296 + m0) / (v1 * 4294967296 + v0)) = (u * 18446744073709551616 + m) / v := by
  have q1 := d.quo
  have q2 := (d.second hv a b).2.quo
  have hp := d.pos
  rw [hm, hv, two_rounds hp]
  rw [hv] at q2
  generalize (u * 4294967296 + m1) / (v1 * 4294967296 + v0) = A at *
  generalize ((u * 4294967296 + m1) % (v1 * 4294967296 + v0) * 4294967296 + m0) / (v1 * 4294967296 + v0) = B at *
  rw [wrap_u64_mod, wrap_u64_mod]
  omega
end Go.Proofs.Ytjdaiknmmplgpaa.Wd
