/- Sums of 32 bits, in plain numbers: steps, tables of four bits, parts, and that bits that are changed are found. -/
import Init
namespace Go.Proofs.Ytjmkjdflfmjliaa.Cr

/-- a step -/
def st (n : Nat) : Nat := if n % 2 = 1 then n / 2 ^^^ 2197175160 else n / 2
/-- so many steps -/
def sts : Nat → Nat → Nat
  | 0, n => n
  | k + 1, n => sts k (st n)
/-- what a number becomes by bytes -/
def feed (n : Nat) : List UInt8 → Nat
  | [] => n
  | c :: l => feed (sts 8 (n ^^^ c.toNat)) l
/-- the sum of bytes behind a number's -/
def sumB (n : Nat) (l : List UInt8) : Nat := feed (n ^^^ 4294967295) l ^^^ 4294967295

theorem st_lt {n : Nat} (h : n < 4294967296) : st n < 4294967296 := by
  unfold st
  split
  · exact Nat.xor_lt_two_pow (n := 32) (by omega) (by omega)
  · omega
theorem sts_lt (k : Nat) : ∀ {n : Nat}, n < 4294967296 → sts k n < 4294967296 := by
  induction k with
  | zero => exact fun h => h
  | succ k ih => exact fun h => ih (st_lt h)
theorem sts_snoc (k n : Nat) : sts (k + 1) n = st (sts k n) := by
  induction k generalizing n with
  | zero => rfl
  | succ k ih => exact ih (st n)
theorem xor_lt {a b : Nat} (ha : a < 4294967296) (hb : b < 4294967296) : a ^^^ b < 4294967296 :=
  Nat.xor_lt_two_pow (n := 32) ha hb
theorem byte_lt (c : UInt8) : c.toNat < 256 := c.toNat_lt
theorem feed_lt (l : List UInt8) : ∀ {n : Nat}, n < 4294967296 → feed n l < 4294967296 := by
  induction l with
  | nil => exact fun h => h
  | cons c l ih => exact fun h => ih (sts_lt 8 (xor_lt h (Nat.lt_trans (byte_lt c) (by decide))))
theorem feed_append (a b : List UInt8) (n : Nat) : feed n (a ++ b) = feed (feed n a) b := by
  induction a generalizing n with
  | nil => rfl
  | cons c a ih => exact ih _
theorem feed_snoc (a : List UInt8) (c : UInt8) (n : Nat) : feed n (a ++ [c]) = sts 8 (feed n a ^^^ c.toNat) := by
  rw [feed_append]; rfl

theorem xor_div (a b : Nat) : (a ^^^ b) / 2 = a / 2 ^^^ b / 2 := by
  apply Nat.eq_of_testBit_eq
  intro i
  simp [Nat.testBit_div_two]
theorem xor_mod (a b : Nat) : (a ^^^ b) % 2 = (a % 2 + b % 2) % 2 := by
  have := Nat.xor_mod_two_pow (a := a) (b := b) (n := 1)
  rw [Nat.pow_one] at this
  rw [this]
  rcases Nat.mod_two_eq_zero_or_one a with h | h <;> rcases Nat.mod_two_eq_zero_or_one b with h' | h' <;> rw [h, h'] <;> rfl
theorem xor_self_mid (a b k : Nat) : a ^^^ k ^^^ (b ^^^ k) = a ^^^ b := by
  apply Nat.eq_of_testBit_eq
  intro i
  simp only [Nat.testBit_xor]
  cases a.testBit i <;> cases b.testBit i <;> cases k.testBit i <;> rfl
theorem xor_right (a b k : Nat) : a ^^^ b ^^^ k = a ^^^ k ^^^ b := by
  rw [Nat.xor_assoc, Nat.xor_assoc, Nat.xor_comm b k]
/-- a step of two numbers laid over one another is what both become -/
theorem st_xor (a b : Nat) : st (a ^^^ b) = st a ^^^ st b := by
  unfold st
  rw [xor_div, xor_mod]
  rcases Nat.mod_two_eq_zero_or_one a with h | h <;> rcases Nat.mod_two_eq_zero_or_one b with h' | h' <;> rw [h, h'] <;> simp
  · rw [Nat.xor_assoc]
  · rw [xor_right]
  · exact (xor_self_mid _ _ _).symm
theorem sts_xor (k a b : Nat) : sts k (a ^^^ b) = sts k a ^^^ sts k b := by
  induction k generalizing a b with
  | zero => rfl
  | succ k ih => show sts k (st (a ^^^ b)) = _; rw [st_xor, ih]; rfl
theorem st_two (y : Nat) : st (2 * y) = y := by unfold st; rw [if_neg (by omega)]; omega
theorem sts_pow (k y : Nat) : sts k (2 ^ k * y) = y := by
  induction k generalizing y with
  | zero => simp [sts]
  | succ k ih => show sts k (st (2 ^ (k + 1) * y)) = y; rw [Nat.pow_succ, Nat.mul_comm (2 ^ k) 2, Nat.mul_assoc, st_two, ih]
theorem sts_add (j k n : Nat) : sts (j + k) n = sts k (sts j n) := by
  induction j generalizing n with
  | zero => simp [sts]
  | succ j ih => rw [Nat.add_right_comm]; exact ih (st n)

theorem split16 (n : Nat) : n = 2 ^ 4 * (n / 16) ^^^ n % 16 := by
  apply Nat.eq_of_testBit_eq
  intro i
  rw [Nat.testBit_xor, show n / 16 = n / 2 ^ 4 from rfl, show n % 16 = n % 2 ^ 4 from rfl, Nat.testBit_two_pow_mul, Nat.testBit_div_two_pow, Nat.testBit_mod_two_pow]
  by_cases h : 4 ≤ i
  · have h' : ¬ i < 4 := by omega
    rw [show i - 4 + 4 = i from by omega]; simp [h, h']
  · have h' : i < 4 := by omega
    simp [h, h']
/-- four steps by a table of what four bits become -/
theorem four (n : Nat) : n / 16 ^^^ sts 4 (n % 16) = sts 4 n := by
  conv => rhs; rw [split16 n]
  rw [sts_xor, sts_pow]

theorem st_odd {n : Nat} (hn : n < 4294967296) (h : n % 2 = 1) : 2147483648 ≤ st n := by
  unfold st
  rw [if_pos h]
  refine Nat.ge_two_pow_of_testBit (i := 31) ?_
  rw [Nat.testBit_xor, Nat.testBit_lt_two_pow (show n / 2 < 2 ^ 31 from by omega)]
  decide
theorem st_even {n : Nat} (hn : n < 4294967296) (h : n % 2 = 0) : st n < 2147483648 := by
  unfold st; rw [if_neg (by omega)]; omega
theorem xor_cancel {a b k : Nat} (h : a ^^^ k = b ^^^ k) : a = b := by
  have := congrArg (· ^^^ k) h
  simpa [Nat.xor_assoc] using this
theorem st_inj {a b : Nat} (ha : a < 4294967296) (hb : b < 4294967296) (h : st a = st b) : a = b := by
  rcases Nat.mod_two_eq_zero_or_one a with ea | ea <;> rcases Nat.mod_two_eq_zero_or_one b with eb | eb
  · unfold st at h; rw [if_neg (by omega), if_neg (by omega)] at h; omega
  · have := st_even ha ea; have := st_odd hb eb; omega
  · have := st_odd ha ea; have := st_even hb eb; omega
  · unfold st at h; rw [if_pos ea, if_pos eb] at h
    have := xor_cancel h; omega
theorem sts_inj (k : Nat) {a b : Nat} (ha : a < 4294967296) (hb : b < 4294967296) (h : sts k a = sts k b) : a = b := by
  induction k generalizing a b with
  | zero => exact h
  | succ k ih => exact st_inj ha hb (ih (st_lt ha) (st_lt hb) h)
theorem feed_inj (l : List UInt8) {a b : Nat} (ha : a < 4294967296) (hb : b < 4294967296) (h : feed a l = feed b l) : a = b := by
  induction l generalizing a b with
  | nil => exact h
  | cons c l ih =>
    have hc : c.toNat < 4294967296 := Nat.lt_trans (byte_lt c) (by decide)
    exact xor_cancel (sts_inj 8 (xor_lt ha hc) (xor_lt hb hc) (ih (sts_lt 8 (xor_lt ha hc)) (sts_lt 8 (xor_lt hb hc)) h))
theorem back8 {x y : Nat} (hx : x < 4294967296) (hy : y < 16777216) (h : sts 8 x = y) : x = 256 * y :=
  sts_inj 8 hx (by omega) (h.trans (sts_pow 8 y).symm)
theorem xor_mid {a b c d : Nat} : (a ^^^ b) ^^^ (c ^^^ d) = (a ^^^ c) ^^^ (b ^^^ d) := by
  apply Nat.eq_of_testBit_eq
  intro i
  simp only [Nat.testBit_xor]
  cases a.testBit i <;> cases b.testBit i <;> cases c.testBit i <;> cases d.testBit i <;> rfl
theorem xor_zero_eq {a b : Nat} (h : a ^^^ b = 0) : a = b := by
  have := congrArg (· ^^^ b) h
  simpa [Nat.xor_assoc] using this
/-- the difference behind one more byte each -/
theorem diff_step (m n : Nat) (a b : Nat) : sts 8 (m ^^^ a) ^^^ sts 8 (n ^^^ b) = sts 8 ((m ^^^ n) ^^^ (a ^^^ b)) := by
  rw [← sts_xor, xor_mid]
/-- four bytes in which some bits differ never come to the same -/
theorem four_bytes {e0 e1 e2 e3 : Nat} (h0 : e0 < 256) (h1 : e1 < 256) (h2 : e2 < 256) (h3 : e3 < 256)
    (h : sts 8 (sts 8 (sts 8 (sts 8 e0 ^^^ e1) ^^^ e2) ^^^ e3) = 0) : e0 = 0 ∧ e1 = 0 ∧ e2 = 0 ∧ e3 = 0 := by
  generalize q1 : sts 8 e0 = d1 at h
  generalize q2 : sts 8 (d1 ^^^ e1) = d2 at h
  generalize q3 : sts 8 (d2 ^^^ e2) = d3 at h
  have l1 : d1 < 4294967296 := q1 ▸ sts_lt 8 (by omega)
  have l2 : d2 < 4294967296 := q2 ▸ sts_lt 8 (xor_lt l1 (by omega))
  have l3 : d3 < 4294967296 := q3 ▸ sts_lt 8 (xor_lt l2 (by omega))
  have r3 := back8 (xor_lt l3 (by omega)) (by omega) h
  have t3 : d3 = e3 := xor_zero_eq r3
  have r2 := back8 (xor_lt l2 (by omega)) (by omega) q3
  have t2 : d2 < 2 ^ 16 := by
    have : d2 = (256 * d3) ^^^ e2 := by rw [← r2, Nat.xor_assoc, Nat.xor_self, Nat.xor_zero]
    rw [this]; exact Nat.xor_lt_two_pow (by omega) (by omega)
  have r1 := back8 (xor_lt l1 (by omega)) (by omega) q2
  have t1 : d1 < 2 ^ 24 := by
    have : d1 = (256 * d2) ^^^ e1 := by rw [← r1, Nat.xor_assoc, Nat.xor_self, Nat.xor_zero]
    rw [this]; exact Nat.xor_lt_two_pow (by omega) (by omega)
  have r0 := back8 (by omega) (by omega) q1
  have z1 : d1 = 0 := by omega
  subst z1
  rw [Nat.zero_xor] at r1
  have z2 : d2 = 0 := by omega
  subst z2
  rw [Nat.zero_xor] at r2
  omega
theorem finds_from (m : Nat) (hm : m < 4294967296) (q : List UInt8) (a0 a1 a2 a3 b0 b1 b2 b3 : UInt8)
    (h : feed m ([a0, a1, a2, a3] ++ q) = feed m ([b0, b1, b2, b3] ++ q)) : a0 = b0 ∧ a1 = b1 ∧ a2 = b2 ∧ a3 = b3 := by
  rw [feed_append, feed_append] at h
  have h2 := feed_inj q (feed_lt _ hm) (feed_lt _ hm) h
  clear h
  have e : ∀ x y : UInt8, x.toNat ^^^ y.toNat < 256 := fun x y => Nat.xor_lt_two_pow (n := 8) (byte_lt x) (byte_lt y)
  have u : ∀ m (x y z t : UInt8), feed m [x, y, z, t] = sts 8 (sts 8 (sts 8 (sts 8 (m ^^^ x.toNat) ^^^ y.toNat) ^^^ z.toNat) ^^^ t.toNat) := fun _ _ _ _ _ => rfl
  rw [u, u] at h2
  have e1 : sts 8 (m ^^^ a0.toNat) ^^^ sts 8 (m ^^^ b0.toNat) = sts 8 (a0.toNat ^^^ b0.toNat) := by rw [diff_step, Nat.xor_self, Nat.zero_xor]
  have e2 := diff_step (sts 8 (m ^^^ a0.toNat)) (sts 8 (m ^^^ b0.toNat)) a1.toNat b1.toNat
  have e3 := diff_step (sts 8 (sts 8 (m ^^^ a0.toNat) ^^^ a1.toNat)) (sts 8 (sts 8 (m ^^^ b0.toNat) ^^^ b1.toNat)) a2.toNat b2.toNat
  have e4 := diff_step (sts 8 (sts 8 (sts 8 (m ^^^ a0.toNat) ^^^ a1.toNat) ^^^ a2.toNat)) (sts 8 (sts 8 (sts 8 (m ^^^ b0.toNat) ^^^ b1.toNat) ^^^ b2.toNat)) a3.toNat b3.toNat
  rw [h2, Nat.xor_self, e3, e2, e1] at e4
  obtain ⟨z0, z1, z2, z3⟩ := four_bytes (e _ _) (e _ _) (e _ _) (e _ _) e4.symm
  have f : ∀ x y : UInt8, x.toNat ^^^ y.toNat = 0 → x = y := fun x y h => UInt8.toNat_inj.1 (xor_zero_eq h)
  exact ⟨f _ _ z0, f _ _ z1, f _ _ z2, f _ _ z3⟩
/-- bytes in which four that follow one another differ by some bits never come to the same sum -/
theorem finds (n : Nat) (hn : n < 4294967296) (p q : List UInt8) (a0 a1 a2 a3 b0 b1 b2 b3 : UInt8)
    (h : sumB n (p ++ ([a0, a1, a2, a3] ++ q)) = sumB n (p ++ ([b0, b1, b2, b3] ++ q))) : a0 = b0 ∧ a1 = b1 ∧ a2 = b2 ∧ a3 = b3 := by
  have h1 : feed (n ^^^ 4294967295) (p ++ ([a0, a1, a2, a3] ++ q)) = feed (n ^^^ 4294967295) (p ++ ([b0, b1, b2, b3] ++ q)) := by
    unfold sumB at h
    exact xor_cancel (k := 4294967295) h
  rw [feed_append p, feed_append p] at h1
  exact finds_from _ (feed_lt p (xor_lt hn (by decide))) q _ _ _ _ _ _ _ _ h1
theorem sumB_lt {n : Nat} (h : n < 4294967296) (l : List UInt8) : sumB n l < 4294967296 :=
  xor_lt (feed_lt l (xor_lt h (by decide))) (by decide)
/-- the sum of what stands behind others -/
theorem sumB_append (n : Nat) (a b : List UInt8) : sumB n (a ++ b) = sumB (sumB n a) b := by
  unfold sumB
  rw [feed_append, Nat.xor_assoc, Nat.xor_self, Nat.xor_zero]
theorem sumB_nil (n : Nat) : sumB n [] = n := by
  show n ^^^ 4294967295 ^^^ 4294967295 = n
  rw [Nat.xor_assoc, Nat.xor_self, Nat.xor_zero]
end Go.Proofs.Ytjmkjdflfmjliaa.Cr
