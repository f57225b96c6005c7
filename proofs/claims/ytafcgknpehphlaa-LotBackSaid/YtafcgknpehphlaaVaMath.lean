/- Plain facts on the digits of numbers to the base 128: what is put is taken as it was. No condition; nothing of the program is imported. -/
namespace Go.Proofs.Ytafcgknpehphlaa.Va

/-- the digits of a number, the lowest one first; all but the last one stand 128 higher -/
def digs (u : Nat) : List UInt8 :=
  if _h : u < 128 then [UInt8.ofNat u] else UInt8.ofNat (u % 128 + 128) :: digs (u / 128)
termination_by u

/-- what digits are worth -/
def val : List UInt8 → Nat
  | [] => 0
  | c :: r => c.toNat % 128 + 128 * val r

/-- the place of the first byte below 128, among so many first ones -/
def fst : Nat → List UInt8 → Option Nat
  | 0, _ => none
  | _, [] => none
  | m + 1, c :: r => if c.toNat < 128 then some 0 else (fst m r).map (· + 1)

/-- its place as a number; -1: there is none -/
def lastI (m : Nat) (s : List UInt8) : Int := match fst m s with | some k => k | none => -1

/-- what bytes begin with: the number, how many bytes it has, and the error's number (0: none; 2: no number; 3: too short) -/
def takeR (m : Nat) (s : List UInt8) : Nat × Nat × Nat :=
  match fst m s with
  | some k => if k ≠ 0 ∧ (s.getD k 0).toNat = 0 then (0, 0, 2) else (val (s.take (k + 1)) % 18446744073709551616, k + 1, 0)
  | none => if s.length < m then (0, 0, 3) else (0, 0, 2)

/-- the digits of numbers, one behind the other; those below 0 have none -/
def allD (zs : List Int) : List UInt8 := zs.flatMap fun z => if 0 ≤ z then digs z.toNat else []

theorem digs_lt {u : Nat} (h : u < 128) : digs u = [UInt8.ofNat u] := by rw [digs, dif_pos h]
theorem digs_ge {u : Nat} (h : 128 ≤ u) : digs u = UInt8.ofNat (u % 128 + 128) :: digs (u / 128) := by rw [digs, dif_neg (by omega)]

theorem toNat_ofNat {n : Nat} (h : n < 256) : (UInt8.ofNat n).toNat = n := by simp [UInt8.toNat_ofNat']; omega

theorem digs_ne (u : Nat) : digs u ≠ [] := by
  by_cases h : u < 128
  · rw [digs_lt h]; simp
  · rw [digs_ge (by omega)]; simp

theorem digs_pos (u : Nat) : 1 ≤ (digs u).length := by
  have := digs_ne u
  cases h : digs u with
  | nil => exact absurd h this
  | cons a l => simp

theorem digs_len (k : Nat) : ∀ u, u < 128 ^ (k + 1) → (digs u).length ≤ k + 1 := by
  induction k with
  | zero => intro u h; rw [digs_lt (by simpa using h)]; simp
  | succ k ih =>
    intro u h
    by_cases h1 : u < 128
    · rw [digs_lt h1]; simp
    · rw [digs_ge (by omega)]
      have : u / 128 < 128 ^ (k + 1) := by
        rw [Nat.div_lt_iff_lt_mul (by omega)]
        rw [Nat.pow_succ] at h
        omega
      have := ih _ this
      simp only [List.length_cons]; omega

theorem digs_len10 {u : Nat} (h : u < 18446744073709551616) : (digs u).length ≤ 10 :=
  digs_len 9 u (Nat.lt_of_lt_of_le h (by decide))
theorem digs_len9 {u : Nat} (h : u < 9223372036854775808) : (digs u).length ≤ 9 :=
  digs_len 8 u (Nat.lt_of_lt_of_le h (by decide))

theorem val_digs (n : Nat) : ∀ u, u ≤ n → val (digs u) = u := by
  induction n with
  | zero => intro u h; rw [digs_lt (by omega)]; simp only [val]; rw [toNat_ofNat (by omega)]; omega
  | succ n ih =>
    intro u h
    by_cases h1 : u < 128
    · rw [digs_lt h1]; simp only [val]; rw [toNat_ofNat (by omega)]; omega
    · rw [digs_ge (by omega)]; simp only [val]; rw [toNat_ofNat (by omega), ih _ (by omega)]; omega

theorem val_digs' (u : Nat) : val (digs u) = u := val_digs u u (Nat.le_refl _)

/-- the last digit is reached, and not before -/
theorem fst_digs (n : Nat) : ∀ u m (s : List UInt8), u ≤ n → (digs u).length ≤ m → fst m (digs u ++ s) = some ((digs u).length - 1) := by
  induction n with
  | zero =>
    intro u m s h hm
    rw [digs_lt (by omega)] at hm ⊢
    obtain ⟨m, rfl⟩ : ∃ k, m = k + 1 := ⟨m - 1, by simp at hm; omega⟩
    simp only [List.cons_append, fst]; rw [toNat_ofNat (by omega), if_pos (by omega)]; rfl
  | succ n ih =>
    intro u m s h hm
    by_cases h1 : u < 128
    · rw [digs_lt (by omega)] at hm ⊢
      obtain ⟨m, rfl⟩ : ∃ k, m = k + 1 := ⟨m - 1, by simp at hm; omega⟩
      simp only [List.cons_append, fst]; rw [toNat_ofNat (by omega), if_pos (by omega)]; rfl
    · rw [digs_ge (by omega)] at hm ⊢
      obtain ⟨m, rfl⟩ : ∃ k, m = k + 1 := ⟨m - 1, by simp at hm; omega⟩
      simp only [List.cons_append, fst]
      have hp := digs_pos (u / 128)
      rw [toNat_ofNat (by omega), if_neg (by omega), ih (u / 128) m s (by omega) (by simpa using hm)]
      simp only [Option.map_some, List.length_cons]
      congr 1; omega

/-- the highest digit is not 0, but of one alone -/
theorem last_digs (n : Nat) : ∀ u, u ≤ n → (digs u).length = 1 ∨ ((digs u).getD ((digs u).length - 1) 0).toNat ≠ 0 := by
  induction n with
  | zero => intro u h; left; rw [digs_lt (by omega)]; rfl
  | succ n ih =>
    intro u h
    by_cases h1 : u < 128
    · left; rw [digs_lt (by omega)]; rfl
    · right
      rw [digs_ge (by omega)]
      have hp := digs_pos (u / 128)
      obtain ⟨k, hk⟩ : ∃ k, (digs (u / 128)).length = k + 1 := ⟨(digs (u / 128)).length - 1, by omega⟩
      simp only [List.length_cons, Nat.add_sub_cancel]
      rw [hk]
      simp only [List.getD_cons_succ]
      rcases ih (u / 128) (by omega) with h2 | h2
      · have hv := val_digs' (u / 128)
        have h3 : u / 128 < 128 := by
          by_cases h4 : u / 128 < 128
          · exact h4
          · exfalso
            rw [digs_ge (by omega)] at h2
            simp at h2
            exact digs_ne _ h2
        rw [digs_lt h3] at hk ⊢
        obtain rfl : k = 0 := by simpa using hk.symm
        simp only [List.getD_cons_zero]
        rw [toNat_ofNat (by omega)]; omega
      · rw [hk] at h2; simpa using h2

theorem fst_some_iff : ∀ (m : Nat) (s : List UInt8) (k : Nat), fst m s = some k ↔
    (k < m ∧ k < s.length ∧ (s.getD k 0).toNat < 128 ∧ ∀ j, j < k → 128 ≤ (s.getD j 0).toNat) := by
  intro m
  induction m with
  | zero => intro s k; simp [fst]
  | succ m ih =>
    intro s k
    cases s with
    | nil => simp [fst]
    | cons c r =>
      simp only [fst]
      by_cases h : c.toNat < 128
      · rw [if_pos h]
        constructor
        · intro e; obtain rfl : k = 0 := by simpa using e.symm
          exact ⟨by omega, by simp, by simpa using h, by intro j hj; omega⟩
        · rintro ⟨_, _, _, h4⟩
          cases k with
          | zero => rfl
          | succ k => have := h4 0 (by omega); simp at this; omega
      · rw [if_neg h]
        cases k with
        | zero =>
          constructor
          · intro e; cases hf : fst m r <;> simp [hf] at e
          · rintro ⟨_, _, h3, _⟩; simp at h3; omega
        | succ k =>
          have : ((fst m r).map (· + 1) = some (k + 1)) ↔ fst m r = some k := by
            cases fst m r <;> simp
          rw [this, ih r k]
          constructor
          · rintro ⟨a, b, c', d⟩
            refine ⟨by omega, by simp; omega, by simpa using c', ?_⟩
            intro j hj
            cases j with
            | zero => simp; omega
            | succ j => simpa using d j (by omega)
          · rintro ⟨a, b, c', d⟩
            exact ⟨by omega, by simpa using b, by simpa using c', fun j hj => by simpa using d (j + 1) (by omega)⟩

theorem fst_none_iff : ∀ (m : Nat) (s : List UInt8), fst m s = none ↔ ∀ j, j < m → j < s.length → 128 ≤ (s.getD j 0).toNat := by
  intro m
  induction m with
  | zero => intro s; simp [fst]
  | succ m ih =>
    intro s
    cases s with
    | nil => simp [fst]
    | cons c r =>
      simp only [fst]
      by_cases h : c.toNat < 128
      · rw [if_pos h]
        constructor
        · intro e; cases e
        · intro h4; have := h4 0 (by omega) (by simp); simp at this; omega
      · rw [if_neg h]
        have : ((fst m r).map (· + 1) = none) ↔ fst m r = none := by cases fst m r <;> simp
        rw [this, ih r]
        constructor
        · intro d j hj hl
          cases j with
          | zero => simp; omega
          | succ j => simpa using d j (by omega) (by simpa using hl)
        · intro d j hj hl
          simpa using d (j + 1) (by omega) (by simpa using hl)

/-- what was taken was put so -/
theorem digs_val : ∀ (k : Nat) (s : List UInt8), k < s.length → (s.getD k 0).toNat < 128 → (∀ j, j < k → 128 ≤ (s.getD j 0).toNat) →
    (k = 0 ∨ (s.getD k 0).toNat ≠ 0) → digs (val (s.take (k + 1))) = s.take (k + 1) := by
  intro k
  induction k with
  | zero =>
    intro s hl h0 _ _
    cases s with
    | nil => simp at hl
    | cons c r =>
      simp at h0
      simp only [List.take_succ_cons, List.take_zero, val]
      rw [digs_lt (by omega)]
      congr 1
      apply UInt8.toNat_inj.1
      rw [toNat_ofNat (by omega)]; omega
  | succ k ih =>
    intro s hl h0 hj hz
    cases s with
    | nil => simp at hl
    | cons c r =>
      have hc := hj 0 (by omega)
      simp at hc
      have hb := c.toNat_lt
      have ih' := ih r (by simpa using hl) (by simpa using h0) (fun j hjk => by simpa using hj (j + 1) (by omega)) (by
        rcases hz with hz | hz
        · omega
        · right; simpa using hz)
      have hpos : 1 ≤ val (r.take (k + 1)) := by
        by_cases h1 : 1 ≤ val (r.take (k + 1))
        · exact h1
        · exfalso
          have e0 : val (r.take (k + 1)) = 0 := by omega
          rw [e0, digs_lt (by omega)] at ih'
          have hlen : (r.take (k + 1)).length = k + 1 := by rw [List.length_take]; simp at hl; omega
          rw [← ih'] at hlen
          obtain rfl : k = 0 := by simpa using hlen.symm
          cases r with
          | nil => simp at hl
          | cons d r =>
            simp at ih'
            rcases hz with hz | hz
            · omega
            · simp at hz; rw [← ih'] at hz; simp at hz
      rw [List.take_succ_cons]
      simp only [val]
      rw [digs_ge (by omega)]
      have e1 : (c.toNat % 128 + 128 * val (r.take (k + 1))) / 128 = val (r.take (k + 1)) := by omega
      have e2 : (c.toNat % 128 + 128 * val (r.take (k + 1))) % 128 + 128 = c.toNat := by omega
      rw [e1, e2, ih']
      congr 1
      apply UInt8.toNat_inj.1
      rw [toNat_ofNat (by omega)]

theorem val_lt : ∀ s : List UInt8, val s < 128 ^ s.length := by
  intro s
  induction s with
  | nil => simp [val]
  | cons c r ih => simp only [val, List.length_cons, Nat.pow_succ]; omega

theorem val_snoc : ∀ (s : List UInt8) (c : UInt8), val (s ++ [c]) = val s + c.toNat % 128 * 128 ^ s.length := by
  intro s
  induction s with
  | nil => intro c; simp [val]
  | cons d r ih =>
    intro c
    simp only [List.cons_append, val, ih, List.length_cons, Nat.pow_succ]
    rw [Nat.mul_add, ← Nat.mul_assoc, ← Nat.mul_assoc, Nat.mul_comm 128 (c.toNat % 128), Nat.mul_assoc (c.toNat % 128), Nat.mul_comm 128 (128 ^ r.length), Nat.mul_assoc]
    omega

theorem digs_mono (n : Nat) : ∀ a b, b ≤ n → a ≤ b → (digs a).length ≤ (digs b).length := by
  induction n with
  | zero => intro a b h1 h2; obtain rfl : a = b := by omega
            exact Nat.le_refl _
  | succ n ih =>
    intro a b h1 h2
    by_cases ha : a < 128
    · rw [digs_lt ha]; simpa using digs_pos b
    · rw [digs_ge (u := a) (by omega), digs_ge (u := b) (by omega)]
      have := ih (a / 128) (b / 128) (by omega) (Nat.div_le_div_right h2)
      simpa using this

theorem allD_snoc (zs : List Int) (z : Int) : allD (zs ++ [z]) = allD zs ++ if 0 ≤ z then digs z.toNat else [] := by
  simp [allD]

theorem take_snoc_int (zs : List Int) (k : Nat) (h : k < zs.length) : zs.take (k + 1) = zs.take k ++ [zs[k]?.getD 0] := by
  rw [List.take_add_one, List.getElem?_eq_getElem h]; rfl

end Go.Proofs.Ytafcgknpehphlaa.Va
