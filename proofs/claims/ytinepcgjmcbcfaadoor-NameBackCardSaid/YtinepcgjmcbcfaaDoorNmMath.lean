/- Plain facts on names: decimal digits, read from the left, and what names tell. No condition; nothing of the program is imported. -/
import Derived.Lib.ItoaNum
namespace Go.Proofs.YtinepcgjmcbcfaaDoor.Nm
open Go.Lib (decDigits nDigits decDigits_length)

/-- digits read on behind a number; none: they are none, or a 0 stands ahead -/
def rd : Nat → List UInt8 → Option Nat
  | n, [] => some n
  | n, c :: r => if c.toNat < 48 ∨ 57 < c.toNat ∨ (c.toNat = 48 ∧ n = 0) then none else rd (n * 10 + (c.toNat - 48)) r
/-- the number of at most 18 digits; 0: there is none -/
def num (l : List UInt8) : Nat := if 18 < l.length then 0 else (rd 0 l).getD 0

theorem rd_append : ∀ (a b : List UInt8) (n : Nat), rd n (a ++ b) = (rd n a).bind fun m => rd m b
  | [], b, n => rfl
  | c :: r, b, n => by
    simp only [List.cons_append, rd]
    split
    · rfl
    · exact rd_append r b _

theorem dig_nat (k : Nat) (h : k < 10) : (UInt8.ofNat (48 + k)).toNat = 48 + k := by
  rw [UInt8.toNat_ofNat']; omega

theorem dec_step (u : Nat) (h : 10 ≤ u) : decDigits u = decDigits (u / 10) ++ [UInt8.ofNat (48 + u % 10)] := by
  rw [decDigits, dif_neg (by omega)]
theorem dec_low (u : Nat) (h : u < 10) : decDigits u = [UInt8.ofNat (48 + u)] := by rw [decDigits, dif_pos h]

theorem rd_dec (u : Nat) (h : 1 ≤ u) : rd 0 (decDigits u) = some u := by
  induction u using Nat.strongRecOn with
  | _ u ih =>
    by_cases h10 : u < 10
    · rw [dec_low u h10]
      simp only [rd, dig_nat u h10]
      rw [if_neg (by omega)]
      exact congrArg some (by omega)
    · rw [dec_step u (by omega), rd_append, ih (u / 10) (by omega) (by omega)]
      simp only [Option.bind_some, rd, dig_nat (u % 10) (by omega)]
      rw [if_neg (by omega)]
      exact congrArg some (by omega)

theorem dec_of_rd : ∀ (r : List UInt8) (n u : Nat), 1 ≤ n → rd n r = some u → decDigits u = decDigits n ++ r ∧ n ≤ u
  | [], n, u, _, h => by
    simp only [rd, Option.some.injEq] at h
    subst h; simp
  | c :: r, n, u, hn, h => by
    simp only [rd] at h
    split at h
    · cases h
    rename_i hb
    have hc : c.toNat < 256 := c.toNat_lt
    obtain ⟨e, hle⟩ := dec_of_rd r (n * 10 + (c.toNat - 48)) u (by omega) h
    refine ⟨?_, by omega⟩
    rw [e, dec_step _ (by omega)]
    have e1 : (n * 10 + (c.toNat - 48)) / 10 = n := by omega
    have e2 : (n * 10 + (c.toNat - 48)) % 10 = c.toNat - 48 := by omega
    rw [e1, e2, List.append_assoc]
    have e3 : UInt8.ofNat (48 + (c.toNat - 48)) = c := by rw [show 48 + (c.toNat - 48) = c.toNat from by omega]; exact UInt8.ofNat_toNat
    rw [e3]; rfl

theorem dec_of_rd0 (l : List UInt8) (u : Nat) (hu : 1 ≤ u) (h : rd 0 l = some u) : decDigits u = l := by
  cases l with
  | nil => simp only [rd, Option.some.injEq] at h; omega
  | cons c r =>
    simp only [rd] at h
    split at h
    · cases h
    rename_i hb
    have hb2 : 48 < c.toNat ∧ c.toNat ≤ 57 := by simp only [and_true, not_or] at hb; omega
    clear hb
    obtain ⟨e, _⟩ := dec_of_rd r (0 * 10 + (c.toNat - 48)) u (by omega) h
    rw [e, dec_low _ (by omega)]
    have e3 : UInt8.ofNat (48 + (0 * 10 + (c.toNat - 48))) = c := by rw [show 48 + (0 * 10 + (c.toNat - 48)) = c.toNat from by omega]; exact UInt8.ofNat_toNat
    rw [e3]; rfl

theorem dec_lt (u : Nat) : u < 10 ^ (decDigits u).length := by
  induction u using Nat.strongRecOn with
  | _ u ih =>
    by_cases h10 : u < 10
    · rw [dec_low u h10]; simpa using h10
    · rw [dec_step u (by omega)]
      have := ih (u / 10) (by omega)
      simp only [List.length_append, List.length_singleton, Nat.pow_succ]
      omega
theorem dec_ge (u : Nat) (h : 1 ≤ u) : 10 ^ ((decDigits u).length - 1) ≤ u ∧ 1 ≤ (decDigits u).length := by
  induction u using Nat.strongRecOn with
  | _ u ih =>
    by_cases h10 : u < 10
    · rw [dec_low u h10]; exact ⟨h, Nat.le_refl 1⟩
    · rw [dec_step u (by omega)]
      obtain ⟨h1, h2⟩ := ih (u / 10) (by omega) (by omega)
      simp only [List.length_append, List.length_singleton, Nat.add_sub_cancel]
      refine ⟨?_, by omega⟩
      rw [show (decDigits (u / 10)).length = (decDigits (u / 10)).length - 1 + 1 from by omega, Nat.pow_succ]
      omega
/-- at most 18 digits: below 10 to the 18 -/
theorem dec_18 (u : Nat) (h : 1 ≤ u) : (decDigits u).length ≤ 18 ↔ u ≤ 999999999999999999 := by
  constructor
  · intro hl
    have h1 := dec_lt u
    have h2 : 10 ^ (decDigits u).length ≤ 10 ^ 18 := Nat.pow_le_pow_right (by decide) hl
    have h3 : (10 : Nat) ^ 18 = 1000000000000000000 := by decide
    omega
  · intro hu
    obtain ⟨h1, h2⟩ := dec_ge u h
    apply Nat.le_of_not_lt
    intro hl
    have h4 : 10 ^ 18 ≤ 10 ^ ((decDigits u).length - 1) := Nat.pow_le_pow_right (by decide) (by omega)
    have h3 : (10 : Nat) ^ 18 = 1000000000000000000 := by decide
    omega

theorem dec_19 (u : Nat) (hu : u < 9223372036854775808) : (decDigits u).length ≤ 19 := by
  by_cases h0 : u = 0
  · subst h0; rw [dec_low 0 (by decide)]; simp
  · obtain ⟨h1, h2⟩ := dec_ge u (by omega)
    apply Nat.le_of_not_lt
    intro hl
    have h4 : 10 ^ 19 ≤ 10 ^ ((decDigits u).length - 1) := Nat.pow_le_pow_right (by decide) (by omega)
    have h3 : (10 : Nat) ^ 19 = 10000000000000000000 := by decide
    omega

theorem num_dec (u : Nat) (h : 1 ≤ u) (h2 : u ≤ 999999999999999999) : num (decDigits u) = u := by
  unfold num
  rw [if_neg (by have := (dec_18 u h).2 h2; omega), rd_dec u h]; rfl
theorem dec_num (l : List UInt8) (h : 1 ≤ num l) : decDigits (num l) = l ∧ num l ≤ 999999999999999999 := by
  unfold num at *
  split at h
  · omega
  rename_i hl
  rw [if_neg hl]
  cases e : rd 0 l with
  | none => rw [e] at h; simp at h
  | some u =>
    rw [e] at h
    simp only [Option.getD_some] at h ⊢
    have h1 := dec_of_rd0 l u h e
    refine ⟨h1, (dec_18 u h).1 ?_⟩
    rw [h1]; omega
theorem num_nil : num [] = 0 := rfl

/-- the number is the one that has these digits -/
theorem num_is (l : List UInt8) (m : Nat) (h1 : 1 ≤ m) (h2 : m ≤ 999999999999999999) (h : decDigits m = l) : num l = m := by
  rw [← h]; exact num_dec m h1 h2

/-! names -/
def logN : List UInt8 := [108, 111, 103, 46]
def imgN : List UInt8 := [105, 109, 97, 103, 101, 46]
def mainN : List UInt8 := [109, 97, 105, 110]
def freshN : List UInt8 := [109, 97, 105, 110, 46, 110, 101, 119]

/-- the name that begins so, of that number -/
def nbd (h : List UInt8) (n : Int) : List UInt8 := if 1 ≤ n ∧ n ≤ 999999999999999999 then h ++ decDigits n.toNat else []
/-- the number behind a beginning; 0: there is none -/
def bhd (h l : List UInt8) : Nat := if h.isPrefixOf l then num (l.drop h.length) else 0
def nameOf (k n : Int) : List UInt8 :=
  if k = 1 then nbd logN n else if k = 2 then nbd imgN n else if k = 3 then mainN else if k = 4 then freshN else []
def kindOf (l : List UInt8) : Int × Int :=
  if l = mainN then (3, 0) else if l = freshN then (4, 0) else if 0 < bhd logN l then (1, (bhd logN l : Nat)) else if 0 < bhd imgN l then (2, (bhd imgN l : Nat)) else (0, 0)

theorem pre_append (h l : List UInt8) : h.isPrefixOf (h ++ l) = true := by rw [List.isPrefixOf_iff_prefix]; exact List.prefix_append _ _
theorem bhd_nbd (h : List UInt8) (n : Int) (h1 : 1 ≤ n) (h2 : n ≤ 999999999999999999) : bhd h (nbd h n) = n.toNat := by
  have e : nbd h n = h ++ decDigits n.toNat := if_pos ⟨h1, h2⟩
  rw [e]
  unfold bhd
  rw [if_pos (pre_append _ _), List.drop_left]
  exact num_dec _ (by omega) (by omega)
theorem nbd_bhd (h l : List UInt8) (hp : 0 < bhd h l) : nbd h (bhd h l : Nat) = l ∧ bhd h l ≤ 999999999999999999 := by
  unfold bhd at *
  split at hp
  · rename_i hpre
    rw [if_pos hpre]
    obtain ⟨h1, h2⟩ := dec_num _ hp
    refine ⟨?_, h2⟩
    unfold nbd
    rw [if_pos ⟨by omega, by omega⟩, Int.toNat_natCast, h1]
    obtain ⟨t, ht⟩ := List.isPrefixOf_iff_prefix.1 hpre
    rw [← ht, List.drop_left]
  · omega
theorem bhd_log_img (n : Int) : bhd logN (nbd imgN n) = 0 := by
  unfold bhd
  rw [if_neg]
  unfold nbd
  split
  · simp [logN, imgN, List.isPrefixOf]
  · simp [logN]
theorem nbd_ne (h : List UInt8) (n : Int) (k : List UInt8) (hh : ∀ t, h ++ t ≠ k) (hk : k ≠ []) : nbd h n ≠ k := by
  unfold nbd
  split
  · exact hh _
  · exact fun e => hk e.symm

theorem name_1 (n : Int) : nameOf 1 n = nbd logN n := rfl
theorem name_2 (n : Int) : nameOf 2 n = nbd imgN n := rfl
theorem name_3 (n : Int) : nameOf 3 n = mainN := rfl
theorem name_4 (n : Int) : nameOf 4 n = freshN := rfl
theorem name_else (k n : Int) (h : k < 1 ∨ 4 < k) : nameOf k n = [] := by
  unfold nameOf; rw [if_neg (by omega), if_neg (by omega), if_neg (by omega), if_neg (by omega)]
theorem nbd_some (h : List UInt8) (n : Int) (hn : nbd h n ≠ []) : 1 ≤ n ∧ n ≤ 999999999999999999 := by
  apply Classical.byContradiction
  intro hc
  exact hn (if_neg hc)
theorem kind_log (n : Int) (h : nbd logN n ≠ []) : kindOf (nbd logN n) = (1, n) := by
  obtain ⟨h1, h2⟩ := nbd_some _ _ h
  unfold kindOf
  rw [if_neg (nbd_ne _ _ _ (by intro t; simp [logN, mainN]) (by decide)), if_neg (nbd_ne _ _ _ (by intro t; simp [logN, freshN]) (by decide)), bhd_nbd _ _ h1 h2, if_pos (by omega)]
  rw [Int.toNat_of_nonneg (by omega)]
theorem kind_img (n : Int) (h : nbd imgN n ≠ []) : kindOf (nbd imgN n) = (2, n) := by
  obtain ⟨h1, h2⟩ := nbd_some _ _ h
  unfold kindOf
  rw [if_neg (nbd_ne _ _ _ (by intro t; simp [imgN, mainN]) (by decide)), if_neg (nbd_ne _ _ _ (by intro t; simp [imgN, freshN]) (by decide)), bhd_log_img, if_neg (by omega), bhd_nbd _ _ h1 h2, if_pos (by omega)]
  rw [Int.toNat_of_nonneg (by omega)]
theorem kind_main : kindOf mainN = (3, 0) := by decide
theorem kind_fresh : kindOf freshN = (4, 0) := by decide
/-- a name is of its kind and number -/
theorem kind_name (k n : Int) (h : nameOf k n ≠ []) : kindOf (nameOf k n) = (k, if k = 1 ∨ k = 2 then n else 0) ∧ 1 ≤ k ∧ k ≤ 4 := by
  have hk : 1 ≤ k ∧ k ≤ 4 := by
    apply Classical.byContradiction
    intro hc
    exact h (name_else k n (by omega))
  refine ⟨?_, hk⟩
  have : k = 1 ∨ k = 2 ∨ k = 3 ∨ k = 4 := by omega
  rcases this with rfl | rfl | rfl | rfl
  · rw [name_1] at h ⊢; rw [kind_log n h]; simp
  · rw [name_2] at h ⊢; rw [kind_img n h]; simp
  · rw [name_3, kind_main]; simp
  · rw [name_4, kind_fresh]; simp
theorem kind_cases (l : List UInt8) : (l = mainN ∧ kindOf l = (3, 0)) ∨ (l = freshN ∧ kindOf l = (4, 0)) ∨ (0 < bhd logN l ∧ kindOf l = (1, ((bhd logN l : Nat) : Int))) ∨ (0 < bhd imgN l ∧ kindOf l = (2, ((bhd imgN l : Nat) : Int))) ∨ kindOf l = (0, 0) := by
  unfold kindOf
  split
  · exact .inl ⟨by assumption, rfl⟩
  split
  · exact .inr (.inl ⟨by assumption, rfl⟩)
  split
  · exact .inr (.inr (.inl ⟨by assumption, rfl⟩))
  split
  · exact .inr (.inr (.inr (.inl ⟨by assumption, rfl⟩)))
  · exact .inr (.inr (.inr (.inr rfl)))
theorem name_kind (l : List UInt8) : (kindOf l).1 = 0 ∨ nameOf (kindOf l).1 (kindOf l).2 = l := by
  rcases kind_cases l with ⟨e, h⟩ | ⟨e, h⟩ | ⟨e, h⟩ | ⟨e, h⟩ | h <;> rw [h]
  · exact .inr e.symm
  · exact .inr e.symm
  · exact .inr (nbd_bhd _ _ e).1
  · exact .inr (nbd_bhd _ _ e).1
  · exact .inl rfl
theorem kind_bd (l : List UInt8) : 0 ≤ (kindOf l).1 ∧ (kindOf l).1 ≤ 4 ∧ 0 ≤ (kindOf l).2 ∧ (kindOf l).2 ≤ 999999999999999999 := by
  rcases kind_cases l with ⟨e, h⟩ | ⟨e, h⟩ | ⟨e, h⟩ | ⟨e, h⟩ | h <;> rw [h]
  · exact ⟨by decide, by decide, by decide, by decide⟩
  · exact ⟨by decide, by decide, by decide, by decide⟩
  · have := (nbd_bhd _ _ e).2; dsimp only; omega
  · have := (nbd_bhd _ _ e).2; dsimp only; omega
  · exact ⟨by decide, by decide, by decide, by decide⟩

/-! the numbers of some names, rising -/
def ins (n : Int) : List Int → List Int
  | [] => [n]
  | x :: r => if x ≤ n then x :: ins n r else n :: x :: r
/-- how many there are that are not above, at the beginning -/
def at_ (n : Int) : List Int → Nat
  | [] => 0
  | x :: r => if x ≤ n then at_ n r + 1 else 0
def nums (k : Int) (l : List (List UInt8)) : List Int := (l.filter fun s => (kindOf s).1 = k).map fun s => (kindOf s).2
def insAll (l : List Int) : List Int := l.foldl (fun o n => ins n o) []

theorem ins_at (n : Int) : ∀ l : List Int, ins n l = l.take (at_ n l) ++ n :: l.drop (at_ n l)
  | [] => rfl
  | x :: r => by
    simp only [ins, at_]
    split
    · simp [ins_at n r]
    · rfl
theorem at_le (n : Int) : ∀ l : List Int, at_ n l ≤ l.length
  | [] => Nat.le_refl _
  | x :: r => by
    simp only [at_]
    split
    · have := at_le n r; simp; omega
    · simp
theorem at_step (n : Int) : ∀ (l : List Int) (i : Nat), i < at_ n l → ∃ x, l[i]? = some x ∧ x ≤ n
  | [], i, h => by simp [at_] at h
  | x :: r, i, h => by
    simp only [at_] at h
    split at h
    · rename_i hx
      cases i with
      | zero => exact ⟨x, rfl, hx⟩
      | succ i => simpa using at_step n r i (by omega)
    · omega
theorem at_end (n : Int) : ∀ (l : List Int) (x : Int), l[at_ n l]? = some x → n < x
  | [], x, h => by simp at h
  | y :: r, x, h => by
    simp only [at_] at h
    split at h
    · exact at_end n r x (by simpa using h)
    · simp at h; omega
theorem ins_perm (n : Int) : ∀ l : List Int, (ins n l).Perm (n :: l)
  | [] => List.Perm.refl _
  | x :: r => by
    simp only [ins]
    split
    · exact ((ins_perm n r).cons x).trans (List.Perm.swap n x r)
    · exact List.Perm.refl _
theorem ins_mem (n x : Int) (l : List Int) (h : x ∈ ins n l) : x = n ∨ x ∈ l := by
  simpa using (ins_perm n l).mem_iff.1 h
theorem ins_sorted (n : Int) : ∀ l : List Int, l.Pairwise (· ≤ ·) → (ins n l).Pairwise (· ≤ ·)
  | [], _ => by simp [ins]
  | x :: r, h => by
    obtain ⟨h1, h2⟩ := List.pairwise_cons.1 h
    simp only [ins]
    split
    · rename_i hx
      refine List.pairwise_cons.2 ⟨fun y hy => ?_, ins_sorted n r h2⟩
      rcases ins_mem n y r hy with rfl | hy
      · exact hx
      · exact h1 y hy
    · rename_i hx
      refine List.pairwise_cons.2 ⟨fun y hy => ?_, h⟩
      rcases List.mem_cons.1 hy with rfl | hy
      · omega
      · have := h1 y hy; omega
theorem fold_sorted : ∀ (l o : List Int), o.Pairwise (· ≤ ·) → (l.foldl (fun o n => ins n o) o).Pairwise (· ≤ ·) ∧ (l.foldl (fun o n => ins n o) o).Perm (l ++ o)
  | [], o, h => ⟨h, List.Perm.refl _⟩
  | n :: r, o, h => by
    obtain ⟨h1, h2⟩ := fold_sorted r (ins n o) (ins_sorted n o h)
    refine ⟨h1, h2.trans ?_⟩
    exact ((List.Perm.append_left r (ins_perm n o)).trans (List.perm_middle)).trans (List.Perm.refl _)
theorem sorted_eq : ∀ (a b : List Int), a.Perm b → a.Pairwise (· ≤ ·) → b.Pairwise (· ≤ ·) → a = b
  | [], b, h, _, _ => (h.nil_eq)
  | x :: a, [], h, _, _ => by simpa using h.length_eq
  | x :: a, y :: b, h, ha, hb => by
    obtain ⟨ha1, ha2⟩ := List.pairwise_cons.1 ha
    obtain ⟨hb1, hb2⟩ := List.pairwise_cons.1 hb
    have hxy : x = y := by
      have h1 : x ≤ y := by
        rcases List.mem_cons.1 (h.mem_iff.2 (List.mem_cons_self (a := y) (l := b))) with e | e
        · omega
        · exact ha1 y e
      have h2 : y ≤ x := by
        rcases List.mem_cons.1 (h.mem_iff.1 (List.mem_cons_self (a := x) (l := a))) with e | e
        · omega
        · exact hb1 x e
      omega
    subst hxy
    rw [sorted_eq a b (List.Perm.cons_inv h) ha2 hb2]
/-- sorted at once, or one by one: the same -/
theorem sort_ins (l : List Int) : (l.mergeSort fun x y => decide (x ≤ y)) = insAll l := by
  obtain ⟨h1, h2⟩ := fold_sorted l [] List.Pairwise.nil
  refine sorted_eq _ _ ?_ ?_ h1
  · refine (List.mergeSort_perm _ _).trans ?_
    rw [List.append_nil] at h2; exact h2.symm
  · have := List.pairwise_mergeSort (le := fun x y : Int => decide (x ≤ y)) (by intro a b c h1 h2; simp at *; omega) (by intro a b; simp; omega) l
    exact this.imp (by simp)
theorem insAll_len (l : List Int) : (insAll l).length = l.length := by
  simpa [insAll] using (fold_sorted l [] List.Pairwise.nil).2.length_eq
theorem insAll_snoc (l : List Int) (n : Int) : insAll (l ++ [n]) = ins n (insAll l) := by simp [insAll]
theorem nums_snoc (k : Int) (l : List (List UInt8)) (s : List UInt8) : nums k (l ++ [s]) = if (kindOf s).1 = k then nums k l ++ [(kindOf s).2] else nums k l := by
  unfold nums
  rw [List.filter_append, List.map_append]
  by_cases h : (kindOf s).1 = k <;> simp [h]
theorem nums_len (k : Int) (l : List (List UInt8)) : (nums k l).length ≤ l.length := by
  unfold nums; rw [List.length_map]; exact List.length_filter_le _ _
theorem nums_bd (k : Int) (l : List (List UInt8)) : ∀ x ∈ nums k l, 0 ≤ x ∧ x ≤ 999999999999999999 := by
  intro x hx
  unfold nums at hx
  obtain ⟨s, _, rfl⟩ := List.mem_map.1 hx
  exact ⟨(kind_bd s).2.2.1, (kind_bd s).2.2.2⟩
theorem insAll_mem (l : List Int) (x : Int) : x ∈ insAll l ↔ x ∈ l := by
  simpa [insAll] using (fold_sorted l [] List.Pairwise.nil).2.mem_iff
end Go.Proofs.YtinepcgjmcbcfaaDoor.Nm
