/- What becomes of trees, plainly: levelled, put, dropped; they stay balanced, and their pairs are the document's. -/
import Derived.Test.YthcofcpnhopnnaaAvTree
set_option linter.unusedSimpArgs false
namespace Go.Proofs.Ythcofcpnhopnnaa.Av
open Go.RowKit

def lowL (k u : Int) (b : T) : T → T
  | .nil => .nil
  | .nd al ak au .nil => .nd al ak au (.nd .nil k u b)
  | .nd al ak au (.nd m mk mu r) => if (T.nd m mk mu r).ht ≤ al.ht then .nd al ak au (.nd (.nd m mk mu r) k u b) else .nd (.nd al ak au m) mk mu (.nd r k u b)
def lowR (a : T) (k u : Int) : T → T
  | .nil => .nil
  | .nd .nil bk bu br => .nd (.nd a k u .nil) bk bu br
  | .nd (.nd m mk mu r) bk bu br => if (T.nd m mk mu r).ht ≤ br.ht then .nd (.nd a k u (.nd m mk mu r)) bk bu br else .nd (.nd a k u m) mk mu (.nd r bk bu br)
def lvl (a : T) (k u : Int) (b : T) : T := if a.ht = b.ht + 2 then lowL k u b a else if b.ht = a.ht + 2 then lowR a k u b else .nd a k u b
theorem lowL_nd (k u : Int) (b al : T) (ak au : Int) (m : T) (mk mu : Int) (r : T) : lowL k u b (.nd al ak au (.nd m mk mu r)) = if (T.nd m mk mu r).ht ≤ al.ht then .nd al ak au (.nd (.nd m mk mu r) k u b) else .nd (.nd al ak au m) mk mu (.nd r k u b) := rfl
theorem lowR_nd (a : T) (k u : Int) (m : T) (mk mu : Int) (r : T) (bk bu : Int) (br : T) : lowR a k u (.nd (.nd m mk mu r) bk bu br) = if (T.nd m mk mu r).ht ≤ br.ht then .nd (.nd a k u (.nd m mk mu r)) bk bu br else .nd (.nd a k u m) mk mu (.nd r bk bu br) := rfl
/-- a levelled tree -/
structure Lvl (t : T) (l : List Pr) (m : Nat) (near : Prop) : Prop where
  bal : t.Bal
  toL : t.toL = l
  ge : m ≤ t.ht
  le : t.ht ≤ m + 1
  eq : near → t.ht = m + 1
theorem ht_nd (a : T) (k u : Int) (b : T) : (T.nd a k u b).ht = max a.ht b.ht + 1 := rfl
theorem bal_nd (a : T) (k u : Int) (b : T) : (T.nd a k u b).Bal ↔ a.Bal ∧ b.Bal ∧ a.ht ≤ b.ht + 1 ∧ b.ht ≤ a.ht + 1 := Iff.rfl
theorem toL_nd (a : T) (k u : Int) (b : T) : (T.nd a k u b).toL = a.toL ++ (k, u) :: b.toL := rfl
theorem ht_nil : T.nil.ht = 0 := rfl
theorem lvl_is (a : T) (k u : Int) (b : T) (ha : a.Bal) (hb : b.Bal) (h1 : a.ht ≤ b.ht + 2) (h2 : b.ht ≤ a.ht + 2) :
    Lvl (lvl a k u b) (a.toL ++ (k, u) :: b.toL) (max a.ht b.ht) (a.ht ≤ b.ht + 1 ∧ b.ht ≤ a.ht + 1) := by
  unfold lvl
  by_cases c1 : a.ht = b.ht + 2
  · rw [if_pos c1]
    cases a with
    | nil => simp [ht_nil] at c1
    | nd al ak au ar =>
      rw [bal_nd] at ha
      rw [ht_nd] at c1 h1 h2 ⊢
      obtain ⟨a1, a2, a3, a4⟩ := ha
      cases ar with
      | nil =>
        rw [ht_nil] at *
        unfold lowL
        refine ⟨?_, by simp [toL_nd], ?_, ?_, ?_⟩ <;> simp only [bal_nd, ht_nd, ht_nil] <;> first | omega | (refine ⟨a1, ⟨trivial, hb, ?_, ?_⟩, ?_, ?_⟩ <;> omega)
      | nd m mk mu r =>
        rw [bal_nd] at a2
        rw [ht_nd] at *
        obtain ⟨b1, b2, b3, b4⟩ := a2
        rw [lowL_nd, ht_nd]
        split
        · refine ⟨?_, by simp [toL_nd], ?_, ?_, ?_⟩ <;> simp only [bal_nd, ht_nd] <;> first | omega | (refine ⟨a1, ⟨⟨b1, b2, ?_, ?_⟩, hb, ?_, ?_⟩, ?_, ?_⟩ <;> omega)
        · refine ⟨?_, by simp [toL_nd], ?_, ?_, ?_⟩ <;> simp only [bal_nd, ht_nd] <;> first | omega | (refine ⟨⟨a1, b1, ?_, ?_⟩, ⟨b2, hb, ?_, ?_⟩, ?_, ?_⟩ <;> omega)
  · rw [if_neg c1]
    by_cases c2 : b.ht = a.ht + 2
    · rw [if_pos c2]
      cases b with
      | nil => simp [ht_nil] at c2
      | nd bl bk bu br =>
        rw [bal_nd] at hb
        rw [ht_nd] at c1 c2 h1 h2 ⊢
        obtain ⟨a1, a2, a3, a4⟩ := hb
        cases bl with
        | nil =>
          rw [ht_nil] at *
          unfold lowR
          refine ⟨?_, by simp [toL_nd], ?_, ?_, ?_⟩ <;> simp only [bal_nd, ht_nd, ht_nil] <;> first | omega | (refine ⟨⟨ha, trivial, ?_, ?_⟩, a2, ?_, ?_⟩ <;> omega)
        | nd m mk mu r =>
          rw [bal_nd] at a1
          rw [ht_nd] at *
          obtain ⟨b1, b2, b3, b4⟩ := a1
          rw [lowR_nd, ht_nd]
          split
          · refine ⟨?_, by simp [toL_nd], ?_, ?_, ?_⟩ <;> simp only [bal_nd, ht_nd] <;> first | omega | (refine ⟨⟨ha, ⟨b1, b2, ?_, ?_⟩, ?_, ?_⟩, a2, ?_, ?_⟩ <;> omega)
          · refine ⟨?_, by simp [toL_nd], ?_, ?_, ?_⟩ <;> simp only [bal_nd, ht_nd] <;> first | omega | (refine ⟨⟨ha, b1, ?_, ?_⟩, ⟨b2, a2, ?_, ?_⟩, ?_, ?_⟩ <;> omega)
    · rw [if_neg c2]
      exact ⟨⟨ha, hb, by omega, by omega⟩, rfl, by rw [ht_nd]; omega, by rw [ht_nd]; omega, fun _ => by rw [ht_nd]⟩

/-! Put. -/
def putT : T → Int → Int → T
  | .nil, key, value => .nd .nil key value .nil
  | .nd a k u b, key, value => if key < k then lvl (putT a key value) k u b else if k < key then lvl a k u (putT b key value) else .nd a key value b
theorem putT_is (key value : Int) : ∀ t : T, t.Bal → Sorted t.toL → (putT t key value).Bal ∧ (putT t key value).toL = putM t.toL key value ∧ t.ht ≤ (putT t key value).ht ∧ (putT t key value).ht ≤ t.ht + 1
  | .nil, _, _ => by
    refine ⟨⟨trivial, trivial, Nat.zero_le _, Nat.zero_le _⟩, rfl, Nat.zero_le _, ?_⟩
    show max 0 0 + 1 ≤ 0 + 1; omega
  | .nd a k u b, hb, hs => by
    rw [bal_nd] at hb
    obtain ⟨b1, b2, b3, b4⟩ := hb
    rw [toL_nd, sorted_mid] at hs
    obtain ⟨s1, s2, s3, s4⟩ := hs
    obtain ⟨i1, i2, i3, i4⟩ := putT_is key value a b1 s1
    obtain ⟨j1, j2, j3, j4⟩ := putT_is key value b b2 s2
    unfold putT
    rw [toL_nd, ht_nd]
    by_cases h1 : key < k
    · rw [if_pos h1, putM_left h1, ← i2]
      have L := lvl_is (putT a key value) k u b i1 b2 (by omega) (by omega)
      have := L.ge
      have := L.le
      refine ⟨L.bal, L.toL, ?_, ?_⟩
      all_goals
        by_cases hn : (putT a key value).ht ≤ b.ht + 1 ∧ b.ht ≤ (putT a key value).ht + 1
        · have := L.eq hn; omega
        · omega
    · rw [if_neg h1]
      by_cases h2 : k < key
      · rw [if_pos h2, putM_right s3 h2, ← j2]
        have L := lvl_is a k u (putT b key value) b1 j1 (by omega) (by omega)
        have := L.ge
        have := L.le
        refine ⟨L.bal, L.toL, ?_, ?_⟩
        all_goals
          by_cases hn : a.ht ≤ (putT b key value).ht + 1 ∧ (putT b key value).ht ≤ a.ht + 1
          · have := L.eq hn; omega
          · omega
      · rw [if_neg h2]
        obtain rfl : key = k := by omega
        rw [putM_here s3]
        exact ⟨⟨b1, b2, b3, b4⟩, rfl, by rw [ht_nd]; omega, by rw [ht_nd]; omega⟩

/-! Drop. -/
/-- the least pair -/
def lstP : T → Pr
  | .nil => (0, 0)
  | .nd .nil k u _ => (k, u)
  | .nd (.nd a j v c) _ _ _ => lstP (.nd a j v c)
theorem lstP_is : ∀ t : T, t ≠ .nil → ∃ r, t.toL = lstP t :: r
  | .nil, h => absurd rfl h
  | .nd .nil k u b, _ => ⟨b.toL, rfl⟩
  | .nd (.nd a j v c) k u b, _ => by
    obtain ⟨r, hr⟩ := lstP_is (.nd a j v c) (by intro h; cases h)
    refine ⟨r ++ (k, u) :: b.toL, ?_⟩
    rw [toL_nd, hr]
    rfl
def dropT : T → Int → T
  | .nil, _ => .nil
  | .nd a k u b, key => if key < k then lvl (dropT a key) k u b else if k < key then lvl a k u (dropT b key) else (match b with | .nil => a | .nd c j v d => lvl a (lstP (.nd c j v d)).1 (lstP (.nd c j v d)).2 (dropT (.nd c j v d) (lstP (.nd c j v d)).1))
theorem isAt_of_mem {l : List Pr} (h : Sorted l) {key u : Int} (hm : (key, u) ∈ l) : isAt l key = true := by
  obtain ⟨a, b, rfl⟩ := List.append_of_mem hm
  rw [sorted_mid] at h
  exact isAt_here h.2.2.1
theorem dropT_is : ∀ (t : T) (key : Int), t.Bal → Sorted t.toL → isAt t.toL key = true → (dropT t key).Bal ∧ (dropT t key).toL = dropM t.toL key ∧ (dropT t key).ht ≤ t.ht ∧ t.ht ≤ (dropT t key).ht + 1
  | .nil, key, _, _, h => by cases h
  | .nd a k u b, key, hb, hs, hat => by
    rw [bal_nd] at hb
    obtain ⟨b1, b2, b3, b4⟩ := hb
    rw [toL_nd] at hat hs
    rw [sorted_mid] at hs
    obtain ⟨s1, s2, s3, s4⟩ := hs
    unfold dropT
    rw [toL_nd, ht_nd]
    by_cases h1 : key < k
    · rw [isAt_left h1] at hat
      obtain ⟨i1, i2, i3, i4⟩ := dropT_is a key b1 s1 hat
      rw [if_pos h1, dropM_left s4 h1, ← i2]
      have L := lvl_is (dropT a key) k u b i1 b2 (by omega) (by omega)
      have := L.ge
      have := L.le
      refine ⟨L.bal, L.toL, ?_, ?_⟩
      all_goals
        by_cases hn : (dropT a key).ht ≤ b.ht + 1 ∧ b.ht ≤ (dropT a key).ht + 1
        · have := L.eq hn; omega
        · omega
    · rw [if_neg h1]
      by_cases h2 : k < key
      · rw [isAt_right s3 h2] at hat
        obtain ⟨j1, j2, j3, j4⟩ := dropT_is b key b2 s2 hat
        rw [if_pos h2, dropM_right s3 h2, ← j2]
        have L := lvl_is a k u (dropT b key) b1 j1 (by omega) (by omega)
        have := L.ge
        have := L.le
        refine ⟨L.bal, L.toL, ?_, ?_⟩
        all_goals
          by_cases hn : a.ht ≤ (dropT b key).ht + 1 ∧ (dropT b key).ht ≤ a.ht + 1
          · have := L.eq hn; omega
          · omega
      · rw [if_neg h2]
        obtain rfl : key = k := by omega
        rw [dropM_here s3 s4]
        cases b with
        | nil =>
          refine ⟨b1, by simp [T.toL], by rw [ht_nil] at *; show a.ht ≤ _; omega, ?_⟩
          rw [ht_nil] at *; show _ ≤ a.ht + 1; omega
        | nd c j v d =>
          change (lvl a (lstP (.nd c j v d)).1 (lstP (.nd c j v d)).2 (dropT (.nd c j v d) (lstP (.nd c j v d)).1)).Bal ∧ (lvl a (lstP (.nd c j v d)).1 (lstP (.nd c j v d)).2 (dropT (.nd c j v d) (lstP (.nd c j v d)).1)).toL = _ ∧ (lvl a (lstP (.nd c j v d)).1 (lstP (.nd c j v d)).2 (dropT (.nd c j v d) (lstP (.nd c j v d)).1)).ht ≤ _ ∧ _ ≤ (lvl a (lstP (.nd c j v d)).1 (lstP (.nd c j v d)).2 (dropT (.nd c j v d) (lstP (.nd c j v d)).1)).ht + 1
          generalize hB : T.nd c j v d = B at *
          obtain ⟨r, hr⟩ := lstP_is B (by rw [← hB]; intro h; cases h)
          have hmem : ((lstP B).1, (lstP B).2) ∈ B.toL := by rw [hr]; exact List.mem_cons_self ..
          obtain ⟨j1, j2, j3, j4⟩ := dropT_is B (lstP B).1 b2 s2 (isAt_of_mem s2 hmem)
          have hr2 : Sorted ([] ++ ((lstP B).1, (lstP B).2) :: r) := by
            have := s2; rw [hr] at this; exact this
          have hdrop : dropM B.toL (lstP B).1 = r := by
            rw [sorted_mid] at hr2
            have := dropM_here (v := (lstP B).2) hr2.2.2.1 hr2.2.2.2
            rw [hr]; exact this
          have L := lvl_is a (lstP B).1 (lstP B).2 (dropT B (lstP B).1) b1 j1 (by omega) (by omega)
          have hL := L.toL
          rw [j2, hdrop] at hL
          have := L.ge
          have := L.le
          refine ⟨L.bal, ?_, ?_, ?_⟩
          · rw [hL]
            conv => rhs; rw [hr]
          all_goals
            by_cases hn : a.ht ≤ (dropT B (lstP B).1).ht + 1 ∧ (dropT B (lstP B).1).ht ≤ a.ht + 1
            · have := L.eq hn; omega
            · omega
  termination_by t => SizeOf.sizeOf t
  decreasing_by all_goals (subst_vars; simp; try omega)
end Go.Proofs.Ythcofcpnhopnnaa.Av
