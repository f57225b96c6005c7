/- The ways through a lot's bytes, plainly: what stands in each round, and what comes at the end. -/
import Derived.Test.YtafcgknpehphlaaLtMath
namespace Go.Proofs.Ytafcgknpehphlaa.Lt
open Go.RowKit
open Pk (tkN tkS rdNum rdText rdFlag byte_len')
open Cd (Rec Fit may recB zeroR rdAll rdRec)

theorem rdRec_size (s : ByteArray) (e : Nat) : (rdRec s e).2.1.size ≤ s.size := by
  obtain ⟨x, s1, e1, s2, e2, s3, e3, s4, e4, s5, e5, s6, e6, s7, e7, s8, e8, s9, e9, W, hW⟩ := Cd.way s e
  by_cases h : e9 = 0
  · subst h; rw [Cd.rdRec_ok hW]; exact W.z9
  · rw [Cd.rdRec_bad hW h]; exact W.z9
/-- what stands in the rounds: the records so far, what is left, the error, the next record -/
structure Rounds (s1 : ByteArray) (e1 : Nat) (L : Nat → List Rec) (S : Nat → ByteArray) (E : Nat → Nat) (X : Nat → Rec) : Prop where
  l0 : L 0 = []
  s0 : S 0 = s1
  e0 : E 0 = e1
  read : ∀ k, rdRec (S k) (E k) = (X k, S (k + 1), E (k + 1))
  next : ∀ k, L (k + 1) = L k ++ [X k]
  len : ∀ k, (L k).length = k
  size : ∀ k, (S k).size ≤ s1.size
/-- what comes at the end -/
structure Ends (s : ByteArray) (n : Nat) (L : Nat → List Rec) (S : Nat → ByteArray) (E : Nat → Nat) : Prop where
  err : Pk.endE (S n) (E n) ≠ 0 → takeL s = ([], Pk.endE (S n) (E n))
  fit : Pk.endE (S n) (E n) = 0 → ∀ x ∈ L n, Fit x
  ok : Pk.endE (S n) (E n) = 0 → (∀ x ∈ L n, may x = 0) → takeL s = (L n, 0)
  arg : Pk.endE (S n) (E n) = 0 → (∃ x ∈ L n, may x = 1) → takeL s = ([], 1)
theorem rounds (s1 : ByteArray) (e1 : Nat) : Rounds s1 e1 (fun k => (rds k s1 e1).1) (fun k => (rds k s1 e1).2.1) (fun k => (rds k s1 e1).2.2) (fun k => (rdRec (rds k s1 e1).2.1 (rds k s1 e1).2.2).1) := by
  refine ⟨by simp only [rds], by simp only [rds], by simp only [rds], fun k => ?_, fun k => ?_, fun k => rds_len k s1 e1, fun k => ?_⟩
  · simp only [rds_snoc]
  · simp only [rds_snoc]
  · induction k with
    | zero => simp only [rds]; exact Nat.le_refl _
    | succ k ih => simp only [rds_snoc]; exact Nat.le_trans (rdRec_size _ _) ih
theorem may_one {x : Rec} (h : ¬ may x = 0) : may x = 1 := by rcases Cd.may_01 x with g | g <;> omega
/-- the ways through a lot's bytes -/
theorem take_ways (s : ByteArray) : ∃ (n : Int) (s1 : ByteArray) (e1 : Nat), rdNum (tkN s) s 0 = (n, s1, e1) ∧ s1.size ≤ s.size ∧ (e1 ≠ 0 → n = 0) ∧ 0 ≤ n ∧ (e1 = 0 ∧ 256 < n → takeL s = ([], 12)) ∧
    (¬(e1 = 0 ∧ 256 < n) → ∃ (m : Nat) (L : Nat → List Rec) (S : Nat → ByteArray) (E : Nat → Nat) (X : Nat → Rec), n = (m : Int) ∧ m ≤ 256 ∧ Rounds s1 e1 L S E X ∧ Ends s m L S E) := by
  obtain ⟨⟨n, s1, e1⟩, h1⟩ : ∃ z, rdNum (tkN s) s 0 = z := ⟨_, rfl⟩
  have hz : s1.size ≤ s.size := by have := Cd.rdNum_size (tkN s) s 0; rw [h1] at this; exact this
  have hne : e1 ≠ 0 → n = 0 := fun he => by
    unfold rdNum at h1
    rw [if_pos rfl] at h1
    by_cases hk : (tkN s).2.2 = 0
    · rw [if_pos hk] at h1
      injection h1 with _ h2; injection h2 with _ h3
      exact absurd h3.symm he
    · rw [if_neg hk] at h1
      injection h1 with h2 _
      exact h2.symm
  have hge : 0 ≤ n := by
    by_cases he : e1 = 0
    · subst he; exact (Cd.num_back h1).2.2.1
    · rw [hne he]; exact Int.le_refl 0
  have hT : takeL s = if e1 = 0 ∧ 256 < n then ([], 12) else (let b := rds n.toNat s1 e1; if Pk.endE b.2.1 b.2.2 ≠ 0 then ([], Pk.endE b.2.1 b.2.2) else if b.1.all (fun x => may x == 0) then (b.1, 0) else ([], 1)) := by
    unfold takeL; rw [h1]
  refine ⟨n, s1, e1, h1, hz, hne, hge, fun h => by rw [hT, if_pos h], fun h => ?_⟩
  rw [if_neg h] at hT
  have hm : n = ((n.toNat : Nat) : Int) := by omega
  refine ⟨n.toNat, _, _, _, _, hm, ?_, rounds s1 e1, ?_⟩
  · by_cases he : e1 = 0
    · omega
    · have := hne he; omega
  · obtain ⟨⟨l, s2, e2⟩, h2⟩ : ∃ z, rds n.toNat s1 e1 = z := ⟨_, rfl⟩
    rw [h2] at hT
    have hT : takeL s = if Pk.endE s2 e2 ≠ 0 then ([], Pk.endE s2 e2) else if l.all (fun x => may x == 0) then (l, 0) else ([], 1) := hT
    refine ⟨fun he => ?_, fun he => ?_, fun he ha => ?_, fun he ha => ?_⟩
    · simp only [h2] at he ⊢
      rw [hT, if_pos he]
    · simp only [h2] at he ⊢
      obtain ⟨h3, _⟩ := Cd.endE_zero he
      subst h3
      exact (rds_back h2).2.2
    · simp only [h2] at he ha ⊢
      rw [hT, if_neg (by simp [he]), if_pos (by rw [List.all_eq_true]; intro x hx; rw [ha x hx]; rfl)]
    · simp only [h2] at he ha ⊢
      obtain ⟨x, hx, hm1⟩ := ha
      rw [hT, if_neg (by simp [he]), if_neg (fun g => by
        rw [List.all_eq_true] at g
        have := g x hx
        rw [hm1] at this; cases this)]
/-- what Put tells -/
theorem putL_big {l : List Rec} (h : 256 < l.length) : putL l = ([], 12) := if_pos h
theorem putL_bad {l : List Rec} (h : l.length ≤ 256) {x : Rec} (hx : x ∈ l) (hm : may x = 1) : putL l = ([], 1) := by
  unfold putL
  rw [if_neg (by omega), if_neg (fun g => by
    rw [List.all_eq_true] at g
    have := g x hx
    rw [hm] at this; cases this)]
theorem putL_all {l : List Rec} (h : l.length ≤ 256) (ha : ∀ x ∈ l, may x = 0) : putL l = (lotB l, 0) := by
  unfold putL
  rw [if_neg (by omega), if_pos (by rw [List.all_eq_true]; intro x hx; rw [ha x hx]; rfl)]
theorem recsB_take {l : List Rec} {k : Nat} {x : Rec} (h : l[k]? = some x) : recsB (l.take (k + 1)) = recsB (l.take k) ++ recB x := by
  obtain ⟨hk, he⟩ := List.getElem?_eq_some_iff.1 h
  rw [List.take_succ_eq_append_getElem hk, he, recsB_snoc]
end Go.Proofs.Ytafcgknpehphlaa.Lt
