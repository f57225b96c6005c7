/- Which record goes ahead, plainly: the order of records, the first one than which none is newer, and that it hangs on which records there are alone. -/
import Derived.Test.YtngmcefbljkgaaaCdPut
import Derived.Lib.Bytealg
import GoSem.Op.String
namespace Go.Proofs.Ytngmcefbljkgaaa.Rk
open Go.RowKit
open Cd (Rec Fit may putB recB zeroR)

theorem bl_irrefl : ∀ x : List UInt8, Op.bytesLess x x = false
  | [] => rfl
  | a :: x => by simp [Op.bytesLess, bl_irrefl x]
theorem bl_trans : ∀ x y z : List UInt8, Op.bytesLess x y = true → Op.bytesLess y z = true → Op.bytesLess x z = true
  | _, _, [], _, h => by simp [Op.bytesLess] at h
  | [], _, _ :: _, _, _ => rfl
  | _ :: _, [], _ :: _, h, _ => by simp [Op.bytesLess] at h
  | a :: x, b :: y, c :: z, h, k => by
    simp only [Op.bytesLess, Bool.or_eq_true, decide_eq_true_eq, Bool.and_eq_true, beq_iff_eq] at h k ⊢
    rcases h with h | ⟨rfl, h⟩
    · rcases k with k | ⟨rfl, k⟩
      · exact .inl (UInt8.lt_trans h k)
      · exact .inl h
    · rcases k with k | ⟨rfl, k⟩
      · exact .inl k
      · exact .inr ⟨rfl, bl_trans x y z h k⟩
theorem bl_total : ∀ x y : List UInt8, x ≠ y → Op.bytesLess x y = true ∨ Op.bytesLess y x = true
  | [], [], h => absurd rfl h
  | [], _ :: _, _ => .inl rfl
  | _ :: _, [], _ => .inr rfl
  | a :: x, b :: y, h => by
    simp only [Op.bytesLess, Bool.or_eq_true, decide_eq_true_eq, Bool.and_eq_true, beq_iff_eq]
    by_cases e : a = b
    · subst e
      have hxy : x ≠ y := fun e => h (by rw [e])
      rcases bl_total x y hxy with h | h
      · exact .inl (.inr ⟨rfl, h⟩)
      · exact .inr (.inr ⟨rfl, h⟩)
    · rcases UInt8.lt_or_lt_of_ne e with h | h
      · exact .inl (.inl h)
      · exact .inr (.inl h)

/-- what is kept of a record -/
def kept (x : Rec) : Rec := { x with du := if x.du < 0 then 0 else if 4611686018427387904 < x.du then 4611686018427387904 else x.du }
/-- its bytes -/
def byt (x : Rec) : List UInt8 := putB (kept x)
/-- is a record newer than another one? -/
def newer (a b : Rec) : Bool := if a.rv = b.rv then Op.bytesLess (byt b) (byt a) else decide (b.rv < a.rv)

theorem may_kept (x : Rec) : may (kept x) = may x := rfl
theorem fit_kept {x : Rec} (h : Fit x) : Fit (kept x) := by
  obtain ⟨h0, h1, h2, h3, h4, h5, h6, h7, h8, h9⟩ := h
  refine ⟨h0, h1, h2, h3, h4, h5, h6, h7, ?_, ?_⟩
  · show _ ≤ (if x.du < 0 then 0 else if 4611686018427387904 < x.du then 4611686018427387904 else x.du)
    split
    · omega
    · split <;> omega
  · show (if x.du < 0 then 0 else if 4611686018427387904 < x.du then 4611686018427387904 else x.du) ≤ _
    split
    · omega
    · split <;> omega

theorem newer_irrefl (a : Rec) : newer a a = false := by unfold newer; rw [if_pos rfl, bl_irrefl]
theorem newer_trans {a b c : Rec} (h : newer a b = true) (k : newer b c = true) : newer a c = true := by
  unfold newer at h k ⊢
  by_cases e : a.rv = b.rv
  · rw [if_pos e] at h
    by_cases f : b.rv = c.rv
    · rw [if_pos f] at k
      rw [if_pos (e.trans f)]
      exact bl_trans _ _ _ k h
    · rw [if_neg f] at k
      rw [if_neg (fun g => f (e.symm.trans g)), e]
      exact k
  · rw [if_neg e] at h
    have h := of_decide_eq_true h
    by_cases f : b.rv = c.rv
    · rw [if_neg (fun g => e (g.trans f.symm)), ← f]
      exact decide_eq_true h
    · rw [if_neg f] at k
      have k := of_decide_eq_true k
      rw [if_neg (by omega)]
      exact decide_eq_true (by omega)
theorem newer_asymm {a b : Rec} (h : newer a b = true) : newer b a = false := by
  cases k : newer b a with
  | false => rfl
  | true => have := newer_trans h k; rw [newer_irrefl] at this; cases this
/-- neither is newer: the same revision, the same bytes -/
theorem newer_tie {a b : Rec} (h : newer a b = false) (k : newer b a = false) : a.rv = b.rv ∧ byt a = byt b := by
  unfold newer at h k
  by_cases e : a.rv = b.rv
  · rw [if_pos e] at h
    rw [if_pos e.symm] at k
    refine ⟨e, ?_⟩
    by_cases f : byt a = byt b
    · exact f
    · rcases bl_total _ _ f with g | g
      · rw [g] at k; cases k
      · rw [g] at h; cases h
  · rw [if_neg e] at h
    rw [if_neg (fun g => e g.symm)] at k
    have h := of_decide_eq_false h
    have k := of_decide_eq_false k
    omega
theorem newer_of_tie {a b c : Rec} (h : a.rv = b.rv ∧ byt a = byt b) : newer a c = newer b c ∧ newer c a = newer c b := by
  obtain ⟨e, f⟩ := h
  unfold newer
  rw [e, f]
  exact ⟨rfl, rfl⟩
/-- what is not newer than what is not newer is not newer -/
theorem newer_not {a b c : Rec} (h : newer a b = false) (k : newer b c = false) : newer a c = false := by
  cases g : newer a c with
  | false => rfl
  | true =>
    cases u : newer c b with
    | true => rw [newer_trans g u] at h; cases h
    | false => rw [(newer_of_tie (newer_tie k u)).2] at h; rw [h] at g; cases g
theorem kept_of {a b : Rec} (fa : Fit a) (fb : Fit b) (ma : may a = 0) (mb : may b = 0) (h : byt a = byt b) : kept a = kept b := by
  unfold byt at h
  rw [Cd.putB_ok (by rw [may_kept]; exact ma), Cd.putB_ok (by rw [may_kept]; exact mb)] at h
  exact Cd.recB_inj (fit_kept fa) (fit_kept fb) (by rw [may_kept]; exact ma) (by rw [may_kept]; exact mb) h
theorem tie_of_kept {a b : Rec} (h : kept a = kept b) : a.rv = b.rv ∧ byt a = byt b :=
  ⟨by show (kept a).rv = (kept b).rv; rw [h], by unfold byt; rw [h]⟩
theorem not_newer_of_kept {a b : Rec} (h : kept a = kept b) : newer a b = false := by
  rw [(newer_of_tie (tie_of_kept h)).1, newer_irrefl]

/-- the first record than which none is newer -/
def top (x : Rec) : List Rec → Rec
  | [] => x
  | y :: r => top (if newer y x then y else x) r
theorem top_mem : ∀ (r : List Rec) (x : Rec), top x r = x ∨ top x r ∈ r
  | [], _ => .inl rfl
  | y :: r, x => by
    show top (if newer y x then y else x) r = x ∨ top (if newer y x then y else x) r ∈ y :: r
    rcases top_mem r (if newer y x then y else x) with h | h
    · rw [h]
      split
      · exact .inr (List.mem_cons_self ..)
      · exact .inl rfl
    · exact .inr (List.mem_cons_of_mem _ h)
theorem top_ge : ∀ (r : List Rec) (x : Rec), newer x (top x r) = false ∧ ∀ y ∈ r, newer y (top x r) = false
  | [], x => ⟨newer_irrefl x, fun y h => by cases h⟩
  | y :: r, x => by
    obtain ⟨h1, h2⟩ := top_ge r (if newer y x then y else x)
    have hx : newer x (if newer y x then y else x) = false := by
      split
      · rename_i h; exact newer_asymm h
      · exact newer_irrefl x
    have hy : newer y (if newer y x then y else x) = false := by
      split
      · exact newer_irrefl y
      · rename_i h; simpa using h
    refine ⟨newer_not hx h1, fun z hz => ?_⟩
    rcases List.mem_cons.1 hz with rfl | hz
    · exact newer_not hy h1
    · exact h2 z hz
/-- it is newer than all that stand ahead of it -/
theorem top_first : ∀ (r : List Rec) (x : Rec), top x r = x ∨ newer (top x r) x = true
  | [], _ => .inl rfl
  | y :: r, x => by
    show top (if newer y x then y else x) r = x ∨ newer (top (if newer y x then y else x) r) x = true
    by_cases h : newer y x = true
    · rw [if_pos h]
      rcases top_first r y with g | g
      · rw [g]; exact .inr h
      · exact .inr (newer_trans g h)
    · rw [if_neg h]
      exact top_first r x
theorem newer_low {t x z : Rec} (h : newer t x = true) (k : newer z x = false) : newer t z = true := by
  cases g : newer t z with
  | true => rfl
  | false => rw [newer_not g k] at h; cases h
/-- another beginning that is not newer makes no difference -/
theorem top_swap : ∀ (r : List Rec) (x y t : Rec), top x r = t → newer t x = true → newer t y = true → top y r = t
  | [], x, y, t, e, h, _ => by
    obtain rfl : x = t := e
    rw [newer_irrefl] at h; cases h
  | z :: r, x, y, t, e, h, k => by
    have e : top (if newer z x then z else x) r = t := e
    show top (if newer z y then z else y) r = t
    cases hx : newer z x with
    | true =>
      rw [hx, if_pos rfl] at e
      cases hy : newer z y with
      | true => rw [if_pos rfl]; exact e
      | false =>
        rw [if_neg (by simp)]
        rcases top_first r z with g | g
        · rw [e] at g; subst g; rw [hy] at k; cases k
        · rw [e] at g; exact top_swap r z y t e g k
    | false =>
      rw [hx, if_neg (by simp)] at e
      cases hy : newer z y with
      | true => rw [if_pos rfl]; exact top_swap r x z t e h (newer_low h hx)
      | false => rw [if_neg (by simp)]; exact top_swap r x y t e h k
/-- the newest of records: none of none -/
def best : List Rec → Option Rec
  | [] => none
  | x :: r => some (top x r)
/-- the first record of a list than which none of another list is newer -/
def firstTop (all : List Rec) : List Rec → Option Rec
  | [] => none
  | x :: r => if all.all (fun y => !newer y x) then some x else firstTop all r
theorem firstTop_first {all : List Rec} {t : Rec} (ht : ∀ y ∈ all, newer y t = false) : ∀ (r : List Rec) (x : Rec), (∀ y, y ∈ x :: r → y ∈ all) → top x r = t → firstTop all (x :: r) = some t
  | [], x, _, e => by
    subst e
    show (if all.all (fun y => !newer y x) then some x else none) = some x
    rw [if_pos]
    rw [List.all_eq_true]
    intro y hy
    rw [show newer y x = false from ht y hy]; rfl
  | y :: r, x, hm, e => by
    show (if all.all (fun z => !newer z x) then some x else firstTop all (y :: r)) = some t
    by_cases hx : all.all (fun z => !newer z x) = true
    · rw [if_pos hx]
      rcases top_first (y :: r) x with g | g
      · rw [← e, g]
      · rw [List.all_eq_true] at hx
        have hin : t ∈ all := by
          rcases top_mem (y :: r) x with g2 | g2
          · rw [← e, g2]; exact hm _ (List.mem_cons_self ..)
          · rw [← e]; exact hm _ (List.mem_cons_of_mem _ g2)
        have := hx t hin
        rw [e] at g
        rw [g] at this
        cases this
    · rw [if_neg hx]
      refine firstTop_first ht r y (fun z hz => hm z (List.mem_cons_of_mem _ hz)) ?_
      -- x is not the newest: so the way goes on from y
      by_cases h : newer y x = true
      · have : top x (y :: r) = top y r := by show top (if newer y x then y else x) r = _; rw [if_pos h]
        rw [← this]; exact e
      · have hl : top x r = t := by rw [← e]; show _ = top (if newer y x then y else x) r; rw [if_neg h]
        have h' : newer y x = false := by simpa using h
        have htx : newer t x = true := by
          rcases top_first r x with g | g
          · exfalso
            rw [hl] at g
            subst g
            exact hx (by
              rw [List.all_eq_true]
              intro z hz
              rw [ht z hz]; rfl)
          · rw [hl] at g; exact g
        exact top_swap r x y t hl htx (newer_low htx h')
/-- the document's newest is the same one -/
theorem best_is (l : List Rec) : firstTop l l = best l := by
  cases l with
  | nil => rfl
  | cons x r =>
    obtain ⟨h1, h2⟩ := top_ge r x
    exact firstTop_first (fun y hy => by
      rcases List.mem_cons.1 hy with rfl | hy
      · exact h1
      · exact h2 y hy) r x (fun _ h => h) rfl
/-- two records that may be, of which neither is newer than one of a list that the other one stands in, are kept the same -/
theorem top_same {a b : Rec} (fa : Fit a) (fb : Fit b) (ma : may a = 0) (mb : may b = 0) (h : newer a b = false) (k : newer b a = false) : kept a = kept b :=
  kept_of fa fb ma mb (newer_tie h k).2
end Go.Proofs.Ytngmcefbljkgaaa.Rk
