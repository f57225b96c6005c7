/- The document's map: Get, Keys, Drop, Put, and how many keys a map of a depth has at least. -/
import Derived.Test.YthcofcpnhopnnaaAvKit
set_option linter.unusedSimpArgs false
namespace Go.Proofs.Ythcofcpnhopnnaa.Av
open Go.RowKit

theorem drewN_below {B : Nat} {a w : World} (h : Below B a w) (n : Nat) : Below B a (w.drewN n) := h.trans ⟨rfl, rfl, rfl, Nat.le_refl _, fun _ _ => rfl⟩
/-- the document's map in memory -/
structure Rm (W : World) (X : Nat) (l : List Pr) : Prop where
  at_ : ∃ v, W.heap[X]? = some (.cells #[v] 31 (0, 0)) ∧ W.ownsRow (X + 1) 44 2 v l.length (prs l)
theorem Rm.lt {W : World} {X : Nat} {l : List Pr} (h : Rm W X l) : X < W.heap.size := by obtain ⟨v, h1, _⟩ := h.at_; exact (Array.getElem?_eq_some_iff.1 h1).1
theorem Rm.later {W W' : World} {X : Nat} {l : List Pr} (h : Rm W X l) (hb : Below W.heap.size W W') : Rm W' X l := by
  obtain ⟨v, h1, h2⟩ := h.at_
  exact ⟨v, (hb.block X (Array.getElem?_eq_some_iff.1 h1).1).trans h1, own_later h2 hb⟩
/-- what is read of it -/
theorem Rm.read {W : World} {X : Nat} {l : List Pr} (h : Rm W X l) : ∃ a cap, W.cell? ⟨X, 0, none⟩ = some (.slice a l.length cap) ∧ W.frozen? ⟨X, 0, none⟩ = false ∧ Prs a l.length l W ∧ l.length ≤ cap ∧ ((a = none ∧ cap = 0) ∨ ∃ g, a = some ⟨g, 0, none⟩) := by
  obtain ⟨v, h1, h2⟩ := h.at_
  obtain ⟨a, cap, rfl, h3, h4, h5⟩ := row_prs rfl h2
  refine ⟨a, cap, by simp [World.cell?, h1], by simp [World.frozen?, h1], h3, h4, ?_⟩
  rcases h5 with h5 | ⟨g, h5, _⟩
  · exact .inl h5
  · exact .inr ⟨g, h5⟩

/-- what is told of a key -/
def getV (l : List Pr) (key : Int) : Value := .tuple #[.int .i64 ((getM l key).getD 0), .bool (getM l key).isSome]
theorem getM_cons (p : Pr) (l : List Pr) (key : Int) : getM (p :: l) key = if p.1 = key then some p.2 else getM l key := by
  unfold getM
  rw [List.find?_cons]
  cases hq : (p.1 == key) with
  | true => rw [if_pos (by simpa using hq)]; rfl
  | false => rw [if_neg (by simpa using hq)]
theorem getM_drop {l : List Pr} {k : Nat} {p : Pr} (h : l[k]? = some p) (key : Int) : getM (l.drop k) key = if p.1 = key then some p.2 else getM (l.drop (k + 1)) key := by
  obtain ⟨hk, he⟩ := List.getElem?_eq_some_iff.1 h
  rw [List.drop_eq_getElem_cons hk, he, getM_cons]

set_option maxHeartbeats 1600000 in
set_option maxRecDepth 100000 in
theorem rget_any (X : Nat) (l : List Pr) (key : Int) (w : World) (h : Rm w X l) (hl : l.length ≤ 1000) :
    Calls Try.prog 12 #[.pointer (some ⟨X, 0, none⟩), .int .i64 key] w fun e w' => e = .returned (getV l key) ∧ w = w' := by
  obtain ⟨a, cap, c0, _, hp, _, _⟩ := h.read
  have HP := Lib.hid hp
  have HG : Hid (∀ r : Option Int, getM l key = r → (Ending.returned (.tuple #[.int .i64 (r.getD 0), .bool r.isSome]) : Ending) = .returned (getV l key)) := fun r h => by rw [← h]; rfl
  clear h hp
  go_enter Try.func12, Try.ntmps12
  go_wp2_with fail
  go_loop [6] (fun i => ∃ k : Nat, k ≤ l.length ∧ i = .int .i64 k ∧ Hid (getM l key = getM (l.drop k) key)) (fun i => l.length - (intOf i).toNat)
  case atStart => exact ⟨0, Nat.zero_le _, rfl, rfl⟩
  case round =>
    obtain ⟨k, hk, rfl, HE⟩ := hrel
    by_cases hkl : k < l.length
    · obtain ⟨⟨pk, pv⟩, hy⟩ : ∃ y, l[k]? = some y := ⟨_, List.getElem?_eq_getElem hkl⟩
      obtain ⟨b, off, rfl, hb, _⟩ := HP.out.at_ (by omega)
      obtain ⟨d0, d1⟩ := HP.out.two hy
      have hnx := getM_drop hy key
      simp only at d0 d1 hnx
      by_cases hq : pk = key
      · have HR : Hid (getM l key = some pv) := HE.out.trans (hnx.trans (if_pos hq))
        have hq2 : (pk == key) = true := by simp [hq]
        clear hnx hy
        go_wp2_with fail
        go_ret2
        exact ⟨HG.out _ HR.out, rfl⟩
      · have HR : Hid (getM l key = getM (l.drop (k + 1)) key) := HE.out.trans (hnx.trans (if_neg hq))
        have hq2 : (pk == key) = false := by simp [hq]
        clear hnx hy
        go_wp2_with fail
        go_round
        case rel => exact ⟨k + 1, by omega, by go_num, HR.out⟩
        case measure => simp [intOf]; omega
    · have HR : Hid (getM l key = none) := by
        show _ = _
        rw [HE.out, List.drop_eq_nil_of_le (by omega)]; rfl
      go_wp2_with fail
      go_ret2
      exact ⟨HG.out _ HR.out, rfl⟩

/-! How many keys a map of a depth has at least. -/
def least : Nat → Nat
  | 0 => 0
  | 1 => 1
  | n + 2 => least (n + 1) + least n + 1
theorem least_le : ∀ n, least n ≤ 2 ^ n
  | 0 => by decide
  | 1 => by decide
  | n + 2 => by
    have h1 := least_le (n + 1)
    have h2 := least_le n
    have h3 : 1 ≤ 2 ^ n := Nat.one_le_two_pow
    show least (n + 1) + least n + 1 ≤ _
    rw [Nat.pow_succ] at h1 ⊢
    rw [Nat.pow_succ]
    omega
theorem least_mono (n : Nat) : least n ≤ least (n + 1) := by
  cases n with
  | zero => decide
  | succ n => show _ ≤ least (n + 1) + least n + 1; omega
/-- the document's number: no greater depth than 80 counts -/
def leastD (d : Int) : Nat := least (min d.toNat 80)

set_option maxHeartbeats 1600000 in
set_option maxRecDepth 100000 in
theorem least_any (d : Int) (w : World) :
    Calls Try.prog 18 #[.int .i64 d] w fun e w' => e = .returned (.int .i64 (leastD d : Nat)) ∧ w = w' := by
  have HRET : Hid (∀ k : Nat, min d.toNat 80 = k → (Ending.returned (.int .i64 (least k : Nat)) : Ending) = .returned (.int .i64 (leastD d : Nat))) := fun k h => by unfold leastD; rw [h]
  have HB : Hid (∀ k : Nat, k ≤ 81 → least k ≤ 1152921504606846976) := by
    intro k hk
    have h : ∀ n, least n ≤ least (n + 1) := least_mono
    have hm : ∀ m n, m ≤ n → least m ≤ least n := by
      intro m n hmn
      induction hmn with
      | refl => exact Nat.le_refl _
      | step _ ih => exact Nat.le_trans ih (h _)
    exact Nat.le_trans (hm k 81 hk) (by decide)
  go_enter Try.func18, Try.ntmps18
  go_wp2_with fail
  go_loop [3, 4, 5] (fun a b i => ∃ k : Nat, (k : Int) ≤ max d 0 ∧ k ≤ 80 ∧ i = .int .i64 k ∧ a = .int .i64 (least k : Nat) ∧ b = .int .i64 (least (k + 1) : Nat)) (fun _ _ i => 80 - (intOf i).toNat)
  case atStart => exact ⟨0, by omega, by omega, rfl, rfl, rfl⟩
  case round =>
    obtain ⟨k, hk, hk2, rfl, rfl, rfl⟩ := hrel
    by_cases hkd : (k : Int) < d
    · by_cases hk8 : k < 80
      · have h1 := HB.out k (by omega)
        have h2 := HB.out (k + 1) (by omega)
        have HS : Hid (((least k : Nat) : Int) + ((least (k + 1) : Nat) : Int) + 1 = ((least (k + 2) : Nat) : Int)) := by
          show _ = _
          have : least (k + 2) = least (k + 1) + least k + 1 := rfl
          omega
        generalize hb : least (k + 1) = b at *
        generalize least k = a at *
        have HB1 := Lib.hid hb
        clear hb
        go_wp2_with fail
        go_round
        case rel => exact ⟨k + 1, by omega, by omega, by go_num, by rw [HB1.out], by rw [← HS.out]⟩
        case measure => simp [intOf]; omega
      · go_wp2_with fail
        go_ret
        exact ⟨HRET.out k (by omega), rfl⟩
    · go_wp2_with fail
      go_ret
      exact ⟨HRET.out k (by omega), rfl⟩
end Go.Proofs.Ythcofcpnhopnnaa.Av
