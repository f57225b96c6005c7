/- Nodes in memory: what is read of them, and a node that is made. -/
import Derived.Test.YthcofcpnhopnnaaAvMake
import Derived.Deep.RegionWith
set_option linter.unusedSimpArgs false
namespace Go.Proofs.Ythcofcpnhopnnaa.Av
open Go.RowKit

/-- a tree in memory -/
def Tr (W : World) : T → Option Addr → Prop
  | .nil, p => p = none
  | .nd a k u b, p => ∃ B pa pb, p = some ⟨B, 0, none⟩ ∧ W.heap[B]? = some (.cells #[.int .i64 k, .int .i64 u, .pointer pa, .pointer pb, .int .i64 ((T.nd a k u b).ht : Nat)] 56 (0, 0)) ∧ Tr W a pa ∧ Tr W b pb
theorem Tr.kept {W W' : World} (h : ∀ (B : Nat) (cs : Array Value), W.heap[B]? = some (.cells cs 56 (0, 0)) → W'.heap[B]? = some (.cells cs 56 (0, 0))) : ∀ {t : T} {p : Option Addr}, Tr W t p → Tr W' t p
  | .nil, _, hp => hp
  | .nd _ _ _ _, _, ⟨B, pa, pb, h1, h2, h3, h4⟩ => ⟨B, pa, pb, h1, h _ _ h2, Tr.kept h h3, Tr.kept h h4⟩
theorem Tr.later {W W' : World} {t : T} {p : Option Addr} (h : Tr W t p) (hb : Below W.heap.size W W') : Tr W' t p :=
  h.kept fun B _ hB => (hb.block B (Array.getElem?_eq_some_iff.1 hB).1).trans hB
/-- a node of a key and a value -/
structure Nd (W : World) (p : Option Addr) (k u : Int) : Prop where
  at_ : ∃ B c2 c3 c4, p = some ⟨B, 0, none⟩ ∧ W.heap[B]? = some (.cells #[.int .i64 k, .int .i64 u, c2, c3, c4] 56 (0, 0))
theorem Nd.later {W W' : World} {p : Option Addr} {k u : Int} (h : Nd W p k u) (hb : Below W.heap.size W W') : Nd W' p k u := by
  obtain ⟨B, c2, c3, c4, h1, h2⟩ := h.at_
  exact ⟨B, c2, c3, c4, h1, (hb.block B (Array.getElem?_eq_some_iff.1 h2).1).trans h2⟩
theorem Tr.nd {W : World} {a b : T} {k u : Int} {p : Option Addr} (h : Tr W (.nd a k u b) p) : Nd W p k u := by
  obtain ⟨B, pa, pb, h1, h2, _⟩ := h
  exact ⟨B, _, _, _, h1, h2⟩
theorem cells5 {W : World} {B : Nat} {v0 v1 v2 v3 v4 : Value} {t : TypeId} (h : W.heap[B]? = some (.cells #[v0, v1, v2, v3, v4] t (0, 0))) :
    W.cell? ⟨B, 0, none⟩ = some v0 ∧ W.cell? ⟨B, 1, none⟩ = some v1 ∧ W.cell? ⟨B, 2, none⟩ = some v2 ∧ W.cell? ⟨B, 3, none⟩ = some v3 ∧ W.cell? ⟨B, 4, none⟩ = some v4 :=
  ⟨by simp [World.cell?, h], by simp [World.cell?, h], by simp [World.cell?, h], by simp [World.cell?, h], by simp [World.cell?, h]⟩
theorem alloc_new (W : World) (o : Obj) : (W.alloc o).heap[W.heap.size]? = some o := by
  simp only [World.alloc]
  rw [Array.getElem?_push, if_pos rfl]
theorem Below.same {w W : World} (h : Below w.heap.size w W) {B : Nat} {o : Obj} (hB : w.heap[B]? = some o) : W.heap[B]? = some o := (h.block B (Array.getElem?_eq_some_iff.1 hB).1).trans hB

theorem depth_any (t : T) (p : Option Addr) (w : World) (h : Tr w t p) :
    Calls Try.prog 26 #[.pointer p] w fun e w' => e = .returned (.int .i64 (t.ht : Nat)) ∧ w = w' := by
  go_enter Try.func26, Try.ntmps26
  cases t with
  | nil =>
    obtain rfl : p = none := h
    go_wp2
    go_ret
    exact ⟨rfl, rfl⟩
  | nd a k u b =>
    obtain ⟨B, pa, pb, rfl, h2, _⟩ := h
    obtain ⟨_, _, _, _, c4⟩ := cells5 h2
    clear h2
    go_wp2
    go_ret
    exact ⟨rfl, rfl⟩

theorem nan_any (x : Int) (w : World) : Calls Try.prog 35 #[.int .i64 x] w fun e w' => e = .returned (.bool false) ∧ w = w' := by
  have h1 : (x != x) = false := by simp
  go_enter Try.func35, Try.ntmps35
  go_wp2
  go_ret
  exact ⟨by simp, rfl⟩
/-- how two keys compare -/
def cmpI (x y : Int) : Int := if x < y then -1 else if y < x then 1 else 0
set_option maxHeartbeats 800000 in
theorem cmp_any (x y : Int) (w : World) : Calls Try.prog 31 #[.int .i64 x, .int .i64 y] w fun e w' => e = .returned (.int .i64 (cmpI x y)) ∧ w = w' := by
  unfold cmpI
  go_enter Try.func31, Try.ntmps31
  by_cases h1 : x < y
  · rw [if_pos h1]
    go_wp2_with (first | (go_at_call 35; refine (nan_any _ _).mono ?_; rintro e w1 ⟨rfl, rfl⟩))
    go_ret
    exact ⟨rfl, rfl⟩
  · rw [if_neg h1]
    by_cases h2 : y < x
    · rw [if_pos h2]
      go_wp2_with (first | (go_at_call 35; refine (nan_any _ _).mono ?_; rintro e w1 ⟨rfl, rfl⟩))
      go_ret
      exact ⟨rfl, rfl⟩
    · rw [if_neg h2]
      go_wp2_with (first | (go_at_call 35; refine (nan_any _ _).mono ?_; rintro e w1 ⟨rfl, rfl⟩))
      go_ret
      exact ⟨rfl, rfl⟩
set_option maxHeartbeats 800000 in
theorem less_any (x y : Int) (w : World) : Calls Try.prog 34 #[.int .i64 x, .int .i64 y] w fun e w' => e = .returned (.bool (decide (x < y))) ∧ w = w' := by
  go_enter Try.func34, Try.ntmps34
  go_wp2_with (first | (go_at_call 35; refine (nan_any _ _).mono ?_; rintro e w1 ⟨rfl, rfl⟩))
  all_goals go_ret
  all_goals exact ⟨by simp, rfl⟩

set_option maxHeartbeats 1600000 in
theorem with_any (k u : Int) (a b : T) (p pa pb : Option Addr) (w : World) (hn : Nd w p k u) (ha : Tr w a pa) (hb : Tr w b pb) (h1 : a.ht ≤ 1000) (h2 : b.ht ≤ 1000) :
    Calls Try.prog 38 #[.pointer p, .pointer pa, .pointer pb] w fun e w' => ∃ q, e = .returned (.pointer q) ∧ Tr w' (.nd a k u b) q ∧ Below w.heap.size w w' := by
  have HA := Lib.hid ha
  have HB := Lib.hid hb
  obtain ⟨B, c2, c3, c4, rfl, hB⟩ := hn.at_
  obtain ⟨d0, d1, _, _, _⟩ := cells5 hB
  have HT : Hid (∀ m : Int, m = ((T.nd a k u b).ht : Nat) → Tr (w.drew.alloc (.cells #[.int .i64 k, .int .i64 u, .pointer pa, .pointer pb, .int .i64 m] 56)) (.nd a k u b) (some ⟨w.heap.size, 0, none⟩)) := by
    intro m hm
    subst hm
    have hbl : Below w.heap.size w (w.drew.alloc (.cells #[.int .i64 k, .int .i64 u, .pointer pa, .pointer pb, .int .i64 ((T.nd a k u b).ht : Nat)] 56)) := ((Below.refl _ w).drew).alloc (Nat.le_refl _) _
    refine ⟨w.heap.size, pa, pb, rfl, ?_, ha.later hbl, hb.later hbl⟩
    exact alloc_new w.drew _
  have hbl : ∀ o, Below w.heap.size w (w.drew.alloc o) := fun o => ((Below.refl _ w).drew).alloc (Nat.le_refl _) o
  have HBL := Lib.hid hbl
  have e1 : (T.nd a k u b).ht = max a.ht b.ht + 1 := rfl
  rw [e1] at HT
  clear hn ha hb hB hbl e1
  go_enter Try.func38, Try.ntmps38
  go_wp2_with fail
  refine (depth_any a _ _ HA.out).mono ?_
  rintro e w1 ⟨rfl, rfl⟩
  go_wp2_with fail
  refine (depth_any b _ _ HB.out).mono ?_
  rintro e w1 ⟨rfl, rfl⟩
  by_cases hab : b.ht ≤ a.ht
  · have hm : (max a.ht b.ht + 1 : Nat) = a.ht + 1 := by omega
    rw [hm] at HT
    clear HA HB hm
    generalize a.ht = x at *
    generalize b.ht = y at *
    go_wp2_with fail
    all_goals go_region
    all_goals go_wp2_with fail
    all_goals (go_ret; exact ⟨_, rfl, HT.out _ (by omega), HBL.out _⟩)
  · have hm : (max a.ht b.ht + 1 : Nat) = b.ht + 1 := by omega
    rw [hm] at HT
    clear HA HB hm
    generalize a.ht = x at *
    generalize b.ht = y at *
    go_wp2_with fail
    all_goals go_region
    all_goals go_wp2_with fail
    all_goals (go_ret; exact ⟨_, rfl, HT.out _ (by omega), HBL.out _⟩)
end Go.Proofs.Ythcofcpnhopnnaa.Av
