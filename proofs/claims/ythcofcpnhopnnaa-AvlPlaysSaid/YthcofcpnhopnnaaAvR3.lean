/- The document's map: Keys; and whether numbers are the same. -/
import Derived.Test.YthcofcpnhopnnaaAvR2
set_option linter.unusedSimpArgs false
namespace Go.Proofs.Ythcofcpnhopnnaa.Av
open Go.RowKit

/-- numbers as cells -/
def ns (l : List Int) : List Value := l.map (Value.int .i64)
/-- numbers that stand in memory one behind the other; or none -/
structure Ints (a : Option Addr) (len : Nat) (xs : List Int) (W : World) : Prop where
  len_is : xs.length = len
  at_ : 0 < len → ∃ b off, a = some ⟨b, off, none⟩ ∧ b < W.heap.size ∧ ∀ i x, xs[i]? = some x → W.cell? ⟨b, off + i, none⟩ = some (.int .i64 x)
theorem Ints.later {a : Option Addr} {len : Nat} {xs : List Int} {W W' : World} (h : Ints a len xs W) (hb : Below W.heap.size W W') : Ints a len xs W' :=
  ⟨h.len_is, fun hl => by
    obtain ⟨b, off, h1, h2, h3⟩ := h.at_ hl
    exact ⟨b, off, h1, Nat.lt_of_lt_of_le h2 hb.size, fun i v hv => (hb.cell (p := ⟨b, off + i, none⟩) h2).trans (h3 i v hv)⟩⟩
theorem row_ints {W : World} {base n : Nat} {e : TypeId} {v : Value} {l : List Int} (hn : l.length = n) (h : W.ownsRow base e 1 v n (ns l)) :
    ∃ a cap, v = .slice a n cap ∧ Ints a n l W ∧ n ≤ cap := by
  subst hn
  rcases h.2 with ⟨rfl, h0⟩ | ⟨g, cap, cur, rfl, hb, hg, hnc, _, _, htake⟩
  · have hl : l = [] := by
      cases l with
      | nil => rfl
      | cons p l => simp at h0
    subst hl
    exact ⟨none, 0, rfl, ⟨rfl, fun h => by simp at h⟩, Nat.le_refl _⟩
  · refine ⟨_, cap, rfl, ⟨rfl, fun _ => ⟨g, 0, rfl, (Array.getElem?_eq_some_iff.1 hg).1, fun i x hx => ?_⟩⟩, hnc⟩
    have hc : W.cell? ⟨g, 0 + i, none⟩ = cur[i]? := by rw [Nat.zero_add]; simp [World.cell?, hg]
    have hu : (ns l)[i]? = some (.int .i64 x) := by unfold ns; rw [List.getElem?_map, hx]; rfl
    rw [hc]
    rw [← htake, List.getElem?_take] at hu
    split at hu
    · simpa using hu
    · cases hu
/-- one number laid behind a row of the call's own -/
theorem app_int (base n : Nat) (v : Value) (xs : List Int) (x : Int) (w : World) (hown : w.ownsRow base 3 1 v n (ns xs)) (hl : n ≤ 9000) (hb : base ≤ w.heap.size) :
    ∃ v' w', (Builtin.append_ #[41, 41] 41 #[v, .slice (some ⟨w.heap.size, 0, none⟩) 1 1]).run Try.prog (w.alloc (.cells #[.int .i64 x] 3)) = .ok v' w' ∧
      w'.ownsRow base 3 1 v' (n + 1) (ns (xs ++ [x])) ∧ Below base w w' := by
  obtain ⟨i0, hi0, hz0, hz1, hz2⟩ := info_parts infoI
  obtain ⟨v', w', h1, h2, h3, _⟩ := Go.run_append_own (P := Try.prog) (w.alloc (.cells #[.int .i64 x] 3)) base 41 41 3 i0 (.int .i64 0) 1 8 Try.underlying41 hi0 hz0 hz1 hz2 rfl (by decide) v n _ (hown.alloc _) ⟨w.heap.size, 0, none⟩ 1 1 [.int .i64 x]
    rfl (fun j u hu => by
      have hj : j = 0 := by
        have := (List.getElem?_eq_some_iff.1 hu).1
        simp at this; omega
      subst hj
      rw [add_n, Nat.zero_add]
      have := World.cell?_alloc_mark w #[.int .i64 x] 3 (0, 0) 0
      exact this.trans hu) (fun u hu => by rw [List.mem_singleton.1 hu]; rfl) (by unfold maxLen; omega) (by omega) (by simp; omega)
  exact ⟨v', w', h1, by unfold ns at h2 ⊢; rw [List.map_append]; exact h2, ((Below.refl base w).alloc hb _).trans ((Below.refl base _).grown h3 (by simp; omega) (fun q hq => (hown.lt q hq).1))⟩
def keysM (l : List Pr) : List Int := l.map (·.1)
theorem keys_take {l : List Pr} {k : Nat} {p : Pr} (h : l[k]? = some p) : keysM (l.take (k + 1)) = keysM (l.take k) ++ [p.1] := by
  obtain ⟨hk, he⟩ := List.getElem?_eq_some_iff.1 h
  unfold keysM
  rw [List.take_succ_eq_append_getElem hk, List.map_append, he]; rfl
theorem keys_len (l : List Pr) : (keysM l).length = l.length := by unfold keysM; rw [List.length_map]

set_option maxHeartbeats 1600000 in
set_option maxRecDepth 100000 in
theorem rkeys_any (X : Nat) (l : List Pr) (w : World) (h : Rm w X l) (hl : l.length ≤ 1000) :
    Calls Try.prog 17 #[.pointer (some ⟨X, 0, none⟩)] w fun e w' => (∃ a cap, e = .returned (.slice a l.length cap) ∧ Ints a l.length (keysM l) w') ∧ Below w.heap.size w w' := by
  have H := Lib.hid h
  clear h
  go_enter Try.func17, Try.ntmps17
  go_wp2_with fail
  go_loopw [3, 4] (fun v i wr => ∃ k : Nat, k ≤ l.length ∧ i = .int .i64 k ∧ ∃ vb, vb = v ∧ Hid (wr.ownsRow w.heap.size 3 1 vb k (ns (keysM (l.take k)))) ∧ Hid (Below w.heap.size w wr)) (fun _ i _ => l.length - (intOf i).toNat)
  case atStart => exact ⟨0, Nat.zero_le _, rfl, _, rfl, World.ownsRow_nil _ _ _ _, Below.refl _ _⟩
  case round =>
    obtain ⟨k, hk, rfl, vb, rfl, HO, HB⟩ := hrel
    have HW := Lib.hid (H.out.later HB.out)
    obtain ⟨a, cap, c0, _, hp, hcap, _⟩ := HW.out.read
    by_cases hkl : k < l.length
    · obtain ⟨⟨pk, pv⟩, hy⟩ : ∃ y, l[k]? = some y := ⟨_, List.getElem?_eq_getElem hkl⟩
      obtain ⟨b, off, rfl, hb, _⟩ := hp.at_ (by omega)
      obtain ⟨d0, d1⟩ := hp.two hy
      have hnx := keys_take hy
      simp only at d0 d1 hnx
      have hsz := HB.out.size
      obtain ⟨v', w', r, o, b'⟩ := app_int w.heap.size k vb _ pk wr HO.out (by omega) hsz
      rw [← hnx] at o
      have HO2 := Lib.hid o
      have HB2 := Lib.hid (HB.out.trans b')
      clear hnx hy hp o b'
      go_wp2_with (first | (at_builtin; refine step_app rfl (.tmp 14) (.tmp 23) rfl rfl rfl rfl r ?_) | fail)
      go_roundw
      case rel => exact ⟨k + 1, by omega, by go_num, _, rfl, HO2.out, HB2.out⟩
      case measure => simp [intOf]; omega
    · have hkn : k = l.length := by omega
      have ho := HO.out
      rw [show l.take k = l from List.take_of_length_le (by omega)] at ho
      obtain ⟨a2, cap2, rfl, hi2, _⟩ := row_ints (by rw [keys_len]; omega) ho
      have HI : Hid (Ints a2 k (keysM l) wr) := hi2
      have HRET : Hid (∃ a cap, (Ending.returned (.slice a2 k cap2) : Ending) = .returned (.slice a l.length cap) ∧ Ints a l.length (keysM l) wr) := ⟨a2, cap2, by rw [hkn], by rw [← hkn]; exact HI.out⟩
      clear ho hi2 hp hkn
      go_wp2_with fail
      go_ret
      exact ⟨HRET.out, HB.out⟩

set_option maxHeartbeats 1600000 in
set_option maxRecDepth 100000 in
theorem same_ints (a1 a2 : Option Addr) (n c1 c2 : Nat) (zs : List Int) (w : World) (h1 : Ints a1 n zs w) (h2 : Ints a2 n zs w) (hn : n ≤ 1000) :
    Calls Try.prog 15 #[.slice a1 n c1, .slice a2 n c2] w fun e w' => e = .returned (.bool true) ∧ Below w.heap.size w w' := by
  have H1 := Lib.hid h1
  have H2 := Lib.hid h2
  have HLEN := Lib.hid h1.len_is
  clear h1 h2
  go_enter Try.func15, Try.ntmps15
  go_wp2_with fail
  go_loopw [5] (fun iv wr => ∃ k : Nat, k ≤ n ∧ iv = .int .i64 k ∧ Hid (Below w.heap.size w wr)) (fun iv _ => n - (intOf iv).toNat)
  case atStart => exact ⟨0, Nat.zero_le _, rfl, Below.refl _ _⟩
  case round =>
    obtain ⟨k, hk, rfl, HB⟩ := hrel
    by_cases hkl : k < n
    · obtain ⟨y, hy⟩ : ∃ y, zs[k]? = some y := ⟨_, List.getElem?_eq_getElem (by have := HLEN.out; omega)⟩
      obtain ⟨b, off, rfl, hb, hc⟩ := (H1.out.later HB.out).at_ (by omega)
      obtain ⟨b2, off2, rfl, hb2, hc2⟩ := (H2.out.later HB.out).at_ (by omega)
      have cy := hc k y hy
      have dy := hc2 k y hy
      clear hc hc2 hy
      go_wp2_with fail
      go_quiet (fail)
      go_wp2_with fail
      go_roundw
      case rel => exact ⟨k + 1, by omega, by go_num, drewN_below HB.out _⟩
      case measure => simp [intOf]; omega
    · go_wp2_with fail
      go_ret
      exact ⟨rfl, HB.out⟩

/-! What becomes of the pairs, plainly: they stay rising. -/
theorem sorted_pos {l : List Pr} (h : Sorted l) (key : Int) : ∀ i p, l[i]? = some p → (i < pos l key ↔ p.1 < key) := by
  intro i p hp
  refine ⟨fun hi => pos_lt hi hp, fun hlt => ?_⟩
  rcases Nat.lt_or_ge i (pos l key) with h1 | h1
  · exact h1
  · exfalso
    have hil := (List.getElem?_eq_some_iff.1 hp).1
    obtain ⟨q, hq⟩ : ∃ q, l[pos l key]? = some q := ⟨_, List.getElem?_eq_getElem (by omega)⟩
    have hge := pos_ge hq
    rcases Nat.lt_or_eq_of_le h1 with h2 | h2
    · obtain ⟨_, e1⟩ := List.getElem?_eq_some_iff.1 hq
      obtain ⟨_, e2⟩ := List.getElem?_eq_some_iff.1 hp
      have := List.pairwise_iff_getElem.1 h (pos l key) i (by omega) hil h2
      rw [e1, e2] at this
      omega
    · rw [h2, hp] at hq; cases hq; omega
theorem sorted_drop {l : List Pr} (h : Sorted l) (key : Int) : Sorted (dropM l key) := List.Pairwise.filter _ h
theorem sorted_put {l : List Pr} (h : Sorted l) (key value : Int) : Sorted (putM l key value) := by
  unfold putM
  have htake : ∀ q ∈ l.take (pos l key), q.1 < key := by
    intro q hq
    obtain ⟨i, hi⟩ := List.getElem?_of_mem hq
    rw [List.getElem?_take] at hi
    split at hi
    · rename_i h1; exact pos_lt h1 hi
    · cases hi
  have hdrop : ∀ q ∈ l.drop (pos l key + if isAt l key then 1 else 0), key < q.1 := by
    intro q hq
    obtain ⟨i, hi⟩ := List.getElem?_of_mem hq
    rw [List.getElem?_drop] at hi
    have h1 := (sorted_pos h key _ q hi)
    have hge : ¬ q.1 < key := fun hlt => by have := h1.2 hlt; omega
    by_cases hkq : q.1 = key
    · exfalso
      -- then the key stands at its place
      have hil := (List.getElem?_eq_some_iff.1 hi).1
      obtain ⟨p, hp⟩ : ∃ p, l[pos l key]? = some p := ⟨_, List.getElem?_eq_getElem (by omega)⟩
      have hpge := pos_ge hp
      by_cases ht : isAt l key = true
      · rw [if_pos ht] at hi
        have hk : p.1 = key := by unfold isAt at ht; rw [hp] at ht; simpa using ht
        obtain ⟨_, e1⟩ := List.getElem?_eq_some_iff.1 hp
        obtain ⟨hl2, e2⟩ := List.getElem?_eq_some_iff.1 hi
        have := List.pairwise_iff_getElem.1 h (pos l key) _ (by omega) hl2 (by omega)
        rw [e1, e2] at this
        omega
      · rw [if_neg ht] at hi
        have hne : ¬ p.1 = key := fun e => ht (by unfold isAt; rw [hp]; simp [e])
        rcases Nat.eq_zero_or_pos i with h0 | h0
        · subst h0
          rw [Nat.add_zero, hp] at hi
          cases hi; exact hne hkq
        · obtain ⟨_, e1⟩ := List.getElem?_eq_some_iff.1 hp
          obtain ⟨hl2, e2⟩ := List.getElem?_eq_some_iff.1 hi
          have := List.pairwise_iff_getElem.1 h (pos l key) _ (by omega) hl2 (by omega)
          rw [e1, e2] at this
          omega
    · omega
  refine List.pairwise_append.2 ⟨List.Pairwise.sublist (List.take_sublist _ _) h, List.pairwise_cons.2 ⟨fun q hq => hdrop q hq, List.Pairwise.sublist (List.drop_sublist _ _) h⟩, fun p hp q hq => ?_⟩
  have h1 := htake p hp
  rcases List.mem_cons.1 hq with rfl | hq
  · exact h1
  · have := hdrop q hq; omega
end Go.Proofs.Ythcofcpnhopnnaa.Av
