/- Lots that are cut: a row of slices of the call's own, each of which shows a part of what came in. -/
import Derived.Test.YtafcgknpehphlaaLtTk
set_option linter.unusedSimpArgs false
namespace Go.Proofs.Ytafcgknpehphlaa.Lt
open Go.RowKit
open Cd (Rec Fit may recB zeroR recV recL)
open Rk (At9 Recs rcs)

/-- of how many records a lot is -/
def nOf (size : Int) (len : Nat) : Nat := if size < 1 then len else size.toNat
theorem chunk_len (n : Nat) (l : List Rec) (j : Nat) : (chunk n l j).length = min n (l.length - j * n) := by unfold chunk; rw [List.length_take, List.length_drop]
theorem chunk_recs {b off len n : Nat} {l : List Rec} {W : World} (h : Recs (some ⟨b, off, none⟩) len l W) (j : Nat) : Recs (some ⟨b, off + j * n * 9, none⟩) (chunk n l j).length (chunk n l j) W := by
  have h1 := h.drop (j * n)
  have h2 := h1.take (chunk n l j).length (by rw [chunk_len, h.len_is]; omega)
  have e : (l.drop (j * n)).take (chunk n l j).length = chunk n l j := by
    unfold chunk
    rw [List.length_take, List.length_drop]
    by_cases hn : n ≤ l.length - j * n
    · rw [Nat.min_eq_left hn]
    · rw [Nat.min_eq_right (by omega), List.take_of_length_le (by rw [List.length_drop]; omega), List.take_of_length_le (by rw [List.length_drop]; omega)]
  rw [e] at h2
  exact h2
/-- k lots are there -/
theorem chunks_lt {n : Nat} {l : List Rec} (hn : 1 ≤ n) (j : Nat) : j < chunks n l ↔ j * n < l.length := by
  unfold chunks
  rw [Nat.lt_iff_add_one_le, Nat.le_div_iff_mul_le (by omega), Nat.add_mul, Nat.one_mul]
  omega
theorem chunks_zero (l : List Rec) (h : l.length = 0) (n : Nat) : chunks n l = 0 := by
  unfold chunks
  rw [h, Nat.zero_add]
  cases n with
  | zero => rfl
  | succ n => exact Nat.div_eq_of_lt (by omega)
theorem chunks_end {n : Nat} {l : List Rec} (hn : 1 ≤ n) {k : Nat} (h1 : l.length ≤ k * n) (h2 : ∀ j, j < k → j * n < l.length) : chunks n l = k := by
  have a : ¬ k < chunks n l := fun h => by have := (chunks_lt hn k).1 h; omega
  have b : ∀ j, j < k → j < chunks n l := fun j hj => (chunks_lt hn j).2 (h2 j hj)
  rcases Nat.lt_or_ge (chunks n l) k with h | h
  · have := b _ h; omega
  · omega

theorem infoL : (Try.prog.info? 22).map (fun i => (i.zero, i.size, i.bytes)) = some (some (.slice none 0 0), 1, 24) := by kernel_rfl
/-- the lots so far: a row of k slices -/
structure Lots (w W : World) (base : Nat) (v : Value) (b off n : Nat) (l : List Rec) (k : Nat) : Prop where
  own : ∃ vs, W.ownsRow base 22 1 v k vs ∧ ∀ i, i < k → ∃ c, vs[i]? = some (.slice (some ⟨b, off + i * n * 9, none⟩) (chunk n l i).length c) ∧ (chunk n l i).length ≤ c
  below : Below w.heap.size w W
theorem Lots.start {w W : World} (base : Nat) (b off n : Nat) (l : List Rec) (h : Below w.heap.size w W) : Lots w W base (.slice none 0 0) b off n l 0 := ⟨⟨[], World.ownsRow_nil _ _ _ _, fun i hi => by omega⟩, h⟩
theorem own_later {w w' : World} {base : Nat} {e : TypeId} {size : Nat} {v : Value} {n : Nat} {xs : List Value} (h : w.ownsRow base e size v n xs) (hb : Below w.heap.size w w') : w'.ownsRow base e size v n xs := Rk.own_later h hb
theorem Lots.later {w W W' : World} {base : Nat} {v : Value} {b off n k : Nat} {l : List Rec} (h : Lots w W base v b off n l k) (hb : Below W.heap.size W W') : Lots w W' base v b off n l k := by
  obtain ⟨vs, h1, h2⟩ := h.own
  exact ⟨⟨vs, own_later h1 hb, h2⟩, h.below.trans (hb.mono h.below.size)⟩
/-- one lot more -/
theorem Lots.next {w W : World} {base : Nat} {v : Value} {b off n k c : Nat} {l : List Rec} (h : Lots w W base v b off n l k) (hk : k ≤ 1000) (hw : w.heap.size ≤ base) (hbase : base ≤ W.heap.size) (hc : (chunk n l k).length ≤ c) :
    ∃ v' w', (Builtin.append_ #[31, 31] 31 #[v, .slice (some ⟨W.heap.size, 0, none⟩) 1 1]).run Try.prog (W.alloc (.cells #[.slice (some ⟨b, off + k * n * 9, none⟩) (chunk n l k).length c] 22)) = .ok v' w' ∧ Lots w w' base v' b off n l (k + 1) ∧ Below base W w' ∧
      (W.alloc (.cells #[.slice (some ⟨b, off + k * n * 9, none⟩) (chunk n l k).length c] 22)).grownBy w' v.ownBlock := by
  obtain ⟨vs, h1, h2⟩ := h.own
  obtain ⟨i0, hi0, hz0, hz1, hz2⟩ := info_parts infoL
  have hvl : vs.length = k := by have := h1.1; omega
  obtain ⟨v', w', r, o, g, _⟩ := Go.run_append_own (P := Try.prog) (W.alloc (.cells #[.slice (some ⟨b, off + k * n * 9, none⟩) (chunk n l k).length c] 22)) base 31 31 22 i0 (.slice none 0 0) 1 24 Try.underlying31 hi0 hz0 hz1 hz2 rfl (by decide) v k vs (h1.alloc _) ⟨W.heap.size, 0, none⟩ 1 1 [.slice (some ⟨b, off + k * n * 9, none⟩) (chunk n l k).length c]
    rfl (fun j u hu => by
      have hj : j = 0 := by
        have := (List.getElem?_eq_some_iff.1 hu).1
        simp at this; omega
      subst hj
      rw [Rk.add_n]
      have := World.cell?_alloc_mark W #[.slice (some ⟨b, off + k * n * 9, none⟩) (chunk n l k).length c] 22 (0, 0) 0
      rw [Nat.zero_add]
      exact this.trans hu) (fun u hu => by rw [List.mem_singleton.1 hu]; rfl) (by unfold maxLen; omega) (by omega) (by simp; omega)
  have hb : Below base W w' := ((Below.refl base W).alloc hbase _).trans ((Below.refl base _).grown g (by simp; omega) (fun q hq => (h1.lt q hq).1))
  refine ⟨v', w', r, ⟨⟨_, o, fun i hi => ?_⟩, h.below.trans (below_low hb hw)⟩, hb, g⟩
  by_cases hik : i < k
  · obtain ⟨ci, e1, e2⟩ := h2 i hik
    exact ⟨ci, by rw [List.getElem?_append_left (by omega)]; exact e1, e2⟩
  · obtain rfl : i = k := by omega
    exact ⟨c, by rw [List.getElem?_append_right (by omega), hvl, Nat.sub_self]; rfl, hc⟩
/-- what is cut: all lots; or none of none -/
def CutV (w W : World) (v : Value) (a : Option Addr) (n : Nat) (l : List Rec) : Prop :=
  (l = [] ∧ Lots w W w.heap.size v 0 0 n l 0) ∨ ∃ b off, a = some ⟨b, off, none⟩ ∧ l ≠ [] ∧ 1 ≤ n ∧ Lots w W w.heap.size v b off n l (chunks n l)
/-- a row of slices as it is read -/
theorem Lots.read {w W : World} {base : Nat} {v : Value} {b off n k : Nat} {l : List Rec} (h : Lots w W base v b off n l k) (h0 : 0 < k) :
    ∃ g cap, v = .slice (some ⟨g, 0, none⟩) k cap ∧ base ≤ g ∧ g < W.heap.size ∧ k ≤ cap ∧ ∀ i, i < k → ∃ c, W.cell? ⟨g, i, none⟩ = some (.slice (some ⟨b, off + i * n * 9, none⟩) (chunk n l i).length c) ∧ (chunk n l i).length ≤ c := by
  obtain ⟨vs, h1, h2⟩ := h.own
  have hvl : vs.length = k := by have := h1.1; omega
  rcases h1.2 with ⟨_, rfl⟩ | ⟨g, cap, cur, rfl, hb, hg, hnc, _, _, htake⟩
  · exact absurd hvl (by simp; omega)
  · refine ⟨g, cap, rfl, hb, (Array.getElem?_eq_some_iff.1 hg).1, hnc, fun i hi => ?_⟩
    obtain ⟨c, e1, e2⟩ := h2 i hi
    refine ⟨c, ?_, e2⟩
    rw [Pk.cell_at hg i]
    rw [← htake, List.getElem?_take] at e1
    split at e1
    · simpa using e1
    · cases e1
/-! What is cut, as it is read: a row of slices, each of which is a part's records, wherever they stand. -/
/-- lots that are none -/
theorem lots_none {w W : World} {base : Nat} {v : Value} {b off n : Nat} {l : List Rec} (h : Lots w W base v b off n l 0) : ∃ a c, v = .slice a 0 c := by
  obtain ⟨vs, h1, _⟩ := h.own
  rcases h1.2 with ⟨rfl, _⟩ | ⟨g, cap, cur, rfl, _⟩
  · exact ⟨_, _, rfl⟩
  · exact ⟨_, _, rfl⟩
def CutW (W : World) (v : Value) (n : Nat) (l : List Rec) : Prop :=
  ∃ A K c, v = .slice A K c ∧ (K = 0 ↔ l = []) ∧ (K = 0 ∨ (l ≠ [] ∧ 1 ≤ n ∧ K = chunks n l ∧ ∃ g, A = some ⟨g, 0, none⟩ ∧ g < W.heap.size ∧ K ≤ c ∧
    ∀ i, i < K → ∃ ai ci, W.cell? ⟨g, i, none⟩ = some (.slice ai (chunk n l i).length ci) ∧ (chunk n l i).length ≤ ci ∧ Recs ai (chunk n l i).length (chunk n l i) W))
theorem Recs.drewN' {a : Option Addr} {len : Nat} {xs : List Rec} {W : World} (h : Recs a len xs W) : Recs a len xs W.drew := h.later (Below.refl _ _).drew
theorem chunks_pos {n : Nat} {l : List Rec} (hn : 1 ≤ n) (h : l ≠ []) : 0 < chunks n l := (chunks_lt hn 0).2 (by
  cases l with
  | nil => exact absurd rfl h
  | cons x r => simp)
theorem CutV.read {w W : World} {v : Value} {a : Option Addr} {len n : Nat} {l : List Rec} (h : CutV w W v a n l) (hr : Recs a len l w) (hb : Below w.heap.size w W) : CutW W v n l := by
  rcases h with ⟨h1, h2⟩ | ⟨b, off, h1, h2, h3, h4⟩
  · obtain ⟨A, c, hv⟩ := lots_none h2
    exact ⟨A, 0, c, hv, by simp [h1], .inl rfl⟩
  · have hpos := chunks_pos h3 h2
    obtain ⟨g, c, hv, _, hg, hc, hcell⟩ := h4.read hpos
    refine ⟨_, _, c, hv, ⟨fun h => absurd h (by omega), fun h => absurd h h2⟩, .inr ⟨h2, h3, rfl, g, rfl, hg, hc, fun i hi => ?_⟩⟩
    obtain ⟨ci, e1, e2⟩ := hcell i hi
    rw [h1] at hr
    exact ⟨_, ci, e1, e2, chunk_recs (hr.later hb) i⟩

/-! Lots of their own: a row of slices, each of which owns its records. -/
/-- one slice laid behind a row of slices -/
theorem app_slice (base k : Nat) (v u : Value) (vs : List Value) (W : World) (h1 : W.ownsRow base 22 1 v k vs) (hu : u.oneCell' = true) (hk : k ≤ 1000) (hbase : base ≤ W.heap.size) :
    ∃ v' w', (Builtin.append_ #[31, 31] 31 #[v, .slice (some ⟨W.heap.size, 0, none⟩) 1 1]).run Try.prog (W.alloc (.cells #[u] 22)) = .ok v' w' ∧ w'.ownsRow base 22 1 v' (k + 1) (vs ++ [u]) ∧
      (W.alloc (.cells #[u] 22)).grownBy w' v.ownBlock := by
  obtain ⟨i0, hi0, hz0, hz1, hz2⟩ := info_parts infoL
  obtain ⟨v', w', r, o, g, _⟩ := Go.run_append_own (P := Try.prog) (W.alloc (.cells #[u] 22)) base 31 31 22 i0 (.slice none 0 0) 1 24 Try.underlying31 hi0 hz0 hz1 hz2 rfl (by decide) v k vs (h1.alloc _) ⟨W.heap.size, 0, none⟩ 1 1 [u]
    rfl (fun j x hx => by
      have hj : j = 0 := by
        have := (List.getElem?_eq_some_iff.1 hx).1
        simp at this; omega
      subst hj
      rw [Rk.add_n]
      have := World.cell?_alloc_mark W #[u] 22 (0, 0) 0
      rw [Nat.zero_add]
      exact this.trans hx) (fun x hx => by rw [List.mem_singleton.1 hx]; exact hu) (by unfold maxLen; omega) (by omega) (by simp; omega)
  exact ⟨v', w', r, o, g⟩
/-- a block of another type -/
def Off (t : TypeId) (W : World) (row : Option Nat) : Prop := ∀ r, row = some r → ∀ cs mk, W.heap[r]? ≠ some (.cells cs t mk)
theorem Off.none {t : TypeId} {W : World} : Off t W none := fun r h => by cases h
theorem ownsRow_off {W W' : World} {base size k : Nat} {e : TypeId} {v : Value} {xs : List Value} {row : Option Nat} (h : W.ownsRow base e size v k xs) (hg : W.grownBy W' row) (ho : Off e W row) : W'.ownsRow base e size v k xs := by
  refine h.kept hg ?_
  rcases h.2 with ⟨rfl, _⟩ | ⟨g, cap, cur, rfl, _, hgb, _⟩
  · exact .inl rfl
  · refine .inr fun e' => ?_
    simp only [Value.ownBlock] at e'
    exact ho g e'.symm _ _ hgb
theorem off_row {W : World} {base size k : Nat} {e t : TypeId} {v : Value} {xs : List Value} (h : W.ownsRow base e size v k xs) (ht : e ≠ t) : Off t W v.ownBlock := by
  rcases h.2 with ⟨rfl, _⟩ | ⟨g, cap, cur, rfl, _, hgb, _⟩
  · intro r hr; cases hr
  · intro r hr cs mk hh
    obtain rfl : g = r := by simpa [Value.ownBlock] using hr
    rw [hgb] at hh
    injection hh with hh
    injection hh with _ h2 _
    exact ht h2
/-- each of the lots so far owns its records -/
def LotsOk (W : World) (base n : Nat) (l : List Rec) (pre : List Nat) (vs : List Value) : Prop :=
  vs.length = pre.length ∧ ∀ (i x : Nat), pre[i]? = some x → ∃ u : Value, vs[i]? = some u ∧ W.ownsRow base 39 9 u (chunk n l x).length (rcs (chunk n l x))
theorem LotsOk.nil (W : World) (base n : Nat) (l : List Rec) : LotsOk W base n l [] [] := ⟨rfl, fun i x h => by simp at h⟩
theorem LotsOk.grown {W W' : World} {base n : Nat} {l : List Rec} {pre : List Nat} {vs : List Value} {row : Option Nat} (h : LotsOk W base n l pre vs) (hg : W.grownBy W' row) (ho : Off 39 W row) : LotsOk W' base n l pre vs :=
  ⟨h.1, fun i x hx => by
    obtain ⟨u, h1, h2⟩ := h.2 i x hx
    exact ⟨u, h1, ownsRow_off h2 hg ho⟩⟩
theorem LotsOk.next {W : World} {base n : Nat} {l : List Rec} {pre : List Nat} {vs : List Value} (h : LotsOk W base n l pre vs) {x : Nat} {u : Value} (hu : W.ownsRow base 39 9 u (chunk n l x).length (rcs (chunk n l x))) : LotsOk W base n l (pre ++ [x]) (vs ++ [u]) := by
  refine ⟨by rw [List.length_append, List.length_append, h.1]; rfl, fun i y hy => ?_⟩
  by_cases hi : i < pre.length
  · rw [List.getElem?_append_left hi] at hy
    obtain ⟨z, h1, h2⟩ := h.2 i y hy
    exact ⟨z, by rw [List.getElem?_append_left (by rw [h.1]; exact hi)]; exact h1, h2⟩
  · rw [List.getElem?_append_right (by omega)] at hy
    have hj : i - pre.length = 0 := by
      have := (List.getElem?_eq_some_iff.1 hy).1
      simp at this; omega
    rw [hj] at hy
    have hy : x = y := by simpa using hy
    subst hy
    exact ⟨u, by rw [List.getElem?_append_right (by rw [h.1]; omega), h.1, hj]; rfl, hu⟩
/-- all lots of their own are what is cut -/
theorem cutW_own {W : World} {base B n : Nat} {v : Value} {vs : List Value} {l : List Rec} (hn : 1 ≤ n) (hown : W.ownsRow base 22 1 v (chunks n l) vs) (hv : LotsOk W B n l (List.range (chunks n l)) vs) : CutW W v n l := by
  have hl : chunks n l = 0 ↔ l = [] := ⟨fun h => by
    by_cases hl : l = []
    · exact hl
    · have := chunks_pos hn hl; omega, fun h => chunks_zero l (by rw [h]; rfl) n⟩
  rcases hown.2 with ⟨rfl, h0⟩ | ⟨g, cap, cur, rfl, hb, hg, hnc, _, _, htake⟩
  · exact ⟨_, 0, _, rfl, by rw [← hl, h0], .inl rfl⟩
  · refine ⟨_, _, cap, rfl, hl, ?_⟩
    by_cases h0 : chunks n l = 0
    · exact .inl h0
    · refine .inr ⟨fun h => h0 (hl.2 h), hn, rfl, g, rfl, (Array.getElem?_eq_some_iff.1 hg).1, hnc, fun i hi => ?_⟩
      obtain ⟨u, h1, h2⟩ := hv.2 i i (List.getElem?_range hi)
      obtain ⟨ai, ci, e1, e2, e3⟩ := own_sl rfl h2
      refine ⟨ai, ci, ?_, e3, e2⟩
      rw [Pk.cell_at hg i]
      rw [← htake, List.getElem?_take] at h1
      split at h1
      · rw [← e1]; simpa using h1
      · cases h1
theorem CutW.none (W : World) (n : Nat) : CutW W (.slice none 0 0) n [] := ⟨_, 0, _, rfl, by simp, .inl rfl⟩
end Go.Proofs.Ytafcgknpehphlaa.Lt
