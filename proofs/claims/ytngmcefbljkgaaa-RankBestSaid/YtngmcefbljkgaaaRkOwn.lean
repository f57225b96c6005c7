/- Which one is the newest hangs on which records there are alone; and rows of records of a call's own. -/
import Derived.Test.YtngmcefbljkgaaaRkOrder
import Derived.OwnWalk
import Derived.Laws.OwnMore
namespace Go.Proofs.Ytngmcefbljkgaaa.Rk
open Go.RowKit
open Cd (Rec Fit may putB recB zeroR recV recL Blk)

theorem kept_kept (x : Rec) : kept (kept x) = kept x := by
  have h : (kept (kept x)).du = (kept x).du := by
    show (if (kept x).du < 0 then 0 else if 4611686018427387904 < (kept x).du then 4611686018427387904 else (kept x).du) = (kept x).du
    have h0 : 0 ≤ (kept x).du ∧ (kept x).du ≤ 4611686018427387904 := by
      show 0 ≤ (if x.du < 0 then 0 else if 4611686018427387904 < x.du then 4611686018427387904 else x.du) ∧ (if x.du < 0 then 0 else if 4611686018427387904 < x.du then 4611686018427387904 else x.du) ≤ 4611686018427387904
      split
      · omega
      · split <;> omega
    rw [if_neg (by omega), if_neg (by omega)]
  show { kept x with du := (kept (kept x)).du } = kept x
  rw [h]
theorem newer_kept_l (x y : Rec) : newer (kept x) y = newer x y := (newer_of_tie (tie_of_kept (kept_kept x))).1
theorem newer_kept_r (x y : Rec) : newer y (kept x) = newer y x := (newer_of_tie (c := y) (tie_of_kept (kept_kept x))).2

/-- the newest one is one of them, and none is newer -/
theorem best_top {l : List Rec} (h : l ≠ []) : ∃ t ∈ l, bestR l = kept t ∧ isR l = true ∧ ∀ y ∈ l, newer y t = false := by
  cases l with
  | nil => exact absurd rfl h
  | cons x r =>
    obtain ⟨h1, h2⟩ := top_ge r x
    refine ⟨top x r, ?_, rfl, rfl, fun y hy => ?_⟩
    · rcases top_mem r x with g | g
      · rw [g]; exact List.mem_cons_self ..
      · exact List.mem_cons_of_mem _ g
    · rcases List.mem_cons.1 hy with rfl | hy
      · exact h1
      · exact h2 y hy
/-- records that may be -/
def Good (l : List Rec) : Prop := ∀ x ∈ l, Fit x ∧ may x = 0
/-- of two lists, of which none has what is newer than all of the other one, the newest is the same -/
theorem best_same {A B : List Rec} (ga : Good A) (gb : Good B) (na : A ≠ []) (nb : B ≠ []) (ab : ∀ a ∈ A, ∃ b ∈ B, newer a b = false) (ba : ∀ b ∈ B, ∃ a ∈ A, newer b a = false) : bestR A = bestR B := by
  obtain ⟨t, ht, h1, _, h2⟩ := best_top na
  obtain ⟨s, hs, k1, _, k2⟩ := best_top nb
  rw [h1, k1]
  obtain ⟨b, hb, e⟩ := ab t ht
  obtain ⟨a, ha, f⟩ := ba s hs
  exact top_same (ga t ht).1 (gb s hs).1 (ga t ht).2 (gb s hs).2 (newer_not e (k2 b hb)) (newer_not f (h2 a ha))
/-- the records backwards, and the first one behind each -/
def bk (x0 : Rec) (l : List Rec) : List Rec := l.reverse.flatMap fun y => [y, x0]
theorem bk_cons (x0 y : Rec) (l : List Rec) : bk x0 (y :: l) = bk x0 l ++ [y, x0] := by unfold bk; rw [List.reverse_cons, List.flatMap_append]; simp
theorem bk_len (x0 : Rec) : ∀ l : List Rec, (bk x0 l).length = l.length * 2
  | [] => rfl
  | y :: l => by rw [bk_cons, List.length_append, bk_len x0 l, List.length_cons]; simp; omega
theorem mem_bk {x0 b : Rec} {l : List Rec} (h : b ∈ bk x0 l) : b ∈ l ∨ b = x0 := by
  unfold bk at h
  obtain ⟨y, hy, hb⟩ := List.mem_flatMap.1 h
  rw [List.mem_reverse] at hy
  simp only [List.mem_cons, List.not_mem_nil, or_false] at hb
  rcases hb with rfl | rfl
  · exact .inl hy
  · exact .inr rfl
theorem bk_mem {x0 y : Rec} {l : List Rec} (h : y ∈ l) : y ∈ bk x0 l := List.mem_flatMap.2 ⟨y, List.mem_reverse.2 h, List.mem_cons_self ..⟩
theorem bk_good {x0 : Rec} {l : List Rec} (g : Good (x0 :: l)) : Good (bk x0 (x0 :: l)) := fun b hb => by
  rcases mem_bk hb with h | rfl
  · exact g b h
  · exact g _ (List.mem_cons_self ..)
theorem bk_best {x0 : Rec} {l : List Rec} (g : Good (x0 :: l)) : bestR (bk x0 (x0 :: l)) = bestR (x0 :: l) := by
  refine best_same (bk_good g) g ?_ (by simp) (fun a ha => ?_) (fun b hb => ⟨b, bk_mem hb, newer_irrefl b⟩)
  · intro h
    have := bk_len x0 (x0 :: l)
    rw [h] at this
    simp at this
  · rcases mem_bk ha with h | rfl
    · exact ⟨a, h, newer_irrefl a⟩
    · exact ⟨a, List.mem_cons_self .., newer_irrefl a⟩
theorem is_ne {l : List Rec} (h : l ≠ []) : isR l = true := by cases l with
  | nil => exact absurd rfl h
  | cons x r => rfl
theorem take_ne {x0 : Rec} {l : List Rec} (k : Nat) : (x0 :: l).take (k + 1) ≠ [] := by simp
theorem cut_good {x0 : Rec} {l : List Rec} (k : Nat) (g : Good (x0 :: l)) : Good (bestR ((x0 :: l).take (k + 1)) :: (x0 :: l).drop (k + 1)) := fun b hb => by
  rcases List.mem_cons.1 hb with rfl | hb
  · obtain ⟨t, ht, h1, _, _⟩ := best_top (take_ne (x0 := x0) (l := l) k)
    rw [h1]
    have := g t (List.mem_of_mem_take ht)
    exact ⟨fit_kept this.1, by rw [may_kept]; exact this.2⟩
  · exact g b (List.mem_of_mem_drop hb)
theorem cut_best {x0 : Rec} {l : List Rec} (k : Nat) (g : Good (x0 :: l)) : bestR (bestR ((x0 :: l).take (k + 1)) :: (x0 :: l).drop (k + 1)) = bestR (x0 :: l) := by
  obtain ⟨t, ht, h1, _, h2⟩ := best_top (take_ne (x0 := x0) (l := l) k)
  refine best_same (cut_good k g) g (by simp) (by simp) (fun b hb => ?_) (fun a ha => ?_)
  · rcases List.mem_cons.1 hb with rfl | hb
    · exact ⟨t, List.mem_of_mem_take ht, by rw [h1, newer_kept_l]; exact newer_irrefl t⟩
    · exact ⟨b, List.mem_of_mem_drop hb, newer_irrefl b⟩
  · rw [← List.take_append_drop (k + 1) (x0 :: l)] at ha
    rcases List.mem_append.1 ha with ha | ha
    · exact ⟨_, List.mem_cons_self .., by rw [h1, newer_kept_r]; exact h2 a ha⟩
    · exact ⟨a, List.mem_cons_of_mem _ ha, newer_irrefl a⟩
/-- one of them is the same as the newest, and none is newer -/
theorem best_in {l : List Rec} (h : l ≠ []) : (∃ y ∈ l, kept y = kept (bestR l)) ∧ ∀ y ∈ l, newer y (bestR l) = false := by
  obtain ⟨t, ht, h1, _, h2⟩ := best_top h
  exact ⟨⟨t, ht, by rw [h1, kept_kept]⟩, fun y hy => by rw [h1, newer_kept_r]; exact h2 y hy⟩
theorem best_fit {l : List Rec} (hf : ∀ x ∈ l, Fit x) (h : l ≠ []) : Fit (bestR l) := by
  obtain ⟨t, ht, h1, _, _⟩ := best_top h
  rw [h1]; exact fit_kept (hf t ht)

theorem infoS : (Try.prog.info? 23).map (fun i => (i.zero, i.size, i.bytes)) = some (some (recV zeroR), 9, 88) := by kernel_rfl
theorem add_n (b o i : Nat) : (⟨b, o, none⟩ : Addr).add i = ⟨b, o + i, none⟩ := by unfold Addr.add; split <;> simp_all
theorem one_cell : ∀ (l : List Rec), ∀ u ∈ rcs l, u.oneCell' = true
  | [], u, h => by cases h
  | x :: r, u, h => by
    rcases List.mem_append.1 h with h | h
    · simp only [recL, List.mem_cons, List.not_mem_nil, or_false] at h
      rcases h with rfl | rfl | rfl | rfl | rfl | rfl | rfl | rfl | rfl <;> rfl
    · exact one_cell r u h
/-- the cells of records that stand in memory -/
theorem recs_cells {b off len : Nat} {xs : List Rec} {W : World} (h : Recs (some ⟨b, off, none⟩) len xs W) : ∀ i v, (rcs xs)[i]? = some v → W.cell? ⟨b, off + i, none⟩ = some v := by
  intro i v hv
  have hi : i < (rcs xs).length := (List.getElem?_eq_some_iff.1 hv).1
  rw [rcs_len, h.len_is] at hi
  obtain ⟨b', off', h1, _, h3⟩ := h.at_ (by omega)
  injection h1 with h1; injection h1 with e1 e2
  subst e1 e2
  obtain ⟨x, hx⟩ : ∃ x, xs[i / 9]? = some x := ⟨_, List.getElem?_eq_getElem (by rw [h.len_is]; omega)⟩
  have c := h3 (i / 9) x hx
  have hm : i % 9 < 9 := Nat.mod_lt _ (by omega)
  have hd : i / 9 * 9 + i % 9 = i := by omega
  have hc : i % 9 = 0 ∨ i % 9 = 1 ∨ i % 9 = 2 ∨ i % 9 = 3 ∨ i % 9 = 4 ∨ i % 9 = 5 ∨ i % 9 = 6 ∨ i % 9 = 7 ∨ i % 9 = 8 := by omega
  have key : ∀ j u, i % 9 = j → (recL x)[j]? = some u → W.cell? ⟨b, off + i / 9 * 9 + j, none⟩ = some u → W.cell? ⟨b, off + i, none⟩ = some v := by
    intro j u hj hu hw
    have := rcs_at xs (i / 9) x j u hx hu
    rw [← hj, hd, hv] at this
    injection this with this
    rw [this, ← hw]
    congr 2
    omega
  obtain ⟨c0, c1, c2, c3, c4, c5, c6, c7, c8⟩ := c
  rcases hc with hc | hc | hc | hc | hc | hc | hc | hc | hc
  · exact key 0 _ hc rfl c0
  · exact key 1 _ hc rfl c1
  · exact key 2 _ hc rfl c2
  · exact key 3 _ hc rfl c3
  · exact key 4 _ hc rfl c4
  · exact key 5 _ hc rfl c5
  · exact key 6 _ hc rfl c6
  · exact key 7 _ hc rfl c7
  · exact key 8 _ hc rfl c8
/-- a row of the call's own, as it is read -/
theorem recs_own {w : World} {base : Nat} {v : Value} {n : Nat} {zs : List Rec} (hn : zs.length = n) (h0 : 0 < n) (h : w.ownsRow base 23 9 v n (rcs zs)) :
    ∃ g cap, v = .slice (some ⟨g, 0, none⟩) n cap ∧ Recs (some ⟨g, 0, none⟩) n zs w ∧ n ≤ cap ∧ base ≤ g := by
  rcases h.2 with ⟨_, rfl⟩ | ⟨g, cap, cur, rfl, hb, hg, hnc, _, _, htake⟩
  · exact absurd h.1 (by
      rw [rcs_len]; simp; omega)
  · refine ⟨g, cap, rfl, ?_, hnc, hb⟩
    subst hn
    refine recs_of (Array.getElem?_eq_some_iff.1 hg).1 fun i u hu => ?_
    have hi : i < (rcs zs).length := (List.getElem?_eq_some_iff.1 hu).1
    rw [Nat.zero_add, Pk.cell_at hg i]
    rw [← htake, List.getElem?_take] at hu
    split at hu
    · simpa using hu
    · cases hu
/-- records that are laid behind a row of the call's own -/
theorem app_recs (base n : Nat) (v : Value) (xs ys : List Rec) (a : Option Addr) (m c : Nat) (w : World) (hown : w.ownsRow base 23 9 v n (rcs xs))
    (hs : Recs a m ys w) (ha : ∃ b o, a = some ⟨b, o, none⟩) (hl : n + m ≤ 1000) (hb : base ≤ w.heap.size) :
    ∃ v' w', (Builtin.append_ #[24, 24] 24 #[v, .slice a m c]).run Try.prog w = .ok v' w' ∧ w'.ownsRow base 23 9 v' (n + m) (rcs (xs ++ ys)) ∧ Below base w w' ∧ w.grownBy w' v.ownBlock := by
  obtain ⟨i0, hi0, hz0, hz1, hz2⟩ := info_parts infoS
  obtain ⟨b, o, rfl⟩ := ha
  obtain ⟨v', w', h1, h2, h3, _⟩ := Go.run_append_own (P := Try.prog) w base 24 24 23 i0 (recV zeroR) 9 88 Try.underlying24 hi0 hz0 hz1 hz2 rfl (by decide) v n _ hown ⟨b, o, none⟩ m c (rcs ys)
    (by rw [rcs_len, hs.len_is]) (fun j u hu => by rw [add_n]; exact recs_cells hs j u hu) (one_cell ys) (by unfold maxLen; omega) (by omega) hb
  exact ⟨v', w', h1, by rw [rcs_append]; exact h2, (Below.refl base w).grown h3 hb (fun k hk => (hown.lt k hk).1), h3⟩
end Go.Proofs.Ytngmcefbljkgaaa.Rk
