/- A file is let in among others, or taken out: the library's slices.Insert and slices.Delete at rows of pointers. -/
import Derived.Test.YtlmhghcoohalaaaDkKit
import Derived.Shelf.Spec.SlicesInsertGrow
import Derived.Deep.RegionLaw
import Derived.Deep.RegionWith
namespace Go.Proofs.Ytlmhghcoohalaaa.Dk
open Go.RowKit Go.Lib Go.Shelf

theorem info64 : (Try.prog.info? 64).map (fun i => (i.zero, i.size, i.bytes)) = some (some (.pointer none), 1, 8) := by kernel_rfl

/-- what a row's block holds behind a piece that was laid -/
theorem heap_setCells (g : Nat) (e : TypeId) : ∀ (vs : List Value) (o : Nat) (w : World) (cur : Array Value), w.heap[g]? = some (.cells cur e (0, 0)) → o + vs.length ≤ cur.size →
    ∃ cur' : Array Value, (w.setCells g o vs).heap[g]? = some (.cells cur' e (0, 0)) ∧ cur'.toList = cur.toList.take o ++ vs ++ cur.toList.drop (o + vs.length)
  | [], o, w, cur, h, _ => ⟨cur, h, by simp⟩
  | v :: r, o, w, cur, h, hl => by
    have h1 := heap_setCell_same w g o cur e v h
    have hl' : o + 1 + r.length ≤ cur.size := by rw [List.length_cons] at hl; omega
    obtain ⟨c2, h2, h3⟩ := heap_setCells g e r (o + 1) _ _ h1 (by rw [Array.size_setIfInBounds]; exact hl')
    refine ⟨c2, h2, ?_⟩
    rw [h3, Array.toList_setIfInBounds]
    have ho : o < cur.toList.length := by rw [Array.length_toList]; omega
    rw [List.take_succ_eq_append_getElem (by rw [List.length_set]; exact ho), List.getElem_set_self, List.take_set_of_le (Nat.le_refl _), List.drop_set_of_lt (by omega), List.length_cons, show o + 1 + r.length = o + (r.length + 1) by omega]
    simp

theorem grown_trans {a b c : World} {row : Option Nat} (h : a.grownBy b row) (k : b.grownBy c row) : a.grownBy c row :=
  ⟨k.os.trans h.os, k.tape.trans h.tape, k.output.trans h.output, Nat.le_trans h.size k.size, fun i hi hn => (k.block i (Nat.lt_of_lt_of_le hi h.size) hn).trans (h.block i hi hn)⟩

/-- a piece that is laid into a row leaves all other blocks -/
theorem grown_setCells (g : Nat) : ∀ (vs : List Value) (o : Nat) (w : World), w.grownBy (w.setCells g o vs) (some g)
  | [], _, _ => ⟨rfl, rfl, rfl, Nat.le_refl _, fun _ _ _ => rfl⟩
  | v :: r, o, w => by
    have h : w.grownBy (w.setCell ⟨g, o, none⟩ v) (some g) := ⟨rfl, rfl, rfl, by simp [World.setCell], fun k _ hn => heap_setCell_other w ⟨g, o, none⟩ k v (fun e => hn (congrArg some e))⟩
    exact grown_trans h (grown_setCells g r (o + 1) (w.setCell ⟨g, o, none⟩ v))

set_option maxHeartbeats 4000000 in
set_option maxRecDepth 100000 in
/-- slices.Insert of one: there is room, and it is not at the end: in place -/
theorem insert_shift (b n c i vb : Nat) (cur : Array Value) (x : Value) (w : World) (hb : w.heap[b]? = some (.cells cur 64 (0, 0))) (hcur : cur.size = c) (hi : i < n) (hroom : n + 1 ≤ c) (hc63 : c ≤ 9223372036854775807)
    (hv : w.heap[vb]? = some (.cells #[x] 64 (0, 0))) (hvb : vb ≠ b) (h1c : ∀ u ∈ cur.toList.take n, u.oneCell' = true) (hx : x.oneCell' = true) :
    Calls Try.prog 56 #[.slice (some ⟨b, 0, none⟩) n c, .int .i64 (i : Int), .slice (some ⟨vb, 0, none⟩) 1 1] w fun e w' =>
      e = .returned (.slice (some ⟨b, 0, none⟩) (n + 1) c) ∧ w' = (w.drew.setCells b (i + 1) ((cur.toList.take n).drop i)).setCells b i [x] := by
  obtain ⟨cs, hcs⟩ : ∃ cs, cs = cur.toList.take n := ⟨_, rfl⟩
  rw [← hcs] at h1c ⊢
  have hcl : cs.length = n := by rw [hcs, List.length_take, Array.length_toList]; omega
  have hcell : ∀ j u, cs[j]? = some u → w.cell? ⟨b, j, none⟩ = some u := fun j u hu => by
    rw [cell_of_row w b j cur _ (0, 0) hb]
    rw [hcs, List.getElem?_take] at hu
    split at hu
    · simpa using hu
    · cases hu
  have hsp : ∀ j, j < n + 1 → (w.cell? ⟨b, j, none⟩).isSome = true := fun j hj => by rw [cell_of_row w b j cur _ (0, 0) hb, Array.getElem?_eq_getElem (by omega)]; rfl
  have hfz : ∀ j, w.frozen? ⟨b, j, none⟩ = false := fun j => frozen_of_row w b j cur _ hb
  have hvx : w.cell? ⟨vb, 0, none⟩ = some x := cell_of_row w vb 0 _ _ (0, 0) hv
  have hsz : (Try.prog.info? 64).map (·.size) = some 1 := by
    obtain ⟨i0, hi0, h0, h1, h2⟩ := info_parts info64
    rw [hi0]; simp [h1]
  have hsa : w.shape? vb = some (64, 1) := by unfold World.shape?; rw [hv]; rfl
  have hsb : w.shape? b = some (64, cur.size) := by unfold World.shape?; rw [hb]
  have hfa : ∀ j, w.frozen? ⟨vb, j, none⟩ = false := fun j => frozen_of_row w vb j _ _ hv
  have hov : ∀ lb cb, (callFunc 61 #[.slice (some ⟨vb, 0, none⟩) 1 1, .slice (some ⟨b, i + 1, none⟩) lb cb]).run Try.prog w = .ok (.value (.bool false)) w := fun lb cb => by
    rw [run_callFunc_extern Try.func61 (by kernel_rfl) (by kernel_rfl) (by kernel_rfl) (e := Extern.SlicesOverlaps.overlaps #[29, 29] #[4]) (by kernel_rfl),
      Lib.run_overlaps_apart w 29 4 64 Try.underlying29 1 (fun _ => by kernel_rfl) ⟨vb, 0, none⟩ ⟨b, i + 1, none⟩ 1 1 lb cb hvb 64 64 1 cur.size hsa hsb (by omega) (hfa 0) (hfa 1)]
    rfl
  have hdl : (cs.drop i).length = n - i := by rw [List.length_drop, hcl]
  have hw1 : IntKind.i64.wrap ((i : Int) + 1) = (i : Int) + 1 := by rw [IntKind.wrap_i64]; omega
  have hb1 : (0 : Int) ≤ (i : Int) + 1 := by omega
  have hin : i ≤ n := by omega
  have hne : ((i : Int) == (n : Int)) = false := by simp; omega
  have htn : ((i : Int) + 1).toNat = i + 1 := by omega
  have hb2 : ¬ (c = i + 1) := by omega
  have hb3 : (i : Int) ≤ (n : Int) + 1 := by omega
  have hb4 : ¬ (c = i) := by omega
  have hcp1 : ∀ ty dc sc, (Builtin.copy_ #[29, 29] ty #[.slice (some ⟨b, i + 1, none⟩) (n - i) dc, .slice (some ⟨b, i, none⟩) (n + 1 - i) sc]).run Try.prog w.drew = .ok (goInt (cs.drop i).length) (w.drew.setCells b (i + 1) (cs.drop i)) := fun ty dc sc =>
    run_copy_cells w.drew _ _ ty 64 b (i + 1) (n - i) dc ⟨b, i, none⟩ (n + 1 - i) sc (cs.drop i) Try.underlying29 hsz (by rw [hdl]; simp only [Nat.min_def]; split <;> omega)
      (fun j v hj => by rw [Addr.add_lit]; exact hcell (i + j) v (by rwa [List.getElem?_drop] at hj))
      (fun j hj => hsp _ (by omega)) (fun j hj => hfz _) (fun v hv => h1c v (List.mem_of_mem_drop hv))
  obtain ⟨W1, hW1⟩ : ∃ W1, W1 = w.drew.setCells b (i + 1) (cs.drop i) := ⟨_, rfl⟩
  have hsp1 : ∀ k, k < n + 1 → (W1.cell? ⟨b, k, none⟩).isSome = true := fun k hk => by
    rw [hW1]
    exact isSome_setCells b (cs.drop i) (i + 1) w.drew (fun j hj => hsp (i + 1 + j) (by omega)) k (hsp k hk)
  have hcp2 : ∀ (W : World), (∀ x, W.cell? x = W1.cell? x) → (∀ x, W.frozen? x = W1.frozen? x) → ∀ ty dc, (Builtin.copy_ #[29, 29] ty #[.slice (some ⟨b, i, none⟩) (n + 1 - i) dc, .slice (some ⟨vb, 0, none⟩) 1 1]).run Try.prog W = .ok (goInt ([x] : List Value).length) (W.setCells b i [x]) := fun W hWc hWf ty dc =>
    run_copy_cells W _ _ ty 64 b i (n + 1 - i) dc ⟨vb, 0, none⟩ 1 1 [x] Try.underlying29 hsz (by simp only [Nat.min_def, List.length_singleton]; split <;> omega)
      (fun j v hj => by
        rw [Addr.add_lit, hWc, hW1, World.cell?_setCells_out b _ _ _ _ (fun h _ => absurd h hvb)]
        cases j with
        | zero => simp at hj; subst hj; exact hvx
        | succ j => simp at hj)
      (fun j hj => by rw [hWc]; exact hsp1 _ (by simp at hj; omega)) (fun j hj => by rw [hWf, hW1, World.frozen?_setCells]; exact hfz _) (fun v hv => by simp at hv; subst hv; exact hx)
  rw [← hW1] at hcp1 ⊢
  have HW1 := Lib.hid hW1
  clear hW1 hcell hsp hfz hvx hsa hsb hfa hsp1 hcs hv hb h1c hx hdl
  go_enter Try.func56, Try.ntmps56
  go_wp2_with (simp only [hov])
  go_region_law (refine step_copy_runI rfl _ _ 29 29 rfl _ _ (by simp [Act.eval, Act.put]) (by simp [Act.eval, Act.put]) (hcp1 _ _ _) ?_)
  go_wp2_with (at_builtin; refine wpList_copy_runI _ rfl _ _ 29 29 rfl _ _ rfl rfl (hcp2 _ (fun _ => rfl) (fun _ => rfl) _ _) ?_)
  go_ret
  first | exact ⟨rfl, rfl⟩ | exact ⟨rfl, by rw [HW1.out]⟩
set_option maxHeartbeats 4000000 in
set_option maxRecDepth 100000 in
/-- slices.Insert of one: no room, and it is not at the end: a new row -/
theorem insert_grow (b n c i vb : Nat) (cur : Array Value) (x : Value) (w : World) (hb : w.heap[b]? = some (.cells cur 64 (0, 0))) (hcur : cur.size = c) (hi : i < n) (hnc : n ≤ c) (hroom : c < n + 1) (hsm : n ≤ 1000000)
    (hv : w.heap[vb]? = some (.cells #[x] 64 (0, 0))) (_hvb : vb ≠ b) (h1c : ∀ u ∈ cur.toList.take n, u.oneCell' = true) (hx : x.oneCell' = true) :
    Calls Try.prog 56 #[.slice (some ⟨b, 0, none⟩) n c, .int .i64 (i : Int), .slice (some ⟨vb, 0, none⟩) 1 1] w fun e w' =>
      ∃ G ROW, n + 1 ≤ G ∧ G ≤ maxLen ∧ ROW.size = G ∧ ROW.toList.take i = (cur.toList.take n).take i ∧ e = .returned (.slice (some ⟨w.heap.size, 0, none⟩) (n + 1) G) ∧
      w' = (((w.alloc (.cells ROW 64)).drew.setCells w.heap.size i [x]).drew).setCells w.heap.size (i + 1) ((cur.toList.take n).drop i) := by
  obtain ⟨cs, hcs⟩ : ∃ cs, cs = cur.toList.take n := ⟨_, rfl⟩
  rw [← hcs] at h1c ⊢
  have hcl : cs.length = n := by rw [hcs, List.length_take, Array.length_toList]; omega
  have hcell : ∀ j u, cs[j]? = some u → w.cell? ⟨b, j, none⟩ = some u := fun j u hu => by
    rw [cell_of_row w b j cur _ (0, 0) hb]
    rw [hcs, List.getElem?_take] at hu
    split at hu
    · simpa using hu
    · cases hu
  have hvx : w.cell? ⟨vb, 0, none⟩ = some x := cell_of_row w vb 0 _ _ (0, 0) hv
  obtain ⟨i0, hi0, hz0, hzs, hzb⟩ := info_parts info64
  have hsz : (Try.prog.info? 64).map (·.size) = some 1 := by rw [hi0]; simp [hzs]
  have hbw : b < w.heap.size := lt_of_block hb
  have hvw : vb < w.heap.size := lt_of_block hv
  have hkk : (n : Int) + 1 - (i : Int) = ((n + 1 - i : Nat) : Int) := by omega
  have hik : i + (n + 1 - i) = n + 1 := by omega
  have hold : (Builtin.firstCells i0.size i (.slice (some ⟨b, 0, none⟩) i c)).run Try.prog w.drew = .ok (cs.take i).toArray w.drew := by
    rw [hzs]
    exact run_firstCells_some w.drew 1 i ⟨b, 0, none⟩ i c (cs.take i) (by rw [List.length_take]; omega) (fun j v hj => by
      rw [Addr.add_lit, Nat.zero_add]
      rw [List.getElem?_take] at hj
      split at hj
      · exact hcell j v hj
      · cases hj)
  obtain ⟨G, hG⟩ : ∃ G, G = grownCap w (n + 1) c 64 := ⟨_, rfl⟩
  obtain ⟨ROW, hROW⟩ : ∃ ROW : Array Value, ROW = (cs.take i).toArray ++ Builtin.zeroCells (Value.pointer none).cells (n + 1 - i) ++ Builtin.zeroCells (Value.pointer none).cells (G - (n + 1)) := ⟨_, rfl⟩
  have hrz : ∀ ty, (Builtin.append_ #[29, 3] ty #[.slice (some ⟨b, 0, none⟩) i c, .int .i64 ((n : Int) + 1 - (i : Int))]).run Try.prog w =
      .ok (.slice (some ⟨w.heap.size, 0, none⟩) (n + 1) G) (w.drew.alloc (.cells ROW 64)) := fun ty => by
    have h := Lib.run_append_grow_zeros w 29 3 ty 64 i0 _ .i64 .i64 Try.underlying29 Try.underlying3 hi0 hz0 (some ⟨b, 0, none⟩) i c (cs.take i) hold (n + 1 - i) (by omega) (by omega) (by omega) (by omega) (by rw [hzb]; omega) (by rw [hzb, hik]; exact growslice_fits hroom (by omega))
    rw [hik, ← hG, ← hROW] at h
    rw [hkk]
    exact h
  have hGn : n + 1 ≤ G := by rw [hG]; exact grownCap_ge w _ _ _
  have hGm : G ≤ maxLen := by rw [hG]; exact grownCap_le_maxLen w (n + 1) c 64 (by unfold maxLen; omega)
  have hG63 : G ≤ 9223372036854775807 := by unfold maxLen at hGm; omega
  have hRs : ROW.size = G := by
    rw [hROW]
    simp [Builtin.zeroCells, Value.cells, hcl]
    omega
  have hRt : ROW.toList.take i = cs.take i := by
    rw [hROW, Array.append_assoc, Array.toList_append, List.take_append_of_le_length (by simp [hcl]; omega)]
    simp [List.take_take]
  have HRES : Hid (n + 1 ≤ G ∧ G ≤ maxLen ∧ ROW.size = G ∧ ROW.toList.take i = cs.take i) := ⟨hGn, hGm, hRs, hRt⟩
  obtain ⟨W1, hW1⟩ : ∃ W1, W1 = w.drew.alloc (.cells ROW 64) := ⟨_, rfl⟩
  rw [← hW1] at hrz
  have hN : ∀ j, j < n + 1 → (W1.cell? ⟨w.heap.size, j, none⟩).isSome = true := fun j hj => by
    rw [hW1, World.cell?_alloc_at (w := w.drew) ROW _ w.heap.size j rfl, Array.getElem?_eq_getElem (by omega)]; rfl
  have hNf : ∀ j, W1.frozen? ⟨w.heap.size, j, none⟩ = false := fun j => by rw [hW1]; exact World.frozen?_alloc_at (w := w.drew) ROW _ w.heap.size j rfl
  have hOb : ∀ j v, w.cell? ⟨b, j, none⟩ = some v → W1.cell? ⟨b, j, none⟩ = some v := fun j v h => by rw [hW1, World.cell?_alloc_past (w := w.drew) _ b j hbw]; exact h
  have hOv : ∀ j v, w.cell? ⟨vb, j, none⟩ = some v → W1.cell? ⟨vb, j, none⟩ = some v := fun j v h => by rw [hW1, World.cell?_alloc_past (w := w.drew) _ vb j hvw]; exact h
  have hcpA : ∀ (W : World), (∀ x, W.cell? x = W1.cell? x) → (∀ x, W.frozen? x = W1.frozen? x) → ∀ ty dc, (Builtin.copy_ #[29, 29] ty #[.slice (some ⟨w.heap.size, i, none⟩) (n + 1 - i) dc, .slice (some ⟨vb, 0, none⟩) 1 1]).run Try.prog W = .ok (goInt ([x] : List Value).length) (W.setCells w.heap.size i [x]) := fun W hWc hWf ty dc =>
    run_copy_cells W _ _ ty 64 w.heap.size i (n + 1 - i) dc ⟨vb, 0, none⟩ 1 1 [x] Try.underlying29 hsz (by simp only [Nat.min_def, List.length_singleton]; split <;> omega)
      (fun j v hj => by
        rw [Addr.add_lit, hWc]
        cases j with
        | zero => simp at hj; subst hj; exact hOv 0 _ hvx
        | succ j => simp at hj)
      (fun j hj => by rw [hWc]; exact hN _ (by simp at hj; omega)) (fun j hj => by rw [hWf]; exact hNf _) (fun v hv => by simp at hv; subst hv; exact hx)
  have hGi : ¬ (G = i) := by omega
  have hGim : ¬ (G = i + 1) := by omega
  have hci : ¬ (c = i) := by omega
  have hbN : b ≠ w.heap.size := by omega
  have hdl : (cs.drop i).length = n - i := by rw [List.length_drop, hcl]
  have hcpB : ∀ (W : World), (∀ y, W.cell? y = (W1.setCells w.heap.size i [x]).cell? y) → (∀ y, W.frozen? y = (W1.setCells w.heap.size i [x]).frozen? y) → ∀ ty dc sc, (Builtin.copy_ #[29, 29] ty #[.slice (some ⟨w.heap.size, i + 1, none⟩) (n - i) dc, .slice (some ⟨b, i, none⟩) (n - i) sc]).run Try.prog W = .ok (goInt (cs.drop i).length) (W.setCells w.heap.size (i + 1) (cs.drop i)) := fun W hWc hWf ty dc sc =>
    run_copy_cells W _ _ ty 64 w.heap.size (i + 1) (n - i) dc ⟨b, i, none⟩ (n - i) sc (cs.drop i) Try.underlying29 hsz (by rw [hdl]; simp only [Nat.min_def]; split <;> omega)
      (fun j v hj => by
        rw [Addr.add_lit, hWc, World.cell?_setCells_out _ _ _ _ _ (fun h _ => absurd h hbN)]
        exact hOb _ v (hcell (i + j) v (by rwa [List.getElem?_drop] at hj)))
      (fun j hj => by rw [hWc]; exact isSome_setCells w.heap.size [x] i W1 (fun t ht => hN _ (by simp at ht; omega)) _ (hN _ (by omega)))
      (fun j hj => by rw [hWf, World.frozen?_setCells]; exact hNf _) (fun v hv => h1c v (List.mem_of_mem_drop hv))
  subst hW1
  have hE1 : ∀ x, ((w.alloc (.cells ROW 64)).drew).cell? x = (w.drew.alloc (.cells ROW 64)).cell? x := fun x => rfl
  have hE2 : ∀ x, ((w.alloc (.cells ROW 64)).drew).frozen? x = (w.drew.alloc (.cells ROW 64)).frozen? x := fun x => rfl
  have hF1 : ∀ y, (((w.alloc (.cells ROW 64)).drew.setCells w.heap.size i [x]).drew).cell? y = ((w.drew.alloc (.cells ROW 64)).setCells w.heap.size i [x]).cell? y := fun x => rfl
  have hF2 : ∀ y, (((w.alloc (.cells ROW 64)).drew.setCells w.heap.size i [x]).drew).frozen? y = ((w.drew.alloc (.cells ROW 64)).setCells w.heap.size i [x]).frozen? y := fun x => rfl
  have hw1 : IntKind.i64.wrap ((i : Int) + 1) = (i : Int) + 1 := by rw [IntKind.wrap_i64]; omega
  have hb1 : (0 : Int) ≤ (i : Int) + 1 := by omega
  have hin : i ≤ n := by omega
  have htn : ((i : Int) + 1).toNat = i + 1 := by omega
  have hb3 : (i : Int) ≤ (n : Int) := by omega
  have hne : ((i : Int) == (n : Int)) = false := by simp; omega
  have hz3 : (c : Int) < (n : Int) + 1 := by omega
  clear hkk hik hold hROW hG hRs hRt hGm hcell hvx hv hb hx h1c hdl hN hNf hOb hOv hcs
  go_enter Try.func56, Try.ntmps56
  go_wp2_with (first
    | (at_builtin; refine Lib.wpList_append_run _ rfl _ _ _ _ rfl _ _ rfl rfl _ _ (hrz _) ?_)
    | (at_builtin; refine wpList_copy_runI _ rfl _ _ 29 29 rfl _ _ rfl rfl (hcpA _ hE1 hE2 _ _) ?_)
    | (at_builtin; refine wpList_copy_runI _ rfl _ _ 29 29 rfl _ _ rfl rfl (hcpB _ (fun _ => rfl) (fun _ => rfl) _ _ _) ?_))
  go_region_law (refine step_copy_runI rfl _ _ 29 29 rfl (.slice (some ⟨w.heap.size, i + 1, none⟩) (n - i) (G - (i + 1))) (.slice (some ⟨b, i, none⟩) (n - i) (c - i)) (by simp [Act.eval, Act.put]) (by simp [Act.eval, Act.put]) (hcpB _ hF1 hF2 3 (G - (i + 1)) (c - i)) ?_)
  go_wp2
  go_ret
  exact ⟨G, ROW, HRES.out.1, HRES.out.2.1, HRES.out.2.2.1, HRES.out.2.2.2, rfl, rfl⟩
theorem lay_shift {A xs rest : List Value} {x : Value} {i n : Nat} (hA : A.take n = xs) (hi : i < n) (hn : n < A.length) (hr : rest = A.take (i + 1) ++ xs.drop i ++ A.drop (i + 1 + (xs.drop i).length)) :
    (rest.take i ++ [x] ++ rest.drop (i + [x].length)).take (n + 1) = xs.take i ++ x :: xs.drop i := by
  have hl : xs.length = n := by rw [← hA, List.length_take]; omega
  have e1 : rest.take i = xs.take i := by
    rw [hr, List.append_assoc, List.take_append_of_le_length (by rw [List.length_take]; omega), List.take_take, ← hA, List.take_take]
    congr 1; omega
  have e2 : rest.drop (i + [x].length) = xs.drop i ++ A.drop (i + 1 + (xs.drop i).length) := by
    rw [hr, List.append_assoc, List.length_singleton, List.drop_left' (by rw [List.length_take]; omega)]
  rw [e1, e2, ← List.append_assoc, List.take_append_of_le_length (by simp; omega), List.take_of_length_le (by simp; omega)]
  simp
theorem lay_grow {R xs rest : List Value} {x : Value} {i n : Nat} (hl : xs.length = n) (hR : R.take i = xs.take i) (hi : i < n) (hn : n + 1 ≤ R.length) (hr : rest = R.take i ++ [x] ++ R.drop (i + [x].length)) :
    (rest.take (i + 1) ++ xs.drop i ++ rest.drop (i + 1 + (xs.drop i).length)).take (n + 1) = xs.take i ++ x :: xs.drop i := by
  have e1 : rest.take (i + 1) = xs.take i ++ [x] := by
    rw [hr, List.take_left' (by simp; omega), hR]
  rw [e1, List.take_append_of_le_length (by simp; omega), List.take_of_length_le (by simp; omega)]
  simp

set_option maxHeartbeats 1600000 in
set_option maxRecDepth 100000 in
/-- slices.Insert of one, at the end -/
theorem insert_end (base n vb : Nat) (v : Value) (xs : List Value) (x : Value) (w : World) (hown : w.ownsRow base 64 1 v n xs) (hn : n ≤ 1000000) (hv : w.heap[vb]? = some (.cells #[x] 64 (0, 0))) (hx : x.oneCell' = true) (hb : base ≤ w.heap.size) :
    Calls Try.prog 56 #[v, .int .i64 (n : Int), .slice (some ⟨vb, 0, none⟩) 1 1] w fun e w' =>
      ∃ v', e = .returned v' ∧ w'.ownsRow base 64 1 v' (n + 1) (xs ++ [x]) ∧ w.grownBy w' v.ownBlock := by
  obtain ⟨i0, hi0, hz0, hzs, hzb⟩ := info_parts info64
  have hvx : w.cell? ⟨vb, 0, none⟩ = some x := cell_of_row w vb 0 _ _ (0, 0) hv
  have H := fun ty => Go.run_append_own (P := Try.prog) w base 29 ty 64 i0 (.pointer none) 1 8 Try.underlying29 hi0 hz0 hzs hzb rfl (by decide) v n xs hown ⟨vb, 0, none⟩ 1 1 [x] rfl (fun j u hu => by
      cases j with
      | zero => simp at hu; subst hu; exact hvx
      | succ j => simp at hu) (fun u hu => by simp at hu; subst hu; exact hx) (by unfold maxLen; omega) (by omega) hb
  obtain ⟨a, cap, rfl, hc1, hc2, hcell⟩ := row_slice hown
  obtain ⟨v', w', hr, h1, h2, _⟩ := H 29
  have HR : Hid (w'.ownsRow base 64 1 v' (n + 1) (xs ++ [x]) ∧ w.grownBy w' (Value.slice a n cap).ownBlock) := ⟨h1, h2⟩
  clear H h1 h2 hv hown hcell hx hvx
  cases a with
  | none =>
    go_enter Try.func56, Try.ntmps56
    go_wp2_with (at_builtin; refine Lib.wpList_append_run _ rfl _ _ _ _ rfl _ _ rfl rfl _ _ hr ?_)
    all_goals (go_ret; exact ⟨_, rfl, HR.out.1, HR.out.2⟩)
  | some p =>
    obtain ⟨g, o, sp⟩ := p
    go_enter Try.func56, Try.ntmps56
    go_wp2_with (at_builtin; refine Lib.wpList_append_run _ rfl _ _ _ _ rfl _ _ rfl rfl _ _ hr ?_)
    all_goals (go_ret; exact ⟨_, rfl, HR.out.1, HR.out.2⟩)

/-- slices.Insert of one -/
theorem insert_any (base n i vb : Nat) (v : Value) (xs : List Value) (x : Value) (w : World) (hown : w.ownsRow base 64 1 v n xs) (hn : n ≤ 1000000) (hi : i ≤ n) (hv : w.heap[vb]? = some (.cells #[x] 64 (0, 0))) (hvb : v.ownBlock ≠ some vb)
    (h1c : ∀ u ∈ xs, u.oneCell' = true) (hx : x.oneCell' = true) (hb : base ≤ w.heap.size) :
    Calls Try.prog 56 #[v, .int .i64 (i : Int), .slice (some ⟨vb, 0, none⟩) 1 1] w fun e w' =>
      ∃ v', e = .returned v' ∧ w'.ownsRow base 64 1 v' (n + 1) (xs.take i ++ x :: xs.drop i) ∧ w.grownBy w' v.ownBlock := by
  have hxl : xs.length = n := by have := hown.1; omega
  rcases Nat.lt_or_eq_of_le hi with hlt | rfl
  · rcases hown.2 with ⟨rfl, h0⟩ | ⟨g, cap, cur, rfl, hbg, hg, hnc, hcm, hcs, htake⟩
    · omega
    · rw [Nat.mul_one] at hcs htake
      have hne : vb ≠ g := fun e => hvb (by simp [Value.ownBlock, e])
      have h63 : cap ≤ 9223372036854775807 := by unfold maxLen at hcm; omega
      by_cases hroom : n + 1 ≤ cap
      · refine (insert_shift g n cap i vb cur x w hg hcs hlt hroom h63 hv hne (by rw [htake]; exact h1c) hx).mono ?_
        rintro e w' ⟨rfl, rfl⟩
        rw [htake]
        have hdl : (xs.drop i).length = n - i := by rw [List.length_drop, hxl]
        obtain ⟨c1, a1, a2⟩ := heap_setCells g 64 (xs.drop i) (i + 1) w.drew cur hg (by rw [hdl]; omega)
        have hs1 : c1.size = cap := by rw [← Array.length_toList, a2]; simp; omega
        obtain ⟨c2, b1, b2⟩ := heap_setCells g 64 [x] i _ c1 a1 (by simp; omega)
        have hs2 : c2.size = cap := by rw [← Array.length_toList, b2]; simp; omega
        refine ⟨_, rfl, ⟨by simp; omega, .inr ⟨g, cap, c2, rfl, hbg, b1, hroom, hcm, by rw [hs2, Nat.mul_one], ?_⟩⟩, ?_⟩
        · rw [Nat.mul_one, b2]
          exact lay_shift htake hlt (by rw [Array.length_toList]; omega) a2
        · have k1 := grown_setCells g (xs.drop i) (i + 1) w.drew
          have k2 := grown_setCells g [x] i (w.drew.setCells g (i + 1) (xs.drop i))
          exact grown_trans (a := w) ⟨k1.os, k1.tape, k1.output, k1.size, k1.block⟩ k2
      · refine (insert_grow g n cap i vb cur x w hg hcs hlt hnc (by omega) hn hv hne (by rw [htake]; exact h1c) hx).mono ?_
        rintro e w' ⟨G, ROW, g1, g2, g3, g4, rfl, rfl⟩
        rw [htake] at g4 ⊢
        have hdl : (xs.drop i).length = n - i := by rw [List.length_drop, hxl]
        have hnew := heap_alloc_new w (.cells ROW 64)
        obtain ⟨c1, a1, a2⟩ := heap_setCells w.heap.size 64 [x] i (w.alloc (.cells ROW 64)).drew ROW hnew (by simp; omega)
        have hs1 : c1.size = G := by rw [← Array.length_toList, a2]; simp; omega
        obtain ⟨c2, b1, b2⟩ := heap_setCells w.heap.size 64 (xs.drop i) (i + 1) ((w.alloc (.cells ROW 64)).drew.setCells w.heap.size i [x]).drew c1 a1 (by rw [hdl]; omega)
        have hs2 : c2.size = G := by rw [← Array.length_toList, b2]; simp; omega
        refine ⟨_, rfl, ⟨by simp; omega, .inr ⟨w.heap.size, G, c2, rfl, hb, b1, g1, g2, by rw [hs2, Nat.mul_one], ?_⟩⟩, ?_⟩
        · rw [Nat.mul_one, b2]
          exact lay_grow hxl g4 hlt (by rw [Array.length_toList]; omega) a2
        · have k0 := World.grownBy_alloc w (.cells ROW 64) (some w.heap.size)
          have k1 := grown_setCells w.heap.size [x] i (w.alloc (.cells ROW 64)).drew
          have k2 := grown_setCells w.heap.size (xs.drop i) (i + 1) ((w.alloc (.cells ROW 64)).drew.setCells w.heap.size i [x]).drew
          have k3 := grown_trans k0 (c := (w.alloc (.cells ROW 64)).drew.setCells w.heap.size i [x]) ⟨k1.os, k1.tape, k1.output, k1.size, k1.block⟩
          have k4 := grown_trans k3 (c := (((w.alloc (.cells ROW 64)).drew.setCells w.heap.size i [x]).drew).setCells w.heap.size (i + 1) (xs.drop i)) ⟨k2.os, k2.tape, k2.output, k2.size, k2.block⟩
          exact ⟨k4.os, k4.tape, k4.output, k4.size, fun k hk _ => k4.block k hk (fun e => by injection e; omega)⟩
  · refine (insert_end base i vb v xs x w hown hn hv hx hb).mono ?_
    rintro e w' ⟨v', rfl, h1, h2⟩
    refine ⟨v', rfl, ?_, h2⟩
    rw [List.take_of_length_le (by omega), List.drop_eq_nil_of_le (by omega)]
    exact h1
end Go.Proofs.Ytlmhghcoohalaaa.Dk
