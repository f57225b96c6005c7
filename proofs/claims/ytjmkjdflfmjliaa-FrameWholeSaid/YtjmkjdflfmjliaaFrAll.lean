/- All frames: the program's, which ranges over what gives them one by one; and the document's. -/
import Derived.Test.YtjmkjdflfmjliaaFrEach
import Derived.Test.YtjmkjdflfmjliaaFrRTake
import Derived.Maps.AppendAt
import Derived.WalkSmall
import Derived.Sort.QuietIn
namespace Go.Proofs.Ytjmkjdflfmjliaa.Fr
open Go.RowKit Go.Shelf

attribute [local go_sem] Oper.semAt_some

/-- a block of two cells -/
def Box2 (W : World) (B : Nat) (t : TypeId) (a b : Value) : Prop := W.heap[B]? = some (.cells #[a, b] t (0, 0))
theorem Box2.lt {W : World} {B : Nat} {t : TypeId} {a b : Value} (h : Box2 W B t a b) : B < W.heap.size := (Array.getElem?_eq_some_iff.1 h).1
theorem Box2.c0 {W : World} {B : Nat} {t : TypeId} {a b : Value} (h : Box2 W B t a b) : W.cell? ⟨B, 0, none⟩ = some a := by simp [World.cell?, show W.heap[B]? = _ from h]
theorem Box2.c1 {W : World} {B : Nat} {t : TypeId} {a b : Value} (h : Box2 W B t a b) : W.cell? ⟨B, 1, none⟩ = some b := by simp [World.cell?, show W.heap[B]? = _ from h]
theorem Box2.new (W : World) (t : TypeId) (a b : Value) : Box2 (W.alloc (.cells #[a, b] t)) W.heap.size t a b := World.alloc_heap_new W _
theorem Box2.kept {W W' : World} {row : Option Nat} {B : Nat} {t : TypeId} {a b : Value} (h : Box2 W B t a b) (hg : W.grownBy W' row) (hne : some B ≠ row) : Box2 W' B t a b := (hg.block B h.lt hne).trans h
theorem box2_own {β : Type} (B : Nat) (t : TypeId) (a b : Value) : Own (fun (_ : β) W => Box2 W B t a b) := by
  rintro s X Y row hs hg hrow
  refine Box2.kept hs hg fun e' => ?_
  obtain ⟨o, ho, hc⟩ := hrow B e'.symm
  rw [show X.heap[B]? = _ from hs] at ho; cases ho; cases hc

theorem Box2.alloc {W : World} {B : Nat} {t : TypeId} {a b : Value} (h : Box2 W B t a b) (o : Obj) : Box2 (W.alloc o) B t a b := h.kept (World.grownBy_alloc W o none) (by simp)
theorem Box2.other {W : World} {B B' : Nat} {t : TypeId} {a b : Value} (h : Box2 W B t a b) (hne : B ≠ B') (u : Value) : Box2 (W.setCell ⟨B', 0, none⟩ u) B t a b := h.kept (grownBy_setCell' W B' u) (fun e => hne (by cases e; rfl))

/-- behind an append, and the store of what it made: what stands in the other boxes -/
theorem step_all {W w1 : World} {n₀ L Z E Bx k : Nat} {e tZ tE : TypeId} {v zv ev a b v' : Value} {xs : List Value} {tmp : Obj}
    (hrow : W.ownsRow n₀ e 2 v k xs) (hZ : Boxed W Z tZ zv) (hE : Boxed W E tE ev) (bX : Box2 W Bx e a b) (hvb : v.ownBlock ≠ some Bx) (nZ : tZ ≠ e) (nE : tE ≠ e)
    (hgrow : (W.alloc tmp).grownBy w1 v.ownBlock) (h1 : Z ≠ L) (h2 : E ≠ L) (h3 : Bx ≠ L) :
    Boxed (w1.setCell ⟨L, 0, none⟩ v') Z tZ zv ∧ Boxed (w1.setCell ⟨L, 0, none⟩ v') E tE ev ∧ Box2 (w1.setCell ⟨L, 0, none⟩ v') Bx e a b :=
  ⟨((hZ.alloc tmp).kept hgrow ((hZ.alloc tmp).not_row nZ (hrow.alloc tmp))).other h1 v', ((hE.alloc tmp).kept hgrow ((hE.alloc tmp).not_row nE (hrow.alloc tmp))).other h2 v', ((bX.alloc tmp).kept hgrow (fun h => hvb h.symm)).other h3 v'⟩

theorem wrap_sum (pre : List Fm) (x : Fm) : wrap64 (wrap64 (pos pre) + wrap64 (16 + (x.2.size : Int))) = wrap64 (pos (pre ++ [x]) : Nat) := by
  rw [pos_snoc]; unfold wrap64; omega

/-- frames as cells -/
def cells (l : List Fm) : List Value := l.flatMap fun x => [.int .i64 x.1, .string x.2]
theorem cells_snoc (l : List Fm) (x : Fm) : cells (l ++ [x]) = cells l ++ [.int .i64 x.1, .string x.2] := by simp [cells]
theorem info27 : (Try.prog.info? 27).map (fun i => (i.zero, i.size, i.bytes)) = some (some (.agg #[.int .i64 0, .string ⟨#[]⟩]), 2, 24) := by kernel_rfl

set_option maxRecDepth 100000 in
set_option maxHeartbeats 4000000 in
theorem fall_any (s : ByteArray) (hs : s.size ≤ 100000) (w : World) :
    Calls Try.prog 13 #[.string s] w fun e w' => ∃ v, e = .returned (.tuple #[v, .int .i64 (pos (fs s)), .int .i64 (er s)]) ∧ w'.ownsRow w.heap.size 27 2 v (fs s).length (cells (fs s)) ∧ Below w.heap.size w w' := by
  refine (callsIn_wide (n := 4)).1 ?_
  refine callsIn_of_wp_marks Try.func13 rfl trivial ?_ rfl
  simp only [Try.ntmps13, List.size_toArray, List.length_cons, List.length_nil, Nat.reduceAdd, Nat.reduceSub, Array.replicate_succ, Array.replicate_zero, List.push_toArray, List.append_toArray, List.nil_append, List.cons_append]
  gi_wp2_with fail
  refine ⟨trivial, (callsIn_wide.2 (each_any s _)).mono ?_⟩
  rintro e w' ⟨rfl, rfl⟩
  have bL := ((Boxed.new w 30 (.slice none 0 0)).alloc (.cells #[.int .i64 0] 3)).alloc (.cells #[.string s] 9)
  have bZ := (Boxed.new (w.alloc (.cells #[.slice none 0 0] 30)) 3 (.int .i64 0)).alloc (.cells #[.string s] 9)
  have bE := Boxed.new ((w.alloc (.cells #[.slice none 0 0] 30)).alloc (.cells #[.int .i64 0] 3)) 9 (.string s)
  simp only [World.size_alloc] at bZ bE
  have hB0 : Below w.heap.size w (((w.alloc (.cells #[.slice none 0 0] 30)).alloc (.cells #[.int .i64 0] 3)).alloc (.cells #[.string s] 9)) := (((Below.refl _ w).alloc (Nat.le_refl _) _).alloc (by simp) _).alloc (by simp; omega) _
  have hsz : (((w.alloc (.cells #[.slice none 0 0] 30)).alloc (.cells #[.int .i64 0] 3)).alloc (.cells #[.string s] 9)).heap.size = w.heap.size + 3 := by simp
  gi_wp2_with fail
  have hN := fs_len s
  generalize hW0 : ((w.alloc (.cells #[.slice none 0 0] 30)).alloc (.cells #[.int .i64 0] 3)).alloc (.cells #[.string s] 9) = W0 at bL bZ bE hB0 hsz ⊢
  clear hW0
  obtain ⟨i0, hi, hz0, hz1, hz2⟩ := info_parts info27
  refine wpIn_rangeFunc_ownH rfl (by omega) (gf := 26) (lb := #[.pointer (some ⟨w.heap.size + 1 + 1, 0, none⟩)]) rfl trivial (enters_of Try.func26 (by kernel_rfl) rfl)
    (each_stops _ (by omega) (w.heap.size + 1 + 1) s (by omega) W0 bE) kp_t (kp_b (by omega)) (Below.refl _ _) (fun _ => rfl)
    (fun pre W => (∃ v, Boxed W w.heap.size 30 v ∧ W.ownsRow w.heap.size 27 2 v pre.length (cells pre) ∧ True) ∧ (Boxed W (w.heap.size + 1) 3 (.int .i64 (wrap64 (pos pre))) ∧ Boxed W (w.heap.size + 1 + 1) 9 (.string s)) ∧ Below w.heap.size w W)
    (fun _ _ _ => False)
    (OwnFrom.and (Own.from (holdsRow_own w.heap.size w.heap.size 30 27 2 (fun pre => pre.length) (fun pre => cells pre) (fun _ _ => True)) _) (OwnFrom.and (OwnFrom.and (Own.from (boxed_own _ _ (fun pre => .int .i64 (wrap64 (pos pre)))) _) (Own.from (boxed_own _ _ (fun _ => .string s)) _)) (ownFrom_below (Nat.le_refl _) (by omega))))
    (fun _ _ _ _ _ hs _ _ => hs)
    ⟨⟨_, bL, World.ownsRow_nil _ _ _ _, trivial⟩, ⟨by rw [show wrap64 ((pos ([] : List Fm) : Nat) : Int) = 0 by simp [pos, wrap64]]; exact bZ, bE⟩, hB0⟩
    (fun x a' W => ∃ Bx, w.heap.size + 1 + 1 < Bx ∧ Box2 W Bx 27 (.int .i64 x.1) (.string x.2) ∧ (∃ v, Boxed W w.heap.size 30 v ∧ v.ownBlock ≠ some Bx) ∧ a' = { tmps := #[.string s, undef, .slice none 0 0, .int .i64 0, .int .i64 0, .pointer (some ⟨w.heap.size, 0, none⟩), .pointer (some ⟨w.heap.size + 1, 0, none⟩), .pointer (some ⟨Bx, 0, none⟩), undef, undef, undef, .string s, .func (.func 26) #[] #[.pointer (some ⟨w.heap.size + 1 + 1, 0, none⟩)], .agg #[.int .i64 x.1, .string x.2], undef, undef, undef, undef, undef, undef, undef, undef, undef, undef, undef, undef, undef, undef, undef, undef, undef, undef, undef, undef, undef, undef, undef, undef, undef, undef, undef], defers := [] })
    (fun x a' _ X Y row hs hg hr => by
      obtain ⟨Bx, h1, h2, ⟨v, h3, h4⟩, h5⟩ := hs
      exact ⟨Bx, h1, box2_own (β := Unit) Bx _ _ _ () X Y row h2 hg (fun r e => (hr r e).2), ⟨v, boxed_own _ _ (fun (_ : Unit) => v) () X Y row h3 hg (fun r e => (hr r e).2), h4⟩, h5⟩)
    ?assign ?body ?done ?stop
  case assign =>
    rintro l pre x W K ⟨⟨v, hv, hrow, _⟩, ⟨hZ, hE⟩, hB⟩ hK
    gi_wp2
    refine hK _ _ ?_ ?_ ?_ ?_
    · exact (KeepsOthers.alloc _ _).from _
    · exact Below.heap_alloc _ _ _ hE.lt
    · exact ⟨⟨v, hv.alloc _, hrow.alloc _, trivial⟩, ⟨hZ.alloc _, hE.alloc _⟩, hB.alloc hB.size _⟩
    · refine ⟨W.heap.size, hE.lt, Box2.new W _ _ _, ⟨v, hv.alloc _, ?_⟩, rfl⟩
      intro e
      have := (hrow.lt _ e).2
      omega
  case body =>
    rintro l pre x a' W hl _ ⟨⟨v, hv, hrow, _⟩, ⟨hZ, hE⟩, hB⟩ ⟨Bx, hBx, bX, ⟨v2, hv2, hvb⟩, rfl⟩ hlt
    obtain rfl : v2 = v := by have := hv2.cell; rw [hv.cell] at this; simpa using this.symm
    clear hv2
    obtain ⟨q, d⟩ := x
    have hc := hv.cell
    have x0 := bX.c0
    have x1 := bX.c1
    have hlen : pre.length ≤ 100000 := by omega
    have n1 : w.heap.size + 1 ≠ w.heap.size := by omega
    have n2 : w.heap.size + 1 + 1 ≠ w.heap.size := by omega
    have n3 : Bx ≠ w.heap.size := by omega
    gi_wp2_with (gi_at_builtin; refine wpListIn_append_own _ rfl _ _ 30 rfl w.heap.size 27 i0 (.agg #[.int .i64 0, .string ⟨#[]⟩]) 2 24 Try.underlying30 hi hz0 hz1 hz2 rfl (by decide) _ _ _ rfl (hrow.alloc _) ⟨W.heap.size, 0, none⟩ 1 1 [.int .i64 q, .string d] rfl rfl (cell_two_new _ _ _ _) (by simp [Value.oneCell']) (by unfold maxLen; omega) (by omega) (by have := hB.size; simp; omega) ?_; intro v' w1 hown' hgrow _; obtain ⟨g', cap', rfl⟩ := ownsRow_succ hown'; obtain ⟨hv1, hv2, hr2, hk2, hb2⟩ := hv.appended (by decide) hrow hB.size (Nat.le_refl _) hown' hgrow; have hc1 := hv1.cell; have hf1 := hv1.frozen; obtain ⟨hZ2, hE2, hX2⟩ := step_all (v' := .slice (some ⟨g', 0, none⟩) (pre.length + 1) cap') hrow hZ hE bX hvb (by decide) (by decide) hgrow n1 n2 n3; have z0 := hZ2.cell; have z1 := hZ2.frozen; have x2 := hX2.c1)
    rw [wrap_sum pre (q, d)]
    have hr3 := hr2.kept (grownBy_setCell' _ (w.heap.size + 1) (.int .i64 (wrap64 (pos (pre ++ [(q, d)]))))) (.inr (hZ2.not_row (by decide) hr2).symm)
    have hE3 := hE2.other (B' := w.heap.size + 1) (by omega) (.int .i64 (wrap64 (pos (pre ++ [(q, d)]))))
    refine ⟨(hk2.trans (KeepsOthers.setCell _ _ _)).from _, ?_, ⟨_, hv2.other (by omega) _, ?_⟩, ⟨hZ2.set _, hE3⟩, (hB.trans hb2).setCell (p := ⟨w.heap.size + 1, 0, none⟩) (by simp) _⟩
    · exact Eq.trans hE3 hE.symm
    · rw [cells_snoc, List.length_append]; exact hr3
  case done =>
    rintro D ys W hD rfl ⟨⟨v, hv, hrow, _⟩, ⟨hZ, hE⟩, hB⟩ hK
    have hle := fs_le s
    have hwp : wrap64 (pos (fs s)) = (pos (fs s) : Int) := by unfold wrap64; omega
    rw [hwp] at hZ
    have hc := hv.cell
    have hz := hZ.cell
    by_cases he : pos (fs s) = s.size
    · have her : er s = 0 := by unfold er; rw [if_pos he]
      have HER := Lib.hid her
      have hq : ((pos (fs s) : Int) == (s.size : Int)) = true := by simp; omega
      have HE := Lib.hid he
      clear he her
      gi_wp2_with fail
      gi_quiet (fail)
      gi_wp2_with fail
      have hK2 : (W.drewN nq).heap[D]? = some (.deferred (some [])) := hK
      have hr2 := hrow.kept (row := none) (grown_of (W' := (W.drewN nq)) (drewN_below (Below.refl _ _) nq)) (by
        cases h : v.ownBlock with
        | none => exact .inl rfl
        | some g => exact .inr (by simp))
      have hB2 : Below w.heap.size w (W.drewN nq) := drewN_below hB nq
      refine ⟨by simp, .inl ⟨_, _, rfl, run_takeDeferred hK2, ?_⟩⟩
      exact ⟨_, results_tmp3 rfl _ _ _, v, by rw [HER.out]; rfl, ownsRow_putObj hr2 _ hK2 rfl, hB2.trans (belowK_b (w := w) (Nat.le_refl _) _ D _ _ (by omega) hK2 rfl rfl)⟩
    · have her : er s = (tk (rst s (pos (fs s)))).2.2 := by unfold er; rw [if_neg he]
      have HER := Lib.hid her
      have hq : ((pos (fs s) : Int) == (s.size : Int)) = false := by simp; omega
      clear he her
      have ht := fun w => ftake_any (rst s (pos (fs s))) (by rw [rst_size]; omega) w
      unfold TkV at ht
      have HT := Lib.hid ht
      clear ht
      gi_wp2_with fail
      refine ⟨trivial, (callsIn_wide.2 (HT.out W)).mono ?_⟩
      rintro e w1 ⟨rfl, hb1⟩
      have hg1 := grown_of hb1
      have hc1 := ((hv.kept hg1 (by simp)).alloc (.cells #[.int .i64 (tk (rst s (pos (fs s)))).1.1, .string (tk (rst s (pos (fs s)))).1.2] 27)).cell
      have hz1' := ((hZ.kept hg1 (by simp)).alloc (.cells #[.int .i64 (tk (rst s (pos (fs s)))).1.1, .string (tk (rst s (pos (fs s)))).1.2] 27)).cell
      gi_wp2_with fail
      gi_quiet (fail)
      gi_wp2_with fail
      have hbW : Below W.heap.size W ((w1.alloc (.cells #[.int .i64 (tk (rst s (pos (fs s)))).1.1, .string (tk (rst s (pos (fs s)))).1.2] 27)).drewN nq) := drewN_below (hb1.alloc hb1.size _) nq
      have hK2 : ((w1.alloc (.cells #[.int .i64 (tk (rst s (pos (fs s)))).1.1, .string (tk (rst s (pos (fs s)))).1.2] 27)).drewN nq).heap[D]? = some (.deferred (some [])) := (hbW.block D (Array.getElem?_eq_some_iff.1 hK).1).trans hK
      have hr2 := hrow.kept (row := none) (grown_of (W' := ((w1.alloc (.cells #[.int .i64 (tk (rst s (pos (fs s)))).1.1, .string (tk (rst s (pos (fs s)))).1.2] 27)).drewN nq)) hbW) (by
        cases h : v.ownBlock with
        | none => exact .inl rfl
        | some g => exact .inr (by simp))
      have hB2 : Below w.heap.size w ((w1.alloc (.cells #[.int .i64 (tk (rst s (pos (fs s)))).1.1, .string (tk (rst s (pos (fs s)))).1.2] 27)).drewN nq) := hB.trans (hbW.mono hB.size)
      refine ⟨by simp, .inl ⟨_, _, rfl, run_takeDeferred hK2, ?_⟩⟩
      exact ⟨_, results_tmp3 rfl _ _ _, v, by rw [HER.out]; rfl, ownsRow_putObj hr2 _ hK2 rfl, hB2.trans (belowK_b (w := w) (Nat.le_refl _) _ D _ _ (by omega) hK2 rfl rfl)⟩
  case stop =>
    rintro D c pre W _ _ h _
    exact h.elim
end Go.Proofs.Ytjmkjdflfmjliaa.Fr
