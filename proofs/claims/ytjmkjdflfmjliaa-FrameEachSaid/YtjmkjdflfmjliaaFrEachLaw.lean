/- The walk of the second law of frames: they are given one by one, as long as more are wanted. -/
import Derived.Test.YtjmkjdflfmjliaaFrIs
import Derived.BigRegionIn
import Derived.Stop.RegionWithIn
namespace Go.Proofs.Ytjmkjdflfmjliaa.Fr
open Go.RowKit Go.Shelf

attribute [local go_sem] Oper.semAt_some

theorem func_nil (f : Fn) (a c : Array Value) (w : World) : (binOp .eql 36 (.func f a c) .nilFunc).run Try.prog w = .ok (.bool false) w := rfl
/-- how many are wanted, at least one -/
def lim (want : Nat) : Nat := if want < 1 then 1 else want

set_option maxRecDepth 100000 in
set_option maxHeartbeats 4000000 in
theorem each_ok (s : ByteArray) (want : Nat) (hw : want < 256) (hs : s.size ≤ 1024) (w : World) :
    Calls Try.prog 4 #[.string s, .int .u8 want] w fun e w' => e = .returned (.bool true) ∧ Below w.heap.size w w' := by
  have d1 : decide (1024 < (s.size : Int)) = false := by simp; omega
  have hN := fs_len s
  have A2 := Lib.hid (rall_any s (by omega))
  refine (callsIn_wide (n := 4)).1 ?_
  refine callsIn_of_wp_marks Try.func4 rfl trivial ?_ rfl
  simp only [Try.ntmps4, List.size_toArray, List.length_cons, List.length_nil, Nat.reduceAdd, Nat.reduceSub, Array.replicate_succ, Array.replicate_zero, List.push_toArray, List.append_toArray, List.nil_append, List.cons_append]
  gi_wp2_with fail
  refine ⟨trivial, (callsIn_wide.2 (A2.out _)).mono ?_⟩
  rintro e w1 ⟨v0, rfl, own0, b1⟩
  obtain ⟨a0, c0, rfl, hc0, hm0, fr0⟩ := own_frs rfl own0
  have hA0 := own_addr own0
  have bW := (Boxed.new w 5 (.int .u8 want)).kept (grown_of b1) (by simp)
  have BW := Lib.hid bW
  have F1 := Lib.hid fr0
  have B1 := Lib.hid (((Below.refl _ w).alloc (Nat.le_refl _) (.cells #[.int .u8 want] 5)).trans (b1.mono (by simp)))
  clear own0 fr0 b1 bW
  gi_wp2_with fail
  refine ⟨trivial, (callsIn_wide.2 (each_any s _)).mono ?_⟩
  rintro e w' ⟨rfl, rfl⟩
  have hfn := func_nil (.func 26) #[] #[.pointer (some ⟨w1.heap.size, 0, none⟩)] (w1.alloc (.cells #[.string s] 9))
  have bE := (Boxed.new w1 9 (.string s)).alloc (.cells #[.slice none 0 0] 30)
  have bG := Boxed.new (w1.alloc (.cells #[.string s] 9)) 30 (.slice none 0 0)
  simp only [World.size_alloc] at bG
  have hB0 : Below w1.heap.size w1 ((w1.alloc (.cells #[.string s] 9)).alloc (.cells #[.slice none 0 0] 30)) := ((Below.refl _ w1).alloc (Nat.le_refl _) _).alloc (by simp) _
  have hsz : ((w1.alloc (.cells #[.string s] 9)).alloc (.cells #[.slice none 0 0] 30)).heap.size = w1.heap.size + 2 := by simp
  gi_wp2_with fail
  generalize hW0 : (w1.alloc (.cells #[.string s] 9)).alloc (.cells #[.slice none 0 0] 30) = W0 at bE bG hB0 hsz ⊢
  clear hW0 hfn
  obtain ⟨i0, hi, hz0, hz1, hz2⟩ := info_parts info27
  obtain ⟨n, hn⟩ : ∃ n, n = (fs s).length := ⟨_, rfl⟩
  obtain ⟨po, hpo⟩ : ∃ po, po = pos (fs s) := ⟨_, rfl⟩
  obtain ⟨er, her⟩ : ∃ e, e = er s := ⟨_, rfl⟩
  rw [← hn, ← hpo, ← her]
  have HN := Lib.hid hn
  rw [← hn] at hN hA0
  have HA0 := Lib.hid hA0
  clear hA0
  clear hn hpo her
  have hlim : 1 ≤ lim want := by unfold lim; split <;> omega
  refine wpIn_rangeFunc_ownH rfl (by omega) (gf := 26) (lb := #[.pointer (some ⟨w1.heap.size, 0, none⟩)]) rfl trivial (enters_of Try.func26 (by kernel_rfl) rfl)
    (each_stops _ (by omega) w1.heap.size s (by omega) W0 bE) kp_t (kp_b (by omega)) (Below.refl _ _) (fun _ => rfl)
    (fun pre W => (∃ v, Boxed W (w1.heap.size + 1) 30 v ∧ W.ownsRow w1.heap.size 27 2 v pre.length (cells pre) ∧ pre.length < lim want) ∧ Boxed W w1.heap.size 9 (.string s) ∧ Below w1.heap.size w1 W)
    (fun c pre W => c = .exit 0 ∧ (∃ v, Boxed W (w1.heap.size + 1) 30 v ∧ W.ownsRow w1.heap.size 27 2 v pre.length (cells pre) ∧ pre.length = lim want) ∧ Below w1.heap.size w1 W)
    (OwnFrom.and (Own.from (holdsRow_own w1.heap.size (w1.heap.size + 1) 30 27 2 (fun pre => pre.length) (fun pre => cells pre) (fun pre _ => pre.length < lim want)) _) (OwnFrom.and (Own.from (boxed_own _ _ (fun _ => .string s)) _) (ownFrom_below (Nat.le_refl _) (by omega))))
    (fun c => OwnFrom.and (ownFrom_pure _ (fun _ => c = .exit 0)) (OwnFrom.and (Own.from (holdsRow_own w1.heap.size (w1.heap.size + 1) 30 27 2 (fun pre => pre.length) (fun pre => cells pre) (fun pre _ => pre.length = lim want)) _) (ownFrom_below (Nat.le_refl _) (by omega))))
    ⟨⟨_, bG, World.ownsRow_nil _ _ _ _, hlim⟩, bE, hB0⟩
    (fun x a' W => ∃ Bx, w1.heap.size + 1 < Bx ∧ Box2 W Bx 27 (.int .i64 x.1) (.string x.2) ∧ (∃ v, Boxed W (w1.heap.size + 1) 30 v ∧ v.ownBlock ≠ some Bx) ∧ a' = { tmps := #[.string s, .int .u8 want, undef, .pointer (some ⟨w.heap.size, 0, none⟩), .bool false, .slice a0 n c0, .int .i64 po, .int .i64 er, .func (.func 26) #[] #[.pointer (some ⟨w1.heap.size, 0, none⟩)], .pointer (some ⟨w1.heap.size + 1, 0, none⟩), .pointer (some ⟨Bx, 0, none⟩), .string s, .int .i64 s.size, .bool false, undef, .tuple #[.slice a0 n c0, .int .i64 po, .int .i64 er], .string s, .tuple #[.slice a0 n c0, .int .i64 po, .int .i64 er], .slice a0 n c0, .int .i64 po, .int .i64 er, .string s, .func (.func 26) #[] #[.pointer (some ⟨w1.heap.size, 0, none⟩)], .func (.func 26) #[] #[.pointer (some ⟨w1.heap.size, 0, none⟩)], .bool false, .func (.func 26) #[] #[.pointer (some ⟨w1.heap.size, 0, none⟩)], .agg #[.int .i64 x.1, .string x.2], undef, undef, undef, undef, undef, undef, undef, undef, undef, undef, undef, undef, undef, undef, undef, undef, undef, undef, undef, undef, undef, undef], defers := [] })
    (fun x a' _ X Y row hs hg hr => by
      obtain ⟨Bx, h1, h2, ⟨v, h3, h4⟩, h5⟩ := hs
      exact ⟨Bx, h1, box2_own (β := Unit) Bx _ _ _ () X Y row h2 hg (fun r e => (hr r e).2), ⟨v, boxed_own _ _ (fun (_ : Unit) => v) () X Y row h3 hg (fun r e => (hr r e).2), h4⟩, h5⟩)
    ?assign ?body ?done ?stop
  case assign =>
    rintro l pre x W K ⟨⟨v, hv, hrow, hp⟩, hE, hB⟩ hK
    gi_wp2
    refine hK _ _ ?_ ?_ ?_ ?_
    · exact (KeepsOthers.alloc _ _).from _
    · exact Below.heap_alloc _ _ _ hE.lt
    · exact ⟨⟨v, hv.alloc _, hrow.alloc _, hp⟩, hE.alloc _, hB.alloc hB.size _⟩
    · refine ⟨W.heap.size, hv.lt, Box2.new W _ _ _, ⟨v, hv.alloc _, ?_⟩, rfl⟩
      intro e
      have := (hrow.lt _ e).2
      omega
  case body =>
    rintro l pre x a' W hl _ ⟨⟨v, hv, hrow, hp⟩, hE, hB⟩ ⟨Bx, hBx, bX, ⟨v2, hv2, hvb⟩, rfl⟩ hlt
    obtain rfl : v2 = v := by have := hv2.cell; rw [hv.cell] at this; simpa using this.symm
    clear hv2
    obtain ⟨q, d⟩ := x
    have hc := hv.cell
    have x0 := bX.c0
    have x1 := bX.c1
    have hlen : pre.length ≤ 100000 := by have := HN.out; omega
    have n2 : w1.heap.size ≠ w1.heap.size + 1 := by omega
    have n3 : Bx ≠ w1.heap.size + 1 := by omega
    have hlw := BW.out.lt
    have hwc := (hB.cell (p := ⟨w.heap.size, 0, none⟩) hlw).trans BW.out.cell
    by_cases hge : want ≤ pre.length + 1
    · have HL : Hid (pre.length + 1 = lim want) := by unfold Hid lim at *; split at hp <;> rename_i h <;> simp only [h, if_true, if_false] <;> omega
      have hd : decide ((want : Int) ≤ (pre.length : Int) + 1) = true := by simp; omega
      gi_wp2_with (gi_at_builtin; refine wpListIn_append_own _ rfl _ _ 30 rfl w1.heap.size 27 i0 (.agg #[.int .i64 0, .string ⟨#[]⟩]) 2 24 Try.underlying30 hi hz0 hz1 hz2 rfl (by decide) _ _ _ rfl (hrow.alloc _) ⟨W.heap.size, 0, none⟩ 1 1 [.int .i64 q, .string d] rfl rfl (cell_two_new _ _ _ _) (by simp [Value.oneCell']) (by unfold maxLen; omega) (by omega) (by have := hB.size; simp; omega) ?_; intro v' w2 hown' hgrow _; obtain ⟨g', cap', rfl⟩ := ownsRow_succ hown'; obtain ⟨hv1, hv2, hr2, hk2, hb2⟩ := hv.appended (by decide) hrow hB.size (Nat.le_succ _) hown' hgrow; have hc1 := hv1.cell; have hf1 := hv1.frozen; obtain ⟨_, hE2, _⟩ := step_all (v' := .slice (some ⟨g', 0, none⟩) (pre.length + 1) cap') hrow hE hE bX hvb (by decide) (by decide) hgrow n2 n2 n3; have z0 := (hb2.cell (p := ⟨w.heap.size, 0, none⟩) hlw).trans hwc; have z1 := hv2.cell)
      have hr3 : (w2.setCell ⟨w1.heap.size + 1, 0, none⟩ (.slice (some ⟨g', 0, none⟩) (pre.length + 1) cap')).ownsRow w1.heap.size 27 2 (.slice (some ⟨g', 0, none⟩) (pre.length + 1) cap') (pre ++ [(q, d)]).length (cells (pre ++ [(q, d)])) := by
        rw [cells_snoc, List.length_append]; exact hr2
      exact ⟨hk2.from _, rfl, ⟨_, hv2, hr3, by rw [List.length_append]; exact HL.out⟩, hB.trans hb2⟩
    · have HL : Hid (pre.length + 1 < lim want) := by unfold Hid lim; split <;> omega
      have hd : decide ((want : Int) ≤ (pre.length : Int) + 1) = false := by simp; omega
      gi_wp2_with (gi_at_builtin; refine wpListIn_append_own _ rfl _ _ 30 rfl w1.heap.size 27 i0 (.agg #[.int .i64 0, .string ⟨#[]⟩]) 2 24 Try.underlying30 hi hz0 hz1 hz2 rfl (by decide) _ _ _ rfl (hrow.alloc _) ⟨W.heap.size, 0, none⟩ 1 1 [.int .i64 q, .string d] rfl rfl (cell_two_new _ _ _ _) (by simp [Value.oneCell']) (by unfold maxLen; omega) (by omega) (by have := hB.size; simp; omega) ?_; intro v' w2 hown' hgrow _; obtain ⟨g', cap', rfl⟩ := ownsRow_succ hown'; obtain ⟨hv1, hv2, hr2, hk2, hb2⟩ := hv.appended (by decide) hrow hB.size (Nat.le_succ _) hown' hgrow; have hc1 := hv1.cell; have hf1 := hv1.frozen; obtain ⟨_, hE2, _⟩ := step_all (v' := .slice (some ⟨g', 0, none⟩) (pre.length + 1) cap') hrow hE hE bX hvb (by decide) (by decide) hgrow n2 n2 n3; have z0 := (hb2.cell (p := ⟨w.heap.size, 0, none⟩) hlw).trans hwc; have z1 := hv2.cell)
      have hr3 : (w2.setCell ⟨w1.heap.size + 1, 0, none⟩ (.slice (some ⟨g', 0, none⟩) (pre.length + 1) cap')).ownsRow w1.heap.size 27 2 (.slice (some ⟨g', 0, none⟩) (pre.length + 1) cap') (pre ++ [(q, d)]).length (cells (pre ++ [(q, d)])) := by
        rw [cells_snoc, List.length_append]; exact hr2
      exact ⟨hk2.from _, Eq.trans hE2 hE.symm, ⟨_, hv2, hr3, by rw [List.length_append]; exact HL.out⟩, hE2, hB.trans hb2⟩
  case done =>
    rintro D ys W hD rfl ⟨⟨v, hv, hrow, hp⟩, hE, hB⟩ hK
    rw [← HN.out] at hrow hp
    have hc := hv.cell
    have hwc := (hB.cell (p := ⟨w.heap.size, 0, none⟩) BW.out.lt).trans BW.out.cell
    obtain ⟨a1, c1, rfl, hc1, hm1, fr1⟩ := own_frs HN.out.symm hrow
    have S1 := Lib.hid (fun W' hb => same_any a1 a0 c1 c0 n (fs s) HN.out.symm (by omega) W' (fr1.later hb) (F1.out.later (hB.trans (hb.mono hB.size))))
    have hc0n : n ≤ c0 := by rw [HN.out]; exact hc0
    clear hrow fr1 hv hE
    obtain ⟨m, hm⟩ : ∃ m, m = n := ⟨_, rfl⟩
    rw [← hm] at S1 hc hc1
    have hmn : m ≤ n := by omega
    have hL : (if (1 : Int) < (want : Int) then (want : Int) else 1) = (lim want : Int) := by unfold lim; split <;> split <;> omega
    have hM : (if lim want < n then (lim want : Int) else (n : Int)) = (m : Int) := by split <;> omega
    have hM2 : (if (lim want : Int) < (n : Int) then (lim want : Int) else (n : Int)) = (m : Int) := by split <;> omega
    have hwr : IntKind.i64.wrap (want : Int) = (want : Int) := by rw [IntKind.wrap_i64]; omega
    have hmc : m ≤ c0 := by omega
    have hmc2 : 0 ≤ (m : Int) ∧ (m : Int) ≤ (c0 : Int) := by omega
    generalize lim want = L at *
    clear hp hc0 hlim
    rcases HA0.out with ⟨rfl, rfl, rfl⟩ | ⟨g, rfl⟩
    · subst hm
      have hL0 : ¬ (L : Int) < 0 := by omega
      gi_wp2_with fail
      refine wpIn_wide.2 (wp_mono (Q := Exit.then (fun a' w' => a'.tmps.getD 4 undef = .bool true ∧ a'.defers = [{ target := .collected D, args := #[] }] ∧ Below W.heap.size W w') (fun _ _ _ => False)) ?_ ?_)
      · go_region_with (first | (go_at_call 15; (with_reducible refine (S1.out W.drew ((Below.refl _ _).drew)).mono ?_); rintro e w2 ⟨rfl, hb2⟩) | (go_at_call 8; refine (awake_any _).mono ?_; rintro e w3 ⟨rfl, hb3⟩))
        all_goals exact ⟨rfl, rfl, (Below.refl _ _).drew.trans (hb2.trans (hb3.mono hb2.size))⟩
      rintro e ⟨tm, ds⟩ w' h
      cases e <;> try exact h.elim
      obtain ⟨h4, rfl, hb⟩ := h
      gi_wp2_with fail
      have hK2 : w'.heap[D]? = some (.deferred (some [])) := (hb.block D (Array.getElem?_eq_some_iff.1 hK).1).trans hK
      have hB2 := (B1.out.trans (hB.mono B1.out.size)).trans (hb.mono (by have := B1.out.size; have := hB.size; omega))
      refine ⟨by simp, .inl ⟨_, _, rfl, run_takeDeferred hK2, ?_⟩⟩
      exact ⟨_, results_tmp rfl _ _ _, by rw [h4], hB2.trans (belowK_b (w := w) (Nat.le_refl _) _ D _ _ (by have := B1.out.size; omega) hK2 rfl rfl)⟩
    · clear hm
      gi_wp2_with fail
      refine wpIn_wide.2 (wp_mono (Q := Exit.then (fun a' w' => a'.tmps.getD 4 undef = .bool true ∧ a'.defers = [{ target := .collected D, args := #[] }] ∧ Below W.heap.size W w') (fun _ _ _ => False)) ?_ ?_)
      · go_region_with (first | (go_at_call 15; (with_reducible refine (S1.out W.drew ((Below.refl _ _).drew)).mono ?_); rintro e w2 ⟨rfl, hb2⟩) | (go_at_call 8; refine (awake_any _).mono ?_; rintro e w3 ⟨rfl, hb3⟩))
        all_goals exact ⟨rfl, rfl, (Below.refl _ _).drew.trans (hb2.trans (hb3.mono hb2.size))⟩
      rintro e ⟨tm, ds⟩ w' h
      cases e <;> try exact h.elim
      obtain ⟨h4, rfl, hb⟩ := h
      gi_wp2_with fail
      have hK2 : w'.heap[D]? = some (.deferred (some [])) := (hb.block D (Array.getElem?_eq_some_iff.1 hK).1).trans hK
      have hB2 := (B1.out.trans (hB.mono B1.out.size)).trans (hb.mono (by have := B1.out.size; have := hB.size; omega))
      refine ⟨by simp, .inl ⟨_, _, rfl, run_takeDeferred hK2, ?_⟩⟩
      exact ⟨_, results_tmp rfl _ _ _, by rw [h4], hB2.trans (belowK_b (w := w) (Nat.le_refl _) _ D _ _ (by have := B1.out.size; omega) hK2 rfl rfl)⟩
  case stop =>
    rintro D c pre W hD hpre ⟨rfl, ⟨v, hv, hrow, hp⟩, hB⟩ hK
    have hc := hv.cell
    have hwc := (hB.cell (p := ⟨w.heap.size, 0, none⟩) BW.out.lt).trans BW.out.cell
    have hpt : pre = (fs s).take pre.length := List.prefix_iff_eq_take.1 hpre
    have hpl : pre.length ≤ n := by rw [HN.out]; exact hpre.length_le
    obtain ⟨a1, c1, rfl, hc1, hm1, fr1⟩ := own_frs rfl hrow
    have fr0 := F1.out.take pre.length
    rw [← hpt] at fr0
    have hc0n : n ≤ c0 := by rw [HN.out]; exact hc0
    have S1 := Lib.hid (fun W' hb => same_any a1 a0 c1 c0 pre.length pre rfl (by omega) W' (fr1.later hb) (fr0.later (hB.trans (hb.mono hB.size))))
    clear hrow fr1 fr0 hv hpt hpre
    generalize pre.length = m at *
    obtain ⟨g, rfl⟩ : ∃ g, a0 = some ⟨g, 0, none⟩ := by
      rcases HA0.out with ⟨_, h0, _⟩ | h
      · omega
      · exact h
    have hL : (if (1 : Int) < (want : Int) then (want : Int) else 1) = (lim want : Int) := by unfold lim; split <;> split <;> omega
    have hM : (if lim want < n then (lim want : Int) else (n : Int)) = (m : Int) := by split <;> omega
    have hM2 : (if (lim want : Int) < (n : Int) then (lim want : Int) else (n : Int)) = (m : Int) := by split <;> omega
    have hwr : IntKind.i64.wrap (want : Int) = (want : Int) := by rw [IntKind.wrap_i64]; omega
    have hmc : m ≤ c0 := by omega
    have hmc2 : 0 ≤ (m : Int) ∧ (m : Int) ≤ (c0 : Int) := by omega
    generalize lim want = L at *
    clear hp hc0 hlim
    gi_wp2_with fail
    refine wpIn_wide.2 (wp_mono (Q := Exit.then (fun a' w' => a'.tmps.getD 4 undef = .bool true ∧ a'.defers = [{ target := .collected D, args := #[] }] ∧ Below W.heap.size W w') (fun _ _ _ => False)) ?_ ?_)
    · go_region_with (first | (go_at_call 15; (with_reducible refine (S1.out W.drew ((Below.refl _ _).drew)).mono ?_); rintro e w2 ⟨rfl, hb2⟩) | (go_at_call 8; refine (awake_any _).mono ?_; rintro e w3 ⟨rfl, hb3⟩))
      all_goals exact ⟨rfl, rfl, (Below.refl _ _).drew.trans (hb2.trans (hb3.mono hb2.size))⟩
    rintro e ⟨tm, ds⟩ w' h
    cases e <;> try exact h.elim
    obtain ⟨h4, rfl, hb⟩ := h
    gi_wp2_with fail
    have hK2 : w'.heap[D]? = some (.deferred (some [])) := (hb.block D (Array.getElem?_eq_some_iff.1 hK).1).trans hK
    have hB2 := (B1.out.trans (hB.mono B1.out.size)).trans (hb.mono (by have := B1.out.size; have := hB.size; omega))
    refine ⟨by simp, .inl ⟨_, _, rfl, run_takeDeferred hK2, ?_⟩⟩
    exact ⟨_, results_tmp rfl _ _ _, by rw [h4], hB2.trans (belowK_b (w := w) (Nat.le_refl _) _ D _ _ (by have := B1.out.size; omega) hK2 rfl rfl)⟩
end Go.Proofs.Ytjmkjdflfmjliaa.Fr
