/- Lots that are cut, by the program: each a clone of a part of what came in. -/
import Derived.Test.YtafcgknpehphlaaLtChunk
import Derived.Test.YtafcgknpehphlaaLtRCut
import Derived.Maps.AppendAt
import Derived.WalkSmall
import Derived.WalkSpells
import Derived.Lib.SliceRun
import Derived.Stop.RegionWithIn
set_option linter.unusedSimpArgs false
namespace Go.Proofs.Ytafcgknpehphlaa.Lt
open Go.RowKit Go.Shelf
open Cd (Rec Fit may recB zeroR recV recL)
open Rk (At9 Recs rcs)

attribute [local go_sem] Oper.semAt_some

theorem own_mono {W : World} {b0 b1 size n : Nat} {e : TypeId} {v : Value} {xs : List Value} (h : W.ownsRow b1 e size v n xs) (hb : b0 ≤ b1) : W.ownsRow b0 e size v n xs := by
  refine ⟨h.1, ?_⟩
  rcases h.2 with h2 | ⟨g, cap, cur, h1, h2, h3⟩
  · exact .inl h2
  · exact .inr ⟨g, cap, cur, h1, by omega, h3⟩
theorem own_slice {W : World} {base n size : Nat} {e : TypeId} {v : Value} {xs : List Value} (h : W.ownsRow base e size v n xs) : ∃ a c, v = .slice a n c := by
  rcases h.2 with ⟨rfl, rfl⟩ | ⟨g, cap, cur, rfl, _⟩
  · exact ⟨_, _, rfl⟩
  · exact ⟨_, _, rfl⟩
/-- an append whose outcome is known, within a round of a range over a function -/
theorem step_append_in {F : Fence} {nn : Nat} {P : Program} {ops : Array Oper} {o : Oper} {a : Go.Act} {w : World} {K : Go.Act → World → Prop} {Q : Exit → Go.Act → World → Prop} {E : Prop} (hg : o.guard = none) (s x : Operand) (t tn : TypeId)
    (hop : o.op = .call { callee := .builtin .append, args := #[s, x], argTypes := #[t, tn] }) (vs vx : Value) (hs : a.eval s = vs) (hx : a.eval x = vx) (v' : Value) (w' : World)
    (hr : (Builtin.append_ #[t, tn] o.type #[vs, vx]).run P w = .ok v' w') (hK : K (a.put o.dst v') w') : if Region.wanted o (yielded ops a.tmps) = true then Oper.wpIn F nn P o a w K Q else E := by
  rw [if_pos (by simp [Region.wanted, hg])]
  unfold Oper.wpIn
  refine ⟨?_, ?_⟩
  · simp [Oper.about, hop, resolve, Target.leads, Sem.run_pure]
  · rw [Oper.semAt_plain F _ _ (by rw [hop]; intro c hc'; cases hc')]
    simp [execOp, hop, resolve, invoke, builtin, hs, hx, hr, Result.andThen]
    exact hK

set_option maxHeartbeats 800000 in
theorem clone_any (b off m c : Nat) (ys : List Rec) (w : World) (hs : Recs (some ⟨b, off, none⟩) m ys w) (hl : m ≤ 900) :
    Calls Try.prog 32 #[.slice (some ⟨b, off, none⟩) m c] w fun e w' => (∃ a' c', e = .returned (.slice a' m c') ∧ w'.ownsRow w.heap.size 39 9 (.slice a' m c') m (rcs ys)) ∧ Below w.heap.size w w' := by
  have q22 : ∀ (w : World) (a : Option Addr) (n c n' c' : Nat), (binOp .eql 22 (.slice a n c) (.slice none n' c')).run Try.prog w = .ok (.bool a.isNone) w := fun w a n c n' c' => Lib.run_eql_slice_nil w _ _ a n c n' c' Try.underlying22
  have h0 : (w.alloc (.cells #[] 39)).ownsRow w.heap.size 39 9 (.slice (some ⟨w.heap.size, 0, none⟩) 0 0) 0 (rcs []) := World.ownsRow_made w #[] 0 (Nat.le_refl _) (Nat.zero_le _) (by simp)
  have hb0 : Below w.heap.size w (w.alloc (.cells #[] 39)) := (Below.refl _ _).alloc (Nat.le_refl _) _
  obtain ⟨v', w', r, o, bl, _⟩ := Rk.app_recs w.heap.size 0 _ [] ys _ m c _ h0 (hs.later hb0) ⟨_, _, rfl⟩ (by omega) (by simp)
  rw [Nat.zero_add, List.nil_append] at o
  obtain ⟨a', c', rfl⟩ := own_slice o
  have HO := Lib.hid o
  have HB := Lib.hid (hb0.trans bl)
  clear o bl h0 hb0 hs
  go_enter Try.func32, Try.ntmps32
  go_wp2_with (first | (at_builtin; refine Rk.step_app rfl (.tmp 5) (.tmp 6) rfl rfl rfl rfl r ?_) | fail)
  go_ret
  exact ⟨⟨_, _, rfl, HO.out⟩, HB.out⟩

/-- what stands in the rounds speaks of cells alone -/
theorem lots_from (B n0 n : Nat) (l : List Rec) : Own (fun (pre : List Nat) W => ∃ v vs, Boxed W B 31 v ∧ W.ownsRow n0 22 1 v pre.length vs ∧ LotsOk W n0 n l pre vs) := by
  rintro pre X Y row ⟨v, vs, hv, hr, hL⟩ hg hrow
  have ho : ∀ t, Off t X row := fun t r e cs mk hh => by
    obtain ⟨o, h1, h2⟩ := hrow r e
    rw [hh] at h1; cases h1; cases h2
  refine ⟨v, vs, hv.kept hg (fun e' => ?_), ownsRow_off hr hg (ho _), hL.grown hg (ho _)⟩
  obtain ⟨o, h1, h2⟩ := hrow B e'.symm
  rw [show X.heap[B]? = _ from hv] at h1; cases h1; cases h2

set_option maxRecDepth 100000 in
set_option maxHeartbeats 4000000 in
theorem cut_any (a : Option Addr) (len cap : Nat) (l : List Rec) (size : Int) (w : World) (hr : Recs a len l w) (hc : len ≤ cap) (hl : len ≤ 300) (h64 : size ≤ 9223372036854775807) :
    Calls Try.prog 12 #[.slice a len cap, .int .i64 size] w fun e w' => (∃ v, e = .returned v ∧ CutW w' v (nOf size len) l) ∧ Below w.heap.size w w' := by
  have HR := Lib.hid hr
  obtain ⟨b, off, ha⟩ : ∃ b off, 0 < len → a = some ⟨b, off, none⟩ := by
    by_cases h : 0 < len
    · obtain ⟨b, off, h1, _⟩ := hr.at_ h
      exact ⟨b, off, fun _ => h1⟩
    · exact ⟨0, 0, fun g => absurd g h⟩
  have HA := Lib.hid ha
  have hlen := Lib.hid hr.len_is
  have HCH : Hid (∀ n x W, 0 < len → Below w.heap.size w W → Recs (some ⟨b, off + x * n * 9, none⟩) (min n (len - x * n)) (chunk n l x) W) := by
    intro n x W h0 hb
    have h := hr.later hb
    rw [ha h0] at h
    have := chunk_recs h x (n := n)
    rw [chunk_len, hr.len_is] at this
    exact this
  have HCL : Hid (∀ n x, (chunk n l x).length = min n (len - x * n)) := fun n x => by rw [chunk_len, hr.len_is]
  clear hr ha
  refine (callsIn_wide (n := 4)).1 ?_
  refine callsIn_of_wp_marks Try.func12 rfl trivial ?_ rfl
  simp only [Try.ntmps12, List.size_toArray, List.length_cons, List.length_nil, Nat.reduceAdd, Nat.reduceSub, Array.replicate_succ, Array.replicate_zero, List.push_toArray, List.append_toArray, List.nil_append, List.cons_append]
  by_cases hs : size < 1
  · by_cases h0 : len = 0
    · obtain ⟨n, hn⟩ : ∃ n : Nat, 1 = n := ⟨_, rfl⟩
      have HN0 : Hid (0 < len → nOf size len = n) := fun h => absurd h (by omega)
      have hn1 : 1 ≤ n := by omega
      have hn2 : n ≤ 9223372036854775807 := by omega
      have hmx : ¬ (1 : Int) ≤ (len : Int) := by omega
      have hmx2 : ((len : Int) ≤ 1) := by omega
      subst h0
      have hone : ((1 : Nat) : Int) = 1 := rfl
      subst hn
      have HK := fun j => (chunks_lt (n := 1) (l := l) hn1 j)
      rw [hlen.out] at HK
      gi_wp2_with fail
      refine ⟨trivial, (callsIn_wide.2 (chunk_c a 0 cap 1 hn1 _)).mono ?_⟩
      rintro e w' ⟨rfl, rfl⟩
      have bL := ((Boxed.new w 31 (.slice none 0 0)).alloc (.cells #[.slice a 0 cap] 22)).alloc (.cells #[.int .i64 ((1 : Nat) : Int)] 3)
      have bS := (Boxed.new (w.alloc (.cells #[.slice none 0 0] 31)) 22 (.slice a 0 cap)).alloc (.cells #[.int .i64 ((1 : Nat) : Int)] 3)
      have bN := Boxed.new ((w.alloc (.cells #[.slice none 0 0] 31)).alloc (.cells #[.slice a 0 cap] 22)) 3 (.int .i64 ((1 : Nat) : Int))
      simp only [World.size_alloc] at bS bN
      have hB0 : Below w.heap.size w (((w.alloc (.cells #[.slice none 0 0] 31)).alloc (.cells #[.slice a 0 cap] 22)).alloc (.cells #[.int .i64 ((1 : Nat) : Int)] 3)) := (((Below.refl _ w).alloc (Nat.le_refl _) _).alloc (by simp) _).alloc (by simp; omega) _
      have hsz : (((w.alloc (.cells #[.slice none 0 0] 31)).alloc (.cells #[.slice a 0 cap] 22)).alloc (.cells #[.int .i64 ((1 : Nat) : Int)] 3)).heap.size = w.heap.size + 3 := by simp
      gi_wp2_with fail
      generalize hW0 : ((w.alloc (.cells #[.slice none 0 0] 31)).alloc (.cells #[.slice a 0 cap] 22)).alloc (.cells #[.int .i64 ((1 : Nat) : Int)] 3) = W0 at bL bS bN hB0 hsz ⊢
      clear hW0
      refine wpIn_rangeFunc_ownH rfl (by omega) (gf := 54) (lb := #[.pointer (some ⟨w.heap.size + 1, 0, none⟩), .pointer (some ⟨w.heap.size + 1 + 1, 0, none⟩)]) rfl trivial (enters_of Try.func54 (by kernel_rfl) rfl)
        (chunk_stops _ (by omega) a (w.heap.size + 1) (w.heap.size + 1 + 1) b off 0 cap 1 (chunks 1 l) HA.out hc (by omega) hn1 hn2 HK W0 bS bN) kc_t (kc_b (by omega) (by omega)) (Below.refl _ _) (fun _ => rfl)
        (fun (pre : List Nat) W => (∃ v vs, Boxed W w.heap.size 31 v ∧ W.ownsRow (w.heap.size + 3) 22 1 v pre.length vs ∧ LotsOk W (w.heap.size + 3) 1 l pre vs) ∧ (Boxed W (w.heap.size + 1) 22 (.slice a 0 cap) ∧ Boxed W (w.heap.size + 1 + 1) 3 (.int .i64 ((1 : Nat) : Int))) ∧ Below w.heap.size w W ∧ w.heap.size + 3 ≤ W.heap.size)
        (fun _ _ _ => False)
        (OwnFrom.and (Own.from (lots_from w.heap.size (w.heap.size + 3) 1 l) _) (OwnFrom.and (OwnFrom.and (Own.from (boxed_own _ _ (fun _ => .slice a 0 cap)) _) (Own.from (boxed_own _ _ (fun _ => .int .i64 ((1 : Nat) : Int))) _)) (OwnFrom.and (ownFrom_below (Nat.le_refl _) (by omega)) (fun _ X Y _ hs hg _ => Nat.le_trans hs hg.size))))
        (fun _ _ _ _ _ hs _ _ => hs)
        ⟨⟨_, [], bL, World.ownsRow_nil _ _ _ _, LotsOk.nil _ _ _ _⟩, ⟨bS, bN⟩, hB0, by omega⟩
        (fun (x : Nat) a' _ => a' = { tmps := #[.slice a 0 cap, .int .i64 1, undef, undef, .slice none 0 0, .pointer (some ⟨w.heap.size, 0, none⟩), lotV b off 1 0 x, .int .i64 size, .bool true, .slice a 0 cap, .int .i64 0, .int .i64 1, .slice a 0 cap, .int .i64 1, .func (.func 54) #[] #[.pointer (some ⟨w.heap.size + 1, 0, none⟩), .pointer (some ⟨w.heap.size + 1 + 1, 0, none⟩)], lotV b off 1 0 x, undef, undef, undef, undef, undef, undef], defers := [] })
        (fun x a' _ X Y row hs hg hr => hs)
        ?assignC ?bodyC ?doneC ?stopC
      case assignC =>
        rintro l' pre x W K hI hK
        gi_wp2
        refine hK _ _ ?_ ?_ ?_ ?_
        · exact (KeepsOthers.refl _).from _
        · exact ⟨rfl, rfl⟩
        · exact hI
        · rfl
      case bodyC =>
        rintro l' pre x a' W hl' _ ⟨⟨v, vs, hv, hrow, hL⟩, ⟨hS, hN⟩, hB, hsz3⟩ rfl hlt
        have hpl : pre.length ≤ 300 := by
          have h1 := (HK pre.length).1 hlt
          have h2 : pre.length * 1 ≤ pre.length * 1 := Nat.mul_le_mul_left _ hn1
          omega
        have hlp : 0 < 0 := by
          have h1 := (HK pre.length).1 hlt
          omega
        have n1 : w.heap.size + 1 ≠ w.heap.size := by omega
        have n2 : w.heap.size + 1 + 1 ≠ w.heap.size := by omega
        have hwS := hS.lt
        have hwN := hN.lt
        have hrec := HCH.out 1 x W.drew hlp hB.drew
        have hxl := HCL.out 1 x
        obtain ⟨o, m, hx, hm9, ho⟩ : ∃ o m : Nat, lotV b off 1 0 x = .slice (some ⟨b, o, none⟩) m m ∧ m ≤ 900 ∧ (o = off + x * 1 * 9 ∧ m = min 1 (0 - x * 1)) := ⟨_, _, rfl, by omega, rfl, rfl⟩
        rw [hx]
        rw [← ho.1, ← ho.2] at hrec
        rw [← ho.2] at hxl
        clear hx ho
        -- what stands behind the clone
        have HC1 := Lib.hid (fun X (h : Recs (some ⟨b, o, none⟩) m (chunk 1 l x) X) => clone_any b o m m (chunk 1 l x) X h hm9)
        have HREC := Lib.hid hrec
        have HAFT : Hid (∀ w1 a1 c1, w1.ownsRow W.drew.heap.size 39 9 (.slice a1 m c1) m (rcs (chunk 1 l x)) → Below W.drew.heap.size W.drew w1 →
            w1.cell? ⟨w.heap.size, 0, none⟩ = some v ∧ (w1.alloc (.cells #[.slice a1 m c1] 22)).cell? ⟨w.heap.size, 0, none⟩ = some v ∧ ∃ v' w2, (Builtin.append_ #[31, 31] 31 #[v, .slice (some ⟨w1.heap.size, 0, none⟩) 1 1]).run Try.prog (w1.alloc (.cells #[.slice a1 m c1] 22)) = .ok v' w2 ∧ (∃ g cap, v' = .slice (some ⟨g, 0, none⟩) (pre.length + 1) cap) ∧
              w2.cell? ⟨w.heap.size, 0, none⟩ = some v ∧ w2.frozen? ⟨w.heap.size, 0, none⟩ = false ∧
              (KeepsOthers W (w2.setCell ⟨w.heap.size, 0, none⟩ v') ∧ Kc (w.heap.size + 1) (w.heap.size + 1 + 1) W (w2.setCell ⟨w.heap.size, 0, none⟩ v') ∧
                (∃ v vs, Boxed (w2.setCell ⟨w.heap.size, 0, none⟩ v') w.heap.size 31 v ∧ (w2.setCell ⟨w.heap.size, 0, none⟩ v').ownsRow (w.heap.size + 3) 22 1 v (pre ++ [x]).length vs ∧ LotsOk (w2.setCell ⟨w.heap.size, 0, none⟩ v') (w.heap.size + 3) 1 l (pre ++ [x]) vs) ∧
                (Boxed (w2.setCell ⟨w.heap.size, 0, none⟩ v') (w.heap.size + 1) 22 (.slice a 0 cap) ∧ Boxed (w2.setCell ⟨w.heap.size, 0, none⟩ v') (w.heap.size + 1 + 1) 3 (.int .i64 ((1 : Nat) : Int))) ∧ Below w.heap.size w (w2.setCell ⟨w.heap.size, 0, none⟩ v') ∧ w.heap.size + 3 ≤ (w2.setCell ⟨w.heap.size, 0, none⟩ v').heap.size)) := by
          intro w1 a1 c1 hu hb1
          have hb1 : Below W.heap.size W w1 := (Below.refl W.heap.size W).drew.trans hb1
          have hg1 : W.grownBy w1 none := grownC_of hb1
          have hs1 : W.heap.size ≤ w1.heap.size := hb1.size
          have hv1 := hv.kept hg1 (by simp)
          have hr1 := ownsRow_off hrow hg1 Off.none
          have hL1 := hL.grown hg1 Off.none
          have hS1 := hS.kept hg1 (by simp)
          have hN1 := hN.kept hg1 (by simp)
          obtain ⟨v', w2, r2, o2, g2⟩ := app_slice (w.heap.size + 3) pre.length v (.slice a1 m c1) vs w1 hr1 rfl (by omega) (by omega)
          obtain ⟨hv2, hv3, hr3, hk3, hb3⟩ := hv1.appended (n₀ := w.heap.size) (by decide) (own_mono hr1 (by omega)) (by omega) (Nat.le_refl _) (own_mono o2 (by omega)) g2
          have hgs := grownBy_setCell' w2 w.heap.size v'
          have hu2 := ownsRow_off (hu.alloc (.cells #[.slice a1 m c1] 22)) g2 (off_row (hr1.alloc (.cells #[.slice a1 m c1] 22)) (by decide))
          have hL2 := (hL1.grown (World.grownBy_alloc w1 (.cells #[.slice a1 m c1] 22) none) Off.none).grown g2 (off_row (hr1.alloc (.cells #[.slice a1 m c1] 22)) (by decide))
          have hbx : ∀ t, 31 ≠ t → Off t w2 (some w.heap.size) := fun t ht r e cs mk hh => by
            injection e with e; subst e
            rw [show w2.heap[w.heap.size]? = _ from hv2] at hh
            injection hh with hh; injection hh with _ h2 _
            exact ht h2
          have hr4 := ownsRow_off o2 hgs (hbx _ (by decide))
          have hu4 := own_mono (ownsRow_off hu2 hgs (hbx _ (by decide))) (show w.heap.size + 3 ≤ W.drew.heap.size from hsz3)
          have hL4 := hL2.grown hgs (hbx _ (by decide))
          have hne : ∀ {B' : Nat} {t : TypeId} {u : Value}, Boxed w1 B' t u → B' < w.heap.size + 3 → some B' ≠ v.ownBlock := fun hb hlt e => by
            have := (hr1.lt _ e.symm).1; omega
          have hS4 := ((hS1.alloc (.cells #[.slice a1 m c1] 22)).kept g2 (hne hS1 (by omega))).other n1 v'
          have hN4 := ((hN1.alloc (.cells #[.slice a1 m c1] 22)).kept g2 (hne hN1 (by omega))).other n2 v'
          have hkW : KeepsOthers W w1 := KeepsOthers.of_grownBy hg1 (fun j o e => by cases e)
          have hbW : Below w.heap.size W w1 := ⟨hb1.os, hb1.tape, hb1.output, hb1.size, fun k hk => hb1.block k (by have := hB.size; show k < W.heap.size; omega)⟩
          refine ⟨hv1.cell, (hv1.alloc _).cell, v', w2, r2, ownsRow_succ o2, hv2.cell, hv2.frozen, hkW.trans hk3, ⟨Eq.trans hS4 hS.symm, Eq.trans hN4 hN.symm⟩, ⟨v', vs ++ [.slice a1 m c1], hv3, ?_, ?_⟩, ⟨hS4, hN4⟩, hB.trans (hbW.trans hb3), ?_⟩
          · rw [List.length_append]; exact hr4
          · exact hL4.next (by rw [hxl]; exact hu4)
          · have := hgs.size; have := hg1.size; have h3 := g2.size; simp at h3; omega
        have hc0 : W.drew.cell? ⟨w.heap.size, 0, none⟩ = some v := hv.cell
        clear hL hrow hS hN hB hv hrec hwS hwN hxl
        gi_wp2_with fail
        refine wpIn_region_any (by kernel_rfl) ?_
        change wpAnyIn _ _ _ _ _ _ _ _ _ (World.drew _)
        refine wpAnyIn_ready (rs := [0, 1]) (by kernel_rfl) (by simp) ?_
        refine AllReadyIn.cons rfl (fun K hK => ?_) ?_
        · go_simp
          refine hK _ _ ?_
          clear hK K
          refine wpAnyIn_ready (rs := [1]) (by kernel_rfl) (by simp) ?_
          refine AllReadyIn.cons rfl (fun K hK => ?_) ?_
          · go_simp
            refine hK _ _ ?_
            clear hK K
            refine wpAnyIn_ready (rs := [2]) (by kernel_rfl) (by simp) ?_
            refine AllReadyIn.cons rfl (fun K hK => ?_) ?_
            · go_simp
              refine ⟨trivial, (callsIn_wide.2 (HC1.out _ HREC.out)).mono ?_⟩
              rintro e w1 ⟨⟨a1, c1, rfl, hu⟩, hb1⟩
              obtain ⟨hc1, hc2, v2, w2, r2, ⟨g2, cap2, rfl⟩, hc3, hf3, hfin⟩ := HAFT.out w1 a1 c1 hu hb1
              have HFIN := Lib.hid hfin
              clear hu hb1 hfin HAFT HREC HC1
              refine hK _ _ ?_
              clear hK K
              refine wpAnyIn_ready (rs := [3]) (by kernel_rfl) (by simp) ?_
              refine AllReadyIn.cons rfl (fun K hK => ?_) ?_
              · go_simp
                refine hK _ _ ?_
                clear hK K
                refine wpAnyIn_ready (rs := [4]) (by kernel_rfl) (by simp) ?_
                refine AllReadyIn.cons rfl (fun K hK => ?_) ?_
                · refine step_append_in rfl (.tmp 16) (.tmp 19) 31 31 rfl _ _ rfl rfl _ _ r2 ?_
                  refine hK _ _ ?_
                  clear hK K r2
                  refine wpAnyIn_ready (rs := [5]) (by kernel_rfl) (by simp) ?_
                  refine AllReadyIn.cons rfl (fun K hK => ?_) ?_
                  · go_simp
                    refine hK _ _ ?_
                    clear hK K
                    refine wpAnyIn_done (by kernel_rfl) ?_ _
                    gi_wp2_with fail
                    exact ⟨HFIN.out.1.from _, HFIN.out.2⟩
                  exact AllReadyIn.nil
                exact AllReadyIn.nil
              exact AllReadyIn.nil
            exact AllReadyIn.nil
          exact AllReadyIn.nil
        refine AllReadyIn.cons rfl (fun K hK => ?_) ?_
        · go_simp
          refine hK _ _ ?_
          clear hK K
          refine wpAnyIn_ready (rs := [0, 2]) (by kernel_rfl) (by simp) ?_
          refine AllReadyIn.cons rfl (fun K hK => ?_) ?_
          · go_simp
            refine hK _ _ ?_
            clear hK K
            refine wpAnyIn_ready (rs := [2]) (by kernel_rfl) (by simp) ?_
            refine AllReadyIn.cons rfl (fun K hK => ?_) ?_
            · go_simp
              refine ⟨trivial, (callsIn_wide.2 (HC1.out _ HREC.out)).mono ?_⟩
              rintro e w1 ⟨⟨a1, c1, rfl, hu⟩, hb1⟩
              obtain ⟨hc1, hc2, v2, w2, r2, ⟨g2, cap2, rfl⟩, hc3, hf3, hfin⟩ := HAFT.out w1 a1 c1 hu hb1
              have HFIN := Lib.hid hfin
              clear hu hb1 hfin HAFT HREC HC1
              refine hK _ _ ?_
              clear hK K
              refine wpAnyIn_ready (rs := [3]) (by kernel_rfl) (by simp) ?_
              refine AllReadyIn.cons rfl (fun K hK => ?_) ?_
              · go_simp
                refine hK _ _ ?_
                clear hK K
                refine wpAnyIn_ready (rs := [4]) (by kernel_rfl) (by simp) ?_
                refine AllReadyIn.cons rfl (fun K hK => ?_) ?_
                · refine step_append_in rfl (.tmp 16) (.tmp 19) 31 31 rfl _ _ rfl rfl _ _ r2 ?_
                  refine hK _ _ ?_
                  clear hK K r2
                  refine wpAnyIn_ready (rs := [5]) (by kernel_rfl) (by simp) ?_
                  refine AllReadyIn.cons rfl (fun K hK => ?_) ?_
                  · go_simp
                    refine hK _ _ ?_
                    clear hK K
                    refine wpAnyIn_done (by kernel_rfl) ?_ _
                    gi_wp2_with fail
                    exact ⟨HFIN.out.1.from _, HFIN.out.2⟩
                  exact AllReadyIn.nil
                exact AllReadyIn.nil
              exact AllReadyIn.nil
            exact AllReadyIn.nil
          refine AllReadyIn.cons rfl (fun K hK => ?_) ?_
          · go_simp
            refine ⟨trivial, (callsIn_wide.2 (HC1.out _ HREC.out)).mono ?_⟩
            rintro e w1 ⟨⟨a1, c1, rfl, hu⟩, hb1⟩
            obtain ⟨hc1, hc2, v2, w2, r2, ⟨g2, cap2, rfl⟩, hc3, hf3, hfin⟩ := HAFT.out w1 a1 c1 hu hb1
            have HFIN := Lib.hid hfin
            clear hu hb1 hfin HAFT HREC HC1
            refine hK _ _ ?_
            clear hK K
            refine wpAnyIn_ready (rs := [0, 3]) (by kernel_rfl) (by simp) ?_
            refine AllReadyIn.cons rfl (fun K hK => ?_) ?_
            · go_simp
              refine hK _ _ ?_
              clear hK K
              refine wpAnyIn_ready (rs := [3]) (by kernel_rfl) (by simp) ?_
              refine AllReadyIn.cons rfl (fun K hK => ?_) ?_
              · go_simp
                refine hK _ _ ?_
                clear hK K
                refine wpAnyIn_ready (rs := [4]) (by kernel_rfl) (by simp) ?_
                refine AllReadyIn.cons rfl (fun K hK => ?_) ?_
                · refine step_append_in rfl (.tmp 16) (.tmp 19) 31 31 rfl _ _ rfl rfl _ _ r2 ?_
                  refine hK _ _ ?_
                  clear hK K r2
                  refine wpAnyIn_ready (rs := [5]) (by kernel_rfl) (by simp) ?_
                  refine AllReadyIn.cons rfl (fun K hK => ?_) ?_
                  · go_simp
                    refine hK _ _ ?_
                    clear hK K
                    refine wpAnyIn_done (by kernel_rfl) ?_ _
                    gi_wp2_with fail
                    exact ⟨HFIN.out.1.from _, HFIN.out.2⟩
                  exact AllReadyIn.nil
                exact AllReadyIn.nil
              exact AllReadyIn.nil
            refine AllReadyIn.cons rfl (fun K hK => ?_) ?_
            · go_simp
              refine hK _ _ ?_
              clear hK K
              refine wpAnyIn_ready (rs := [0]) (by kernel_rfl) (by simp) ?_
              refine AllReadyIn.cons rfl (fun K hK => ?_) ?_
              · go_simp
                refine hK _ _ ?_
                clear hK K
                refine wpAnyIn_ready (rs := [4]) (by kernel_rfl) (by simp) ?_
                refine AllReadyIn.cons rfl (fun K hK => ?_) ?_
                · refine step_append_in rfl (.tmp 16) (.tmp 19) 31 31 rfl _ _ rfl rfl _ _ r2 ?_
                  refine hK _ _ ?_
                  clear hK K r2
                  refine wpAnyIn_ready (rs := [5]) (by kernel_rfl) (by simp) ?_
                  refine AllReadyIn.cons rfl (fun K hK => ?_) ?_
                  · go_simp
                    refine hK _ _ ?_
                    clear hK K
                    refine wpAnyIn_done (by kernel_rfl) ?_ _
                    gi_wp2_with fail
                    exact ⟨HFIN.out.1.from _, HFIN.out.2⟩
                  exact AllReadyIn.nil
                exact AllReadyIn.nil
              exact AllReadyIn.nil
            exact AllReadyIn.nil
          exact AllReadyIn.nil
        exact AllReadyIn.nil
      case doneC =>
        rintro D ys W hD rfl ⟨⟨v, vs, hv, hrow, hL⟩, ⟨hS, hN⟩, hB, _⟩ hK
        have hc := hv.cell
        gi_wp2_with fail
        refine ⟨by simp, .inl ⟨_, _, rfl, run_takeDeferred hK, ?_⟩⟩
        have hB2 := fun o' => hB.trans (belowK_b (w := w) (Nat.le_refl _) _ D _ o' (by omega) hK rfl rfl)
        have hoff : ∀ t, Off t W (some D) := fun t r e cs mk hh => by
          injection e with e; subst e
          rw [hK] at hh; cases hh
        have hrow2 := fun o' => ownsRow_off hrow (grownBy_putObj' W D o') (hoff _)
        have hL2 := fun o' => hL.grown (grownBy_putObj' W D o') (hoff _)
        rw [List.length_range] at hrow2
        refine ⟨_, results_tmp rfl _ _ _, ⟨v, rfl, ?_⟩, hB2 _⟩
        have hcw2 : ∀ o', CutW (W.putObj D o') v (nOf size 0) l := by
          intro o'
          have hcw := cutW_own hn1 (hrow2 o') (hL2 o')
          obtain rfl : l = [] := List.eq_nil_of_length_eq_zero hlen.out
          obtain ⟨A, K, c, e1, e2, _⟩ := hcw
          exact ⟨A, K, c, e1, e2, .inl (e2.2 rfl)⟩
        exact hcw2 _
      case stopC =>
        rintro D c pre W _ _ h _
        exact h.elim
    · obtain ⟨n, hn⟩ : ∃ n : Nat, len = n := ⟨_, rfl⟩
      have HN0 : Hid (0 < len → nOf size len = n) := fun _ => by rw [← hn]; exact if_pos hs
      have hn1 : 1 ≤ n := by omega
      have hn2 : n ≤ 9223372036854775807 := by omega
      subst hn
      have HK := fun j => (chunks_lt (n := len) (l := l) hn1 j)
      rw [hlen.out] at HK
      gi_wp2_with fail
      refine ⟨trivial, (callsIn_wide.2 (chunk_c a len cap len hn1 _)).mono ?_⟩
      rintro e w' ⟨rfl, rfl⟩
      have bL := ((Boxed.new w 31 (.slice none 0 0)).alloc (.cells #[.slice a len cap] 22)).alloc (.cells #[.int .i64 ((len : Nat) : Int)] 3)
      have bS := (Boxed.new (w.alloc (.cells #[.slice none 0 0] 31)) 22 (.slice a len cap)).alloc (.cells #[.int .i64 ((len : Nat) : Int)] 3)
      have bN := Boxed.new ((w.alloc (.cells #[.slice none 0 0] 31)).alloc (.cells #[.slice a len cap] 22)) 3 (.int .i64 ((len : Nat) : Int))
      simp only [World.size_alloc] at bS bN
      have hB0 : Below w.heap.size w (((w.alloc (.cells #[.slice none 0 0] 31)).alloc (.cells #[.slice a len cap] 22)).alloc (.cells #[.int .i64 ((len : Nat) : Int)] 3)) := (((Below.refl _ w).alloc (Nat.le_refl _) _).alloc (by simp) _).alloc (by simp; omega) _
      have hsz : (((w.alloc (.cells #[.slice none 0 0] 31)).alloc (.cells #[.slice a len cap] 22)).alloc (.cells #[.int .i64 ((len : Nat) : Int)] 3)).heap.size = w.heap.size + 3 := by simp
      gi_wp2_with fail
      generalize hW0 : ((w.alloc (.cells #[.slice none 0 0] 31)).alloc (.cells #[.slice a len cap] 22)).alloc (.cells #[.int .i64 ((len : Nat) : Int)] 3) = W0 at bL bS bN hB0 hsz ⊢
      clear hW0
      refine wpIn_rangeFunc_ownH rfl (by omega) (gf := 54) (lb := #[.pointer (some ⟨w.heap.size + 1, 0, none⟩), .pointer (some ⟨w.heap.size + 1 + 1, 0, none⟩)]) rfl trivial (enters_of Try.func54 (by kernel_rfl) rfl)
        (chunk_stops _ (by omega) a (w.heap.size + 1) (w.heap.size + 1 + 1) b off len cap len (chunks len l) HA.out hc (by omega) hn1 hn2 HK W0 bS bN) kc_t (kc_b (by omega) (by omega)) (Below.refl _ _) (fun _ => rfl)
        (fun (pre : List Nat) W => (∃ v vs, Boxed W w.heap.size 31 v ∧ W.ownsRow (w.heap.size + 3) 22 1 v pre.length vs ∧ LotsOk W (w.heap.size + 3) len l pre vs) ∧ (Boxed W (w.heap.size + 1) 22 (.slice a len cap) ∧ Boxed W (w.heap.size + 1 + 1) 3 (.int .i64 ((len : Nat) : Int))) ∧ Below w.heap.size w W ∧ w.heap.size + 3 ≤ W.heap.size)
        (fun _ _ _ => False)
        (OwnFrom.and (Own.from (lots_from w.heap.size (w.heap.size + 3) len l) _) (OwnFrom.and (OwnFrom.and (Own.from (boxed_own _ _ (fun _ => .slice a len cap)) _) (Own.from (boxed_own _ _ (fun _ => .int .i64 ((len : Nat) : Int))) _)) (OwnFrom.and (ownFrom_below (Nat.le_refl _) (by omega)) (fun _ X Y _ hs hg _ => Nat.le_trans hs hg.size))))
        (fun _ _ _ _ _ hs _ _ => hs)
        ⟨⟨_, [], bL, World.ownsRow_nil _ _ _ _, LotsOk.nil _ _ _ _⟩, ⟨bS, bN⟩, hB0, by omega⟩
        (fun (x : Nat) a' _ => a' = { tmps := #[.slice a len cap, .int .i64 (len : Nat), undef, undef, .slice none 0 0, .pointer (some ⟨w.heap.size, 0, none⟩), lotV b off len len x, .int .i64 size, .bool true, .slice a len cap, .int .i64 (len : Nat), .int .i64 (len : Nat), .slice a len cap, .int .i64 (len : Nat), .func (.func 54) #[] #[.pointer (some ⟨w.heap.size + 1, 0, none⟩), .pointer (some ⟨w.heap.size + 1 + 1, 0, none⟩)], lotV b off len len x, undef, undef, undef, undef, undef, undef], defers := [] })
        (fun x a' _ X Y row hs hg hr => hs)
        ?assignB ?bodyB ?doneB ?stopB
      case assignB =>
        rintro l' pre x W K hI hK
        gi_wp2
        refine hK _ _ ?_ ?_ ?_ ?_
        · exact (KeepsOthers.refl _).from _
        · exact ⟨rfl, rfl⟩
        · exact hI
        · rfl
      case bodyB =>
        rintro l' pre x a' W hl' _ ⟨⟨v, vs, hv, hrow, hL⟩, ⟨hS, hN⟩, hB, hsz3⟩ rfl hlt
        have hpl : pre.length ≤ 300 := by
          have h1 := (HK pre.length).1 hlt
          have h2 : pre.length * 1 ≤ pre.length * len := Nat.mul_le_mul_left _ hn1
          omega
        have hlp : 0 < len := by
          have h1 := (HK pre.length).1 hlt
          omega
        have n1 : w.heap.size + 1 ≠ w.heap.size := by omega
        have n2 : w.heap.size + 1 + 1 ≠ w.heap.size := by omega
        have hwS := hS.lt
        have hwN := hN.lt
        have hrec := HCH.out len x W.drew hlp hB.drew
        have hxl := HCL.out len x
        obtain ⟨o, m, hx, hm9, ho⟩ : ∃ o m : Nat, lotV b off len len x = .slice (some ⟨b, o, none⟩) m m ∧ m ≤ 900 ∧ (o = off + x * len * 9 ∧ m = min len (len - x * len)) := ⟨_, _, rfl, by omega, rfl, rfl⟩
        rw [hx]
        rw [← ho.1, ← ho.2] at hrec
        rw [← ho.2] at hxl
        clear hx ho
        -- what stands behind the clone
        have HC1 := Lib.hid (fun X (h : Recs (some ⟨b, o, none⟩) m (chunk len l x) X) => clone_any b o m m (chunk len l x) X h hm9)
        have HREC := Lib.hid hrec
        have HAFT : Hid (∀ w1 a1 c1, w1.ownsRow W.drew.heap.size 39 9 (.slice a1 m c1) m (rcs (chunk len l x)) → Below W.drew.heap.size W.drew w1 →
            w1.cell? ⟨w.heap.size, 0, none⟩ = some v ∧ (w1.alloc (.cells #[.slice a1 m c1] 22)).cell? ⟨w.heap.size, 0, none⟩ = some v ∧ ∃ v' w2, (Builtin.append_ #[31, 31] 31 #[v, .slice (some ⟨w1.heap.size, 0, none⟩) 1 1]).run Try.prog (w1.alloc (.cells #[.slice a1 m c1] 22)) = .ok v' w2 ∧ (∃ g cap, v' = .slice (some ⟨g, 0, none⟩) (pre.length + 1) cap) ∧
              w2.cell? ⟨w.heap.size, 0, none⟩ = some v ∧ w2.frozen? ⟨w.heap.size, 0, none⟩ = false ∧
              (KeepsOthers W (w2.setCell ⟨w.heap.size, 0, none⟩ v') ∧ Kc (w.heap.size + 1) (w.heap.size + 1 + 1) W (w2.setCell ⟨w.heap.size, 0, none⟩ v') ∧
                (∃ v vs, Boxed (w2.setCell ⟨w.heap.size, 0, none⟩ v') w.heap.size 31 v ∧ (w2.setCell ⟨w.heap.size, 0, none⟩ v').ownsRow (w.heap.size + 3) 22 1 v (pre ++ [x]).length vs ∧ LotsOk (w2.setCell ⟨w.heap.size, 0, none⟩ v') (w.heap.size + 3) len l (pre ++ [x]) vs) ∧
                (Boxed (w2.setCell ⟨w.heap.size, 0, none⟩ v') (w.heap.size + 1) 22 (.slice a len cap) ∧ Boxed (w2.setCell ⟨w.heap.size, 0, none⟩ v') (w.heap.size + 1 + 1) 3 (.int .i64 ((len : Nat) : Int))) ∧ Below w.heap.size w (w2.setCell ⟨w.heap.size, 0, none⟩ v') ∧ w.heap.size + 3 ≤ (w2.setCell ⟨w.heap.size, 0, none⟩ v').heap.size)) := by
          intro w1 a1 c1 hu hb1
          have hb1 : Below W.heap.size W w1 := (Below.refl W.heap.size W).drew.trans hb1
          have hg1 : W.grownBy w1 none := grownC_of hb1
          have hs1 : W.heap.size ≤ w1.heap.size := hb1.size
          have hv1 := hv.kept hg1 (by simp)
          have hr1 := ownsRow_off hrow hg1 Off.none
          have hL1 := hL.grown hg1 Off.none
          have hS1 := hS.kept hg1 (by simp)
          have hN1 := hN.kept hg1 (by simp)
          obtain ⟨v', w2, r2, o2, g2⟩ := app_slice (w.heap.size + 3) pre.length v (.slice a1 m c1) vs w1 hr1 rfl (by omega) (by omega)
          obtain ⟨hv2, hv3, hr3, hk3, hb3⟩ := hv1.appended (n₀ := w.heap.size) (by decide) (own_mono hr1 (by omega)) (by omega) (Nat.le_refl _) (own_mono o2 (by omega)) g2
          have hgs := grownBy_setCell' w2 w.heap.size v'
          have hu2 := ownsRow_off (hu.alloc (.cells #[.slice a1 m c1] 22)) g2 (off_row (hr1.alloc (.cells #[.slice a1 m c1] 22)) (by decide))
          have hL2 := (hL1.grown (World.grownBy_alloc w1 (.cells #[.slice a1 m c1] 22) none) Off.none).grown g2 (off_row (hr1.alloc (.cells #[.slice a1 m c1] 22)) (by decide))
          have hbx : ∀ t, 31 ≠ t → Off t w2 (some w.heap.size) := fun t ht r e cs mk hh => by
            injection e with e; subst e
            rw [show w2.heap[w.heap.size]? = _ from hv2] at hh
            injection hh with hh; injection hh with _ h2 _
            exact ht h2
          have hr4 := ownsRow_off o2 hgs (hbx _ (by decide))
          have hu4 := own_mono (ownsRow_off hu2 hgs (hbx _ (by decide))) (show w.heap.size + 3 ≤ W.drew.heap.size from hsz3)
          have hL4 := hL2.grown hgs (hbx _ (by decide))
          have hne : ∀ {B' : Nat} {t : TypeId} {u : Value}, Boxed w1 B' t u → B' < w.heap.size + 3 → some B' ≠ v.ownBlock := fun hb hlt e => by
            have := (hr1.lt _ e.symm).1; omega
          have hS4 := ((hS1.alloc (.cells #[.slice a1 m c1] 22)).kept g2 (hne hS1 (by omega))).other n1 v'
          have hN4 := ((hN1.alloc (.cells #[.slice a1 m c1] 22)).kept g2 (hne hN1 (by omega))).other n2 v'
          have hkW : KeepsOthers W w1 := KeepsOthers.of_grownBy hg1 (fun j o e => by cases e)
          have hbW : Below w.heap.size W w1 := ⟨hb1.os, hb1.tape, hb1.output, hb1.size, fun k hk => hb1.block k (by have := hB.size; show k < W.heap.size; omega)⟩
          refine ⟨hv1.cell, (hv1.alloc _).cell, v', w2, r2, ownsRow_succ o2, hv2.cell, hv2.frozen, hkW.trans hk3, ⟨Eq.trans hS4 hS.symm, Eq.trans hN4 hN.symm⟩, ⟨v', vs ++ [.slice a1 m c1], hv3, ?_, ?_⟩, ⟨hS4, hN4⟩, hB.trans (hbW.trans hb3), ?_⟩
          · rw [List.length_append]; exact hr4
          · exact hL4.next (by rw [hxl]; exact hu4)
          · have := hgs.size; have := hg1.size; have h3 := g2.size; simp at h3; omega
        have hc0 : W.drew.cell? ⟨w.heap.size, 0, none⟩ = some v := hv.cell
        clear hL hrow hS hN hB hv hrec hwS hwN hxl
        gi_wp2_with fail
        refine wpIn_region_any (by kernel_rfl) ?_
        change wpAnyIn _ _ _ _ _ _ _ _ _ (World.drew _)
        refine wpAnyIn_ready (rs := [0, 1]) (by kernel_rfl) (by simp) ?_
        refine AllReadyIn.cons rfl (fun K hK => ?_) ?_
        · go_simp
          refine hK _ _ ?_
          clear hK K
          refine wpAnyIn_ready (rs := [1]) (by kernel_rfl) (by simp) ?_
          refine AllReadyIn.cons rfl (fun K hK => ?_) ?_
          · go_simp
            refine hK _ _ ?_
            clear hK K
            refine wpAnyIn_ready (rs := [2]) (by kernel_rfl) (by simp) ?_
            refine AllReadyIn.cons rfl (fun K hK => ?_) ?_
            · go_simp
              refine ⟨trivial, (callsIn_wide.2 (HC1.out _ HREC.out)).mono ?_⟩
              rintro e w1 ⟨⟨a1, c1, rfl, hu⟩, hb1⟩
              obtain ⟨hc1, hc2, v2, w2, r2, ⟨g2, cap2, rfl⟩, hc3, hf3, hfin⟩ := HAFT.out w1 a1 c1 hu hb1
              have HFIN := Lib.hid hfin
              clear hu hb1 hfin HAFT HREC HC1
              refine hK _ _ ?_
              clear hK K
              refine wpAnyIn_ready (rs := [3]) (by kernel_rfl) (by simp) ?_
              refine AllReadyIn.cons rfl (fun K hK => ?_) ?_
              · go_simp
                refine hK _ _ ?_
                clear hK K
                refine wpAnyIn_ready (rs := [4]) (by kernel_rfl) (by simp) ?_
                refine AllReadyIn.cons rfl (fun K hK => ?_) ?_
                · refine step_append_in rfl (.tmp 16) (.tmp 19) 31 31 rfl _ _ rfl rfl _ _ r2 ?_
                  refine hK _ _ ?_
                  clear hK K r2
                  refine wpAnyIn_ready (rs := [5]) (by kernel_rfl) (by simp) ?_
                  refine AllReadyIn.cons rfl (fun K hK => ?_) ?_
                  · go_simp
                    refine hK _ _ ?_
                    clear hK K
                    refine wpAnyIn_done (by kernel_rfl) ?_ _
                    gi_wp2_with fail
                    exact ⟨HFIN.out.1.from _, HFIN.out.2⟩
                  exact AllReadyIn.nil
                exact AllReadyIn.nil
              exact AllReadyIn.nil
            exact AllReadyIn.nil
          exact AllReadyIn.nil
        refine AllReadyIn.cons rfl (fun K hK => ?_) ?_
        · go_simp
          refine hK _ _ ?_
          clear hK K
          refine wpAnyIn_ready (rs := [0, 2]) (by kernel_rfl) (by simp) ?_
          refine AllReadyIn.cons rfl (fun K hK => ?_) ?_
          · go_simp
            refine hK _ _ ?_
            clear hK K
            refine wpAnyIn_ready (rs := [2]) (by kernel_rfl) (by simp) ?_
            refine AllReadyIn.cons rfl (fun K hK => ?_) ?_
            · go_simp
              refine ⟨trivial, (callsIn_wide.2 (HC1.out _ HREC.out)).mono ?_⟩
              rintro e w1 ⟨⟨a1, c1, rfl, hu⟩, hb1⟩
              obtain ⟨hc1, hc2, v2, w2, r2, ⟨g2, cap2, rfl⟩, hc3, hf3, hfin⟩ := HAFT.out w1 a1 c1 hu hb1
              have HFIN := Lib.hid hfin
              clear hu hb1 hfin HAFT HREC HC1
              refine hK _ _ ?_
              clear hK K
              refine wpAnyIn_ready (rs := [3]) (by kernel_rfl) (by simp) ?_
              refine AllReadyIn.cons rfl (fun K hK => ?_) ?_
              · go_simp
                refine hK _ _ ?_
                clear hK K
                refine wpAnyIn_ready (rs := [4]) (by kernel_rfl) (by simp) ?_
                refine AllReadyIn.cons rfl (fun K hK => ?_) ?_
                · refine step_append_in rfl (.tmp 16) (.tmp 19) 31 31 rfl _ _ rfl rfl _ _ r2 ?_
                  refine hK _ _ ?_
                  clear hK K r2
                  refine wpAnyIn_ready (rs := [5]) (by kernel_rfl) (by simp) ?_
                  refine AllReadyIn.cons rfl (fun K hK => ?_) ?_
                  · go_simp
                    refine hK _ _ ?_
                    clear hK K
                    refine wpAnyIn_done (by kernel_rfl) ?_ _
                    gi_wp2_with fail
                    exact ⟨HFIN.out.1.from _, HFIN.out.2⟩
                  exact AllReadyIn.nil
                exact AllReadyIn.nil
              exact AllReadyIn.nil
            exact AllReadyIn.nil
          refine AllReadyIn.cons rfl (fun K hK => ?_) ?_
          · go_simp
            refine ⟨trivial, (callsIn_wide.2 (HC1.out _ HREC.out)).mono ?_⟩
            rintro e w1 ⟨⟨a1, c1, rfl, hu⟩, hb1⟩
            obtain ⟨hc1, hc2, v2, w2, r2, ⟨g2, cap2, rfl⟩, hc3, hf3, hfin⟩ := HAFT.out w1 a1 c1 hu hb1
            have HFIN := Lib.hid hfin
            clear hu hb1 hfin HAFT HREC HC1
            refine hK _ _ ?_
            clear hK K
            refine wpAnyIn_ready (rs := [0, 3]) (by kernel_rfl) (by simp) ?_
            refine AllReadyIn.cons rfl (fun K hK => ?_) ?_
            · go_simp
              refine hK _ _ ?_
              clear hK K
              refine wpAnyIn_ready (rs := [3]) (by kernel_rfl) (by simp) ?_
              refine AllReadyIn.cons rfl (fun K hK => ?_) ?_
              · go_simp
                refine hK _ _ ?_
                clear hK K
                refine wpAnyIn_ready (rs := [4]) (by kernel_rfl) (by simp) ?_
                refine AllReadyIn.cons rfl (fun K hK => ?_) ?_
                · refine step_append_in rfl (.tmp 16) (.tmp 19) 31 31 rfl _ _ rfl rfl _ _ r2 ?_
                  refine hK _ _ ?_
                  clear hK K r2
                  refine wpAnyIn_ready (rs := [5]) (by kernel_rfl) (by simp) ?_
                  refine AllReadyIn.cons rfl (fun K hK => ?_) ?_
                  · go_simp
                    refine hK _ _ ?_
                    clear hK K
                    refine wpAnyIn_done (by kernel_rfl) ?_ _
                    gi_wp2_with fail
                    exact ⟨HFIN.out.1.from _, HFIN.out.2⟩
                  exact AllReadyIn.nil
                exact AllReadyIn.nil
              exact AllReadyIn.nil
            refine AllReadyIn.cons rfl (fun K hK => ?_) ?_
            · go_simp
              refine hK _ _ ?_
              clear hK K
              refine wpAnyIn_ready (rs := [0]) (by kernel_rfl) (by simp) ?_
              refine AllReadyIn.cons rfl (fun K hK => ?_) ?_
              · go_simp
                refine hK _ _ ?_
                clear hK K
                refine wpAnyIn_ready (rs := [4]) (by kernel_rfl) (by simp) ?_
                refine AllReadyIn.cons rfl (fun K hK => ?_) ?_
                · refine step_append_in rfl (.tmp 16) (.tmp 19) 31 31 rfl _ _ rfl rfl _ _ r2 ?_
                  refine hK _ _ ?_
                  clear hK K r2
                  refine wpAnyIn_ready (rs := [5]) (by kernel_rfl) (by simp) ?_
                  refine AllReadyIn.cons rfl (fun K hK => ?_) ?_
                  · go_simp
                    refine hK _ _ ?_
                    clear hK K
                    refine wpAnyIn_done (by kernel_rfl) ?_ _
                    gi_wp2_with fail
                    exact ⟨HFIN.out.1.from _, HFIN.out.2⟩
                  exact AllReadyIn.nil
                exact AllReadyIn.nil
              exact AllReadyIn.nil
            exact AllReadyIn.nil
          exact AllReadyIn.nil
        exact AllReadyIn.nil
      case doneB =>
        rintro D ys W hD rfl ⟨⟨v, vs, hv, hrow, hL⟩, ⟨hS, hN⟩, hB, _⟩ hK
        have hc := hv.cell
        gi_wp2_with fail
        refine ⟨by simp, .inl ⟨_, _, rfl, run_takeDeferred hK, ?_⟩⟩
        have hB2 := fun o' => hB.trans (belowK_b (w := w) (Nat.le_refl _) _ D _ o' (by omega) hK rfl rfl)
        have hoff : ∀ t, Off t W (some D) := fun t r e cs mk hh => by
          injection e with e; subst e
          rw [hK] at hh; cases hh
        have hrow2 := fun o' => ownsRow_off hrow (grownBy_putObj' W D o') (hoff _)
        have hL2 := fun o' => hL.grown (grownBy_putObj' W D o') (hoff _)
        rw [List.length_range] at hrow2
        refine ⟨_, results_tmp rfl _ _ _, ⟨v, rfl, ?_⟩, hB2 _⟩
        have hcw2 : ∀ o', CutW (W.putObj D o') v (nOf size len) l := by
          intro o'
          have hcw := cutW_own hn1 (hrow2 o') (hL2 o')
          rw [HN0.out (by omega)]; exact hcw
        exact hcw2 _
      case stopB =>
        rintro D c pre W _ _ h _
        exact h.elim
  · obtain ⟨n, hn⟩ : ∃ n : Nat, size = (n : Int) := ⟨size.toNat, by omega⟩
    have HN0 : Hid (0 < len → nOf size len = n) := fun _ => by unfold nOf; rw [if_neg hs]; omega
    have hn1 : 1 ≤ n := by omega
    have hn2 : n ≤ 9223372036854775807 := by omega
    subst hn
    have HK := fun j => (chunks_lt (n := n) (l := l) hn1 j)
    rw [hlen.out] at HK
    gi_wp2_with fail
    refine ⟨trivial, (callsIn_wide.2 (chunk_c a len cap n hn1 _)).mono ?_⟩
    rintro e w' ⟨rfl, rfl⟩
    have bL := ((Boxed.new w 31 (.slice none 0 0)).alloc (.cells #[.slice a len cap] 22)).alloc (.cells #[.int .i64 ((n : Nat) : Int)] 3)
    have bS := (Boxed.new (w.alloc (.cells #[.slice none 0 0] 31)) 22 (.slice a len cap)).alloc (.cells #[.int .i64 ((n : Nat) : Int)] 3)
    have bN := Boxed.new ((w.alloc (.cells #[.slice none 0 0] 31)).alloc (.cells #[.slice a len cap] 22)) 3 (.int .i64 ((n : Nat) : Int))
    simp only [World.size_alloc] at bS bN
    have hB0 : Below w.heap.size w (((w.alloc (.cells #[.slice none 0 0] 31)).alloc (.cells #[.slice a len cap] 22)).alloc (.cells #[.int .i64 ((n : Nat) : Int)] 3)) := (((Below.refl _ w).alloc (Nat.le_refl _) _).alloc (by simp) _).alloc (by simp; omega) _
    have hsz : (((w.alloc (.cells #[.slice none 0 0] 31)).alloc (.cells #[.slice a len cap] 22)).alloc (.cells #[.int .i64 ((n : Nat) : Int)] 3)).heap.size = w.heap.size + 3 := by simp
    gi_wp2_with fail
    generalize hW0 : ((w.alloc (.cells #[.slice none 0 0] 31)).alloc (.cells #[.slice a len cap] 22)).alloc (.cells #[.int .i64 ((n : Nat) : Int)] 3) = W0 at bL bS bN hB0 hsz ⊢
    clear hW0
    refine wpIn_rangeFunc_ownH rfl (by omega) (gf := 54) (lb := #[.pointer (some ⟨w.heap.size + 1, 0, none⟩), .pointer (some ⟨w.heap.size + 1 + 1, 0, none⟩)]) rfl trivial (enters_of Try.func54 (by kernel_rfl) rfl)
      (chunk_stops _ (by omega) a (w.heap.size + 1) (w.heap.size + 1 + 1) b off len cap n (chunks n l) HA.out hc (by omega) hn1 hn2 HK W0 bS bN) kc_t (kc_b (by omega) (by omega)) (Below.refl _ _) (fun _ => rfl)
      (fun (pre : List Nat) W => (∃ v vs, Boxed W w.heap.size 31 v ∧ W.ownsRow (w.heap.size + 3) 22 1 v pre.length vs ∧ LotsOk W (w.heap.size + 3) n l pre vs) ∧ (Boxed W (w.heap.size + 1) 22 (.slice a len cap) ∧ Boxed W (w.heap.size + 1 + 1) 3 (.int .i64 ((n : Nat) : Int))) ∧ Below w.heap.size w W ∧ w.heap.size + 3 ≤ W.heap.size)
      (fun _ _ _ => False)
      (OwnFrom.and (Own.from (lots_from w.heap.size (w.heap.size + 3) n l) _) (OwnFrom.and (OwnFrom.and (Own.from (boxed_own _ _ (fun _ => .slice a len cap)) _) (Own.from (boxed_own _ _ (fun _ => .int .i64 ((n : Nat) : Int))) _)) (OwnFrom.and (ownFrom_below (Nat.le_refl _) (by omega)) (fun _ X Y _ hs hg _ => Nat.le_trans hs hg.size))))
      (fun _ _ _ _ _ hs _ _ => hs)
      ⟨⟨_, [], bL, World.ownsRow_nil _ _ _ _, LotsOk.nil _ _ _ _⟩, ⟨bS, bN⟩, hB0, by omega⟩
      (fun (x : Nat) a' _ => a' = { tmps := #[.slice a len cap, .int .i64 (n : Nat), undef, undef, .slice none 0 0, .pointer (some ⟨w.heap.size, 0, none⟩), lotV b off n len x, .int .i64 (n : Nat), .bool false, undef, undef, undef, .slice a len cap, .int .i64 (n : Nat), .func (.func 54) #[] #[.pointer (some ⟨w.heap.size + 1, 0, none⟩), .pointer (some ⟨w.heap.size + 1 + 1, 0, none⟩)], lotV b off n len x, undef, undef, undef, undef, undef, undef], defers := [] })
      (fun x a' _ X Y row hs hg hr => hs)
      ?assignA ?bodyA ?doneA ?stopA
    case assignA =>
      rintro l' pre x W K hI hK
      gi_wp2
      refine hK _ _ ?_ ?_ ?_ ?_
      · exact (KeepsOthers.refl _).from _
      · exact ⟨rfl, rfl⟩
      · exact hI
      · rfl
    case bodyA =>
      rintro l' pre x a' W hl' _ ⟨⟨v, vs, hv, hrow, hL⟩, ⟨hS, hN⟩, hB, hsz3⟩ rfl hlt
      have hpl : pre.length ≤ 300 := by
        have h1 := (HK pre.length).1 hlt
        have h2 : pre.length * 1 ≤ pre.length * n := Nat.mul_le_mul_left _ hn1
        omega
      have hlp : 0 < len := by
        have h1 := (HK pre.length).1 hlt
        omega
      have n1 : w.heap.size + 1 ≠ w.heap.size := by omega
      have n2 : w.heap.size + 1 + 1 ≠ w.heap.size := by omega
      have hwS := hS.lt
      have hwN := hN.lt
      have hrec := HCH.out n x W.drew hlp hB.drew
      have hxl := HCL.out n x
      obtain ⟨o, m, hx, hm9, ho⟩ : ∃ o m : Nat, lotV b off n len x = .slice (some ⟨b, o, none⟩) m m ∧ m ≤ 900 ∧ (o = off + x * n * 9 ∧ m = min n (len - x * n)) := ⟨_, _, rfl, by omega, rfl, rfl⟩
      rw [hx]
      rw [← ho.1, ← ho.2] at hrec
      rw [← ho.2] at hxl
      clear hx ho
      -- what stands behind the clone
      have HC1 := Lib.hid (fun X (h : Recs (some ⟨b, o, none⟩) m (chunk n l x) X) => clone_any b o m m (chunk n l x) X h hm9)
      have HREC := Lib.hid hrec
      have HAFT : Hid (∀ w1 a1 c1, w1.ownsRow W.drew.heap.size 39 9 (.slice a1 m c1) m (rcs (chunk n l x)) → Below W.drew.heap.size W.drew w1 →
          w1.cell? ⟨w.heap.size, 0, none⟩ = some v ∧ (w1.alloc (.cells #[.slice a1 m c1] 22)).cell? ⟨w.heap.size, 0, none⟩ = some v ∧ ∃ v' w2, (Builtin.append_ #[31, 31] 31 #[v, .slice (some ⟨w1.heap.size, 0, none⟩) 1 1]).run Try.prog (w1.alloc (.cells #[.slice a1 m c1] 22)) = .ok v' w2 ∧ (∃ g cap, v' = .slice (some ⟨g, 0, none⟩) (pre.length + 1) cap) ∧
            w2.cell? ⟨w.heap.size, 0, none⟩ = some v ∧ w2.frozen? ⟨w.heap.size, 0, none⟩ = false ∧
            (KeepsOthers W (w2.setCell ⟨w.heap.size, 0, none⟩ v') ∧ Kc (w.heap.size + 1) (w.heap.size + 1 + 1) W (w2.setCell ⟨w.heap.size, 0, none⟩ v') ∧
              (∃ v vs, Boxed (w2.setCell ⟨w.heap.size, 0, none⟩ v') w.heap.size 31 v ∧ (w2.setCell ⟨w.heap.size, 0, none⟩ v').ownsRow (w.heap.size + 3) 22 1 v (pre ++ [x]).length vs ∧ LotsOk (w2.setCell ⟨w.heap.size, 0, none⟩ v') (w.heap.size + 3) n l (pre ++ [x]) vs) ∧
              (Boxed (w2.setCell ⟨w.heap.size, 0, none⟩ v') (w.heap.size + 1) 22 (.slice a len cap) ∧ Boxed (w2.setCell ⟨w.heap.size, 0, none⟩ v') (w.heap.size + 1 + 1) 3 (.int .i64 ((n : Nat) : Int))) ∧ Below w.heap.size w (w2.setCell ⟨w.heap.size, 0, none⟩ v') ∧ w.heap.size + 3 ≤ (w2.setCell ⟨w.heap.size, 0, none⟩ v').heap.size)) := by
        intro w1 a1 c1 hu hb1
        have hb1 : Below W.heap.size W w1 := (Below.refl W.heap.size W).drew.trans hb1
        have hg1 : W.grownBy w1 none := grownC_of hb1
        have hs1 : W.heap.size ≤ w1.heap.size := hb1.size
        have hv1 := hv.kept hg1 (by simp)
        have hr1 := ownsRow_off hrow hg1 Off.none
        have hL1 := hL.grown hg1 Off.none
        have hS1 := hS.kept hg1 (by simp)
        have hN1 := hN.kept hg1 (by simp)
        obtain ⟨v', w2, r2, o2, g2⟩ := app_slice (w.heap.size + 3) pre.length v (.slice a1 m c1) vs w1 hr1 rfl (by omega) (by omega)
        obtain ⟨hv2, hv3, hr3, hk3, hb3⟩ := hv1.appended (n₀ := w.heap.size) (by decide) (own_mono hr1 (by omega)) (by omega) (Nat.le_refl _) (own_mono o2 (by omega)) g2
        have hgs := grownBy_setCell' w2 w.heap.size v'
        have hu2 := ownsRow_off (hu.alloc (.cells #[.slice a1 m c1] 22)) g2 (off_row (hr1.alloc (.cells #[.slice a1 m c1] 22)) (by decide))
        have hL2 := (hL1.grown (World.grownBy_alloc w1 (.cells #[.slice a1 m c1] 22) none) Off.none).grown g2 (off_row (hr1.alloc (.cells #[.slice a1 m c1] 22)) (by decide))
        have hbx : ∀ t, 31 ≠ t → Off t w2 (some w.heap.size) := fun t ht r e cs mk hh => by
          injection e with e; subst e
          rw [show w2.heap[w.heap.size]? = _ from hv2] at hh
          injection hh with hh; injection hh with _ h2 _
          exact ht h2
        have hr4 := ownsRow_off o2 hgs (hbx _ (by decide))
        have hu4 := own_mono (ownsRow_off hu2 hgs (hbx _ (by decide))) (show w.heap.size + 3 ≤ W.drew.heap.size from hsz3)
        have hL4 := hL2.grown hgs (hbx _ (by decide))
        have hne : ∀ {B' : Nat} {t : TypeId} {u : Value}, Boxed w1 B' t u → B' < w.heap.size + 3 → some B' ≠ v.ownBlock := fun hb hlt e => by
          have := (hr1.lt _ e.symm).1; omega
        have hS4 := ((hS1.alloc (.cells #[.slice a1 m c1] 22)).kept g2 (hne hS1 (by omega))).other n1 v'
        have hN4 := ((hN1.alloc (.cells #[.slice a1 m c1] 22)).kept g2 (hne hN1 (by omega))).other n2 v'
        have hkW : KeepsOthers W w1 := KeepsOthers.of_grownBy hg1 (fun j o e => by cases e)
        have hbW : Below w.heap.size W w1 := ⟨hb1.os, hb1.tape, hb1.output, hb1.size, fun k hk => hb1.block k (by have := hB.size; show k < W.heap.size; omega)⟩
        refine ⟨hv1.cell, (hv1.alloc _).cell, v', w2, r2, ownsRow_succ o2, hv2.cell, hv2.frozen, hkW.trans hk3, ⟨Eq.trans hS4 hS.symm, Eq.trans hN4 hN.symm⟩, ⟨v', vs ++ [.slice a1 m c1], hv3, ?_, ?_⟩, ⟨hS4, hN4⟩, hB.trans (hbW.trans hb3), ?_⟩
        · rw [List.length_append]; exact hr4
        · exact hL4.next (by rw [hxl]; exact hu4)
        · have := hgs.size; have := hg1.size; have h3 := g2.size; simp at h3; omega
      have hc0 : W.drew.cell? ⟨w.heap.size, 0, none⟩ = some v := hv.cell
      clear hL hrow hS hN hB hv hrec hwS hwN hxl
      gi_wp2_with fail
      refine wpIn_region_any (by kernel_rfl) ?_
      change wpAnyIn _ _ _ _ _ _ _ _ _ (World.drew _)
      refine wpAnyIn_ready (rs := [0, 1]) (by kernel_rfl) (by simp) ?_
      refine AllReadyIn.cons rfl (fun K hK => ?_) ?_
      · go_simp
        refine hK _ _ ?_
        clear hK K
        refine wpAnyIn_ready (rs := [1]) (by kernel_rfl) (by simp) ?_
        refine AllReadyIn.cons rfl (fun K hK => ?_) ?_
        · go_simp
          refine hK _ _ ?_
          clear hK K
          refine wpAnyIn_ready (rs := [2]) (by kernel_rfl) (by simp) ?_
          refine AllReadyIn.cons rfl (fun K hK => ?_) ?_
          · go_simp
            refine ⟨trivial, (callsIn_wide.2 (HC1.out _ HREC.out)).mono ?_⟩
            rintro e w1 ⟨⟨a1, c1, rfl, hu⟩, hb1⟩
            obtain ⟨hc1, hc2, v2, w2, r2, ⟨g2, cap2, rfl⟩, hc3, hf3, hfin⟩ := HAFT.out w1 a1 c1 hu hb1
            have HFIN := Lib.hid hfin
            clear hu hb1 hfin HAFT HREC HC1
            refine hK _ _ ?_
            clear hK K
            refine wpAnyIn_ready (rs := [3]) (by kernel_rfl) (by simp) ?_
            refine AllReadyIn.cons rfl (fun K hK => ?_) ?_
            · go_simp
              refine hK _ _ ?_
              clear hK K
              refine wpAnyIn_ready (rs := [4]) (by kernel_rfl) (by simp) ?_
              refine AllReadyIn.cons rfl (fun K hK => ?_) ?_
              · refine step_append_in rfl (.tmp 16) (.tmp 19) 31 31 rfl _ _ rfl rfl _ _ r2 ?_
                refine hK _ _ ?_
                clear hK K r2
                refine wpAnyIn_ready (rs := [5]) (by kernel_rfl) (by simp) ?_
                refine AllReadyIn.cons rfl (fun K hK => ?_) ?_
                · go_simp
                  refine hK _ _ ?_
                  clear hK K
                  refine wpAnyIn_done (by kernel_rfl) ?_ _
                  gi_wp2_with fail
                  exact ⟨HFIN.out.1.from _, HFIN.out.2⟩
                exact AllReadyIn.nil
              exact AllReadyIn.nil
            exact AllReadyIn.nil
          exact AllReadyIn.nil
        exact AllReadyIn.nil
      refine AllReadyIn.cons rfl (fun K hK => ?_) ?_
      · go_simp
        refine hK _ _ ?_
        clear hK K
        refine wpAnyIn_ready (rs := [0, 2]) (by kernel_rfl) (by simp) ?_
        refine AllReadyIn.cons rfl (fun K hK => ?_) ?_
        · go_simp
          refine hK _ _ ?_
          clear hK K
          refine wpAnyIn_ready (rs := [2]) (by kernel_rfl) (by simp) ?_
          refine AllReadyIn.cons rfl (fun K hK => ?_) ?_
          · go_simp
            refine ⟨trivial, (callsIn_wide.2 (HC1.out _ HREC.out)).mono ?_⟩
            rintro e w1 ⟨⟨a1, c1, rfl, hu⟩, hb1⟩
            obtain ⟨hc1, hc2, v2, w2, r2, ⟨g2, cap2, rfl⟩, hc3, hf3, hfin⟩ := HAFT.out w1 a1 c1 hu hb1
            have HFIN := Lib.hid hfin
            clear hu hb1 hfin HAFT HREC HC1
            refine hK _ _ ?_
            clear hK K
            refine wpAnyIn_ready (rs := [3]) (by kernel_rfl) (by simp) ?_
            refine AllReadyIn.cons rfl (fun K hK => ?_) ?_
            · go_simp
              refine hK _ _ ?_
              clear hK K
              refine wpAnyIn_ready (rs := [4]) (by kernel_rfl) (by simp) ?_
              refine AllReadyIn.cons rfl (fun K hK => ?_) ?_
              · refine step_append_in rfl (.tmp 16) (.tmp 19) 31 31 rfl _ _ rfl rfl _ _ r2 ?_
                refine hK _ _ ?_
                clear hK K r2
                refine wpAnyIn_ready (rs := [5]) (by kernel_rfl) (by simp) ?_
                refine AllReadyIn.cons rfl (fun K hK => ?_) ?_
                · go_simp
                  refine hK _ _ ?_
                  clear hK K
                  refine wpAnyIn_done (by kernel_rfl) ?_ _
                  gi_wp2_with fail
                  exact ⟨HFIN.out.1.from _, HFIN.out.2⟩
                exact AllReadyIn.nil
              exact AllReadyIn.nil
            exact AllReadyIn.nil
          exact AllReadyIn.nil
        refine AllReadyIn.cons rfl (fun K hK => ?_) ?_
        · go_simp
          refine ⟨trivial, (callsIn_wide.2 (HC1.out _ HREC.out)).mono ?_⟩
          rintro e w1 ⟨⟨a1, c1, rfl, hu⟩, hb1⟩
          obtain ⟨hc1, hc2, v2, w2, r2, ⟨g2, cap2, rfl⟩, hc3, hf3, hfin⟩ := HAFT.out w1 a1 c1 hu hb1
          have HFIN := Lib.hid hfin
          clear hu hb1 hfin HAFT HREC HC1
          refine hK _ _ ?_
          clear hK K
          refine wpAnyIn_ready (rs := [0, 3]) (by kernel_rfl) (by simp) ?_
          refine AllReadyIn.cons rfl (fun K hK => ?_) ?_
          · go_simp
            refine hK _ _ ?_
            clear hK K
            refine wpAnyIn_ready (rs := [3]) (by kernel_rfl) (by simp) ?_
            refine AllReadyIn.cons rfl (fun K hK => ?_) ?_
            · go_simp
              refine hK _ _ ?_
              clear hK K
              refine wpAnyIn_ready (rs := [4]) (by kernel_rfl) (by simp) ?_
              refine AllReadyIn.cons rfl (fun K hK => ?_) ?_
              · refine step_append_in rfl (.tmp 16) (.tmp 19) 31 31 rfl _ _ rfl rfl _ _ r2 ?_
                refine hK _ _ ?_
                clear hK K r2
                refine wpAnyIn_ready (rs := [5]) (by kernel_rfl) (by simp) ?_
                refine AllReadyIn.cons rfl (fun K hK => ?_) ?_
                · go_simp
                  refine hK _ _ ?_
                  clear hK K
                  refine wpAnyIn_done (by kernel_rfl) ?_ _
                  gi_wp2_with fail
                  exact ⟨HFIN.out.1.from _, HFIN.out.2⟩
                exact AllReadyIn.nil
              exact AllReadyIn.nil
            exact AllReadyIn.nil
          refine AllReadyIn.cons rfl (fun K hK => ?_) ?_
          · go_simp
            refine hK _ _ ?_
            clear hK K
            refine wpAnyIn_ready (rs := [0]) (by kernel_rfl) (by simp) ?_
            refine AllReadyIn.cons rfl (fun K hK => ?_) ?_
            · go_simp
              refine hK _ _ ?_
              clear hK K
              refine wpAnyIn_ready (rs := [4]) (by kernel_rfl) (by simp) ?_
              refine AllReadyIn.cons rfl (fun K hK => ?_) ?_
              · refine step_append_in rfl (.tmp 16) (.tmp 19) 31 31 rfl _ _ rfl rfl _ _ r2 ?_
                refine hK _ _ ?_
                clear hK K r2
                refine wpAnyIn_ready (rs := [5]) (by kernel_rfl) (by simp) ?_
                refine AllReadyIn.cons rfl (fun K hK => ?_) ?_
                · go_simp
                  refine hK _ _ ?_
                  clear hK K
                  refine wpAnyIn_done (by kernel_rfl) ?_ _
                  gi_wp2_with fail
                  exact ⟨HFIN.out.1.from _, HFIN.out.2⟩
                exact AllReadyIn.nil
              exact AllReadyIn.nil
            exact AllReadyIn.nil
          exact AllReadyIn.nil
        exact AllReadyIn.nil
      exact AllReadyIn.nil
    case doneA =>
      rintro D ys W hD rfl ⟨⟨v, vs, hv, hrow, hL⟩, ⟨hS, hN⟩, hB, _⟩ hK
      have hc := hv.cell
      gi_wp2_with fail
      refine ⟨by simp, .inl ⟨_, _, rfl, run_takeDeferred hK, ?_⟩⟩
      have hB2 := fun o' => hB.trans (belowK_b (w := w) (Nat.le_refl _) _ D _ o' (by omega) hK rfl rfl)
      have hoff : ∀ t, Off t W (some D) := fun t r e cs mk hh => by
        injection e with e; subst e
        rw [hK] at hh; cases hh
      have hrow2 := fun o' => ownsRow_off hrow (grownBy_putObj' W D o') (hoff _)
      have hL2 := fun o' => hL.grown (grownBy_putObj' W D o') (hoff _)
      rw [List.length_range] at hrow2
      refine ⟨_, results_tmp rfl _ _ _, ⟨v, rfl, ?_⟩, hB2 _⟩
      have hcw2 : ∀ o', CutW (W.putObj D o') v (nOf ((n : Nat) : Int) len) l := by
        intro o'
        have hcw := cutW_own hn1 (hrow2 o') (hL2 o')
        by_cases h0 : 0 < len
        · rw [HN0.out h0]; exact hcw
        · obtain rfl : l = [] := List.eq_nil_of_length_eq_zero (by have := hlen.out; omega)
          obtain ⟨A, K, c, e1, e2, _⟩ := hcw
          exact ⟨A, K, c, e1, e2, .inl (e2.2 rfl)⟩
      exact hcw2 _
    case stopA =>
      rintro D c pre W _ _ h _
      exact h.elim
end Go.Proofs.Ytafcgknpehphlaa.Lt
