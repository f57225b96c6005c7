/- The document's disk: Sync, Rename, Remove, Cut. (Made by wip/tools/mkDkRd.py.) -/
import Derived.Test.YtlmhghcoohalaaaDkRo
namespace Go.Proofs.Ytlmhghcoohalaaa.Dk
set_option linter.unusedSimpArgs false
open Go.RowKit

theorem set_del (L : List Fi) (k : Nat) (g : Fi) (hk : k < L.length) : (L.set k g).Perm (g :: del L k) := by
  rw [List.set_eq_take_append_cons_drop, if_pos hk]
  exact List.perm_middle
theorem set_perm {L M : List Fi} {k p : Nat} {f : Fi} (g : Fi) (h : L.Perm M) (hk : L[k]? = some f) (hp : M[p]? = some f) : (L.set k g).Perm (M.set p g) := by
  have h1 := (del_perm L k hk).symm.trans (h.trans (del_perm M p hp))
  exact (set_del L k g (List.getElem?_eq_some_iff.1 hk).1).trans (((List.perm_cons f).1 h1).cons g |>.trans (set_del M p g (List.getElem?_eq_some_iff.1 hp).1).symm)
theorem wo_perm {L M : List Fi} (h : L.Perm M) (n : ByteArray) : (wo L n).Perm (wo M n) := h.filter _
theorem wo_all {L : List Fi} {n : ByteArray} (h : ∀ f ∈ L, f.nm ≠ n) : wo L n = L := by
  unfold wo; rw [List.filter_eq_self]; intro f hf; simpa using h f hf
theorem wo_del {fs : List Fi} (hs : Sorted fs) (n : ByteArray) : (wo fs n).Perm (if has fs n then del fs (pos fs n) else fs) := by
  cases hh : has fs n with
  | false => rw [if_neg (by simp), wo_all (not_has.1 hh)]
  | true =>
    rw [if_pos rfl]
    obtain ⟨h1, h2⟩ := at_has hs hh
    have h3 := wo_perm (del_perm fs _ h1) n
    have h4 : wo (at_ fs (pos fs n) :: del fs (pos fs n)) n = del fs (pos fs n) := by
      have h5 : wo (at_ fs (pos fs n) :: del fs (pos fs n)) n = wo (del fs (pos fs n)) n := by unfold wo; rw [List.filter_cons_of_neg]; simpa using h2
      rw [h5]
      exact wo_all (not_has.1 (sorted_pos_del hs hh).1)
    rw [h4] at h3
    exact h3
/-- a file's cells are written -/
theorem RdAt.put {base X k g cap : Nat} {s : St} {L : List Fi} {w w' : World} (h : RdAt base w X s (.slice (some ⟨g, 0, none⟩) L.length cap) L) (x : Fi)
    (hrow : w'.ownsRow base 49 3 (.slice (some ⟨g, 0, none⟩) L.length cap) L.length (fcs (L.set k x))) (hX : w'.heap[X]? = w.heap[X]?) {t : St} (h1 : t.room = s.room) (h2 : t.on = s.on) (h3 : t.fuse = s.fuse) (h4 : t.ops = s.ops) (hp : (L.set k x).Perm t.fs) : RdAt base w' X t (.slice (some ⟨g, 0, none⟩) L.length cap) (L.set k x) :=
  ⟨by rw [hX, h1, h2, h3, h4]; exact h.blk, h.ge, by rw [List.length_set]; exact hrow, hp⟩
theorem vset_same {l : List Value} {k : Nat} {u : Value} (h : l[k]? = some u) : l.set k u = l := by
  apply List.ext_getElem?
  intro j
  rw [List.getElem?_set]
  split
  · rename_i e; subst e
    split
    · exact h.symm
    · rename_i hn; have := (List.getElem?_eq_some_iff.1 h).1; omega
  · rfl
theorem fcs_su {L : List Fi} {k : Nat} {x y : Fi} (h : L[k]? = some x) (hn : y.nm = x.nm) (hb : y.bs = x.bs) : fcs (L.set k y) = (fcs L).set (k * 3 + 2) (.int .i64 (y.su : Int)) := by
  obtain ⟨h0, h1, _⟩ := fcs_at L k x h
  rw [fcs_set L k y (List.getElem?_eq_some_iff.1 h).1, hn, hb, vset_same h0, vset_same h1]
theorem fcs_bs {L : List Fi} {k : Nat} {x y : Fi} (h : L[k]? = some x) (hn : y.nm = x.nm) (hs : y.su = x.su) : fcs (L.set k y) = (fcs L).set (k * 3 + 1) (.string ⟨y.bs.toArray⟩) := by
  obtain ⟨h0, _, h2⟩ := fcs_at L k x h
  have hlt := (List.getElem?_eq_some_iff.1 h2).1
  rw [fcs_set L k y (List.getElem?_eq_some_iff.1 h).1, hn, hs, vset_same h0]
  apply vset_same
  rw [List.getElem?_set_ne (by omega)]; exact h2
theorem RdAt.drew {base X : Nat} {s : St} {v : Value} {L : List Fi} {w : World} (h : RdAt base w X s v L) : RdAt base w.drew X s v L := ⟨h.blk, h.ge, h.row, h.perm⟩
theorem Kp.drew {base B : Nat} {ts : List TypeId} {a w : World} (h : Kp base B ts a w) : Kp base B ts a w.drew := ⟨h.os, h.tape, h.output, h.size, h.block⟩
theorem step_append_runI {P : Program} {ops : Array Oper} {o : Oper} {a : Go.Act} {w : World} {K : Go.Act → World → Prop} {Q : Exit → Go.Act → World → Prop} {E : Prop} (hg : o.guard = none) (s x : Operand) (t tn : TypeId)
    (hop : o.op = .call { callee := .builtin .append, args := #[s, x], argTypes := #[t, tn] }) (vs vx : Value) (hs : a.eval s = vs) (hx : a.eval x = vx) (v' : Value) (w' : World)
    (hr : (Builtin.append_ #[t, tn] o.type #[vs, vx]).run P w = .ok v' w') (hK : K (a.put o.dst v') w') : if Region.wanted o (yielded ops a.tmps) = true then Oper.wp P o a w K Q else E := by
  rw [if_pos (by simp [Region.wanted, hg])]
  exact Lib.wp_append_run w s x t tn hop vs vx hs hx v' w' hr hK
/-- the row's block of a file that is there -/
theorem RdAt.at_ {base X g cap k : Nat} {s : St} {L : List Fi} {w : World} (h : RdAt base w X s (.slice (some ⟨g, 0, none⟩) L.length cap) L) (hk : k < L.length) : base ≤ g ∧ ∃ cs : Array Value, w.heap[g]? = some (.cells cs 49 (0, 0)) := by
  obtain ⟨a, c, hv, _, _, hc⟩ := row3_slice h.row
  injection hv with e1 _ _
  subst e1
  obtain ⟨g', e, h1, _, ⟨cs, h2, _⟩, _⟩ := hc (by omega)
  injection e with e; injection e with e
  subst e
  exact ⟨h1, cs, h2⟩
/-- a file is written whole -/
def w3 (w : World) (g k : Nat) (x : Fi) : World := ((w.setCell ⟨g, k * 3, none⟩ (.string x.nm)).setCell ⟨g, k * 3 + 1, none⟩ (.string ⟨x.bs.toArray⟩)).setCell ⟨g, k * 3 + 2, none⟩ (.int .i64 (x.su : Int))
theorem RdAt.put3 {base X k g cap : Nat} {s : St} {L : List Fi} {w : World} (h : RdAt base w X s (.slice (some ⟨g, 0, none⟩) L.length cap) L) (hk : k < L.length) (x : Fi)
    {t : St} (h1 : t.room = s.room) (h2 : t.on = s.on) (h3 : t.fuse = s.fuse) (h4 : t.ops = s.ops) (hp : (L.set k x).Perm t.fs) :
    RdAt base (w3 w g k x) X t (.slice (some ⟨g, 0, none⟩) L.length cap) (L.set k x) ∧ ∀ a, Kp base X TF a w → Kp base X TF a (w3 w g k x) := by
  obtain ⟨hgb, cs, hgg⟩ := h.at_ hk
  have hgX : X ≠ g := ne_of_tag h.blk hgg (by decide)
  refine ⟨h.put x ?_ ?_ h1 h2 h3 h4 hp, fun a ha => ?_⟩
  · rw [fcs_set L k x hk]
    exact row3_set (row3_set (row3_set h.row _ _) _ _) _ _
  · unfold w3
    rw [heap_setCell_other _ _ _ _ hgX, heap_setCell_other _ _ _ _ hgX, heap_setCell_other _ _ _ _ hgX]
  · have e1 := heap_setCell_same w g (k * 3) _ _ (.string x.nm) hgg
    have e2 := heap_setCell_same _ g (k * 3 + 1) _ _ (.string ⟨x.bs.toArray⟩) e1
    exact ((ha.setT hgg hgb (by simp) _).setT e1 hgb (by simp) _).setT e2 hgb (by simp) _
theorem bs_take (l : List UInt8) (k : Nat) : (⟨l.toArray⟩ : ByteArray).extract 0 k = ⟨(l.take k).toArray⟩ := by
  apply ba_ext
  rw [ByteArray.data_extract, Array.toList_extract]
  simp [List.extract]
theorem ren_perm {L fs : List Fi} (h : L.Perm fs) (hs : Sorted fs) {a : ByteArray} (b : ByteArray) (hh : has fs a = true) : (wo (wo L a) b ++ [{ at_ fs (pos fs a) with nm := b }]).Perm (renF fs a b) := by
  have h1 := (wo_perm h a).trans (wo_del hs a)
  rw [hh, if_pos rfl] at h1
  have h2 := (wo_perm h1 b).trans (wo_del (sorted_del hs (pos fs a)) b)
  unfold renF
  exact (List.perm_append_comm).trans ((h2.cons _).trans (ins_perm _ _ _).symm)

set_option maxHeartbeats 3200000 in
set_option maxRecDepth 100000 in
theorem rdo_2 (base X : Nat) (s : St) (v : Value) (L : List Fi) (n to : ByteArray) (i : Int) (w : World) (h : RdAt base w X s v L) (ho : Ok s) (hl : Lim s) (hto : to.size ≤ 1000000) :
    Calls Try.prog 32 #[.pointer (some ⟨X, 0, none⟩), .int .i64 2, .string n, .string to, .int .i64 i] w fun e w' => e = .returned (.int .i64 (sync s n).2) ∧ Rd base w' X (sync s n).1 ∧ Kp base X TF w w' := by
  have hfew := ho.few
  rw [← h.perm.length_eq] at hfew
  have HF := Lib.hid (rfind_any base X s v L n w h (by omega))
  have hfound := h.found ho n
  have c2 := blk_cell (i := 2) h.blk rfl
  have HD := Lib.hid h
  cases hon : s.on with
  | false =>
    obtain ⟨hlk, _⟩ := look_off (n := n) hon
    have HR : Hid (sync s n = (s, 9)) := by show _ = _; unfold sync; simp [hlk]
    rw [HR.out]
    rw [hon] at c2
    clear h hfound hlk
    generalize fidx L n = q at *
    go_enter Try.func32, Try.ntmps32
    go_wp2_with fail
    refine HF.out.mono ?_
    rintro e w1 ⟨rfl, rfl⟩
    go_wp2_with fail
    go_ret
    exact ⟨rfl, ⟨_, _, HD.out⟩, Kp.refl _ _ _ _⟩
  | true =>
    rw [hon] at c2
    rcases hfound with ⟨hh, hi, _⟩ | ⟨hh, k, hi, hk, hnk⟩
    · obtain ⟨hlk, _⟩ := look_no hon hh
      have HR : Hid (sync s n = (s, 7)) := by show _ = _; unfold sync; simp [hlk]
      rw [HR.out]
      rw [hi] at HF
      clear h hlk
      go_enter Try.func32, Try.ntmps32
      go_wp2_with fail
      refine HF.out.mono ?_
      rintro e w1 ⟨rfl, rfl⟩
      go_wp2_with fail
      go_ret
      exact ⟨rfl, ⟨_, _, HD.out⟩, Kp.refl _ _ _ _⟩
    · obtain ⟨hlk, _⟩ := look_yes hon hh
      have hp := (at_has ho.sorted hh).1
      rw [hi] at HF
      have hkl := (List.getElem?_eq_some_iff.1 hk).1
      have HC := Lib.hid (rcrashes_at base X s _ L w h hl.ops ho.fuse0 ho.fuse1)
      rcases goes_some s with hg | hg
      · have HR : Hid (sync s n = (begun s, 9)) := by show _ = _; unfold sync; simp [hlk, hg]
        rw [HR.out]
        rw [hg] at HC
        clear h hlk hk hi hp
        go_enter Try.func32, Try.ntmps32
        go_wp2_with fail
        refine HF.out.mono ?_
        rintro e w1 ⟨rfl, rfl⟩
        go_wp2_with fail
        refine HC.out.mono ?_
        rintro e w2 ⟨rfl, h2, k2⟩
        have H2 : Hid (Rd base w2 X (begun s) ∧ Kp base X TF w w2) := ⟨⟨_, _, h2⟩, k2.mono (by simp)⟩
        clear h2 k2
        go_wp2_with fail
        go_ret
        exact ⟨rfl, H2.out.1, H2.out.2⟩
      · have HR : Hid (sync s n = (begun { s with fs := s.fs.set (pos s.fs n) (setF (at_ s.fs (pos s.fs n))) }, 0)) := by show _ = _; unfold sync; simp [hlk, hg]
        rw [HR.out, begun_set]
        rw [hg] at HC
        have HK := Lib.hid hk
        have HP := Lib.hid hp
        clear h hlk hi hp hk
        go_enter Try.func32, Try.ntmps32
        go_wp2_with fail
        refine HF.out.mono ?_
        rintro e w1 ⟨rfl, rfl⟩
        go_wp2_with fail
        refine HC.out.mono ?_
        rintro e w2 ⟨rfl, h2, k2⟩
        have H2 := Lib.hid h2
        have HK2 : Hid (Kp base X TF w w2) := k2.mono (by simp)
        obtain ⟨g, cap, rfl, _, c0, q0, q1, q2⟩ := h2.reads HK.out
        have hkl' : ((k : Nat) : Int) < (L.length : Int) := by omega
        obtain ⟨hgb, cs, hgg⟩ := h2.at_ hkl
        have hbl : Below w2.heap.size w2 (w2.alloc (.cells #[.string (at_ s.fs (pos s.fs n)).nm, .string ⟨(at_ s.fs (pos s.fs n)).bs.toArray⟩, .int .i64 ((at_ s.fs (pos s.fs n)).su : Int)] 49)) := (Below.refl _ _).alloc (Nat.le_refl _) _
        have h3 := h2.later hbl
        have hgg3 := (hbl.block _ (lt_of_block hgg)).trans hgg
        have hff := heap_alloc_new w2 (.cells #[.string (at_ s.fs (pos s.fs n)).nm, .string ⟨(at_ s.fs (pos s.fs n)).bs.toArray⟩, .int .i64 ((at_ s.fs (pos s.fs n)).su : Int)] 49)
        have hgX : X ≠ g := ne_of_tag h3.blk hgg3 (by decide)
        have HK3 := Lib.hid (HK2.out.trans (Kp.of_below hbl))
        have HBL := Lib.hid hbl
        have hbz : (⟨(at_ s.fs (pos s.fs n)).bs.toArray⟩ : ByteArray).size = (at_ s.fs (pos s.fs n)).bs.length := by show Array.size _ = _; simp
        go_wp2_with fail
        obtain ⟨wf, hwf⟩ : ∃ wf, wf = w2.alloc (.cells #[.string (at_ s.fs (pos s.fs n)).nm, .string ⟨(at_ s.fs (pos s.fs n)).bs.toArray⟩, .int .i64 ((at_ s.fs (pos s.fs n)).su : Int)] 49) := ⟨_, rfl⟩
        rw [← hwf] at h3 hgg3 hff HK3
        rw [hnk] at hwf
        rw [← hwf]
        clear hwf c0 q0 q1 q2 HBL
        have c0 := blk_cell (i := 0) h3.blk rfl
        have f1 := blk_cell (i := 1) hff rfl
        have fz := blk_free hgg3 (k * 3 + 2)
        obtain ⟨_, _, hv, _, _, _, _, q2⟩ := h3.reads HK.out
        injection hv with e1 e2 e3
        injection e1 with e1; injection e1 with e1
        subst e1
        have hput := h3.put (w' := wf.setCell ⟨g, k * 3 + 2, none⟩ (.int .i64 (((setF (at_ s.fs (pos s.fs n))).su : Nat) : Int))) (t := { begun s with fs := s.fs.set (pos s.fs n) (setF (at_ s.fs (pos s.fs n))) }) (setF (at_ s.fs (pos s.fs n))) (by rw [fcs_su (y := setF (at_ s.fs (pos s.fs n))) HK.out rfl rfl]; exact row3_set h3.row (k * 3 + 2) _) (heap_setCell_other _ _ _ _ hgX) rfl rfl rfl rfl (set_perm _ HD.out.perm HK.out HP.out)
        have HKF := Lib.hid (HK3.out.setT hgg3 hgb (by simp) (i := k * 3 + 2) (.int .i64 (((setF (at_ s.fs (pos s.fs n))).su : Nat) : Int)))
        have HPUT := Lib.hid hput
        have hsu : (setF (at_ s.fs (pos s.fs n))).su = (at_ s.fs (pos s.fs n)).bs.length := rfl
        rw [hsu] at HKF HPUT
        clear h2 k2 h3 hgg hgg3 hff hput hsu hbl
        generalize (⟨(at_ s.fs (pos s.fs n)).bs.toArray⟩ : ByteArray) = bb at *
        generalize w2.heap.size = fb at *
        generalize L.length = len at *
        go_region
        go_wp2_with fail
        go_ret
        exact ⟨rfl, ⟨_, _, HPUT.out.drew⟩, HKF.out.drew⟩

set_option maxHeartbeats 3200000 in
set_option maxRecDepth 100000 in
theorem rdo_4 (base X : Nat) (s : St) (v : Value) (L : List Fi) (n to : ByteArray) (i : Int) (w : World) (h : RdAt base w X s v L) (ho : Ok s) (hl : Lim s) (hto : to.size ≤ 1000000) :
    Calls Try.prog 32 #[.pointer (some ⟨X, 0, none⟩), .int .i64 4, .string n, .string to, .int .i64 i] w fun e w' => e = .returned (.int .i64 (rem s n).2) ∧ Rd base w' X (rem s n).1 ∧ Kp base X TF w w' := by
  have hfew := ho.few
  rw [← h.perm.length_eq] at hfew
  have HF := Lib.hid (rfind_any base X s v L n w h (by omega))
  have hfound := h.found ho n
  have c2 := blk_cell (i := 2) h.blk rfl
  have HD := Lib.hid h
  cases hon : s.on with
  | false =>
    obtain ⟨hlk, _⟩ := look_off (n := n) hon
    have HR : Hid (rem s n = (s, 9)) := by show _ = _; unfold rem; simp [hlk]
    rw [HR.out]
    rw [hon] at c2
    clear h hfound hlk
    generalize fidx L n = q at *
    go_enter Try.func32, Try.ntmps32
    go_wp2_with fail
    refine HF.out.mono ?_
    rintro e w1 ⟨rfl, rfl⟩
    go_wp2_with fail
    go_ret
    exact ⟨rfl, ⟨_, _, HD.out⟩, Kp.refl _ _ _ _⟩
  | true =>
    rw [hon] at c2
    rcases hfound with ⟨hh, hi, _⟩ | ⟨hh, k, hi, hk, hnk⟩
    · obtain ⟨hlk, _⟩ := look_no hon hh
      have HR : Hid (rem s n = (s, 7)) := by show _ = _; unfold rem; simp [hlk]
      rw [HR.out]
      rw [hi] at HF
      clear h hlk
      go_enter Try.func32, Try.ntmps32
      go_wp2_with fail
      refine HF.out.mono ?_
      rintro e w1 ⟨rfl, rfl⟩
      go_wp2_with fail
      go_ret
      exact ⟨rfl, ⟨_, _, HD.out⟩, Kp.refl _ _ _ _⟩
    · obtain ⟨hlk, _⟩ := look_yes hon hh
      have hp := (at_has ho.sorted hh).1
      rw [hi] at HF
      have hkl := (List.getElem?_eq_some_iff.1 hk).1
      have HC := Lib.hid (rcrashes_at base X s _ L w h hl.ops ho.fuse0 ho.fuse1)
      rcases goes_some s with hg | hg
      · have HR : Hid (rem s n = (begun s, 9)) := by show _ = _; unfold rem; simp [hlk, hg]
        rw [HR.out]
        rw [hg] at HC
        clear h hlk hk hi hp
        go_enter Try.func32, Try.ntmps32
        go_wp2_with fail
        refine HF.out.mono ?_
        rintro e w1 ⟨rfl, rfl⟩
        go_wp2_with fail
        refine HC.out.mono ?_
        rintro e w2 ⟨rfl, h2, k2⟩
        have H2 : Hid (Rd base w2 X (begun s) ∧ Kp base X TF w w2) := ⟨⟨_, _, h2⟩, k2.mono (by simp)⟩
        clear h2 k2
        go_wp2_with fail
        go_ret
        exact ⟨rfl, H2.out.1, H2.out.2⟩
      · have HR : Hid (rem s n = (begun { s with fs := del s.fs (pos s.fs n) }, 0)) := by show _ = _; unfold rem; simp [hlk, hg]
        rw [HR.out, begun_set]
        rw [hg] at HC
        have HK := Lib.hid hk
        have HP := Lib.hid hp
        have HWO := Lib.hid (wo_del ho.sorted n)
        rw [hh, if_pos rfl] at HWO
        clear h hlk hi hp hk
        go_enter Try.func32, Try.ntmps32
        go_wp2_with fail
        refine HF.out.mono ?_
        rintro e w1 ⟨rfl, rfl⟩
        go_wp2_with fail
        refine HC.out.mono ?_
        rintro e w2 ⟨rfl, h2, k2⟩
        have H2 := Lib.hid h2
        have HK2 : Hid (Kp base X TF w w2) := k2.mono (by simp)
        obtain ⟨g, cap, rfl, _, c0, q0, q1, q2⟩ := h2.reads HK.out
        have hkl' : ((k : Nat) : Int) < (L.length : Int) := by omega
        obtain ⟨hgb, cs, hgg⟩ := h2.at_ hkl
        have hbl : Below w2.heap.size w2 (w2.alloc (.cells #[.string (at_ s.fs (pos s.fs n)).nm, .string ⟨(at_ s.fs (pos s.fs n)).bs.toArray⟩, .int .i64 ((at_ s.fs (pos s.fs n)).su : Int)] 49)) := (Below.refl _ _).alloc (Nat.le_refl _) _
        have h3 := h2.later hbl
        have hgg3 := (hbl.block _ (lt_of_block hgg)).trans hgg
        have hff := heap_alloc_new w2 (.cells #[.string (at_ s.fs (pos s.fs n)).nm, .string ⟨(at_ s.fs (pos s.fs n)).bs.toArray⟩, .int .i64 ((at_ s.fs (pos s.fs n)).su : Int)] 49)
        have hgX : X ≠ g := ne_of_tag h3.blk hgg3 (by decide)
        have HK3 := Lib.hid (HK2.out.trans (Kp.of_below hbl))
        have HBL := Lib.hid hbl
        have hbz : (⟨(at_ s.fs (pos s.fs n)).bs.toArray⟩ : ByteArray).size = (at_ s.fs (pos s.fs n)).bs.length := by show Array.size _ = _; simp
        go_wp2_with fail
        have HW := Lib.hid (without_any base X (begun s) _ L n _ h3 (by omega))
        rw [hnk] at HW
        clear h2 k2 h3 hgg hgg3 hff hbl c0 q0 q1 q2
        refine HW.out.mono ?_
        rintro e w3 ⟨rfl, ⟨v3, h3⟩, k3⟩
        have H3 : Hid (Rd base w3 X { begun s with fs := del s.fs (pos s.fs n) } ∧ Kp base X TF w w3) := ⟨⟨_, _, h3.as rfl rfl rfl rfl ((wo_perm HD.out.perm n).trans HWO.out)⟩, HK3.out.trans (by rw [hnk]; exact k3.mono (by simp))⟩
        clear h3 k3
        go_wp2_with fail
        go_ret
        exact ⟨rfl, H3.out.1, H3.out.2⟩

set_option maxHeartbeats 3200000 in
set_option maxRecDepth 100000 in
theorem rdo_5 (base X : Nat) (s : St) (v : Value) (L : List Fi) (n to : ByteArray) (i : Int) (w : World) (h : RdAt base w X s v L) (ho : Ok s) (hl : Lim s) (hto : to.size ≤ 1000000) :
    Calls Try.prog 32 #[.pointer (some ⟨X, 0, none⟩), .int .i64 5, .string n, .string to, .int .i64 i] w fun e w' => e = .returned (.int .i64 (cut s n i).2) ∧ Rd base w' X (cut s n i).1 ∧ Kp base X TF w w' := by
  have hfew := ho.few
  rw [← h.perm.length_eq] at hfew
  have HF := Lib.hid (rfind_any base X s v L n w h (by omega))
  have hfound := h.found ho n
  have c2 := blk_cell (i := 2) h.blk rfl
  have HD := Lib.hid h
  cases hon : s.on with
  | false =>
    obtain ⟨hlk, _⟩ := look_off (n := n) hon
    have HR : Hid (cut s n i = (s, 9)) := by show _ = _; unfold cut; simp [hlk]
    rw [HR.out]
    rw [hon] at c2
    clear h hfound hlk
    generalize fidx L n = q at *
    go_enter Try.func32, Try.ntmps32
    go_wp2_with fail
    refine HF.out.mono ?_
    rintro e w1 ⟨rfl, rfl⟩
    go_wp2_with fail
    go_ret
    exact ⟨rfl, ⟨_, _, HD.out⟩, Kp.refl _ _ _ _⟩
  | true =>
    rw [hon] at c2
    rcases hfound with ⟨hh, hi, _⟩ | ⟨hh, k, hi, hk, hnk⟩
    · obtain ⟨hlk, _⟩ := look_no hon hh
      have HR : Hid (cut s n i = (s, 7)) := by show _ = _; unfold cut; simp [hlk]
      rw [HR.out]
      rw [hi] at HF
      clear h hlk
      go_enter Try.func32, Try.ntmps32
      go_wp2_with fail
      refine HF.out.mono ?_
      rintro e w1 ⟨rfl, rfl⟩
      go_wp2_with fail
      go_ret
      exact ⟨rfl, ⟨_, _, HD.out⟩, Kp.refl _ _ _ _⟩
    · obtain ⟨hlk, _⟩ := look_yes hon hh
      have hp := (at_has ho.sorted hh).1
      rw [hi] at HF
      have hkl := (List.getElem?_eq_some_iff.1 hk).1
      obtain ⟨g, cap, rfl, _, c0, _, b1, _⟩ := h.reads hk
      have hbz : (⟨(at_ s.fs (pos s.fs n)).bs.toArray⟩ : ByteArray).size = (at_ s.fs (pos s.fs n)).bs.length := by show Array.size _ = _; simp
      have hklt' : ((k : Nat) : Int) < (L.length : Int) := by omega
      by_cases hr : i < 0 ∨ ((at_ s.fs (pos s.fs n)).bs.length : Int) < i
      · have HR : Hid (cut s n i = (s, 11)) := by show _ = _; unfold cut; simp [hlk, hr]
        rw [HR.out]
        rw [← hbz] at hr
        clear h hlk hk hi hp hbz
        generalize (⟨(at_ s.fs (pos s.fs n)).bs.toArray⟩ : ByteArray) = bb at *
        generalize L.length = len at *
        rcases hr with hr | hr
        · go_enter Try.func32, Try.ntmps32
          go_wp2_with fail
          refine HF.out.mono ?_
          rintro e w1 ⟨rfl, rfl⟩
          go_wp2_with fail
          go_ret
          exact ⟨rfl, ⟨_, _, HD.out⟩, Kp.refl _ _ _ _⟩
        · by_cases hneg : i < 0
          · omega
          · go_enter Try.func32, Try.ntmps32
            go_wp2_with fail
            refine HF.out.mono ?_
            rintro e w1 ⟨rfl, rfl⟩
            go_wp2_with fail
            go_ret
            exact ⟨rfl, ⟨_, _, HD.out⟩, Kp.refl _ _ _ _⟩
      have hr1 : ¬ i < 0 := by omega
      have hr2 : ¬ ((⟨(at_ s.fs (pos s.fs n)).bs.toArray⟩ : ByteArray).size : Int) < i := by rw [hbz]; omega
      have HC := Lib.hid (rcrashes_at base X s _ L w h hl.ops ho.fuse0 ho.fuse1)
      rcases goes_some s with hg | hg
      · have HR : Hid (cut s n i = (begun s, 9)) := by show _ = _; unfold cut; simp [hlk, hg, hr]
        rw [HR.out]
        rw [hg] at HC
        clear h hlk hk hi hp
        clear hbz hr
        generalize (⟨(at_ s.fs (pos s.fs n)).bs.toArray⟩ : ByteArray) = bb at *
        generalize L.length = len at *
        go_enter Try.func32, Try.ntmps32
        go_wp2_with fail
        refine HF.out.mono ?_
        rintro e w1 ⟨rfl, rfl⟩
        go_wp2_with fail
        refine HC.out.mono ?_
        rintro e w2 ⟨rfl, h2, k2⟩
        have H2 : Hid (Rd base w2 X (begun s) ∧ Kp base X TF w w2) := ⟨⟨_, _, h2⟩, k2.mono (by simp)⟩
        clear h2 k2
        go_wp2_with fail
        go_ret
        exact ⟨rfl, H2.out.1, H2.out.2⟩
      · have HR : Hid (cut s n i = (begun { s with fs := s.fs.set (pos s.fs n) (cutF (at_ s.fs (pos s.fs n)) i.toNat) }, 0)) := by show _ = _; unfold cut; simp [hlk, hg, hr]
        rw [HR.out, begun_set]
        rw [hg] at HC
        have HK := Lib.hid hk
        have HP := Lib.hid hp
        clear h hlk hi hp hk hr
        go_enter Try.func32, Try.ntmps32
        go_wp2_with fail
        refine HF.out.mono ?_
        rintro e w1 ⟨rfl, rfl⟩
        go_wp2_with fail
        clear b1 c0
        refine HC.out.mono ?_
        rintro e w2 ⟨rfl, h2, k2⟩
        have H2 := Lib.hid h2
        have HK2 : Hid (Kp base X TF w w2) := k2.mono (by simp)
        obtain ⟨g1, cap1, hgc, _, c0, q0, q1, q2⟩ := h2.reads HK.out
        injection hgc with e1 _ e3
        injection e1 with e1; injection e1 with e1
        subst e1 e3
        have hkl' : ((k : Nat) : Int) < (L.length : Int) := by omega
        obtain ⟨hgb, cs, hgg⟩ := h2.at_ hkl
        have hbl : Below w2.heap.size w2 (w2.alloc (.cells #[.string (at_ s.fs (pos s.fs n)).nm, .string ⟨(at_ s.fs (pos s.fs n)).bs.toArray⟩, .int .i64 ((at_ s.fs (pos s.fs n)).su : Int)] 49)) := (Below.refl _ _).alloc (Nat.le_refl _) _
        have h3 := h2.later hbl
        have hgg3 := (hbl.block _ (lt_of_block hgg)).trans hgg
        have hff := heap_alloc_new w2 (.cells #[.string (at_ s.fs (pos s.fs n)).nm, .string ⟨(at_ s.fs (pos s.fs n)).bs.toArray⟩, .int .i64 ((at_ s.fs (pos s.fs n)).su : Int)] 49)
        have hgX : X ≠ g := ne_of_tag h3.blk hgg3 (by decide)
        have HK3 := Lib.hid (HK2.out.trans (Kp.of_below hbl))
        have HBL := Lib.hid hbl
        have hbz : (⟨(at_ s.fs (pos s.fs n)).bs.toArray⟩ : ByteArray).size = (at_ s.fs (pos s.fs n)).bs.length := by show Array.size _ = _; simp
        go_wp2_with fail
        obtain ⟨wf, hwf⟩ : ∃ wf, wf = w2.alloc (.cells #[.string (at_ s.fs (pos s.fs n)).nm, .string ⟨(at_ s.fs (pos s.fs n)).bs.toArray⟩, .int .i64 ((at_ s.fs (pos s.fs n)).su : Int)] 49) := ⟨_, rfl⟩
        rw [← hwf] at h3 hgg3 hff HK3
        rw [hnk] at hwf
        rw [← hwf]
        clear hwf c0 q0 q1 q2 HBL
        have c0 := blk_cell (i := 0) h3.blk rfl
        have f1 := blk_cell (i := 1) hff rfl
        have f2 := blk_cell (i := 2) hff rfl
        have fz0 := blk_free hgg3 (k * 3)
        have fz1 := blk_free hgg3 (k * 3 + 1)
        have fz2 := blk_free hgg3 (k * 3 + 2)
        obtain ⟨_, _, hv, _, _, q0, q1, q2⟩ := h3.reads HK.out
        injection hv with e1 e2 e3
        injection e1 with e1; injection e1 with e1
        subst e1
        obtain ⟨hp3, hk3⟩ := h3.put3 hkl (cutF (at_ s.fs (pos s.fs n)) i.toNat) (t := { begun s with fs := s.fs.set (pos s.fs n) (cutF (at_ s.fs (pos s.fs n)) i.toNat) }) rfl rfl rfl rfl (set_perm _ HD.out.perm HK.out HP.out)
        have H3 : Hid (Rd base (w3 wf g k (cutF (at_ s.fs (pos s.fs n)) i.toNat)) X { begun s with fs := s.fs.set (pos s.fs n) (cutF (at_ s.fs (pos s.fs n)) i.toNat) } ∧ Kp base X TF w (w3 wf g k (cutF (at_ s.fs (pos s.fs n)) i.toNat))) := ⟨⟨_, _, hp3⟩, hk3 _ HK3.out⟩
        have hw3 : w3 wf g k (cutF (at_ s.fs (pos s.fs n)) i.toNat) = ((wf.setCell ⟨g, k * 3, none⟩ (.string n)).setCell ⟨g, k * 3 + 1, none⟩ (.string ⟨((at_ s.fs (pos s.fs n)).bs.take i.toNat).toArray⟩)).setCell ⟨g, k * 3 + 2, none⟩ (.int .i64 ((min (at_ s.fs (pos s.fs n)).su i.toNat : Nat) : Int)) := by unfold w3 cutF; simp only [hnk]
        rw [hw3] at H3
        clear hw3
        have HX1 := Lib.hid (bs_take (at_ s.fs (pos s.fs n)).bs i.toNat)
        have HX2 : Hid (min (((at_ s.fs (pos s.fs n)).su : Nat) : Int) i = ((min (at_ s.fs (pos s.fs n)).su i.toNat : Nat) : Int)) := by show _ = _; omega
        clear h2 k2 h3 hgg hgg3 hff hbl hp3 hk3
        generalize w2.heap.size = fb at *
        generalize L.length = len at *
        go_region
        rw [HX1.out, HX2.out]
        go_wp2_with fail
        go_ret
        obtain ⟨⟨v5, L5, h5⟩, k5⟩ := H3.out
        exact ⟨rfl, ⟨_, _, h5.drew⟩, k5.drew⟩

set_option maxHeartbeats 3200000 in
set_option maxRecDepth 100000 in
theorem rdo_3 (base X : Nat) (s : St) (v : Value) (L : List Fi) (n to : ByteArray) (i : Int) (w : World) (h : RdAt base w X s v L) (ho : Ok s) (hl : Lim s) (hto : to.size ≤ 1000000) :
    Calls Try.prog 32 #[.pointer (some ⟨X, 0, none⟩), .int .i64 3, .string n, .string to, .int .i64 i] w fun e w' => e = .returned (.int .i64 (ren s n to).2) ∧ Rd base w' X (ren s n to).1 ∧ Kp base X TF w w' := by
  have hfew := ho.few
  rw [← h.perm.length_eq] at hfew
  have HF := Lib.hid (rfind_any base X s v L n w h (by omega))
  have hfound := h.found ho n
  have c2 := blk_cell (i := 2) h.blk rfl
  have HD := Lib.hid h
  cases hon : s.on with
  | false =>
    obtain ⟨hlk, _⟩ := look_off (n := n) hon
    have HR : Hid (ren s n to = (s, 9)) := by show _ = _; unfold ren; simp [hlk]
    rw [HR.out]
    rw [hon] at c2
    clear h hfound hlk
    generalize fidx L n = q at *
    go_enter Try.func32, Try.ntmps32
    go_wp2_with fail
    refine HF.out.mono ?_
    rintro e w1 ⟨rfl, rfl⟩
    go_wp2_with fail
    go_ret
    exact ⟨rfl, ⟨_, _, HD.out⟩, Kp.refl _ _ _ _⟩
  | true =>
    rw [hon] at c2
    rcases hfound with ⟨hh, hi, _⟩ | ⟨hh, k, hi, hk, hnk⟩
    · obtain ⟨hlk, _⟩ := look_no hon hh
      have HR : Hid (ren s n to = (s, 7)) := by show _ = _; unfold ren; simp [hlk]
      rw [HR.out]
      rw [hi] at HF
      clear h hlk
      go_enter Try.func32, Try.ntmps32
      go_wp2_with fail
      refine HF.out.mono ?_
      rintro e w1 ⟨rfl, rfl⟩
      go_wp2_with fail
      go_ret
      exact ⟨rfl, ⟨_, _, HD.out⟩, Kp.refl _ _ _ _⟩
    · obtain ⟨hlk, _⟩ := look_yes hon hh
      have hp := (at_has ho.sorted hh).1
      rw [hi] at HF
      have hkl := (List.getElem?_eq_some_iff.1 hk).1
      have HN := Lib.hid (rname_any to hto)
      cases hnb : nameB to with
      | false =>
        have HR : Hid (ren s n to = (s, 1)) := by show _ = _; unfold ren; simp [hlk, hnb]
        rw [HR.out]
        rw [hnb] at HN
        clear h hlk hk hi hp
        go_enter Try.func32, Try.ntmps32
        go_wp2_with fail
        refine HF.out.mono ?_
        rintro e w1 ⟨rfl, rfl⟩
        go_wp2_with fail
        refine (HN.out _).mono ?_
        rintro e w1 ⟨rfl, rfl⟩
        go_wp2_with fail
        go_ret
        exact ⟨rfl, ⟨_, _, HD.out⟩, Kp.refl _ _ _ _⟩
      | true =>
        rw [hnb] at HN
        have HC := Lib.hid (rcrashes_at base X s _ L w h hl.ops ho.fuse0 ho.fuse1)
        rcases goes_some s with hg | hg
        · have HR : Hid (ren s n to = (begun s, 9)) := by show _ = _; unfold ren; simp [hlk, hg, hnb]
          rw [HR.out]
          rw [hg] at HC
          clear h hlk hk hi hp
          go_enter Try.func32, Try.ntmps32
          go_wp2_with fail
          refine HF.out.mono ?_
          rintro e w1 ⟨rfl, rfl⟩
          go_wp2_with fail
          refine (HN.out _).mono ?_
          rintro e w1 ⟨rfl, rfl⟩
          go_wp2_with fail
          refine HC.out.mono ?_
          rintro e w2 ⟨rfl, h2, k2⟩
          have H2 : Hid (Rd base w2 X (begun s) ∧ Kp base X TF w w2) := ⟨⟨_, _, h2⟩, k2.mono (by simp)⟩
          clear h2 k2
          go_wp2_with fail
          go_ret
          exact ⟨rfl, H2.out.1, H2.out.2⟩
        · have HR : Hid (ren s n to = (begun { s with fs := renF s.fs n to }, 0)) := by show _ = _; unfold ren; simp [hlk, hg, hnb]
          rw [HR.out, begun_set]
          rw [hg] at HC
          have HK := Lib.hid hk
          have HP := Lib.hid hp
          have HPM := Lib.hid (ren_perm h.perm ho.sorted to hh)
          clear h hlk hi hp hk
          go_enter Try.func32, Try.ntmps32
          go_wp2_with fail
          refine HF.out.mono ?_
          rintro e w1 ⟨rfl, rfl⟩
          go_wp2_with fail
          refine (HN.out _).mono ?_
          rintro e w1 ⟨rfl, rfl⟩
          go_wp2_with fail
          refine HC.out.mono ?_
          rintro e w2 ⟨rfl, h2, k2⟩
          have H2 := Lib.hid h2
          have HK2 : Hid (Kp base X TF w w2) := k2.mono (by simp)
          obtain ⟨g, cap, rfl, _, c0, q0, q1, q2⟩ := h2.reads HK.out
          have hkl' : ((k : Nat) : Int) < (L.length : Int) := by omega
          obtain ⟨hgb, cs, hgg⟩ := h2.at_ hkl
          have hbl : Below w2.heap.size w2 (w2.alloc (.cells #[.string (at_ s.fs (pos s.fs n)).nm, .string ⟨(at_ s.fs (pos s.fs n)).bs.toArray⟩, .int .i64 ((at_ s.fs (pos s.fs n)).su : Int)] 49)) := (Below.refl _ _).alloc (Nat.le_refl _) _
          have h3 := h2.later hbl
          have hgg3 := (hbl.block _ (lt_of_block hgg)).trans hgg
          have hff := heap_alloc_new w2 (.cells #[.string (at_ s.fs (pos s.fs n)).nm, .string ⟨(at_ s.fs (pos s.fs n)).bs.toArray⟩, .int .i64 ((at_ s.fs (pos s.fs n)).su : Int)] 49)
          have hgX : X ≠ g := ne_of_tag h3.blk hgg3 (by decide)
          have HK3 := Lib.hid (HK2.out.trans (Kp.of_below hbl))
          have HBL := Lib.hid hbl
          have hbz : (⟨(at_ s.fs (pos s.fs n)).bs.toArray⟩ : ByteArray).size = (at_ s.fs (pos s.fs n)).bs.length := by show Array.size _ = _; simp
          go_wp2_with fail
          have HW := Lib.hid (without_any base X (begun s) _ L n _ h3 (by omega))
          have HFF := Lib.hid hff
          rw [hnk] at HW HFF
          have HNK := Lib.hid hnk
          clear h2 k2 h3 hgg hgg3 hff hbl c0 q0 q1 q2
          refine HW.out.mono ?_
          rintro e w3 ⟨rfl, ⟨v3, h3⟩, k3⟩
          have HW2 := Lib.hid (without_any base X _ _ (wo L n) to _ h3 (Nat.le_trans (wo_len _ _) (by omega)))
          have hX0 := lt_of_block h3.blk
          have hff3 := k3.at_ HFF.out (by have := lt_of_block H2.out.blk; omega) (by simp)
          have HFF3 := Lib.hid hff3
          have HK4 := Lib.hid k3
          clear h3 k3 hff3
          go_wp2_with fail
          refine HW2.out.mono ?_
          rintro e w4 ⟨rfl, ⟨v4, h4⟩, k4⟩
          have hff4 := k4.at_ HFF3.out (by have := lt_of_block H2.out.blk; omega) (by simp)
          have f1 := blk_cell (i := 1) hff4 rfl
          have f2 := blk_cell (i := 2) hff4 rfl
          have hml : (wo (wo L n) to).length ≤ 64 := Nat.le_trans (wo_len _ _) (Nat.le_trans (wo_len _ _) hfew)
          obtain ⟨va, vc, rfl, _⟩ := row3_slice h4.row
          have c0 := blk_cell (i := 0) h4.blk rfl
          have c0a := (World.cell?_alloc_past (w := w4) (.cells #[.string to, .string ⟨(at_ s.fs (pos s.fs n)).bs.toArray⟩, .int .i64 ((at_ s.fs (pos s.fs n)).su : Int)] 49) X 0 (lt_of_block h4.blk)).trans c0
          have hbw : base ≤ w4.drew.heap.size := by have := h4.ge; have := lt_of_block h4.blk; show base ≤ w4.heap.size; omega
          obtain ⟨v5, w5, r1, o5, g5⟩ := app_file base _ _ _ ({ at_ s.fs (pos s.fs n) with nm := to } : Fi) w4.drew h4.drew.row (by omega) hbw 39
          have hX5 : w5.heap[X]? = w4.heap[X]? := g5.block X (lt_of_block h4.blk) (fun e => by
            obtain ⟨_, cs5, hh5⟩ := row_tag h4.row e.symm
            rw [h4.blk] at hh5; cases hh5)
          have k5 : Kp base X TF w4.drew w5 := Kp.of_grown g5 (fun q hq => by
            obtain ⟨hb5, cs5, hh5⟩ := row_tag h4.row hq
            exact ⟨hb5, fun o ho => by
              have ho' : w4.heap[q]? = some o := ho
              rw [hh5] at ho'; cases ho'; exact ⟨_, by simp, rfl⟩⟩)
          have hblk5 := hX5.trans h4.blk
          have d0 := blk_cell (i := 0) hblk5 rfl
          have fz := blk_free hblk5 0
          obtain ⟨ua, uc, rfl, _⟩ := row3_slice o5
          have hx2 := heap_setCell_same w5 X 0 _ _ (.slice ua ((wo (wo L n) to).length + 1) uc) hblk5
          have HR5 : Hid (RdAt base (w5.setCell ⟨X, 0, none⟩ (.slice ua ((wo (wo L n) to).length + 1) uc)) X { begun s with fs := renF s.fs n to } (.slice ua ((wo (wo L n) to).length + 1) uc) (wo (wo L n) to ++ [{ at_ s.fs (pos s.fs n) with nm := to }])) :=
            ⟨hx2, h4.ge, by
              rw [List.length_append, List.length_singleton, fcs_append, fcs_one]
              exact row_at o5 fun j cs _ hc => by
                rw [heap_setCell_other _ _ _ _ (ne_of_tag hc hblk5 (by decide))]; exact hc, HPM.out⟩
          have HK5 : Hid (Kp base X TF w (w5.setCell ⟨X, 0, none⟩ (.slice ua ((wo (wo L n) to).length + 1) uc))) := (((((HK3.out.trans (by rw [hnk]; exact HK4.out.mono (by simp))).trans (k4.mono (by simp))).drew).trans k5)).setB h4.ge 0 _
          clear h4 k4 hff4 o5 g5 hX5 k5 hblk5 hx2 hbw
          generalize (wo (wo L n) to).length = m at *
          generalize w2.heap.size = fb at *
          go_wp2_with fail
          go_region_law (refine step_append_runI rfl _ _ 39 39 rfl _ _ (by simp [Go.Act.eval, Go.Act.put]) (by simp [Go.Act.eval, Go.Act.put]) _ _ r1 ?_)
          all_goals
            go_wp2_with fail
            go_ret
            exact ⟨rfl, ⟨_, _, HR5.out⟩, HK5.out⟩
end Go.Proofs.Ytlmhghcoohalaaa.Dk
