/- The disk's calls that change it: Append, where it does it. (Made by wip/tools/mkDkApp.py.) -/
import Derived.Test.YtlmhghcoohalaaaDkApp
namespace Go.Proofs.Ytlmhghcoohalaaa.Dk
open Go.RowKit

theorem goes_fs (s : St) (fs : List Fi) : goes { s with fs := fs } = goes s := rfl
theorem En.ix {base B p : Nat} {s : St} {v : Value} {L : List En} {w : World} {f : Fi} (h : DkAt base w B s v L) (hf : s.fs[p]? = some f) : ∃ e, L[p]? = some e ∧ e.f = f := by
  rw [h.fs, List.getElem?_map] at hf
  obtain ⟨e, he, rfl⟩ := Option.map_eq_some_iff.1 hf
  exact ⟨e, he, rfl⟩

set_option maxHeartbeats 3200000 in
/-- Append to a file that is there -/
theorem app_there (base B : Nat) (s : St) (n t : ByteArray) (w : World) (h : Dk base w B s) (ho : Ok s) (hl : Lim s) (hts : t.size ≤ 17592186044416) (hon : s.on = true) (hnb : nameB n = true) (hroom : ¬ s.room - used s.fs < t.size) (hhas : has s.fs n = true) :
    Calls Try.prog 23 #[.pointer (some ⟨B, 0, none⟩), .string n, .string t] w (Does base B w (app s n t)) := by
  have HF := Lib.hid (find_any base B s n w h ho)
  have HD := Lib.hid h
  have HO := Lib.hid ho
  have HLIM := Lib.hid hl
  have HN := Lib.hid (fun w => name_any n w)
  have hr0 := ho.room0
  have hr1 := ho.room1
  have hu := hl.used
  have HAT := Lib.hid (at_has ho.sorted hhas)
  have HON := Lib.hid (fun w h => on_any base B s w h)
  have HR := Lib.hid (app_done (t := t) hon hnb (fun hf => by rcases hf with h | ⟨h, _⟩; exact hroom h; rw [hhas] at h; cases h))
  have HAF : Hid (appF s.fs n t = s.fs.set (pos s.fs n) { at_ s.fs (pos s.fs n) with bs := (at_ s.fs (pos s.fs n)).bs ++ t.data.toList }) := by show _ = _; unfold appF; simp only [hhas, if_true]
  rw [HR.out]
  rw [hon] at HON
  rw [hnb] at HN
  rw [hhas] at HF
  have hsub : IntKind.i64.wrap (s.room - (used s.fs : Int)) = s.room - (used s.fs : Int) := by rw [IntKind.wrap_i64]; omega
  have hdec : decide (s.room - (used s.fs : Int) < (t.size : Int)) = false := decide_eq_false hroom
  have HSUB := Lib.hid hsub
  have HDEC := Lib.hid hdec
  clear h ho hl hon hnb hhas hsub hroom hdec hr0 hr1 hu
  go_enter Try.func23, Try.ntmps23
  go_wp2_with fail
  refine HF.out.mono ?_
  rintro e w1 ⟨rfl, hb⟩
  have HB := Lib.hid hb
  clear hb
  go_wp2_with fail
  refine (HON.out w1 (HD.out.later HB.out)).mono ?_
  rintro e w1 ⟨rfl, rfl⟩
  go_wp2_with fail
  refine (HN.out w1).mono ?_
  rintro e w2 ⟨rfl, hb2⟩
  have h2 := (HD.out.later HB.out).later hb2
  have H2 := Lib.hid h2
  obtain ⟨v, L, hd⟩ := h2
  have H1 : Hid (∀ q, DkAt base (w2.drewN q) B s v L ∧ Kp base B TS w (w2.drewN q)) := fun q => ⟨⟨hd.blk, hd.ge, hd.row, hd.all, hd.sep, hd.fs⟩, ((Kp.of_below HB.out).trans (Kp.of_below hb2)).trans (Kp.of_below (drewN_below (Below.refl _ _) q))⟩
  have c2 := blk_cell (i := 2) hd.blk rfl
  clear hb2 hd
  have hsub := HSUB.out
  have hdec := HDEC.out
  go_wp2_with fail
  go_quiet ((go_at_call 14; exact Calls.quiet_of_same ((used_any base B s _ (dk_drewN H2.out _) HO.out).mono (fun _ _ h => ⟨h.1, h.2.symm⟩))))
  clear hsub c2
  obtain ⟨hdW, hkW⟩ := H1.out nq
  obtain ⟨W, hW⟩ : ∃ W, W = w2.drewN nq := ⟨_, rfl⟩
  rw [← hW] at hdW hkW ⊢
  clear hW H1 H2
  obtain ⟨e, he, hef⟩ := En.ix hdW HAT.out.1
  obtain ⟨g, cap, rfl, hlt, c3, cg, _, c1, _⟩ := En.reads hdW he
  have hlt' : ((pos s.fs n : Nat) : Int) < (L.length : Int) := by omega
  have hfl := hdW.all e (List.mem_of_getElem? he)
  have hbw : base ≤ W.heap.size := by have := hdW.ge; have := lt_of_block hdW.blk; omega
  have hel : e.f.bs.length ≤ 17592186044416 := by rw [hef]; exact (Nat.le_trans (used_mem (List.mem_of_getElem? HAT.out.1)) HLIM.out.used)
  obtain ⟨v', w', hr, hown', hgrow, hblk⟩ := append_str base _ e.v _ t W hfl.2.2 (by omega) hbw 65
  obtain ⟨a2, cap2, hv, _⟩ := row_slice hfl.2.2
  have hrt : ∀ k, some k = e.v.ownBlock → base ≤ k ∧ ∃ cs, W.heap[k]? = some (Obj.cells cs 5 (0, 0)) := fun k hk => row_tag hfl.2.2 hk.symm
  have hkeep : ∀ (k : Nat) (cs : Array Value) (ty : TypeId), W.heap[k]? = some (Obj.cells cs ty (0, 0)) → ty ≠ 5 → w'.heap[k]? = some (Obj.cells cs ty (0, 0)) := fun k cs ty hk ht => by
    rw [hgrow.block k (lt_of_block hk) fun e' => ?_]
    · exact hk
    · obtain ⟨_, c, hc⟩ := hrt k e'
      rw [hk] at hc; cases hc; exact ht rfl
  have hb1 := hkeep _ _ _ hfl.1 (by decide)
  have d1 := blk_cell (i := 1) hb1 rfl
  have f1 := blk_free hb1 1
  obtain ⟨a3, cap3, rfl, _⟩ := row_slice hown'
  have hb2 := blk3_set (i := 1) (u := .slice a3 (e.f.bs.length + t.size) cap3) hb1 (ds := #[.string e.f.nm, .slice a3 (e.f.bs.length + t.size) cap3, .int .i64 (e.f.su : Int)]) rfl
  have hne : ∀ (k : Nat) (o : Obj), W.heap[k]? = some o → k ≠ e.b → e.v.ownBlock ≠ some k → (w'.setCell ⟨e.b, 1, none⟩ (.slice a3 (e.f.bs.length + t.size) cap3)).heap[k]? = some o := fun k o hk h1 h2 => by
    rw [heap_setCell_other _ _ _ _ h1, hgrow.block k (lt_of_block hk) (fun e' => h2 e'.symm)]; exact hk
  have HU := Lib.hid (hdW.upd he ⟨e.b, .slice a3 (e.f.bs.length + t.size) cap3, { e.f with bs := e.f.bs ++ t.data.toList }⟩ rfl ⟨hb2, hfl.2.1, by
    have hl2 : (e.f.bs ++ t.data.toList).length = e.f.bs.length + t.size := by simp
    show World.ownsRow _ _ _ _ _ (e.f.bs ++ t.data.toList).length (bs (e.f.bs ++ t.data.toList))
    rw [hl2, bs_append]
    exact row_at hown' fun k cs _ hc => by rw [heap_setCell_other _ _ _ _ (ne_of_tag hc hb1 (by decide))]; exact hc⟩ hne hblk)
  have HK : Hid (Kp base B TS w (w'.setCell ⟨e.b, 1, none⟩ (.slice a3 (e.f.bs.length + t.size) cap3))) := (hkW.trans (Kp.of_grown hgrow (fun k hk => by
    obtain ⟨h1, c, hc⟩ := hrt k hk.symm
    refine ⟨h1, fun o ho => ?_⟩
    rw [hc] at ho; cases ho; exact ⟨_, by simp, rfl⟩))).setT hb1 hfl.2.1 (by simp) _
  have HAF2 : Hid (appF s.fs n t = (St.fs s).set (pos s.fs n) { e.f with bs := e.f.bs ++ t.data.toList }) := by show _ = _; rw [hef]; exact HAF.out
  have HBE := Lib.hid (begin_at base B _ _ _ _ HU.out HLIM.out.ops HO.out.fuse0 HO.out.fuse1)
  rw [goes_fs s] at HBE
  rw [hv] at hr c1
  clear hfl hrt hkeep hb1 hb2 hne hown' hgrow hblk hv he hbw hel HU
  generalize e.f.bs.length = m at *
  generalize L.length = len at *
  go_wp2_with (at_builtin; refine Lib.wpList_append_run _ rfl _ _ _ _ rfl _ _ rfl rfl _ _ hr ?_)
  refine HBE.out.mono ?_
  rintro r w9 ⟨rfl, h9, k9⟩
  have H9 : Hid (Dk base w9 B (begun { s with fs := appF s.fs n t }) ∧ Kp base B TS w w9) := ⟨⟨_, _, by rw [HAF2.out]; exact h9⟩, HK.out.trans (k9.mono (by simp))⟩
  clear h9 k9
  rcases goes_some s with hg | hg
  · have hg2 : Hid (errOf s = 9) := by show _ = _; simp [errOf, hg]
    rw [hg]
    clear hg
    go_wp2_with fail
    go_ret
    exact ⟨by rw [hg2.out]; rfl, H9.out.1, H9.out.2⟩
  · have hg2 : Hid (errOf s = 0) := by show _ = _; simp [errOf, hg]
    rw [hg]
    clear hg
    go_wp2_with fail
    go_ret
    exact ⟨by rw [hg2.out]; rfl, H9.out.1, H9.out.2⟩

end Go.Proofs.Ytlmhghcoohalaaa.Dk
