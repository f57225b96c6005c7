/- The disk's calls that change it: Append to a file that is not there yet; and all of Append. (Made by wip/tools/mkDkApp.py.) -/
import Derived.Test.YtlmhghcoohalaaaDkApp2
namespace Go.Proofs.Ytlmhghcoohalaaa.Dk
open Go.RowKit

set_option maxHeartbeats 3200000 in
/-- Append to a file that is not there -/
theorem app_new (base B : Nat) (s : St) (n t : ByteArray) (w : World) (h : Dk base w B s) (ho : Ok s) (hl : Lim s) (hts : t.size ≤ 17592186044416) (hon : s.on = true) (hnb : nameB n = true) (hroom : ¬ s.room - used s.fs < t.size) (hhas : has s.fs n = false) (h64 : s.fs.length ≠ 64) :
    Calls Try.prog 23 #[.pointer (some ⟨B, 0, none⟩), .string n, .string t] w (Does base B w (app s n t)) := by
  have HF := Lib.hid (find_any base B s n w h ho)
  have HD := Lib.hid h
  have HO := Lib.hid ho
  have HLIM := Lib.hid hl
  have HN := Lib.hid (fun w => name_any n w)
  have hr0 := ho.room0
  have hr1 := ho.room1
  have hu := hl.used
  have hns := nameB_size hnb
  have HAT := Lib.hid (ins_at (pos_le s.fs n) ⟨n, [], 0⟩)
  have HON := Lib.hid (fun w h => on_any base B s w h)
  have HR := Lib.hid (app_done (t := t) hon hnb (fun hf => by rcases hf with h | ⟨_, h⟩; exact hroom h; exact h64 h))
  have HAF : Hid (appF s.fs n t = (ins s.fs (pos s.fs n) ⟨n, [], 0⟩).set (pos s.fs n) { (⟨n, [], 0⟩ : Fi) with bs := (⟨n, [], 0⟩ : Fi).bs ++ t.data.toList }) := by
    show _ = _
    unfold appF; simp only [hhas, Bool.false_eq_true, if_false]; rw [at_some HAT.out]
  rw [HR.out]
  rw [hon] at HON
  rw [hnb] at HN
  rw [hhas] at HF
  have hsub : IntKind.i64.wrap (s.room - (used s.fs : Int)) = s.room - (used s.fs : Int) := by rw [IntKind.wrap_i64]; omega
  have hdec : decide (s.room - (used s.fs : Int) < (t.size : Int)) = false := decide_eq_false hroom
  have HSUB := Lib.hid hsub
  have HDEC := Lib.hid hdec
  have H64 := Lib.hid h64
  clear h ho hl hon hnb hhas hsub hroom hdec hr0 hr1 hu h64
  go_enter Try.func23, Try.ntmps23
  go_wp2_with fail
  refine HF.out.mono ?_
  rintro e w1 ⟨rfl, hb⟩
  have HB := Lib.hid hb
  clear hb
  go_wp2_with fail
  refine (HON.out w1 (HD.out.later HB.out)).mono ?_
  rintro e w1 ⟨rfl, rfl⟩
  go_wp2_with fail
  refine (HN.out w1).mono ?_
  rintro e w2 ⟨rfl, hb2⟩
  have h2 := (HD.out.later HB.out).later hb2
  have H2 := Lib.hid h2
  obtain ⟨v, L, hd⟩ := h2
  have H1 : Hid (∀ q, DkAt base (w2.drewN q) B s v L ∧ Kp base B TS w (w2.drewN q)) := fun q => ⟨⟨hd.blk, hd.ge, hd.row, hd.all, hd.sep, hd.fs⟩, ((Kp.of_below HB.out).trans (Kp.of_below hb2)).trans (Kp.of_below (drewN_below (Below.refl _ _) q))⟩
  have c2 := blk_cell (i := 2) hd.blk rfl
  have c3' := blk_cell (i := 3) hd.blk rfl
  have hlen : L.length ≤ 64 := by have := HO.out.few; rw [hd.fs, List.length_map] at this; exact this
  have hpl : pos s.fs n ≤ L.length := by have := pos_le s.fs n; rw [hd.fs] at this ⊢; rwa [List.length_map] at this
  have h64 : ((L.length : Int) == 64) = false := by
    have := H64.out
    rw [hd.fs, List.length_map] at this
    simp; omega
  obtain ⟨a0, cap0, rfl, _⟩ := row_slice hd.row
  clear hb2 hd
  have hsub := HSUB.out
  have hdec := HDEC.out
  go_wp2_with fail
  go_quiet ((go_at_call 14; exact Calls.quiet_of_same ((used_any base B s _ (dk_drewN H2.out _) HO.out).mono (fun _ _ h => ⟨h.1, h.2.symm⟩))))
  clear hsub c2
  obtain ⟨hdW, hkW⟩ := H1.out nq
  have hbW := lt_of_block hdW.blk
  have HI := Lib.hid (insert_at base B (pos s.fs n) s _ L ⟨(w2.drewN nq).heap.size, .slice none 0 0, ⟨⟨#[]⟩, [], 0⟩⟩ n ((w2.drewN nq).alloc (.cells #[.string ⟨#[]⟩, .slice none 0 0, .int .i64 0] 67)) (hdW.later ((Below.refl _ _).alloc (Nat.le_refl _) _))
    ⟨heap_alloc_new _ _, by have := hdW.ge; show base ≤ (w2.drewN nq).heap.size; omega, World.ownsRow_nil _ _ _ _⟩
    (fun x hx => ⟨fun e' => by have h1 := lt_of_block (hdW.all x hx).1; have h2 : x.b = (w2.drewN nq).heap.size := e'; omega, fun k _ h' => by simp [Value.ownBlock] at h'⟩) hpl (by omega) (by omega) (by have := hdW.ge; rw [World.size_alloc]; omega))
  have HKW : Hid (Kp base B TS w ((w2.drewN nq).alloc (.cells #[.string ⟨#[]⟩, .slice none 0 0, .int .i64 0] 67))) := hkW.trans (Kp.of_below ((Below.refl _ _).alloc (Nat.le_refl _) _))
  clear hdW hkW hpl hbW H1 H2
  obtain ⟨len0, hlen0⟩ : ∃ k, L.length = k := ⟨_, rfl⟩
  rw [hlen0] at c3' h64
  clear hlen hlen0
  go_wp2_with fail
  refine HI.out.mono ?_
  rintro r w3 ⟨rfl, ⟨v3, L3, hd3⟩, k3⟩
  have kW := HKW.out.trans k3
  clear k3 HI HKW c3' h64
  obtain ⟨e, he, hef⟩ := En.ix hd3 HAT.out
  obtain ⟨g, cap, rfl, hlt, c3, cg, _, c1, _⟩ := En.reads hd3 he
  have hlt' : ((pos s.fs n : Nat) : Int) < (L3.length : Int) := by omega
  have hfl := hd3.all e (List.mem_of_getElem? he)
  have hbw : base ≤ w3.heap.size := by have := hd3.ge; have := lt_of_block hd3.blk; omega
  have hel : e.f.bs.length ≤ 17592186044416 := by rw [hef]; exact (Nat.zero_le _)
  obtain ⟨v', w', hr, hown', hgrow, hblk⟩ := append_str base _ e.v _ t w3 hfl.2.2 (by omega) hbw 65
  obtain ⟨a2, cap2, hv, _⟩ := row_slice hfl.2.2
  have hrt : ∀ k, some k = e.v.ownBlock → base ≤ k ∧ ∃ cs, w3.heap[k]? = some (Obj.cells cs 5 (0, 0)) := fun k hk => row_tag hfl.2.2 hk.symm
  have hkeep : ∀ (k : Nat) (cs : Array Value) (ty : TypeId), w3.heap[k]? = some (Obj.cells cs ty (0, 0)) → ty ≠ 5 → w'.heap[k]? = some (Obj.cells cs ty (0, 0)) := fun k cs ty hk ht => by
    rw [hgrow.block k (lt_of_block hk) fun e' => ?_]
    · exact hk
    · obtain ⟨_, c, hc⟩ := hrt k e'
      rw [hk] at hc; cases hc; exact ht rfl
  have hb1 := hkeep _ _ _ hfl.1 (by decide)
  have d1 := blk_cell (i := 1) hb1 rfl
  have f1 := blk_free hb1 1
  obtain ⟨a3, cap3, rfl, _⟩ := row_slice hown'
  have hb2 := blk3_set (i := 1) (u := .slice a3 (e.f.bs.length + t.size) cap3) hb1 (ds := #[.string e.f.nm, .slice a3 (e.f.bs.length + t.size) cap3, .int .i64 (e.f.su : Int)]) rfl
  have hne : ∀ (k : Nat) (o : Obj), w3.heap[k]? = some o → k ≠ e.b → e.v.ownBlock ≠ some k → (w'.setCell ⟨e.b, 1, none⟩ (.slice a3 (e.f.bs.length + t.size) cap3)).heap[k]? = some o := fun k o hk h1 h2 => by
    rw [heap_setCell_other _ _ _ _ h1, hgrow.block k (lt_of_block hk) (fun e' => h2 e'.symm)]; exact hk
  have HU := Lib.hid (hd3.upd he ⟨e.b, .slice a3 (e.f.bs.length + t.size) cap3, { e.f with bs := e.f.bs ++ t.data.toList }⟩ rfl ⟨hb2, hfl.2.1, by
    have hl2 : (e.f.bs ++ t.data.toList).length = e.f.bs.length + t.size := by simp
    show World.ownsRow _ _ _ _ _ (e.f.bs ++ t.data.toList).length (bs (e.f.bs ++ t.data.toList))
    rw [hl2, bs_append]
    exact row_at hown' fun k cs _ hc => by rw [heap_setCell_other _ _ _ _ (ne_of_tag hc hb1 (by decide))]; exact hc⟩ hne hblk)
  have HK : Hid (Kp base B TS w (w'.setCell ⟨e.b, 1, none⟩ (.slice a3 (e.f.bs.length + t.size) cap3))) := (kW.trans (Kp.of_grown hgrow (fun k hk => by
    obtain ⟨h1, c, hc⟩ := hrt k hk.symm
    refine ⟨h1, fun o ho => ?_⟩
    rw [hc] at ho; cases ho; exact ⟨_, by simp, rfl⟩))).setT hb1 hfl.2.1 (by simp) _
  have HAF2 : Hid (appF s.fs n t = (St.fs ({ s with fs := ins s.fs (pos s.fs n) ⟨n, [], 0⟩ } : St)).set (pos s.fs n) { e.f with bs := e.f.bs ++ t.data.toList }) := by show _ = _; rw [hef]; exact HAF.out
  have HBE := Lib.hid (begin_at base B _ _ _ _ HU.out HLIM.out.ops HO.out.fuse0 HO.out.fuse1)
  rw [goes_fs { s with fs := ins s.fs (pos s.fs n) ⟨n, [], 0⟩ }, goes_fs s] at HBE
  rw [hv] at hr c1
  clear hfl hrt hkeep hb1 hb2 hne hown' hgrow hblk hv he hbw hel HU
  generalize e.f.bs.length = m at *
  generalize L3.length = len at *
  go_wp2_with (at_builtin; refine Lib.wpList_append_run _ rfl _ _ _ _ rfl _ _ rfl rfl _ _ hr ?_)
  refine HBE.out.mono ?_
  rintro r w9 ⟨rfl, h9, k9⟩
  have H9 : Hid (Dk base w9 B (begun { s with fs := appF s.fs n t }) ∧ Kp base B TS w w9) := ⟨⟨_, _, by rw [HAF2.out]; exact h9⟩, HK.out.trans (k9.mono (by simp))⟩
  clear h9 k9
  rcases goes_some s with hg | hg
  · have hg2 : Hid (errOf s = 9) := by show _ = _; simp [errOf, hg]
    rw [hg]
    clear hg
    go_wp2_with fail
    go_ret
    exact ⟨by rw [hg2.out]; rfl, H9.out.1, H9.out.2⟩
  · have hg2 : Hid (errOf s = 0) := by show _ = _; simp [errOf, hg]
    rw [hg]
    clear hg
    go_wp2_with fail
    go_ret
    exact ⟨by rw [hg2.out]; rfl, H9.out.1, H9.out.2⟩

theorem app_any (base B : Nat) (s : St) (n t : ByteArray) (w : World) (h : Dk base w B s) (ho : Ok s) (hl : Lim s) (hts : t.size ≤ 17592186044416) :
    Calls Try.prog 23 #[.pointer (some ⟨B, 0, none⟩), .string n, .string t] w (Does base B w (app s n t)) := by
  cases hon : s.on with
  | false => exact app_no base B s n t w h ho hl hts (.inl hon)
  | true =>
    cases hnb : nameB n with
    | false => exact app_no base B s n t w h ho hl hts (.inr (.inl hnb))
    | true =>
      by_cases hroom : s.room - used s.fs < t.size
      · exact app_no base B s n t w h ho hl hts (.inr (.inr (.inl hroom)))
      · cases hhas : has s.fs n with
        | true => exact app_there base B s n t w h ho hl hts hon hnb hroom hhas
        | false =>
          by_cases h64 : s.fs.length = 64
          · exact app_no base B s n t w h ho hl hts (.inr (.inr (.inr ⟨hhas, h64⟩)))
          · exact app_new base B s n t w h ho hl hts hon hnb hroom hhas h64
end Go.Proofs.Ytlmhghcoohalaaa.Dk
