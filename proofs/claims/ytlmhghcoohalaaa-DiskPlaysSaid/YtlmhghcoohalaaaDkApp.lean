/- The disk's calls that change it: Append. (Made by wip/tools/mkDkApp.py.) -/
import Derived.Test.YtlmhghcoohalaaaDkOps
namespace Go.Proofs.Ytlmhghcoohalaaa.Dk
open Go.RowKit

theorem app_off {s : St} {n t : ByteArray} (h : s.on = false) : app s n t = (s, 9) := by unfold app; simp [h]
theorem app_name {s : St} {n t : ByteArray} (h : s.on = true) (hn : nameB n = false) : app s n t = (s, 1) := by unfold app; simp [h, hn]
theorem app_full {s : St} {n t : ByteArray} (h : s.on = true) (hn : nameB n = true) (hf : s.room - used s.fs < t.size ∨ (has s.fs n = false ∧ s.fs.length = 64)) : app s n t = (s, 5) := by unfold app; simp [h, hn, hf]
def errOf (s : St) : Int := if goes s then 0 else 9
/-- the files behind an Append -/
def appF (fs : List Fi) (n t : ByteArray) : List Fi :=
  let fs1 := if has fs n then fs else ins fs (pos fs n) ⟨n, [], 0⟩
  fs1.set (pos fs n) { at_ fs1 (pos fs n) with bs := (at_ fs1 (pos fs n)).bs ++ t.data.toList }
theorem app_done {s : St} {n t : ByteArray} (h : s.on = true) (hn : nameB n = true) (hf : ¬ (s.room - used s.fs < t.size ∨ (has s.fs n = false ∧ s.fs.length = 64))) : app s n t = (begun { s with fs := appF s.fs n t }, errOf s) := by
  unfold app; simp only [h, hn, hf]; rfl

theorem dk_drewN {base B : Nat} {s : St} {w : World} (h : Dk base w B s) (q : Nat) : Dk base (w.drewN q) B s := by
  obtain ⟨v, L, h⟩ := h
  exact ⟨v, L, h.blk, h.ge, h.row, h.all, h.sep, h.fs⟩

set_option maxHeartbeats 1600000 in
/-- Append refuses -/
theorem app_no (base B : Nat) (s : St) (n t : ByteArray) (w : World) (h : Dk base w B s) (ho : Ok s) (hl : Lim s) (_hts : t.size ≤ 17592186044416) (hno : s.on = false ∨ nameB n = false ∨ (s.room - used s.fs < t.size ∨ (has s.fs n = false ∧ s.fs.length = 64))) :
    Calls Try.prog 23 #[.pointer (some ⟨B, 0, none⟩), .string n, .string t] w (Does base B w (app s n t)) := by
  have HF := Lib.hid (find_any base B s n w h ho)
  have HD := Lib.hid h
  have HO := Lib.hid ho
  have HLIM := Lib.hid hl
  have HN := Lib.hid (fun w => name_any n w)
  have hr0 := ho.room0
  have hr1 := ho.room1
  have hu := hl.used
  clear h ho hl
  cases hon : s.on with
  | false =>
    have HR := Lib.hid (app_off (n := n) (t := t) hon)
    rw [HR.out]
    have HON := Lib.hid (fun w h => on_any base B s w h)
    rw [hon] at HON
    clear hno hon hr0 hr1 hu
    go_enter Try.func23, Try.ntmps23
    go_wp2_with fail
    refine HF.out.mono ?_
    rintro e w1 ⟨rfl, hb⟩
    have HB := Lib.hid hb
    clear hb
    go_wp2_with fail
    refine (HON.out w1 (HD.out.later HB.out)).mono ?_
    rintro e w1 ⟨rfl, rfl⟩
    have H1 : Hid (Dk base w1 B s ∧ Kp base B TS w w1) := ⟨HD.out.later HB.out, Kp.of_below HB.out⟩
    go_wp2_with fail
    go_ret
    exact ⟨rfl, H1.out.1, H1.out.2⟩
  | true =>
    have HON := Lib.hid (fun w h => on_any base B s w h)
    rw [hon] at HON
    cases hnb : nameB n with
    | false =>
      have HR := Lib.hid (app_name (t := t) hon hnb)
      rw [HR.out]
      rw [hnb] at HN
      clear hno hon hr0 hr1 hu hnb
      go_enter Try.func23, Try.ntmps23
      go_wp2_with fail
      refine HF.out.mono ?_
      rintro e w1 ⟨rfl, hb⟩
      have HB := Lib.hid hb
      clear hb
      go_wp2_with fail
      refine (HON.out w1 (HD.out.later HB.out)).mono ?_
      rintro e w1 ⟨rfl, rfl⟩
      go_wp2_with fail
      refine (HN.out w1).mono ?_
      rintro e w2 ⟨rfl, hb2⟩
      have H1 : Hid (Dk base w2 B s ∧ Kp base B TS w w2) := ⟨(HD.out.later HB.out).later hb2, (Kp.of_below HB.out).trans (Kp.of_below hb2)⟩
      clear hb2
      go_wp2_with fail
      go_ret
      exact ⟨rfl, H1.out.1, H1.out.2⟩
    | true =>
      have hf : s.room - used s.fs < t.size ∨ (has s.fs n = false ∧ s.fs.length = 64) := by
        rcases hno with h | h | h
        · rw [hon] at h; cases h
        · rw [hnb] at h; cases h
        · exact h
      have HR := Lib.hid (app_full (t := t) hon hnb hf)
      rw [HR.out]
      rw [hnb] at HN
      clear hno hon hnb
      have hsub : IntKind.i64.wrap (s.room - (used s.fs : Int)) = s.room - (used s.fs : Int) := by rw [IntKind.wrap_i64]; omega
      by_cases hroom : s.room - used s.fs < t.size
      · have hdec : decide (s.room - (used s.fs : Int) < (t.size : Int)) = true := decide_eq_true hroom
        have HDEC := Lib.hid hdec
        have HSUB := Lib.hid hsub
        clear hf hdec hsub
        go_enter Try.func23, Try.ntmps23
        go_wp2_with fail
        refine HF.out.mono ?_
        rintro e w1 ⟨rfl, hb⟩
        have HB := Lib.hid hb
        clear hb
        go_wp2_with fail
        refine (HON.out w1 (HD.out.later HB.out)).mono ?_
        rintro e w1 ⟨rfl, rfl⟩
        go_wp2_with fail
        refine (HN.out w1).mono ?_
        rintro e w2 ⟨rfl, hb2⟩
        have h2 := (HD.out.later HB.out).later hb2
        have H2 := Lib.hid h2
        have H1 : Hid (∀ q, Dk base (w2.drewN q) B s ∧ Kp base B TS w (w2.drewN q)) := fun q => ⟨dk_drewN h2 q, ((Kp.of_below HB.out).trans (Kp.of_below hb2)).trans (Kp.of_below (drewN_below (Below.refl _ _) q))⟩
        obtain ⟨v, L, hd⟩ := h2
        have c2 := blk_cell (i := 2) hd.blk rfl
        clear hb2 hd
        have hsub := HSUB.out
        go_wp2_with fail
        go_quiet ((go_at_call 14; exact Calls.quiet_of_same ((used_any base B s _ (dk_drewN H2.out _) HO.out).mono (fun _ _ h => ⟨h.1, h.2.symm⟩))))
        clear hsub
        go_wp2_with fail
        all_goals
          go_ret
          exact ⟨rfl, (H1.out _).1, (H1.out _).2⟩
      · obtain ⟨hhas, h64⟩ : has s.fs n = false ∧ s.fs.length = 64 := by rcases hf with h | h; exact absurd h hroom; exact h
        rw [hhas] at HF
        have hdec : decide (s.room - (used s.fs : Int) < (t.size : Int)) = false := decide_eq_false hroom
        have HDEC := Lib.hid hdec
        have HSUB := Lib.hid hsub
        have H64 := Lib.hid h64
        clear hf hdec hsub hhas h64
        go_enter Try.func23, Try.ntmps23
        go_wp2_with fail
        refine HF.out.mono ?_
        rintro e w1 ⟨rfl, hb⟩
        have HB := Lib.hid hb
        clear hb
        go_wp2_with fail
        refine (HON.out w1 (HD.out.later HB.out)).mono ?_
        rintro e w1 ⟨rfl, rfl⟩
        go_wp2_with fail
        refine (HN.out w1).mono ?_
        rintro e w2 ⟨rfl, hb2⟩
        have h2 := (HD.out.later HB.out).later hb2
        have H2 := Lib.hid h2
        have H1 : Hid (∀ q, Dk base (w2.drewN q) B s ∧ Kp base B TS w (w2.drewN q)) := fun q => ⟨dk_drewN h2 q, ((Kp.of_below HB.out).trans (Kp.of_below hb2)).trans (Kp.of_below (drewN_below (Below.refl _ _) q))⟩
        obtain ⟨v, L, hd⟩ := h2
        have c2 := blk_cell (i := 2) hd.blk rfl
        have c3 := blk_cell (i := 3) hd.blk rfl
        obtain ⟨a, cap, rfl, _⟩ := row_slice hd.row
        have h64 : L.length = 64 := by have := H64.out; rw [hd.fs, List.length_map] at this; exact this
        rw [h64] at c3
        clear hb2 hd h64
        have hsub := HSUB.out
        go_wp2_with fail
        go_quiet ((go_at_call 14; exact Calls.quiet_of_same ((used_any base B s _ (dk_drewN H2.out _) HO.out).mono (fun _ _ h => ⟨h.1, h.2.symm⟩))))
        clear hsub
        go_wp2_with fail
        all_goals
          go_ret
          exact ⟨rfl, (H1.out _).1, (H1.out _).2⟩
end Go.Proofs.Ytlmhghcoohalaaa.Dk
