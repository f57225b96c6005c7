/- The disk's calls that change it: Rename. -/
import Derived.Test.YtlmhghcoohalaaaDkOps
namespace Go.Proofs.Ytlmhghcoohalaaa.Dk
open Go.RowKit

theorem Kp.fl {base B : Nat} {ts : List TypeId} {w w' : World} {e : En} (h : Kp base B ts w w') (he : Fl base w e) {cs : Array Value} (hB : w.heap[B]? = some (.cells cs 31 (0, 0))) (h1 : 67 ∉ ts) (h2 : 5 ∉ ts) : Fl base w' e :=
  ⟨h.at_ he.1 (ne_of_tag he.1 hB (by decide)) h1, he.2.1, row_at he.2.2 fun _ _ _ hc => h.at_ hc (ne_of_tag hc hB (by decide)) h2⟩
theorem Fl.below {base : Nat} {w w' : World} {e : En} (he : Fl base w e) (h : Below w.heap.size w w') : Fl base w' e :=
  ⟨(h.block _ (lt_of_block he.1)).trans he.1, he.2.1, row_at he.2.2 fun _ _ _ hc => (h.block _ (lt_of_block hc)).trans hc⟩

set_option maxHeartbeats 1600000 in
theorem ren_any (base B : Nat) (s : St) (a b : ByteArray) (w : World) (h : Dk base w B s) (ho : Ok s) (hl : Lim s) :
    Calls Try.prog 28 #[.pointer (some ⟨B, 0, none⟩), .string a, .string b] w (Does base B w (ren s a b)) := by
  have HL := Lib.hid (look_any base B s a w h ho)
  have HD := Lib.hid h
  have HO := Lib.hid ho
  have HLIM := Lib.hid hl
  clear h ho hl
  by_cases hz : look s a = 0
  · have HA : Hid (lookAt s a = pos s.fs a) := by show lookAt s a = _; simp [lookAt, hz]
    have hh := look_has hz
    rw [HA.out] at HL
    cases hnb : nameB b with
    | false =>
      have HR : Hid (ren s a b = (s, 1)) := by show _ = _; unfold ren; simp [hz, hnb]
      rw [HR.out]
      rw [hz] at HL
      have HN := Lib.hid (fun w => name_any b w)
      rw [hnb] at HN
      clear hz hnb hh
      go_enter Try.func28, Try.ntmps28
      go_wp2_with fail
      refine HL.out.mono ?_
      rintro e w1 ⟨rfl, hb⟩
      have HB := Lib.hid hb
      clear hb
      go_wp2_with fail
      refine (HN.out w1).mono ?_
      rintro e w2 ⟨rfl, hb2⟩
      have H1 : Hid (Dk base w2 B s ∧ Kp base B TS w w2) := ⟨(HD.out.later HB.out).later hb2, (Kp.of_below HB.out).trans (Kp.of_below hb2)⟩
      clear hb2
      go_wp2_with fail
      go_ret
      exact ⟨rfl, H1.out.1, H1.out.2⟩
    | true =>
      have hbs := nameB_size hnb
      have HN := Lib.hid (fun w => name_any b w)
      rw [hnb] at HN
      rcases goes_some s with hg | hg
      · have HR : Hid (ren s a b = (begun s, 9)) := by show _ = _; unfold ren; simp [hz, hg, hnb]
        rw [HR.out]
        rw [hz] at HL
        clear hz hh hnb
        go_enter Try.func28, Try.ntmps28
        go_wp2_with fail
        refine HL.out.mono ?_
        rintro e w1 ⟨rfl, hb⟩
        have HB := Lib.hid hb
        clear hb
        go_wp2_with fail
        refine (HN.out w1).mono ?_
        rintro e w2 ⟨rfl, hb2⟩
        obtain ⟨v, L, h2⟩ := (HD.out.later HB.out).later hb2
        have HB2 := Lib.hid ((Kp.of_below HB.out (base := base) (B := B) (ts := TS)).trans (Kp.of_below hb2))
        have HBE := Lib.hid (begin_at base B s v L w2 h2 HLIM.out.ops HO.out.fuse0 HO.out.fuse1)
        rw [hg] at HBE
        clear hb2 h2 hg
        go_wp2_with fail
        refine HBE.out.mono ?_
        rintro e w3 ⟨rfl, h3, k3⟩
        have H2 : Hid (Dk base w3 B (begun s) ∧ Kp base B TS w w3) := ⟨⟨_, _, h3⟩, HB2.out.trans (k3.mono (by simp))⟩
        clear h3 k3
        go_wp2_with fail
        go_ret
        exact ⟨rfl, H2.out.1, H2.out.2⟩
      · have HR : Hid (ren s a b = (begun { s with fs := renF s.fs a b }, 0)) := by show _ = _; unfold ren; simp [hz, hg, hnb]
        rw [HR.out]
        rw [hz] at HL
        clear hz hnb
        go_enter Try.func28, Try.ntmps28
        go_wp2_with fail
        refine HL.out.mono ?_
        rintro e w1 ⟨rfl, hb⟩
        have HB := Lib.hid hb
        clear hb
        go_wp2_with fail
        refine (HN.out w1).mono ?_
        rintro e w2 ⟨rfl, hb2⟩
        obtain ⟨v, L, h2⟩ := (HD.out.later HB.out).later hb2
        have HB2 := Lib.hid ((Kp.of_below HB.out (base := base) (B := B) (ts := TS)).trans (Kp.of_below hb2))
        have HBE := Lib.hid (begin_at base B s v L w2 h2 HLIM.out.ops HO.out.fuse0 HO.out.fuse1)
        rw [hg] at HBE
        clear hb2 h2 hg
        go_wp2_with fail
        refine HBE.out.mono ?_
        rintro r w3 ⟨rfl, h3, k3⟩
        have HB3 := Lib.hid (HB2.out.trans (k3.mono (ts' := TS) (by simp)))
        -- the file is taken out
        have hh3 : has (begun s).fs a = true := by rw [begun_fs]; exact hh.2
        obtain ⟨e, he, hef, _⟩ := En.here h3 HO.out.begun hh3
        have hlen : L.length ≤ 64 := by have := HO.out.begun.few; rw [h3.fs, List.length_map] at this; exact this
        rw [begun_fs] at he hef
        obtain ⟨g, cap, rfl, hlt, c3, cg, _, _, _⟩ := En.reads h3 he
        have hlt' : ((pos s.fs a : Nat) : Int) < (L.length : Int) := by omega
        have HST := Lib.hid (remove_at base B (pos s.fs a) (begun s) _ L e w3 h3 he (by omega))
        have HO1 : Hid (Ok { begun s with fs := del s.fs (pos s.fs a) }) := by
          have h' := (at_has HO.out.sorted hh.2).1
          have := (HO.out.begun.del (k := pos s.fs a) (by rw [begun_fs]; exact h'))
          rw [begun_fs] at this; exact this
        have HEF := Lib.hid hef
        have HLEN := Lib.hid hlen
        rw [begun_fs] at HST
        clear h3 k3 he hef hh hh3 hlen
        generalize L.length = len at *
        go_wp2_with fail
        refine HST.out.mono ?_
        rintro r w4 ⟨rfl, ⟨v4, L4, h4, f4, s4⟩, k4⟩
        have HB4 := Lib.hid (HB3.out.trans (k4.mono (ts' := TS) (by simp)))
        have H4 := Lib.hid h4
        have F4 := Lib.hid f4
        have S4 := Lib.hid s4
        have HF4 := Lib.hid (find_any base B _ b w4 ⟨_, _, h4⟩ HO1.out)
        clear h4 f4 s4 k4 HST c3 cg
        -- the one that has the other name
        go_wp2_with fail
        refine HF4.out.mono ?_
        rintro r w5 ⟨rfl, hb5⟩
        have HB5 := Lib.hid (HB4.out.trans (Kp.of_below hb5))
        have h5 := H4.out.later hb5
        have H5 := Lib.hid h5
        have F5 := Lib.hid (F4.out.below hb5)
        have hl5 : L4.length ≤ 64 := by have := HO1.out.few; rw [H4.out.fs, List.length_map] at this; exact this
        have HL5 := Lib.hid hl5
        have hp5 : pos (del s.fs (pos s.fs a)) b ≤ L4.length := by have := pos_le (del s.fs (pos s.fs a)) b; have h' : (del s.fs (pos s.fs a)) = L4.map (·.f) := H4.out.fs; rw [h'] at this ⊢; rwa [List.length_map] at this
        have HP5 := Lib.hid hp5
        have hbw : base ≤ w5.heap.size := by have := h5.ge; have := lt_of_block h5.blk; omega
        have HBW := Lib.hid hbw
        clear hb5 h5 hl5 hp5 hbw HF4
        cases hc : has (del s.fs (pos s.fs a)) b with
        | true =>
          obtain ⟨e2, he2, _, _⟩ := En.here H5.out HO1.out hc
          have HST := Lib.hid (remove_at base B _ _ _ L4 e2 w5 H5.out he2 (by have := HL5.out; omega))
          have HRF : Hid (begun { s with fs := renF s.fs a b } = { begun s with fs := ins (del (del s.fs (pos s.fs a)) (pos (del s.fs (pos s.fs a)) b)) (pos (del s.fs (pos s.fs a)) b) { e.f with nm := b } }) := by
            show _ = _
            rw [begun_set]; unfold renF; simp only [hc, if_true]; rw [HEF.out]
          have hp2 : pos (del s.fs (pos s.fs a)) b < L4.length := (List.getElem?_eq_some_iff.1 he2).1
          have HP2 := Lib.hid hp2
          clear he2 hc hp2
          generalize pos (del s.fs (pos s.fs a)) b = p at *
          go_wp2_with fail
          refine HST.out.mono ?_
          rintro r w6 ⟨rfl, ⟨v6, L6, h6, _, s6⟩, k6⟩
          have HB6 := Lib.hid (HB5.out.trans (k6.mono (ts' := TS) (by simp)))
          have hl6 : L6.length + 1 = L4.length := by
            have q1 : (del (del s.fs (pos s.fs a)) p).length = L6.length := by rw [show del (del s.fs (pos s.fs a)) p = L6.map (·.f) from h6.fs, List.length_map]
            have q2 : (del s.fs (pos s.fs a)).length = L4.length := by rw [show del s.fs (pos s.fs a) = L4.map (·.f) from H4.out.fs, List.length_map]
            have q3 := HP2.out
            have q4 := del_len (del s.fs (pos s.fs a)) p (by omega)
            omega
          have q5 := HP2.out
          have q6 := HL5.out
          have HI := Lib.hid (insert_at base B p _ v6 L6 e b w6 h6 (k6.fl F5.out H5.out.blk (by decide) (by decide)) (fun x hx => (S4.out x (s6 x hx).2).1) (by omega) (by omega) (by omega) (Nat.le_trans HBW.out k6.size))
          clear hl6 q5 q6
          clear h6 s6 k6
          go_wp2_with fail
          refine HI.out.mono ?_
          rintro r w7 ⟨rfl, ⟨v7, L7, h7⟩, k7⟩
          have H7 : Hid (Dk base w7 B (begun { s with fs := renF s.fs a b }) ∧ Kp base B TS w w7) := ⟨⟨_, _, by rw [HRF.out]; exact h7⟩, HB6.out.trans k7⟩
          clear h7 k7
          go_wp2_with fail
          go_ret
          exact ⟨rfl, H7.out.1, H7.out.2⟩
        | false =>
          have HRF : Hid (begun { s with fs := renF s.fs a b } = { begun s with fs := ins (del s.fs (pos s.fs a)) (pos (del s.fs (pos s.fs a)) b) { e.f with nm := b } }) := by
            show _ = _
            rw [begun_set]; unfold renF; simp only [hc, Bool.false_eq_true, if_false]; rw [HEF.out]
          have HI := Lib.hid (insert_at base B _ _ v4 L4 e b w5 H5.out F5.out (fun x hx => (S4.out x hx).1) HP5.out (by have := HL5.out; omega) (by omega) HBW.out)
          clear hc
          generalize pos (del s.fs (pos s.fs a)) b = p at *
          go_wp2_with fail
          refine HI.out.mono ?_
          rintro r w7 ⟨rfl, ⟨v7, L7, h7⟩, k7⟩
          have H7 : Hid (Dk base w7 B (begun { s with fs := renF s.fs a b }) ∧ Kp base B TS w w7) := ⟨⟨_, _, by rw [HRF.out]; exact h7⟩, HB5.out.trans k7⟩
          clear h7 k7
          go_wp2_with fail
          go_ret
          exact ⟨rfl, H7.out.1, H7.out.2⟩
  · have HR : Hid (ren s a b = (s, look s a)) := by show _ = _; unfold ren; simp [hz]
    rw [HR.out]
    have hne : (look s a != 0) = true := by simpa using hz
    clear hz
    go_enter Try.func28, Try.ntmps28
    go_wp2_with fail
    refine HL.out.mono ?_
    rintro e w1 ⟨rfl, hb⟩
    have H1 : Hid (Dk base w1 B s ∧ Kp base B TS w w1) := ⟨HD.out.later hb, Kp.of_below hb⟩
    clear hb
    go_wp2_with fail
    go_ret
    exact ⟨rfl, H1.out.1, H1.out.2⟩
end Go.Proofs.Ytlmhghcoohalaaa.Dk
