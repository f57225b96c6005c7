/- The document's disk: Up. (Made by wip/tools/mkDkRu.py.) -/
import Derived.Test.YtlmhghcoohalaaaDkRd
namespace Go.Proofs.Ytlmhghcoohalaaa.Dk
set_option linter.unusedSimpArgs false
open Go.RowKit

theorem upTo_names : ∀ (fs : List Fi) (ks : List Int) (k : Nat), (upTo fs ks k).map (·.nm) = fs.map (·.nm)
  | [], _, _ => rfl
  | _ :: _, _, 0 => rfl
  | f :: r, ks, k + 1 => by simp [upTo, upTo_names r, upOne_nm]
theorem upTo_mem : ∀ (fs : List Fi) (ks : List Int) (k : Nat) (g : Fi), g ∈ upTo fs ks k → g ∈ fs ∨ ∃ f ∈ fs, ∃ k, g = upOne f k
  | [], _, _, _, h => by simp [upTo] at h
  | _ :: _, _, 0, _, h => .inl h
  | f :: r, ks, k + 1, g, h => by
    rcases List.mem_cons.1 h with rfl | h
    · exact .inr ⟨f, List.mem_cons_self .., ks, rfl⟩
    · rcases upTo_mem r _ k g h with h | ⟨x, hx, k', rfl⟩
      · exact .inl (List.mem_cons_of_mem _ h)
      · exact .inr ⟨x, List.mem_cons_of_mem _ hx, k', rfl⟩
theorem Ok.upTo {s : St} (h : Ok s) (ks : List Int) (k : Nat) : Ok { s with fs := upTo s.fs ks k } := by
  have hu := upTo_used s.fs ks k
  have hful := h.full
  refine h.fs (sorted_names.2 (by rw [upTo_names]; exact sorted_names.1 h.sorted)) (by rw [upTo_len]; exact h.few) (fun g hg => ?_) (fun g hg => ?_) (by omega)
  · rcases upTo_mem _ _ _ g hg with hg | ⟨f, hf, k', rfl⟩
    · exact h.su g hg
    · exact upOne_su f k' (h.su f hf)
  · rcases upTo_mem _ _ _ g hg with hg | ⟨f, hf, k', rfl⟩
    · exact h.names g hg
    · rw [upOne_nm]; exact h.names f hf
theorem RdAt.foundAt {base X : Nat} {w : World} {t : St} {v : Value} {L : List Fi} (h : RdAt base w X t v L) (ho : Ok t) {i : Nat} {f : Fi} (hf : t.fs[i]? = some f) : ∃ k : Nat, fidx L f.nm = (k : Int) ∧ L[k]? = some f := by
  have hm := List.mem_of_getElem? hf
  have hu := at_uniq ho.sorted hm rfl
  rcases h.found ho f.nm with ⟨hh, _⟩ | ⟨_, k, h1, h2, _⟩
  · rw [has_iff.2 ⟨f, hm, rfl⟩] at hh; cases hh
  · exact ⟨k, h1, by rw [h2, ← hu]⟩
theorem drop_tail (ks : List Int) (q : Nat) : (ks.drop q).tail = ks.drop (q + 1) := by rw [List.tail_drop]

set_option maxHeartbeats 6400000 in
set_option maxRecDepth 100000 in
theorem rup_any (base X : Nat) (s : St) (v : Value) (L : List Fi) (a : Option Addr) (len cap : Nat) (ks : List Int) (w : World) (h : RdAt base w X s v L) (ho : Ok s) (hl : Lim s) (hm : s.made = true) (hk : KB base w a len cap ks) :
    Calls Try.prog 34 #[.pointer (some ⟨X, 0, none⟩), .slice a len cap] w fun e w' => e = .returned (.tuple #[]) ∧ Rd base w' X (up s ks) ∧ Kp base X TF w w' := by
  have HR : Hid (up s ks = { s with fs := upF s.fs ks, on := true, fuse := -1 }) := by show _ = _; unfold up; simp [hm]
  rw [HR.out]
  have hfew := ho.few
  have HNM := Lib.hid (rnames_any base X s v L w h ho)
  have HLEN : Hid (L.length = s.fs.length) := h.perm.length_eq
  have HALL := Lib.hid (upTo_all s.fs ks)
  have HO := Lib.hid ho
  have HUS := Lib.hid hl.used
  have HD0 : Hid (RdAt base w X { s with fs := upTo s.fs ks 0 } v L) := by show RdAt _ _ _ _ _ _; rw [upTo_zero]; exact h
  have HK0 := Lib.hid hk
  have HKS : Hid (ksAt s.fs ks 0 = ks.drop 0) := by show _ = _; rw [ksAt_zero]; rfl
  have HBW : Hid (base ≤ w.heap.size) := by show base ≤ _; have := h.ge; have := lt_of_block h.blk; omega
  obtain ⟨n, hn⟩ : ∃ n, s.fs.length = n := ⟨_, rfl⟩
  rw [hn] at HNM HLEN HALL hfew
  have HN := Lib.hid hn
  obtain ⟨a0, cap0, rfl, _, hcap0, _⟩ := row3_slice h.row
  have hkl := hk.len_is
  have hkc := hk.cap_ge
  have hkc2 := hk.cap_le
  clear h ho hl hm hk hn
  go_enter Try.func34, Try.ntmps34
  go_wp2_with fail
  refine HNM.out.mono ?_
  rintro e w1 ⟨r, rfl, hr, hb⟩
  have HNR := Lib.hid hr
  have HB1 := Lib.hid hb
  obtain ⟨ra, rc, rfl, hrc1, hrc2, _⟩ := row_slice hr
  clear hr hb
  go_wp2_with fail
  go_loopw [5, 6, 7, 8, 9, 10] (fun qv iv _ _ _ _ wr => ∃ (i q : Nat) (L1 : List Fi), i ≤ n ∧ q ≤ i ∧ iv = .int .i64 (i : Int) ∧ qv = .int .i64 (q : Int) ∧ Hid (RdAt base wr X { s with fs := upTo s.fs ks i } (.slice a0 L.length cap0) L1) ∧ Hid (ksAt s.fs ks i = ks.drop q) ∧ Hid (Kp base X TF w1 wr)) (fun _ iv _ _ _ _ _ => n - (intOf iv).toNat)
  case atStart => exact ⟨0, 0, L, by omega, by omega, rfl, rfl, HD0.out.later HB1.out, HKS, Kp.refl _ _ _ _⟩
  case round =>
    obtain ⟨i, q, L1, hi, hq, rfl, rfl, HD, HKQ, HP⟩ := hrel
    by_cases hlt : i < n
    · obtain ⟨f, hf⟩ : ∃ f, s.fs[i]? = some f := ⟨_, List.getElem?_eq_getElem (by rw [HN.out]; exact hlt)⟩
      have hfm := List.mem_of_getElem? hf
      have hsf := HO.out.su f hfm
      have hlf : f.bs.length ≤ 17592186044416 := Nat.le_trans (used_mem hfm) HUS.out
      obtain ⟨hn1, hn2⟩ := upTo_next s.fs ks i f hf
      have hat : ({ s with fs := upTo s.fs ks i } : St).fs[i]? = some f := by show (upTo s.fs ks i)[i]? = _; rw [upTo_at]; exact hf
      have hot := HO.out.upTo ks i
      obtain ⟨k, hidx, hk⟩ := HD.out.foundAt hot hat
      have hl1 : L1.length = L.length := by rw [HD.out.perm.length_eq, upTo_len, HN.out, HLEN.out]
      have HF := Lib.hid (rfind_any base X _ _ L1 f.nm wr HD.out (by rw [hl1, HLEN.out]; omega))
      rw [hidx] at HF
      have hrow := row_at HNR.out fun b cs _ hc => HP.out.at_ hc (by
        have h0 := HD0.out.later HB1.out
        exact ne_of_tag hc h0.blk (by decide)) (by decide)
      obtain ⟨ra', rc', hv, _, _, hcell⟩ := row_slice hrow
      injection hv with e1 _ e3
      subst e1 e3
      obtain ⟨gl, rfl, _, _, hcs⟩ := hcell (by omega)
      have p0 := hcs i (.string f.nm) (nms_at (by rw [List.getElem?_map, hf]; rfl))
      have hd := HD.out
      obtain ⟨g, cap', hv, hkl1, c0, q0, q1, q2⟩ := hd.reads hk
      rw [hl1] at hv hkl1
      injection hv with e1 _ e3
      subst e1 e3
      have hklt : ((k : Nat) : Int) < (L.length : Int) := by omega
      have hbl : Below wr.heap.size wr (wr.alloc (.cells #[.string f.nm, .string ⟨f.bs.toArray⟩, .int .i64 (f.su : Int)] 49)) := (Below.refl _ _).alloc (Nat.le_refl _) _
      have hff := heap_alloc_new wr (.cells #[.string f.nm, .string ⟨f.bs.toArray⟩, .int .i64 (f.su : Int)] 49)
      have hd3 := hd.later hbl
      have HP3 := Lib.hid (HP.out.trans (Kp.of_below hbl))
      have HN1 := Lib.hid hn1
      have HN2 := Lib.hid hn2
      have HFK := Lib.hid hf
      have HK := Lib.hid hk
      have HL1 := Lib.hid hl1
      rw [hl1] at c0
      have hbz : (⟨f.bs.toArray⟩ : ByteArray).size = f.bs.length := by show Array.size _ = _; simp
      have hsub : IntKind.i64.wrap ((f.bs.length : Int) - (f.su : Int)) = ((f.bs.length - f.su : Nat) : Int) := by rw [IntKind.wrap_i64]; omega
      have HSUB := Lib.hid hsub
      have HHD3 := Lib.hid hd3
      have HFF := Lib.hid hff
      clear hsub hd hrow hcs hcell hn1 hn2 hf hfm hat hot hidx hk hd3 hff hl1 hbl hbz
      obtain ⟨u, hu⟩ : ∃ u, f.bs.length - f.su = u := ⟨_, rfl⟩
      have HSUB2 := HSUB
      rw [hu] at HSUB2
      by_cases hz : u = 0
      · subst hz
        have HO1 : Hid (upOne f (ksAt s.fs ks i) = f ∧ upRest f (ksAt s.fs ks i) = ksAt s.fs ks i) := ⟨by unfold upOne; rw [if_pos hu], by unfold upRest; rw [if_pos hu]⟩
        clear hu
        go_wp2_with fail
        refine HF.out.mono ?_
        rintro e w5 ⟨rfl, rfl⟩
        have hsub := HSUB2.out
        go_wp2_with fail
        clear hsub
        go_roundw
        case rel =>
          refine ⟨i + 1, q, L1, by omega, by omega, by go_num, rfl, ?_, ?_, HP3⟩
          · have h' := HHD3.out
            show RdAt _ _ _ _ _ _
            rw [HN1.out, HO1.out.1, set_same (by rw [upTo_at]; exact HFK.out)]
            exact h'
          · show _ = _
            rw [HN2.out, HO1.out.2]; exact HKQ.out
        case measure => simp [intOf]; omega
      · have hze : ((u : Int) == 0) = false := by simp; omega
        have HO1 : Hid (upOne f (ksAt s.fs ks i) = { f with bs := f.bs.take (f.su + kept f (ksAt s.fs ks i)), su := f.su + kept f (ksAt s.fs ks i) }) := by show _ = _; unfold upOne; rw [if_neg (by omega)]
        have HKQ2 : Hid (ksAt s.fs ks (i + 1) = ks.drop (q + 1)) := by
          show _ = _
          rw [HN2.out, ← drop_tail, ← HKQ.out]; unfold upRest; rw [if_neg (by omega)]
        have hnq : (q : Int) + 1 ≤ 9223372036854775807 := by omega
        obtain ⟨m, hm⟩ : ∃ m, kept f (ksAt s.fs ks i) = m := ⟨_, rfl⟩
        have hm2 := hm
        unfold kept at hm2
        rw [HKQ.out, hu] at hm2
        have hmu : m ≤ u := by omega
        have hsm : f.su + m ≤ f.bs.length := by omega
        have h3' : RdAt base (wr.alloc (.cells #[.string f.nm, .string ⟨f.bs.toArray⟩, .int .i64 (f.su : Int)] 49)) X { s with fs := upTo s.fs ks i } (.slice (some ⟨g, 0, none⟩) L1.length cap0) L1 := by rw [HL1.out]; exact HHD3.out
        have hput := h3'.put3 (k := k) (by have := (List.getElem?_eq_some_iff.1 HK.out).1; exact this) ({ f with bs := f.bs.take (f.su + m), su := f.su + m } : Fi) (t := { s with fs := upTo s.fs ks (i + 1) }) rfl rfl rfl rfl (by
          show List.Perm _ (upTo s.fs ks (i + 1))
          rw [HN1.out, HO1.out, hm]
          exact set_perm _ HD.out.perm HK.out (by rw [upTo_at]; exact HFK.out))
        have hnew := hput.1
        rw [HL1.out] at hnew
        have HNEW := Lib.hid hnew
        have HKNEW := Lib.hid (hput.2 _ HP3.out)
        have HX1 := Lib.hid (bs_take f.bs (f.su + m))
        have hkb := HK0.out.later (((Kp.of_below (ts := TF) (base := base) (B := X) HB1.out).trans HP3.out).below HBW.out)
        have H3P := Lib.hid h3'
        by_cases hql : q < len
        · obtain ⟨z, hzq⟩ : ∃ z, ks[q]? = some z := ⟨_, List.getElem?_eq_getElem (by omega)⟩
          have hrg := hkb.rng z (List.mem_of_getElem? hzq)
          obtain ⟨kb, koff, ko, hka, _, _, hkc4⟩ := hkb.at_ (by omega)
          subst hka
          have pk := hkc4 q z hzq
          have hhd : (ks.drop q).head? = some z := by rw [List.head?_drop]; exact hzq
          rw [hhd] at hm2
          simp only [Option.getD_some] at hm2
          have hmin : max 0 (min z (u : Int)) = (m : Int) := by omega
          have HM := Lib.hid hm
          clear hkb hzq hkc4 hhd hm2 hput h3' hnew hm
          go_wp2_with fail
          refine HF.out.mono ?_
          rintro e w5 ⟨rfl, rfl⟩
          have hsub := HSUB2.out
          go_wp2_with fail
          clear hsub
          have h3 := H3P.out
          have hff := HFF.out
          obtain ⟨fb, hfb⟩ : ∃ fb, fb = wr.heap.size := ⟨_, rfl⟩
          obtain ⟨wf, hwf⟩ : ∃ wf, wf = wr.alloc (.cells #[.string f.nm, .string ⟨f.bs.toArray⟩, .int .i64 (f.su : Int)] 49) := ⟨_, rfl⟩
          rw [← hwf] at h3 hff HNEW HKNEW ⊢
          rw [← hfb] at hff
          try rw [← hfb]
          clear hwf hfb c0 q0 q1 q2
          obtain ⟨hgb, gcs, hgg⟩ := h3.at_ (k := k) (by have := (List.getElem?_eq_some_iff.1 HK.out).1; exact this)
          have z0 := blk_free hgg (k * 3)
          have z1 := blk_free hgg (k * 3 + 1)
          have z2 := blk_free hgg (k * 3 + 2)
          obtain ⟨_, _, hv, _, d0, d1, d2, d3⟩ := h3.reads HK.out
          injection hv with e1 _ e3
          injection e1 with e1; injection e1 with e1
          subst e1 e3
          rw [HL1.out] at d0
          have f0 := blk_cell (i := 0) hff rfl
          have f1 := blk_cell (i := 1) hff rfl
          have f2 := blk_cell (i := 2) hff rfl
          clear h3 hff hgg
          have hsm2 : (f.su : Int) + (m : Int) ≤ (f.bs.length : Int) := by omega
          go_region
          have HX2 : Hid ((f.su : Int) + (m : Int) = ((f.su + m : Nat) : Int)) := by show _ = _; omega
          rw [HX1.out, HX2.out]
          go_wp2_with fail
          go_roundw
          case rel => exact ⟨i + 1, q + 1, _, by omega, by omega, by go_num, by go_num, HNEW.out.drew, HKQ2, HKNEW.out.drew⟩
          case measure => simp [intOf]; omega
        · have hm0 : m = 0 := by rw [List.head?_drop, List.getElem?_eq_none (by omega)] at hm2; simp at hm2; omega
          subst hm0
          have HM := Lib.hid hm
          clear hkb hm2 hput h3' hnew hm
          go_wp2_with fail
          refine HF.out.mono ?_
          rintro e w5 ⟨rfl, rfl⟩
          have hsub := HSUB2.out
          go_wp2_with fail
          clear hsub
          have h3 := H3P.out
          have hff := HFF.out
          obtain ⟨fb, hfb⟩ : ∃ fb, fb = wr.heap.size := ⟨_, rfl⟩
          obtain ⟨wf, hwf⟩ : ∃ wf, wf = wr.alloc (.cells #[.string f.nm, .string ⟨f.bs.toArray⟩, .int .i64 (f.su : Int)] 49) := ⟨_, rfl⟩
          rw [← hwf] at h3 hff HNEW HKNEW ⊢
          rw [← hfb] at hff
          try rw [← hfb]
          clear hwf hfb c0 q0 q1 q2
          obtain ⟨hgb, gcs, hgg⟩ := h3.at_ (k := k) (by have := (List.getElem?_eq_some_iff.1 HK.out).1; exact this)
          have z0 := blk_free hgg (k * 3)
          have z1 := blk_free hgg (k * 3 + 1)
          have z2 := blk_free hgg (k * 3 + 2)
          obtain ⟨_, _, hv, _, d0, d1, d2, d3⟩ := h3.reads HK.out
          injection hv with e1 _ e3
          injection e1 with e1; injection e1 with e1
          subst e1 e3
          rw [HL1.out] at d0
          have f0 := blk_cell (i := 0) hff rfl
          have f1 := blk_cell (i := 1) hff rfl
          have f2 := blk_cell (i := 2) hff rfl
          clear h3 hff hgg
          go_region
          have HX0 := Lib.hid (bs_take f.bs f.su)
          rw [HX0.out]
          go_wp2_with fail
          go_roundw
          case rel => exact ⟨i + 1, q + 1, _, by omega, by omega, by go_num, by go_num, HNEW.out.drew, HKQ2, HKNEW.out.drew⟩
          case measure => simp [intOf]; omega
    · obtain rfl : i = n := by omega
      have hd := HD.out
      have hd2 := hd.set (t := { s with fs := upTo s.fs ks i, on := true }) 2 (.bool true) rfl rfl
      have hd3 := hd2.set (t := { s with fs := upTo s.fs ks i, on := true, fuse := -1 }) 3 (.int .i64 (-1)) rfl rfl
      have kd := (HP.out.setB hd.ge 2 (.bool true)).setB hd.ge 3 (.int .i64 (-1))
      have c2 := blk_cell (i := 2) hd.blk rfl
      have c3 := blk_cell (i := 3) hd2.blk rfl
      have z2 := blk_free hd.blk 2
      have z3 := blk_free hd2.blk 3
      have H3 := Lib.hid hd3
      have K3 : Hid (Kp base X TF w _) := (Kp.of_below HB1.out).trans kd
      clear hd hd2 hd3 kd
      go_wp2_with fail
      go_end0
      exact ⟨rfl, ⟨_, _, by have := H3.out; rw [HALL.out] at this; exact this⟩, K3.out⟩
end Go.Proofs.Ytlmhghcoohalaaa.Dk
