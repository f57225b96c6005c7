/- DiskSure's walk. (Made by wip/tools/mkDkSure.py.) -/
import Derived.Test.YtlmhghcoohalaaaDkNote
import Derived.Test.YtlmhghcoohalaaaDkRoom
namespace Go.Proofs.Ytlmhghcoohalaaa.Dk
open Go.RowKit

theorem note_any (base B X : Nat) (s : St) (l : Must) (a : Act) (ka : Option Addr) (kl kc : Nat) (w : World) (h2 : 2 ≤ a.kind) (h5 : a.kind ≤ 5) (h : Su base w X l) (hd : Dk base w B s) (ho : Ok s) (hl : l.length ≤ 50000) (hsz : (getS l a.name).size ≤ 1000000) :
    Calls Try.prog 22 #[.pointer (some ⟨X, 0, none⟩), .pointer (some ⟨B, 0, none⟩), aggA a ka kl kc] w fun e w' => e = .returned (.tuple #[]) ∧ Su base w' X (noteS s l a) ∧ Kp base X TM w w' := by
  by_cases k2 : a.kind = 2
  · exact note_2 base B X s l a ka kl kc w k2 h hd ho hl
  by_cases k3 : a.kind = 3
  · exact note_3 base B X s l a ka kl kc w k3 h hd ho hl
  by_cases k4 : a.kind = 4
  · exact note_4 base B X s l a ka kl kc w k4 h hd ho hl
  exact note_5 base B X s l a ka kl kc w (by omega) h hd ho hl hsz
theorem dropS_len (l : Must) (n : ByteArray) : (dropS l n).length ≤ l.length := List.length_filter_le _ _
theorem noteS_len (s : St) (l : Must) (a : Act) : (noteS s l a).length ≤ l.length + 1 := by
  have h := dropS_len l
  unfold noteS setS
  split
  · rw [List.length_append, List.length_singleton]; have := h a.name; omega
  split
  · rw [List.length_append, List.length_singleton]; have := h a.name; have := dropS_len (dropS l a.name) a.to; omega
  split
  · have := h a.name; omega
  split
  · rw [List.length_append, List.length_singleton]; have := h a.name; omega
  · omega
theorem Has.size {fs : List Fi} {n : ByteArray} {t : ByteArray} (h : Has fs n t.data.toList) : t.size ≤ used fs := by
  obtain ⟨f, hf, _, hp⟩ := h
  have h1 := hp.length_le
  have h2 := used_mem hf
  rw [List.length_take] at h1
  have h3 : t.data.toList.length = t.size := by simp
  omega
theorem getS_size {fs : List Fi} {l : Must} (h : Inv fs l) (n : ByteArray) : (getS l n).size ≤ used fs := by
  unfold getS
  cases hg : l.find? fun x => decide (x.1 = n) with
  | none => exact Nat.zero_le _
  | some x => exact (h x (List.mem_of_find?_eq_some hg)).size

/-- what is read of a file that has something -/
theorem has_read {s : St} (ho : Ok s) (hon : s.on = true) {n t : ByteArray} (h : Has s.fs n t.data.toList) :
    look s n = 0 ∧ t.size ≤ (readOf s n).size ∧ (((readOf s n).extract 0 t.size).toList == t.toList) = true := by
  obtain ⟨f, hf, hn, hp⟩ := h
  have hh : has s.fs n = true := has_iff.2 ⟨f, hf, hn⟩
  have hl := (look_yes hon hh).1
  obtain ⟨h1, h2⟩ := at_has ho.sorted hh
  have hfe : f = at_ s.fs (pos s.fs n) := by
    obtain ⟨j, hj⟩ := List.getElem?_of_mem hf
    obtain ⟨j1, j2⟩ := List.getElem?_eq_some_iff.1 hj
    obtain ⟨i1, i2⟩ := List.getElem?_eq_some_iff.1 h1
    rcases Nat.lt_trichotomy j (pos s.fs n) with h' | h' | h'
    · have := List.pairwise_iff_getElem.1 ho.sorted _ _ j1 i1 h'; rw [i2, j2, h2, hn] at this; exact absurd this (lt_irrefl _)
    · subst h'; rw [h1] at hj; cases hj; rfl
    · have := List.pairwise_iff_getElem.1 ho.sorted _ _ i1 j1 h'; rw [i2, j2, h2, hn] at this; exact absurd this (lt_irrefl _)
  have hr : readOf s n = ⟨f.bs.toArray⟩ := by unfold readOf; rw [if_pos hl, hfe]
  have hp2 : t.data.toList <+: f.bs := hp.trans (List.take_prefix _ _)
  have hts : t.data.toList.length = t.size := by simp
  have hrs : (⟨f.bs.toArray⟩ : ByteArray).size = f.bs.length := by show f.bs.toArray.size = _; simp
  rw [hr]
  refine ⟨hl, by rw [hrs, ← hts]; exact hp2.length_le, ?_⟩
  rw [ba_eq, decide_eq_true_eq]
  apply ba_ext
  rw [ByteArray.data_extract, Array.toList_extract]
  simp only [List.extract, List.drop_zero, Nat.sub_zero]
  rw [← hts]
  exact (List.prefix_iff_eq_take.1 hp2).symm

set_option maxHeartbeats 800000 in
/-- too many acts, or too great ones -/
theorem sure_long (room : Int) (a : Option Addr) (len cap : Nat) (l : List Ac) (w : World) (h : Acts w.heap.size w a len l) (hf : ∀ e, FewEnd len 40 l e → e = .returned (.bool false)) :
    Calls Try.prog 4 #[.int .i64 room, .slice a len cap] w fun e w' => e = .returned (.bool true) ∧ Below w.heap.size w w' := by
  have HW := Lib.hid (few_any w.heap.size a len cap l 40 w h (by omega) (by omega))
  have HF := Lib.hid hf
  clear h hf
  go_enter Try.func4, Try.ntmps4
  go_wp2_with fail
  refine HW.out.mono ?_
  rintro e w1 ⟨he, rfl⟩
  obtain rfl := HF.out e he
  clear he
  go_wp2_with fail
  refine (awake_any w).mono ?_
  rintro e w1 ⟨rfl, hb⟩
  go_wp2_with fail
  go_ret
  exact ⟨rfl, hb⟩

set_option maxHeartbeats 16000000 in
set_option maxRecDepth 100000 in
theorem sure_few (room : Int) (hr : room ≤ 9223372036854775807) (a : Option Addr) (len cap : Nat) (l : List Ac) (w : World) (h : Acts w.heap.size w a len l) (hl : len ≤ 40) (hf : ∀ x ∈ l, fewA x) (hfe : ∀ e, FewEnd len 40 l e → e = .returned (.bool true)) :
    Calls Try.prog 4 #[.int .i64 room, .slice a len cap] w fun e w' => e = .returned (.bool true) ∧ Below w.heap.size w w' := by
  have HW := Lib.hid (few_any w.heap.size a len cap l 40 w h (by omega) (by omega))
  have HFE := Lib.hid hfe
  have HF := Lib.hid hf
  have HA := Lib.hid h
  clear h hf hfe
  go_enter Try.func4, Try.ntmps4
  go_wp2_with fail
  refine HW.out.mono ?_
  rintro e w1 ⟨he, rfl⟩
  obtain rfl := HFE.out e he
  clear he
  go_wp2_with fail
  refine (new_any room w.heap.size w (Nat.le_refl _)).mono ?_
  rintro e w0 ⟨rfl, h0, b0, z0⟩
  have hbx : Below w0.heap.size w0 (w0.alloc (.cells #[.slice none 0 0, .slice none 0 0] 54)) := (Below.refl _ _).alloc (Nat.le_refl _) _
  have HO0 : Hid (On w.heap.size (w0.alloc (.cells #[.slice none 0 0, .slice none 0 0] 54)) room 0 (born room)) := ⟨Dk.later (base := w.heap.size) ⟨_, _, h0⟩ hbx, ok_born room hr, Nat.le_refl _, by simp [born, used], rfl⟩
  have HS0 : Hid (Su w.heap.size (w0.alloc (.cells #[.slice none 0 0, .slice none 0 0] 54)) w0.heap.size []) := ⟨_, _, heap_alloc_new _ _, by omega, World.ownsRow_nil _ _ _ _, World.ownsRow_nil _ _ _ _, fun _ h => by simp [Value.ownBlock] at h⟩
  have HB0 := Lib.hid (b0.trans (hbx.mono (by omega)))
  have HXB : Hid (w.heap.size < w0.heap.size) := by show _ < _; omega
  clear h0 b0 z0 hbx
  obtain ⟨B, hB⟩ : ∃ B, B = w.heap.size := ⟨_, rfl⟩
  obtain ⟨X, hX⟩ : ∃ X, X = w0.heap.size := ⟨_, rfl⟩
  rw [← hB] at HA HO0 HB0 HS0 HXB ⊢
  rw [← hX] at HS0 HXB
  have HBW := Lib.hid hB
  have HXW := Lib.hid hX
  clear hB hX
  go_wp2_with fail
  rw [← HXW.out]
  go_loopw [7] (fun i wr => ∃ (k : Nat) (s : St) (m : Must), k ≤ len ∧ i = .int .i64 (k : Int) ∧ Hid (On B wr room k s) ∧ Hid (Su B wr X m) ∧ Hid (Inv s.fs m) ∧ Hid (m.length ≤ k) ∧ Hid (Below B w wr)) (fun i _ => len - (intOf i).toNat)
  case atStart => exact ⟨0, _, _, by omega, rfl, HO0, HS0, (fun _ hx => by cases hx), Nat.le_refl _, HB0⟩
  case round =>
    obtain ⟨k, s, m, hk, rfl, HO, HS, HI, HM, HB⟩ := hrel
    by_cases hlt : k < len
    · have hsz : B < wr.heap.size := by obtain ⟨v, L, h⟩ := HO.out.dk; exact lt_of_block h.blk
      have HA1 := Lib.hid (HA.out.later HB.out)
      obtain ⟨b, off, x, rfl, hbb, hx, hxm, c0, c1, c2, c3, c4, c5⟩ := HA1.out.cells hlt
      have hfx := HF.out x hxm
      have HX : Hid (x ∈ l ∧ fewA x) := ⟨hxm, hfx⟩
      have HDO := Lib.hid (do_any B B s x.a x.ka x.kl x.kc wr HO.out.dk HO.out.ok (HO.out.lim (by omega)) (HA1.out.few hxm hfx))
      have HXK := Lib.hid hx
      have HSZ := Lib.hid hsz
      clear hx hxm hfx hsz
      go_wp2_with fail
      refine HDO.out.mono ?_
      rintro e w2 ⟨rfl, hd2, k2⟩
      have HO2 := Lib.hid (HO.out.act x HX.out.2 (HA1.out.num x HX.out.1).2 hd2)
      have HS2 := Lib.hid (HS.out.disk k2 HO.out.dk)
      have HB2 := Lib.hid (HB.out.trans (k2.below (Nat.le_of_lt HSZ.out)))
      have HSZ2 : Hid (B < w2.heap.size) := Nat.lt_of_lt_of_le HSZ.out k2.size
      have HA2 := Lib.hid (HA.out.later HB2.out)
      have HIP := Lib.hid (inv_plain HO.out.ok HI.out x.a)
      have HIN := Lib.hid (inv_note HO.out.ok HI.out x.a)
      have HGS := Lib.hid (fun n => Nat.le_trans (getS_size HI.out n) HO.out.used)
      clear hd2 k2 c0 c1 c2 c3 c4 c5
      generalize act s x.a = p at *
      obtain ⟨t, er⟩ := p
      simp only at *
      obtain ⟨b', off', x', hab, _, hx', _, c0, c1, c2, c3, c4, c5⟩ := HA2.out.cells hlt
      obtain rfl : x = x' := by have := HXK.out; rw [hx'] at this; cases this; rfl
      injection hab with hab; injection hab with h1 h2 h3
      subst h1 h2
      clear hx' h3
      by_cases he : er = 0
      · by_cases k2 : 2 ≤ x.a.kind
        · by_cases k5 : x.a.kind ≤ 5
          · have HIQ := Lib.hid (HIN.out k2 k5 he)
            have HMQ : Hid ((noteS t m x.a).length ≤ k + 1) := by show (noteS t m x.a).length ≤ k + 1; have := HM.out; have := noteS_len t m x.a; omega
            have HN := Lib.hid (note_any B B X t m x.a x.ka x.kl x.kc w2 k2 k5 HS2.out HO2.out.dk HO2.out.ok (by have := HM.out; omega) (by have := HGS.out x.a.name; omega))
            subst he
            clear HIP HIN HGS HDO
            go_wp2_with fail
            refine HN.out.mono ?_
            rintro e w3 ⟨rfl, h3, k3⟩
            have HS3 := Lib.hid h3
            have HO3 : Hid (On B w3 room (k + 1) t) := ⟨HO2.out.dk.must k3 HS2.out, HO2.out.ok, HO2.out.ops, HO2.out.used, HO2.out.room⟩
            have HB3 := Lib.hid (HB2.out.trans (k3.below (Nat.le_of_lt HSZ2.out)))
            have HSZ3 : Hid (B < w3.heap.size) := Nat.lt_of_lt_of_le HSZ2.out k3.size
            clear h3 k3 HN
            go_wp2_with fail
            refine (on_any B B t w3 HO3.out.dk).mono ?_
            rintro e w4 ⟨rfl, rfl⟩
            cases hon : t.on with
            | false =>
              go_wp2_with fail
              go_roundw
              case rel => exact ⟨k + 1, t, noteS t m x.a, by omega, by go_num, HO3, HS3, HIQ, HMQ, HB3⟩
              case measure => simp [intOf]; omega
            | true =>
              have HON := Lib.hid hon
              clear hon c0 c1 c2 c3 c4 c5
              obtain ⟨ml, hml⟩ : ∃ ml, (noteS t m x.a).length = ml := ⟨_, rfl⟩
              have hm40 : ml ≤ 41 := by have := HMQ.out; rw [← hml]; omega
              have HML := Lib.hid hml
              clear hml
              go_wp2_with fail
              obtain ⟨wo, rfl⟩ : ∃ wo : World, wo = w3 := ⟨_, rfl⟩
              go_loopw [9] (fun j wi => ∃ q : Nat, q ≤ ml ∧ j = .int .i64 (q : Int) ∧ Hid (Below wo.heap.size wo wi)) (fun j _ => ml - (intOf j).toNat)
              case atStart => exact ⟨0, by omega, rfl, Below.refl _ _⟩
              case round =>
                obtain ⟨q, hq, rfl, HBI⟩ := hrel
                have HOI := Lib.hid (HO3.out.later HBI.out)
                have HSI := Lib.hid (HS3.out.later HBI.out)
                have HBB := Lib.hid (HB3.out.trans (HBI.out.mono (Nat.le_of_lt HSZ3.out)))
                obtain ⟨vn, vb, hs⟩ := HSI.out
                obtain ⟨na, nc, ba, bc, rfl, rfl, n1, b1, n2, b2, d0, d1, hc⟩ := hs.reads
                rw [HML.out] at d0 d1 n1 b1
                by_cases hql : q < ml
                · obtain ⟨y, hy⟩ : ∃ y, (noteS t m x.a)[q]? = some y := ⟨_, List.getElem?_eq_getElem (by rw [HML.out]; exact hql)⟩
                  obtain ⟨gn, gb, rfl, rfl, q0, q1⟩ := hc q y hy
                  obtain ⟨r1, r2, r3⟩ := has_read HOI.out.ok HON.out (HIQ.out y (List.mem_of_getElem? hy))
                  have HRD := Lib.hid (fun W hW => read_any B B t y.1 W hW HOI.out.ok)
                  rw [r1] at HRD
                  have HY := Lib.hid hy
                  have HR2 := Lib.hid r2
                  have HR3 := Lib.hid r3
                  clear hc hs r1 r2 r3 hy
                  generalize readOf t y.1 = rd at *
                  go_wp2_with fail
                  refine (HRD.out _ HOI.out.dk).mono ?_
                  rintro e w6 ⟨rfl, b6⟩
                  have HBI2 := Lib.hid (HBI.out.trans (b6.mono HBI.out.size))
                  obtain ⟨vn6, vb6, hs6⟩ := HSI.out.later b6
                  obtain ⟨na6, nc6, ba6, bc6, rfl, rfl, m1, m1', m2, m2', e0, e1, hc6⟩ := hs6.reads
                  rw [HML.out] at e0 e1 m1 m1'
                  obtain ⟨gn6, gb6, rfl, rfl, p0, p1⟩ := hc6 q y HY.out
                  have r2 := HR2.out
                  have r3 := HR3.out
                  clear b6 hs6 hc6 HY
                  obtain ⟨yn, yt⟩ := y
                  simp only at *
                  go_wp2_with fail
                  go_roundw
                  case rel => exact ⟨q + 1, by omega, by go_num, HBI2⟩
                  case measure => simp [intOf]; omega
                · obtain rfl : q = ml := by omega
                  clear hc hs
                  go_wp2_with fail
                  go_roundw
                  case rel => exact ⟨k + 1, t, noteS t m x.a, by omega, by go_num, HOI, HSI, HIQ, HMQ, HBB⟩
                  case measure => simp [intOf]; omega
          · have HIQ := Lib.hid (HIP.out (.inr (.inr (by omega))))
            have HMQ : Hid (m.length ≤ k + 1) := by show m.length ≤ k + 1; have := HM.out; omega
            clear HIP HIN HGS HDO
            subst he
            go_wp2_with fail
            refine (on_any B B t w2 HO2.out.dk).mono ?_
            rintro e w4 ⟨rfl, rfl⟩
            cases hon : t.on with
            | false =>
              go_wp2_with fail
              go_roundw
              case rel => exact ⟨k + 1, t, m, by omega, by go_num, HO2, HS2, HIQ, HMQ, HB2⟩
              case measure => simp [intOf]; omega
            | true =>
              have HON := Lib.hid hon
              clear hon c0 c1 c2 c3 c4 c5
              obtain ⟨ml, hml⟩ : ∃ ml, (m).length = ml := ⟨_, rfl⟩
              have hm40 : ml ≤ 41 := by have := HMQ.out; rw [← hml]; omega
              have HML := Lib.hid hml
              clear hml
              go_wp2_with fail
              obtain ⟨wo, rfl⟩ : ∃ wo : World, wo = w2 := ⟨_, rfl⟩
              go_loopw [9] (fun j wi => ∃ q : Nat, q ≤ ml ∧ j = .int .i64 (q : Int) ∧ Hid (Below wo.heap.size wo wi)) (fun j _ => ml - (intOf j).toNat)
              case atStart => exact ⟨0, by omega, rfl, Below.refl _ _⟩
              case round =>
                obtain ⟨q, hq, rfl, HBI⟩ := hrel
                have HOI := Lib.hid (HO2.out.later HBI.out)
                have HSI := Lib.hid (HS2.out.later HBI.out)
                have HBB := Lib.hid (HB2.out.trans (HBI.out.mono (Nat.le_of_lt HSZ2.out)))
                obtain ⟨vn, vb, hs⟩ := HSI.out
                obtain ⟨na, nc, ba, bc, rfl, rfl, n1, b1, n2, b2, d0, d1, hc⟩ := hs.reads
                rw [HML.out] at d0 d1 n1 b1
                by_cases hql : q < ml
                · obtain ⟨y, hy⟩ : ∃ y, (m)[q]? = some y := ⟨_, List.getElem?_eq_getElem (by rw [HML.out]; exact hql)⟩
                  obtain ⟨gn, gb, rfl, rfl, q0, q1⟩ := hc q y hy
                  obtain ⟨r1, r2, r3⟩ := has_read HOI.out.ok HON.out (HIQ.out y (List.mem_of_getElem? hy))
                  have HRD := Lib.hid (fun W hW => read_any B B t y.1 W hW HOI.out.ok)
                  rw [r1] at HRD
                  have HY := Lib.hid hy
                  have HR2 := Lib.hid r2
                  have HR3 := Lib.hid r3
                  clear hc hs r1 r2 r3 hy
                  generalize readOf t y.1 = rd at *
                  go_wp2_with fail
                  refine (HRD.out _ HOI.out.dk).mono ?_
                  rintro e w6 ⟨rfl, b6⟩
                  have HBI2 := Lib.hid (HBI.out.trans (b6.mono HBI.out.size))
                  obtain ⟨vn6, vb6, hs6⟩ := HSI.out.later b6
                  obtain ⟨na6, nc6, ba6, bc6, rfl, rfl, m1, m1', m2, m2', e0, e1, hc6⟩ := hs6.reads
                  rw [HML.out] at e0 e1 m1 m1'
                  obtain ⟨gn6, gb6, rfl, rfl, p0, p1⟩ := hc6 q y HY.out
                  have r2 := HR2.out
                  have r3 := HR3.out
                  clear b6 hs6 hc6 HY
                  obtain ⟨yn, yt⟩ := y
                  simp only at *
                  go_wp2_with fail
                  go_roundw
                  case rel => exact ⟨q + 1, by omega, by go_num, HBI2⟩
                  case measure => simp [intOf]; omega
                · obtain rfl : q = ml := by omega
                  clear hc hs
                  go_wp2_with fail
                  go_roundw
                  case rel => exact ⟨k + 1, t, m, by omega, by go_num, HOI, HSI, HIQ, HMQ, HBB⟩
                  case measure => simp [intOf]; omega
        · have HIQ := Lib.hid (HIP.out (.inr (.inl (by omega))))
          have HMQ : Hid (m.length ≤ k + 1) := by show m.length ≤ k + 1; have := HM.out; omega
          clear HIP HIN HGS HDO
          subst he
          go_wp2_with fail
          refine (on_any B B t w2 HO2.out.dk).mono ?_
          rintro e w4 ⟨rfl, rfl⟩
          cases hon : t.on with
          | false =>
            go_wp2_with fail
            go_roundw
            case rel => exact ⟨k + 1, t, m, by omega, by go_num, HO2, HS2, HIQ, HMQ, HB2⟩
            case measure => simp [intOf]; omega
          | true =>
            have HON := Lib.hid hon
            clear hon c0 c1 c2 c3 c4 c5
            obtain ⟨ml, hml⟩ : ∃ ml, (m).length = ml := ⟨_, rfl⟩
            have hm40 : ml ≤ 41 := by have := HMQ.out; rw [← hml]; omega
            have HML := Lib.hid hml
            clear hml
            go_wp2_with fail
            obtain ⟨wo, rfl⟩ : ∃ wo : World, wo = w2 := ⟨_, rfl⟩
            go_loopw [9] (fun j wi => ∃ q : Nat, q ≤ ml ∧ j = .int .i64 (q : Int) ∧ Hid (Below wo.heap.size wo wi)) (fun j _ => ml - (intOf j).toNat)
            case atStart => exact ⟨0, by omega, rfl, Below.refl _ _⟩
            case round =>
              obtain ⟨q, hq, rfl, HBI⟩ := hrel
              have HOI := Lib.hid (HO2.out.later HBI.out)
              have HSI := Lib.hid (HS2.out.later HBI.out)
              have HBB := Lib.hid (HB2.out.trans (HBI.out.mono (Nat.le_of_lt HSZ2.out)))
              obtain ⟨vn, vb, hs⟩ := HSI.out
              obtain ⟨na, nc, ba, bc, rfl, rfl, n1, b1, n2, b2, d0, d1, hc⟩ := hs.reads
              rw [HML.out] at d0 d1 n1 b1
              by_cases hql : q < ml
              · obtain ⟨y, hy⟩ : ∃ y, (m)[q]? = some y := ⟨_, List.getElem?_eq_getElem (by rw [HML.out]; exact hql)⟩
                obtain ⟨gn, gb, rfl, rfl, q0, q1⟩ := hc q y hy
                obtain ⟨r1, r2, r3⟩ := has_read HOI.out.ok HON.out (HIQ.out y (List.mem_of_getElem? hy))
                have HRD := Lib.hid (fun W hW => read_any B B t y.1 W hW HOI.out.ok)
                rw [r1] at HRD
                have HY := Lib.hid hy
                have HR2 := Lib.hid r2
                have HR3 := Lib.hid r3
                clear hc hs r1 r2 r3 hy
                generalize readOf t y.1 = rd at *
                go_wp2_with fail
                refine (HRD.out _ HOI.out.dk).mono ?_
                rintro e w6 ⟨rfl, b6⟩
                have HBI2 := Lib.hid (HBI.out.trans (b6.mono HBI.out.size))
                obtain ⟨vn6, vb6, hs6⟩ := HSI.out.later b6
                obtain ⟨na6, nc6, ba6, bc6, rfl, rfl, m1, m1', m2, m2', e0, e1, hc6⟩ := hs6.reads
                rw [HML.out] at e0 e1 m1 m1'
                obtain ⟨gn6, gb6, rfl, rfl, p0, p1⟩ := hc6 q y HY.out
                have r2 := HR2.out
                have r3 := HR3.out
                clear b6 hs6 hc6 HY
                obtain ⟨yn, yt⟩ := y
                simp only at *
                go_wp2_with fail
                go_roundw
                case rel => exact ⟨q + 1, by omega, by go_num, HBI2⟩
                case measure => simp [intOf]; omega
              · obtain rfl : q = ml := by omega
                clear hc hs
                go_wp2_with fail
                go_roundw
                case rel => exact ⟨k + 1, t, m, by omega, by go_num, HOI, HSI, HIQ, HMQ, HBB⟩
                case measure => simp [intOf]; omega
      · have HIQ := Lib.hid (HIP.out (.inl he))
        have HMQ : Hid (m.length ≤ k + 1) := by show m.length ≤ k + 1; have := HM.out; omega
        clear HIP HIN HGS HDO
        have heb : (er == 0) = false := by simpa using he
        clear he
        go_wp2_with fail
        refine (on_any B B t w2 HO2.out.dk).mono ?_
        rintro e w4 ⟨rfl, rfl⟩
        cases hon : t.on with
        | false =>
          go_wp2_with fail
          go_roundw
          case rel => exact ⟨k + 1, t, m, by omega, by go_num, HO2, HS2, HIQ, HMQ, HB2⟩
          case measure => simp [intOf]; omega
        | true =>
          have HON := Lib.hid hon
          clear hon c0 c1 c2 c3 c4 c5
          obtain ⟨ml, hml⟩ : ∃ ml, (m).length = ml := ⟨_, rfl⟩
          have hm40 : ml ≤ 41 := by have := HMQ.out; rw [← hml]; omega
          have HML := Lib.hid hml
          clear hml
          go_wp2_with fail
          obtain ⟨wo, rfl⟩ : ∃ wo : World, wo = w2 := ⟨_, rfl⟩
          go_loopw [9] (fun j wi => ∃ q : Nat, q ≤ ml ∧ j = .int .i64 (q : Int) ∧ Hid (Below wo.heap.size wo wi)) (fun j _ => ml - (intOf j).toNat)
          case atStart => exact ⟨0, by omega, rfl, Below.refl _ _⟩
          case round =>
            obtain ⟨q, hq, rfl, HBI⟩ := hrel
            have HOI := Lib.hid (HO2.out.later HBI.out)
            have HSI := Lib.hid (HS2.out.later HBI.out)
            have HBB := Lib.hid (HB2.out.trans (HBI.out.mono (Nat.le_of_lt HSZ2.out)))
            obtain ⟨vn, vb, hs⟩ := HSI.out
            obtain ⟨na, nc, ba, bc, rfl, rfl, n1, b1, n2, b2, d0, d1, hc⟩ := hs.reads
            rw [HML.out] at d0 d1 n1 b1
            by_cases hql : q < ml
            · obtain ⟨y, hy⟩ : ∃ y, (m)[q]? = some y := ⟨_, List.getElem?_eq_getElem (by rw [HML.out]; exact hql)⟩
              obtain ⟨gn, gb, rfl, rfl, q0, q1⟩ := hc q y hy
              obtain ⟨r1, r2, r3⟩ := has_read HOI.out.ok HON.out (HIQ.out y (List.mem_of_getElem? hy))
              have HRD := Lib.hid (fun W hW => read_any B B t y.1 W hW HOI.out.ok)
              rw [r1] at HRD
              have HY := Lib.hid hy
              have HR2 := Lib.hid r2
              have HR3 := Lib.hid r3
              clear hc hs r1 r2 r3 hy
              generalize readOf t y.1 = rd at *
              go_wp2_with fail
              refine (HRD.out _ HOI.out.dk).mono ?_
              rintro e w6 ⟨rfl, b6⟩
              have HBI2 := Lib.hid (HBI.out.trans (b6.mono HBI.out.size))
              obtain ⟨vn6, vb6, hs6⟩ := HSI.out.later b6
              obtain ⟨na6, nc6, ba6, bc6, rfl, rfl, m1, m1', m2, m2', e0, e1, hc6⟩ := hs6.reads
              rw [HML.out] at e0 e1 m1 m1'
              obtain ⟨gn6, gb6, rfl, rfl, p0, p1⟩ := hc6 q y HY.out
              have r2 := HR2.out
              have r3 := HR3.out
              clear b6 hs6 hc6 HY
              obtain ⟨yn, yt⟩ := y
              simp only at *
              go_wp2_with fail
              go_roundw
              case rel => exact ⟨q + 1, by omega, by go_num, HBI2⟩
              case measure => simp [intOf]; omega
            · obtain rfl : q = ml := by omega
              clear hc hs
              go_wp2_with fail
              go_roundw
              case rel => exact ⟨k + 1, t, m, by omega, by go_num, HOI, HSI, HIQ, HMQ, HBB⟩
              case measure => simp [intOf]; omega
    · obtain rfl : k = len := by omega
      go_wp2_with fail
      refine (awake_any wr).mono ?_
      rintro e w9 ⟨rfl, hb⟩
      have HB9 := Lib.hid (HB.out.trans (hb.mono (by have := HB.out.size; have := HBW.out; omega)))
      clear hb
      go_wp2_with fail
      go_ret
      exact ⟨rfl, by rw [← HBW.out]; exact HB9.out⟩
end Go.Proofs.Ytlmhghcoohalaaa.Dk
