/- The disk's calls that change it: Remove and Cut. -/
import Derived.Test.YtlmhghcoohalaaaDkOps
namespace Go.Proofs.Ytlmhghcoohalaaa.Dk
open Go.RowKit

set_option maxHeartbeats 800000 in
theorem rem_any (base B : Nat) (s : St) (n : ByteArray) (w : World) (h : Dk base w B s) (ho : Ok s) (hl : Lim s) :
    Calls Try.prog 26 #[.pointer (some ⟨B, 0, none⟩), .string n] w (Does base B w (rem s n)) := by
  have HL := Lib.hid (look_any base B s n w h ho)
  have HD := Lib.hid h
  have HO := Lib.hid ho
  have HLIM := Lib.hid hl
  clear h ho hl
  by_cases hz : look s n = 0
  · have HA : Hid (lookAt s n = pos s.fs n) := by show lookAt s n = _; simp [lookAt, hz]
    have hh := look_has hz
    rcases goes_some s with hg | hg
    · have HR : Hid (rem s n = (begun s, 9)) := by show _ = _; unfold rem; simp [hz, hg]
      rw [HR.out]
      rw [hz, HA.out] at HL
      clear hz hh
      go_enter Try.func26, Try.ntmps26
      go_wp2_with fail
      refine HL.out.mono ?_
      rintro e w1 ⟨rfl, hb⟩
      obtain ⟨v, L, h1⟩ := HD.out.later hb
      have HB := Lib.hid hb
      have HBE := Lib.hid (begin_at base B s v L w1 h1 HLIM.out.ops HO.out.fuse0 HO.out.fuse1)
      rw [hg] at HBE
      clear hb h1 hg
      go_wp2_with fail
      refine HBE.out.mono ?_
      rintro e w2 ⟨rfl, h2, k2⟩
      have H2 : Hid (Dk base w2 B (begun s) ∧ Kp base B TS w w2) := ⟨⟨_, _, h2⟩, (Kp.of_below HB.out).trans (k2.mono (by simp))⟩
      clear h2 k2
      go_wp2_with fail
      go_ret
      exact ⟨rfl, H2.out.1, H2.out.2⟩
    · have HR : Hid (rem s n = (begun { s with fs := del s.fs (pos s.fs n) }, 0)) := by show _ = _; unfold rem; simp [hz, hg]
      rw [HR.out]
      rw [hz, HA.out] at HL
      clear hz
      go_enter Try.func26, Try.ntmps26
      go_wp2_with fail
      refine HL.out.mono ?_
      rintro e w1 ⟨rfl, hb⟩
      obtain ⟨v, L, h1⟩ := HD.out.later hb
      have HB := Lib.hid hb
      have HBE := Lib.hid (begin_at base B s v L w1 h1 HLIM.out.ops HO.out.fuse0 HO.out.fuse1)
      rw [hg] at HBE
      clear hb h1 hg
      go_wp2_with fail
      refine HBE.out.mono ?_
      rintro e w2 ⟨rfl, h2, k2⟩
      have HB2 := Lib.hid ((Kp.of_below HB.out).trans (k2.mono (ts' := TS) (by simp)))
      have hh2 : has (begun s).fs n = true := by rw [begun_fs]; exact hh.2
      obtain ⟨e, he, hef, _⟩ := En.here h2 HO.out.begun hh2
      have hlen : L.length ≤ 1000000 := by have := HO.out.begun.few; rw [h2.fs, List.length_map] at this; omega
      rw [begun_fs] at he
      have HST := Lib.hid (remove_at base B (pos s.fs n) (begun s) _ L e w2 h2 he hlen)
      have HE := Lib.hid (begun_set s (del s.fs (pos s.fs n)))
      rw [begun_fs] at HST
      clear h2 k2 he hef hh hh2 hlen
      generalize pos s.fs n = p at *
      go_wp2_with fail
      refine HST.out.mono ?_
      rintro r w3 ⟨rfl, ⟨v3, L3, h3, _⟩, k3⟩
      have H3 : Hid (Dk base w3 B (begun { s with fs := del s.fs p }) ∧ Kp base B TS w w3) := ⟨⟨_, _, by rw [HE.out]; exact h3⟩, HB2.out.trans (k3.mono (by simp))⟩
      clear h3 k3
      go_wp2_with fail
      go_ret
      exact ⟨rfl, H3.out.1, H3.out.2⟩
  · have HR : Hid (rem s n = (s, look s n)) := by show _ = _; unfold rem; simp [hz]
    rw [HR.out]
    have hne : (look s n != 0) = true := by simpa using hz
    clear hz
    go_enter Try.func26, Try.ntmps26
    go_wp2_with fail
    refine HL.out.mono ?_
    rintro e w1 ⟨rfl, hb⟩
    have H1 : Hid (Dk base w1 B s ∧ Kp base B TS w w1) := ⟨HD.out.later hb, Kp.of_below hb⟩
    clear hb
    go_wp2_with fail
    go_ret
    exact ⟨rfl, H1.out.1, H1.out.2⟩

set_option maxHeartbeats 1600000 in
theorem cut_any (base B : Nat) (s : St) (n : ByteArray) (k : Int) (w : World) (h : Dk base w B s) (ho : Ok s) (hl : Lim s) :
    Calls Try.prog 29 #[.pointer (some ⟨B, 0, none⟩), .string n, .int .i64 k] w (Does base B w (cut s n k)) := by
  have HL := Lib.hid (look_any base B s n w h ho)
  have HD := Lib.hid h
  have HO := Lib.hid ho
  have HLIM := Lib.hid hl
  clear h ho hl
  by_cases hz : look s n = 0
  · have HA : Hid (lookAt s n = pos s.fs n) := by show lookAt s n = _; simp [lookAt, hz]
    have hh := look_has hz
    have hin := at_has HO.out.sorted hh.2
    have hlb : (at_ s.fs (pos s.fs n)).bs.length ≤ 17592186044416 := Nat.le_trans (used_mem (List.mem_of_getElem? hin.1)) HLIM.out.used
    by_cases hr : k < 0 ∨ ((at_ s.fs (pos s.fs n)).bs.length : Int) < k
    · have HR : Hid (cut s n k = (s, 11)) := by show _ = _; unfold cut; simp [hz, hr]
      rw [HR.out]
      rw [hz, HA.out] at HL
      clear hz
      go_enter Try.func29, Try.ntmps29
      go_wp2_with fail
      refine HL.out.mono ?_
      rintro e w1 ⟨rfl, hb⟩
      obtain ⟨v, L, h1⟩ := HD.out.later hb
      have H1 : Hid (Dk base w1 B s ∧ Kp base B TS w w1) := ⟨HD.out.later hb, Kp.of_below hb⟩
      obtain ⟨e, he, hef, _⟩ := En.here h1 HO.out hh.2
      obtain ⟨g, cap, rfl, hlt, c3, cg, _, c1, _⟩ := En.reads h1 he
      have hlt' : ((pos s.fs n : Nat) : Int) < (L.length : Int) := by omega
      obtain ⟨a2, cap2, hv, _⟩ := row_slice (h1.all e (List.mem_of_getElem? he)).2.2
      rw [hv, hef] at c1
      clear hb h1 he hef hv hh hin
      generalize (at_ s.fs (pos s.fs n)).bs.length = m at *
      generalize pos s.fs n = p at *
      generalize L.length = len at *
      by_cases hk : k < 0
      · clear hr
        go_wp2_with fail
        go_ret
        exact ⟨rfl, H1.out.1, H1.out.2⟩
      · have hk2 : (m : Int) < k := by omega
        clear hr
        go_wp2_with fail
        go_ret
        exact ⟨rfl, H1.out.1, H1.out.2⟩
    · have hk0 : 0 ≤ k := by omega
      have hk1 : k ≤ ((at_ s.fs (pos s.fs n)).bs.length : Int) := by omega
      rcases goes_some s with hg | hg
      · have HR : Hid (cut s n k = (begun s, 9)) := by show _ = _; unfold cut; simp [hz, hg]; omega
        rw [HR.out]
        rw [hz, HA.out] at HL
        clear hz
        go_enter Try.func29, Try.ntmps29
        go_wp2_with fail
        refine HL.out.mono ?_
        rintro e w1 ⟨rfl, hb⟩
        obtain ⟨v, L, h1⟩ := HD.out.later hb
        have HB := Lib.hid hb
        have HBE := Lib.hid (begin_at base B s v L w1 h1 HLIM.out.ops HO.out.fuse0 HO.out.fuse1)
        rw [hg] at HBE
        obtain ⟨e, he, hef, _⟩ := En.here h1 HO.out hh.2
        obtain ⟨g, cap, rfl, hlt, c3, cg, _, c1, _⟩ := En.reads h1 he
        have hlt' : ((pos s.fs n : Nat) : Int) < (L.length : Int) := by omega
        obtain ⟨a2, cap2, hv, _⟩ := row_slice (h1.all e (List.mem_of_getElem? he)).2.2
        rw [hv, hef] at c1
        clear hb h1 he hef hv hh hg hin hr
        generalize (at_ s.fs (pos s.fs n)).bs.length = m at *
        generalize pos s.fs n = p at *
        generalize L.length = len at *
        go_wp2_with fail
        refine HBE.out.mono ?_
        rintro e w2 ⟨rfl, h2, k2⟩
        have H2 : Hid (Dk base w2 B (begun s) ∧ Kp base B TS w w2) := ⟨⟨_, _, h2⟩, (Kp.of_below HB.out).trans (k2.mono (by simp))⟩
        clear h2 k2
        go_wp2_with fail
        go_ret
        exact ⟨rfl, H2.out.1, H2.out.2⟩
      · have HR : Hid (cut s n k = (begun { s with fs := s.fs.set (pos s.fs n) (cutF (at_ s.fs (pos s.fs n)) k.toNat) }, 0)) := by show _ = _; unfold cut; simp [hz, hg]; omega
        rw [HR.out]
        rw [hz, HA.out] at HL
        clear hz
        go_enter Try.func29, Try.ntmps29
        go_wp2_with fail
        refine HL.out.mono ?_
        rintro e w1 ⟨rfl, hb⟩
        obtain ⟨v, L, h1⟩ := HD.out.later hb
        have HB := Lib.hid hb
        have HBE := Lib.hid (begin_at base B s v L w1 h1 HLIM.out.ops HO.out.fuse0 HO.out.fuse1)
        rw [hg] at HBE
        obtain ⟨e, he, hef, _⟩ := En.here h1 HO.out hh.2
        obtain ⟨g, cap, rfl, hlt, c3, cg, _, c1, _⟩ := En.reads h1 he
        have hlt' : ((pos s.fs n : Nat) : Int) < (L.length : Int) := by omega
        obtain ⟨a2, cap2, hv, _⟩ := row_slice (h1.all e (List.mem_of_getElem? he)).2.2
        rw [hv, hef] at c1
        have HE1 := Lib.hid he
        have HEF := Lib.hid hef
        have HLEN : Hid (e.f.bs.length = (at_ s.fs (pos s.fs n)).bs.length) := by show _ = _; rw [hef]
        have HE := Lib.hid (begun_set s (s.fs.set (pos s.fs n) (cutF (at_ s.fs (pos s.fs n)) k.toNat)))
        clear hb h1 he hef hv hh hg hin hr
        obtain ⟨m, hm⟩ : ∃ m, (at_ s.fs (pos s.fs n)).bs.length = m := ⟨_, rfl⟩
        rw [hm] at c1 hk1 hlb HLEN
        clear hm
        generalize at_ s.fs (pos s.fs n) = x at *
        generalize pos s.fs n = p at *
        go_wp2_with fail
        refine HBE.out.mono ?_
        rintro r w2 ⟨rfl, h2, k2⟩
        have HB2 := Lib.hid ((Kp.of_below HB.out).trans (k2.mono (ts' := TS) (by simp)))
        obtain ⟨g', cap', hv', _, d3, dg, _, _, _⟩ := En.reads h2 HE1.out
        injection hv' with q1 q2 q3
        injection q1 with q1
        injection q1 with q1
        subst q1 q3
        have hbw : base ≤ w2.heap.size := by have := h2.ge; have := lt_of_block h2.blk; omega
        have HST := Lib.hid (cut_at base B p (begun s) _ L e k w2 h2 HE1.out hk0 (by rw [HLEN.out]; exact hk1) (by rw [HLEN.out]; omega) hbw)
        rw [HEF.out, begun_fs] at HST
        clear h2 k2 hbw q2
        generalize L.length = len at *
        go_wp2_with fail
        refine HST.out.mono ?_
        rintro r w3 ⟨rfl, ⟨L3, h3⟩, k3⟩
        have H3 : Hid (Dk base w3 B (begun { s with fs := s.fs.set p (cutF x k.toNat) }) ∧ Kp base B TS w w3) := ⟨⟨_, _, by rw [HE.out]; exact h3⟩, HB2.out.trans k3⟩
        clear h3 k3
        go_wp2_with fail
        go_ret
        exact ⟨rfl, H3.out.1, H3.out.2⟩
  · have HR : Hid (cut s n k = (s, look s n)) := by show _ = _; unfold cut; simp [hz]
    rw [HR.out]
    have hne : (look s n != 0) = true := by simpa using hz
    clear hz
    go_enter Try.func29, Try.ntmps29
    go_wp2_with fail
    refine HL.out.mono ?_
    rintro e w1 ⟨rfl, hb⟩
    have H1 : Hid (Dk base w1 B s ∧ Kp base B TS w w1) := ⟨HD.out.later hb, Kp.of_below hb⟩
    clear hb
    go_wp2_with fail
    go_ret
    exact ⟨rfl, H1.out.1, H1.out.2⟩
end Go.Proofs.Ytlmhghcoohalaaa.Dk
