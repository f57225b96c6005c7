/- The disk's calls that change it: Append, Sync, Rename, Remove, Cut, Up. -/
import Derived.Test.YtlmhghcoohalaaaDkPut
import Derived.Test.YtlmhghcoohalaaaDkTell
import Derived.Test.YtlmhghcoohalaaaDkName
namespace Go.Proofs.Ytlmhghcoohalaaa.Dk
open Go.RowKit

theorem str_bs (t : ByteArray) : Lib.strCells t = bs t.data.toList := rfl

/-- bytes behind a row: the row's own block, or a new one -/
theorem append_str (base n : Nat) (v : Value) (xs : List Value) (t : ByteArray) (w : World) (hown : w.ownsRow base 5 1 v n xs) (hl : n + t.size ≤ 70368744177664) (hbw : base ≤ w.heap.size) (ty : TypeId) :
    ∃ v' w', (Builtin.append_ #[65, 9] ty #[v, .string t]).run Try.prog w = .ok v' w' ∧ w'.ownsRow base 5 1 v' (n + t.size) (xs ++ Lib.strCells t) ∧ w.grownBy w' v.ownBlock ∧
      ∀ k, v'.ownBlock = some k → v.ownBlock = some k ∨ w.heap.size ≤ k := by
  obtain ⟨i0, hi0, hz0, hzs, hzb⟩ := info_parts info8
  obtain ⟨v', w', hr, h1, h2, h3⟩ := Lib.run_append_own_string (P := Try.prog) w base 65 9 ty 5 i0 Try.underlying65 Try.underlying9 hi0 hz0 hzs hzb v n xs hown t (by unfold maxLen; omega) (by omega) hbw
  refine ⟨v', w', hr, h1, h2, fun k hk => ?_⟩
  have hxl : xs.length = n := by have := hown.1; omega
  rcases hown.2 with ⟨rfl, rfl⟩ | ⟨g, cap, cur, rfl, hbg, hg, hnc, hcm, hcs, htake⟩
  · by_cases hm : t.size = 0
    · rw [h3.2 ⟨rfl, hm⟩] at hk; simp [Value.ownBlock] at hk
    · have hr' := run_append_nil_string (P := Try.prog) w 65 9 ty 5 i0 (.int .u8 0) Try.underlying65 Try.underlying9 hi0 hz0 t (by omega) (by omega) (by rw [hzb]; omega)
      rw [hr'] at hr
      injection hr with hr _
      subst hr
      simp [Value.ownBlock] at hk
      exact .inr (by omega)
  · by_cases hroom : n + t.size ≤ cap
    · have hr' := Lib.run_append_room_string (P := Try.prog) w 65 9 ty 5 i0 Try.underlying65 Try.underlying9 hi0 hzs g n cap cur hg t hroom (by omega)
      rw [hr'] at hr
      injection hr with hr _
      subst hr
      exact .inl hk
    · have hr' := Lib.run_append_grow_string (P := Try.prog) w 65 9 ty 5 i0 (.int .u8 0) Try.underlying65 Try.underlying9 hi0 hz0 ⟨g, 0, none⟩ n cap xs (by rw [hzs]; omega) (hown.cells (g := g) rfl) t (by omega) (by omega) (by rw [hzb]; exact growslice_fits (by omega) (by omega))
      rw [hr'] at hr
      injection hr with hr _
      subst hr
      simp [Value.ownBlock] at hk
      exact .inr (by omega)

/-- what a disk must not reach, so that no number wraps -/
structure Lim (s : St) : Prop where
  ops : s.ops ≤ 4611686018427387904
  used : used s.fs ≤ 17592186044416

/-- a call that changes the disk -/
def Does (base B : Nat) (w : World) (r : St × Int) (e : Ending) (w' : World) : Prop := e = .returned (.int .i64 r.2) ∧ Dk base w' B r.1 ∧ Kp base B TS w w'

theorem goes_some (s : St) : (goes s = false) ∨ goes s = true := by cases goes s <;> simp

set_option maxHeartbeats 800000 in
theorem sync_any (base B : Nat) (s : St) (n : ByteArray) (w : World) (h : Dk base w B s) (ho : Ok s) (hl : Lim s) :
    Calls Try.prog 24 #[.pointer (some ⟨B, 0, none⟩), .string n] w (Does base B w (sync s n)) := by
  have HL := Lib.hid (look_any base B s n w h ho)
  have HD := Lib.hid h
  have HO := Lib.hid ho
  have HLIM := Lib.hid hl
  clear h ho hl
  by_cases hz : look s n = 0
  · have HA : Hid (lookAt s n = pos s.fs n) := by show lookAt s n = _; simp [lookAt, hz]
    have hh := look_has hz
    rcases goes_some s with hg | hg
    · have HR : Hid (sync s n = (begun s, 9)) := by show _ = _; unfold sync; simp [hz, hg]
      rw [HR.out]
      rw [hz, HA.out] at HL
      clear hz hh
      go_enter Try.func24, Try.ntmps24
      go_wp2_with fail
      refine HL.out.mono ?_
      rintro e w1 ⟨rfl, hb⟩
      obtain ⟨v, L, h1⟩ := HD.out.later hb
      have HB := Lib.hid hb
      have HBE := Lib.hid (begin_at base B s v L w1 h1 HLIM.out.ops HO.out.fuse0 HO.out.fuse1)
      rw [hg] at HBE
      clear hb h1 hg
      go_wp2_with fail
      refine HBE.out.mono ?_
      rintro e w2 ⟨rfl, h2, k2⟩
      have H2 : Hid (Dk base w2 B (begun s) ∧ Kp base B TS w w2) := ⟨⟨_, _, h2⟩, (Kp.of_below HB.out).trans (k2.mono (by simp))⟩
      clear h2 k2
      go_wp2_with fail
      go_ret
      exact ⟨rfl, H2.out.1, H2.out.2⟩
    · have HR : Hid (sync s n = (begun { s with fs := s.fs.set (pos s.fs n) (setF (at_ s.fs (pos s.fs n))) }, 0)) := by show _ = _; unfold sync; simp [hz, hg]
      rw [HR.out]
      rw [hz, HA.out] at HL
      clear hz
      go_enter Try.func24, Try.ntmps24
      go_wp2_with fail
      refine HL.out.mono ?_
      rintro e w1 ⟨rfl, hb⟩
      obtain ⟨v, L, h1⟩ := HD.out.later hb
      have HB := Lib.hid hb
      have HBE := Lib.hid (begin_at base B s v L w1 h1 HLIM.out.ops HO.out.fuse0 HO.out.fuse1)
      rw [hg] at HBE
      clear hb h1 hg
      go_wp2_with fail
      refine HBE.out.mono ?_
      rintro e w2 ⟨rfl, h2, k2⟩
      have HB2 := Lib.hid ((Kp.of_below HB.out).trans (k2.mono (ts' := TS) (by simp)))
      have hh2 : has (begun s).fs n = true := by rw [begun_fs]; exact hh.2
      obtain ⟨e, he, hef, _⟩ := En.here h2 HO.out.begun hh2
      obtain ⟨g, cap, rfl, hlt, c3, cg, _, _, _⟩ := En.reads h2 he
      rw [begun_fs] at he hef hlt cg
      have hlt' : ((pos s.fs n : Nat) : Int) < (L.length : Int) := by omega
      have HST := Lib.hid (settle_at base B (pos s.fs n) (begun s) _ L e w2 h2 he)
      rw [hef] at HST
      have HE := Lib.hid (begun_set s (s.fs.set (pos s.fs n) (setF (at_ s.fs (pos s.fs n)))))
      rw [begun_fs] at HST
      clear h2 k2 he hef hh hh2
      generalize pos s.fs n = p at *
      generalize L.length = len at *
      go_wp2_with fail
      refine HST.out.mono ?_
      rintro r w3 ⟨rfl, ⟨L3, h3⟩, k3⟩
      have H3 : Hid (Dk base w3 B (begun { s with fs := s.fs.set p (setF (at_ s.fs p)) }) ∧ Kp base B TS w w3) := ⟨⟨_, _, by rw [HE.out]; exact h3⟩, HB2.out.trans k3⟩
      clear h3 k3
      go_wp2_with fail
      go_ret
      exact ⟨rfl, H3.out.1, H3.out.2⟩
  · have HR : Hid (sync s n = (s, look s n)) := by show _ = _; unfold sync; simp [hz]
    rw [HR.out]
    have hne : (look s n != 0) = true := by simpa using hz
    clear hz
    go_enter Try.func24, Try.ntmps24
    go_wp2_with fail
    refine HL.out.mono ?_
    rintro e w1 ⟨rfl, hb⟩
    have H1 : Hid (Dk base w1 B s ∧ Kp base B TS w w1) := ⟨HD.out.later hb, Kp.of_below hb⟩
    clear hb
    go_wp2_with fail
    go_ret
    exact ⟨rfl, H1.out.1, H1.out.2⟩
end Go.Proofs.Ytlmhghcoohalaaa.Dk
