/- A lot's records by the document. -/
import Derived.Test.YtafcgknpehphlaaLtTk
namespace Go.Proofs.Ytafcgknpehphlaa.Lt
open Go.RowKit
open Pk (Rd Went Bx But tkN rdNum)
open Cd (Rec Fit may recB zeroR recV recL rdRec)
open Rk (At9 Recs rcs)

set_option maxHeartbeats 6400000 in
set_option maxRecDepth 100000 in
theorem rtake_any (s : ByteArray) (w : World) (hs : s.size ≤ 1099511627776) :
    Calls Try.prog 11 #[.string s] w fun e w' => (∃ v, e = .returned (.tuple #[v, .int .i64 ((takeL s).2 : Nat)]) ∧ Sl w' v (takeL s).1) ∧ Below w.heap.size w w' := by
  obtain ⟨n, s1, e1, hN, hz, hne, hge, hbig, hrest⟩ := take_ways s
  have HRET : Hid (∀ {l : List Rec} {e : Nat} {v : Value} {W : World}, takeL s = (l, e) → Sl W v l → ∃ v', (Ending.returned (.tuple #[v, .int .i64 (e : Nat)]) : Ending) = .returned (.tuple #[v', .int .i64 ((takeL s).2 : Nat)]) ∧ Sl W v' (takeL s).1) := fun h hs => ⟨_, by rw [h], by rw [h]; exact hs⟩
  have NUM := fun W h => Pk.dnum_any w.heap.size s 0 W h hs
  rw [hN] at NUM
  have NUM := Lib.hid NUM
  have HS := Lib.hid hs
  have HZ := Lib.hid hz
  have HNE := Lib.hid hne
  have HBIG := Lib.hid hbig
  have HREST := Lib.hid hrest
  have R0 : Hid (Rd (w.alloc (.cells #[.string s, .int .i64 0] 58)) w.heap.size s 0) := Bx.start w 58 (.string s) (.int .i64 0)
  have B0 := Lib.hid ((Below.refl _ w).alloc (Nat.le_refl _) (.cells #[.string s, .int .i64 0] 58))
  clear hN hs hz hne hbig hrest
  go_enter Try.func11, Try.ntmps11
  go_wp2_with fail
  refine (NUM.out _ R0.out).mono ?_
  rintro e w1 ⟨rfl, hw1⟩
  have R1 : Hid (Rd w1 w.heap.size s1 e1) := hw1.1
  have B1 := Lib.hid (B0.out.trans (hw1.2.below (Nat.le_refl _) B0.out.size))
  clear hw1
  have c1 := R1.out.c1
  by_cases hb : e1 = 0 ∧ 256 < n
  · obtain ⟨rfl, hb2⟩ := hb
    have hg : n > 256 := hb2
    have HT := Lib.hid (HBIG.out ⟨rfl, hb2⟩)
    go_wp2_with fail
    go_ret2
    exact ⟨HRET.out HT.out (Sl.none _), B1.out⟩
  obtain ⟨m, L, S, E, X, rfl, hm, hR, hE⟩ := HREST.out hb
  have T1 : Hid (Tk w w1 w.heap.size (.slice none 0 0) 0 (L 0) (S 0) (E 0)) := by
    have h := Tk.start R1.out B1.out
    rw [← hR.l0, ← hR.s0, ← hR.e0] at h
    exact h
  have RD := fun k W h => Cd.rread_any w.heap.size (S k) (E k) W h (Nat.le_trans (hR.size k) (Nat.le_trans HZ.out HS.out))
  have RD2 : Hid (∀ k W, Rd W w.heap.size (S k) (E k) → Calls Try.prog 28 #[.pointer (some ⟨w.heap.size, 0, none⟩)] W fun en w' => en = .returned (recV (X k)) ∧ Went w.heap.size (S (k + 1), E (k + 1)) W w') := by
    intro k W h
    have := RD k W h
    rw [hR.read k] at this
    exact this
  have HLN := Lib.hid hR.next
  have HLL := Lib.hid hR.len
  have HEN := Lib.hid hE
  clear RD hR hE
  by_cases he0 : e1 = 0
  · subst he0
    have hg : ¬ ((m : Int) > 256) := by omega
    clear hb
    go_wp2_with fail
    clear c1
    go_loopw [6, 7] (fun v iv wr => ∃ k : Nat, k ≤ m ∧ iv = .int .i64 k ∧ ∃ vb, vb = v ∧ Hid (Tk w wr w.heap.size vb k (L k) (S k) (E k))) (fun _ iv _ => m - (intOf iv).toNat)
    case atStart => exact ⟨0, Nat.zero_le _, rfl, _, rfl, T1.out⟩
    case round =>
      obtain ⟨k, hk, rfl, vb, rfl, HT⟩ := hrel
      by_cases hkm : k < m
      · have RDk := Lib.hid (RD2.out k)
        have HL := Lib.hid (HLN.out k)
        obtain ⟨y, hy⟩ : ∃ y, X k = y := ⟨_, rfl⟩
        rw [hy] at RDk HL
        clear hy
        go_wp2_with fail
        refine (RDk.out _ HT.out.rd).mono ?_
        rintro e w2 ⟨rfl, hw2⟩
        obtain ⟨v3, w3, r3, HT3⟩ := HT.out.next hw2 y (by omega) (Nat.le_refl _)
        rw [← HL.out] at HT3
        have HT3 := Lib.hid HT3
        clear hw2 HL
        obtain ⟨y0, y1, y2, y3, y4, y5, y6, y7, y8⟩ := y
        simp only [recV]
        simp only at r3
        go_wp2_with (first | (at_builtin; refine Rk.step_app rfl (.tmp 29) (.tmp 32) rfl rfl rfl rfl r3 ?_) | fail)
        go_roundw
        case rel => exact ⟨k + 1, by omega, by go_num, _, rfl, HT3.out⟩
        case measure => simp [intOf]; omega
      · have hkn : k = m := by omega
        subst hkn
        go_wp2_with fail
        refine (Pk.dend_any w.heap.size (S k) (E k) _ HT.out.rd).mono ?_
        rintro e w2 ⟨rfl, rfl⟩
        obtain ⟨a, cap, hv, HRC, hcap⟩ := own_sl (HLL.out k) HT.out.own
        rw [HLL.out k] at hv HRC hcap
        subst hv
        have HSL := Lib.hid HRC
        have HCAP := Lib.hid hcap
        have HB := Lib.hid HT.out.below
        clear HRC
        by_cases hend : Pk.endE (S k) (E k) = 0
        · have HFIT := Lib.hid (HEN.out.fit hend)
          have HOK := Lib.hid (HEN.out.ok hend)
          have HARG := Lib.hid (HEN.out.arg hend)
          rw [hend]
          clear hend
          have HLK := Lib.hid (HLL.out k)
          generalize L k = l at *
          go_wp2_with fail
          go_loopw [9] (fun iv wr => ∃ j : Nat, j ≤ k ∧ iv = .int .i64 j ∧ Hid (∀ x ∈ l.take j, may x = 0) ∧ Hid (Recs a k l wr) ∧ Hid (Below w.heap.size w wr)) (fun iv _ => k - (intOf iv).toNat)
          case atStart => exact ⟨0, Nat.zero_le _, rfl, (fun x hx => by rw [List.take_zero] at hx; cases hx), HSL.out, HB.out⟩
          case round =>
            obtain ⟨j, hj, rfl, HM, HSL, HB⟩ := hrel
            by_cases hjk : j < k
            · obtain ⟨y, hy⟩ : ∃ y, l[j]? = some y := ⟨_, List.getElem?_eq_getElem (by have := HLK.out; omega)⟩
              obtain ⟨b, off, rfl, hbs, hc⟩ := HSL.out.at_ (by omega)
              have cy := hc j y hy
              have hfy := HFIT.out y (List.mem_of_getElem? hy)
              have MA := fun W => Cd.rmay_any y W hfy.sv hfy.op
              have HM01 := Lib.hid (Cd.may_01 y)
              have HNX : Hid (may y = 0 → ∀ x ∈ l.take (j + 1), may x = 0) := fun h => drop_take hy HM.out h
              have HA1 : Hid (may y = 1 → takeL s = ([], 1)) := fun h => HARG.out ⟨y, List.mem_of_getElem? hy, h⟩
              generalize may y = mm at *
              clear hc hy hfy
              obtain ⟨y0, y1, y2, y3, y4, y5, y6, y7, y8⟩ := y
              simp only [recV] at MA
              have MA := Lib.hid MA
              obtain ⟨c0, c1, c2, c3, c4, c5, c6, c7, c8⟩ := cy
              simp only at c0 c1 c2 c3 c4 c5 c6 c7 c8
              go_wp2_with fail
              refine (MA.out _).mono ?_
              rintro e w3 ⟨rfl, b3⟩
              have HB3 := Lib.hid (HB.out.trans (b3.mono HB.out.size))
              have HSL3 := Lib.hid (HSL.out.later b3)
              clear b3 c0 c1 c2 c3 c4 c5 c6 c7 c8
              rcases HM01.out with rfl | rfl
              · go_wp2_with fail
                go_roundw
                case rel => exact ⟨j + 1, by omega, by go_num, HNX.out (by trivial), HSL3.out, HB3.out⟩
                case measure => simp [intOf]; omega
              · go_wp2_with fail
                go_ret2
                exact ⟨HRET.out (HA1.out (by trivial)) (Sl.none _), HB3.out⟩
            · have hT : Hid (takeL s = (l, 0)) := HOK.out (by have h := HM.out; rw [List.take_of_length_le (by have := HLK.out; omega)] at h; exact h)
              have hSL : Hid (Sl wr (.slice a k cap) l) := ⟨a, cap, by rw [HLK.out], by rw [HLK.out]; exact HSL.out, by rw [HLK.out]; exact HCAP.out⟩
              go_wp2_with fail
              go_ret2
              exact ⟨HRET.out hT.out hSL.out, HB.out⟩
        · have HT2 := Lib.hid (HEN.out.err hend)
          generalize Pk.endE (S k) (E k) = EE at *
          have hq : ((EE : Int) != 0) = true := by simp; omega
          go_wp2_with fail
          go_ret2
          exact ⟨HRET.out HT2.out (Sl.none _), HB.out⟩
  · have hq : ((e1 : Int) == 0) = false := by simp; omega
    clear hb
    go_wp2_with fail
    clear c1
    go_loopw [6, 7] (fun v iv wr => ∃ k : Nat, k ≤ m ∧ iv = .int .i64 k ∧ ∃ vb, vb = v ∧ Hid (Tk w wr w.heap.size vb k (L k) (S k) (E k))) (fun _ iv _ => m - (intOf iv).toNat)
    case atStart => exact ⟨0, Nat.zero_le _, rfl, _, rfl, T1.out⟩
    case round =>
      obtain ⟨k, hk, rfl, vb, rfl, HT⟩ := hrel
      by_cases hkm : k < m
      · have RDk := Lib.hid (RD2.out k)
        have HL := Lib.hid (HLN.out k)
        obtain ⟨y, hy⟩ : ∃ y, X k = y := ⟨_, rfl⟩
        rw [hy] at RDk HL
        clear hy
        go_wp2_with fail
        refine (RDk.out _ HT.out.rd).mono ?_
        rintro e w2 ⟨rfl, hw2⟩
        obtain ⟨v3, w3, r3, HT3⟩ := HT.out.next hw2 y (by omega) (Nat.le_refl _)
        rw [← HL.out] at HT3
        have HT3 := Lib.hid HT3
        clear hw2 HL
        obtain ⟨y0, y1, y2, y3, y4, y5, y6, y7, y8⟩ := y
        simp only [recV]
        simp only at r3
        go_wp2_with (first | (at_builtin; refine Rk.step_app rfl (.tmp 29) (.tmp 32) rfl rfl rfl rfl r3 ?_) | fail)
        go_roundw
        case rel => exact ⟨k + 1, by omega, by go_num, _, rfl, HT3.out⟩
        case measure => simp [intOf]; omega
      · have hkn : k = m := by omega
        subst hkn
        go_wp2_with fail
        refine (Pk.dend_any w.heap.size (S k) (E k) _ HT.out.rd).mono ?_
        rintro e w2 ⟨rfl, rfl⟩
        obtain ⟨a, cap, hv, HRC, hcap⟩ := own_sl (HLL.out k) HT.out.own
        rw [HLL.out k] at hv HRC hcap
        subst hv
        have HSL := Lib.hid HRC
        have HCAP := Lib.hid hcap
        have HB := Lib.hid HT.out.below
        clear HRC
        by_cases hend : Pk.endE (S k) (E k) = 0
        · have HFIT := Lib.hid (HEN.out.fit hend)
          have HOK := Lib.hid (HEN.out.ok hend)
          have HARG := Lib.hid (HEN.out.arg hend)
          rw [hend]
          clear hend
          have HLK := Lib.hid (HLL.out k)
          generalize L k = l at *
          go_wp2_with fail
          go_loopw [9] (fun iv wr => ∃ j : Nat, j ≤ k ∧ iv = .int .i64 j ∧ Hid (∀ x ∈ l.take j, may x = 0) ∧ Hid (Recs a k l wr) ∧ Hid (Below w.heap.size w wr)) (fun iv _ => k - (intOf iv).toNat)
          case atStart => exact ⟨0, Nat.zero_le _, rfl, (fun x hx => by rw [List.take_zero] at hx; cases hx), HSL.out, HB.out⟩
          case round =>
            obtain ⟨j, hj, rfl, HM, HSL, HB⟩ := hrel
            by_cases hjk : j < k
            · obtain ⟨y, hy⟩ : ∃ y, l[j]? = some y := ⟨_, List.getElem?_eq_getElem (by have := HLK.out; omega)⟩
              obtain ⟨b, off, rfl, hbs, hc⟩ := HSL.out.at_ (by omega)
              have cy := hc j y hy
              have hfy := HFIT.out y (List.mem_of_getElem? hy)
              have MA := fun W => Cd.rmay_any y W hfy.sv hfy.op
              have HM01 := Lib.hid (Cd.may_01 y)
              have HNX : Hid (may y = 0 → ∀ x ∈ l.take (j + 1), may x = 0) := fun h => drop_take hy HM.out h
              have HA1 : Hid (may y = 1 → takeL s = ([], 1)) := fun h => HARG.out ⟨y, List.mem_of_getElem? hy, h⟩
              generalize may y = mm at *
              clear hc hy hfy
              obtain ⟨y0, y1, y2, y3, y4, y5, y6, y7, y8⟩ := y
              simp only [recV] at MA
              have MA := Lib.hid MA
              obtain ⟨c0, c1, c2, c3, c4, c5, c6, c7, c8⟩ := cy
              simp only at c0 c1 c2 c3 c4 c5 c6 c7 c8
              go_wp2_with fail
              refine (MA.out _).mono ?_
              rintro e w3 ⟨rfl, b3⟩
              have HB3 := Lib.hid (HB.out.trans (b3.mono HB.out.size))
              have HSL3 := Lib.hid (HSL.out.later b3)
              clear b3 c0 c1 c2 c3 c4 c5 c6 c7 c8
              rcases HM01.out with rfl | rfl
              · go_wp2_with fail
                go_roundw
                case rel => exact ⟨j + 1, by omega, by go_num, HNX.out (by trivial), HSL3.out, HB3.out⟩
                case measure => simp [intOf]; omega
              · go_wp2_with fail
                go_ret2
                exact ⟨HRET.out (HA1.out (by trivial)) (Sl.none _), HB3.out⟩
            · have hT : Hid (takeL s = (l, 0)) := HOK.out (by have h := HM.out; rw [List.take_of_length_le (by have := HLK.out; omega)] at h; exact h)
              have hSL : Hid (Sl wr (.slice a k cap) l) := ⟨a, cap, by rw [HLK.out], by rw [HLK.out]; exact HSL.out, by rw [HLK.out]; exact HCAP.out⟩
              go_wp2_with fail
              go_ret2
              exact ⟨HRET.out hT.out hSL.out, HB.out⟩
        · have HT2 := Lib.hid (HEN.out.err hend)
          generalize Pk.endE (S k) (E k) = EE at *
          have hq : ((EE : Int) != 0) = true := by simp; omega
          go_wp2_with fail
          go_ret2
          exact ⟨HRET.out HT2.out (Sl.none _), HB.out⟩
end Go.Proofs.Ytafcgknpehphlaa.Lt
