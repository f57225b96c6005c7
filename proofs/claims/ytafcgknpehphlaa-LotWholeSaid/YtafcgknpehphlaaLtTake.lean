/- A lot's records by the program. -/
import Derived.Test.YtafcgknpehphlaaLtMay
import Derived.Test.YtafcgknpehphlaaCdRead
namespace Go.Proofs.Ytafcgknpehphlaa.Lt
open Go.RowKit
open Pk (Rd Went Bx But tkN rdNum)
open Cd (Rec Fit may recB zeroR recV recL rdRec rdAll Blk)
open Rk (At9 Recs rcs)

/-- an error stays -/
theorem num_stick (t : Int × Nat × Nat) (s : ByteArray) {e : Nat} (h : e ≠ 0) : (rdNum t s e).2.2 = e := by unfold rdNum; rw [if_neg h]
theorem text_stick (m : Int) (s : ByteArray) {e : Nat} (h : e ≠ 0) : (Pk.rdText m s e).2.2 = e := by unfold Pk.rdText; rw [if_neg h]
theorem flag_stick (s : ByteArray) {e : Nat} (h : e ≠ 0) : (Pk.rdFlag s e).2.2 = e := by unfold Pk.rdFlag; rw [if_neg h]
theorem rec_stick (s : ByteArray) {e : Nat} (h : e ≠ 0) : (rdRec s e).2.2 = e := by
  obtain ⟨x, s1, e1, s2, e2, s3, e3, s4, e4, s5, e5, s6, e6, s7, e7, s8, e8, s9, e9, W, hW⟩ := Cd.way s e
  have g1 : e1 = e := by have := num_stick (tkN s) s h; rw [W.a0] at this; exact this
  have g2 : e2 = e := by have := num_stick (tkN s1) s1 (e := e1) (by omega); rw [W.a1] at this; exact Eq.trans this g1
  have g3 : e3 = e := by have := num_stick (tkN s2) s2 (e := e2) (by omega); rw [W.a2] at this; exact Eq.trans this g2
  have g4 : e4 = e := by have := num_stick (tkN s3) s3 (e := e3) (by omega); rw [W.a3] at this; exact Eq.trans this g3
  have g5 : e5 = e := by have := text_stick 24 s4 (e := e4) (by omega); rw [W.a4] at this; exact Eq.trans this g4
  have g6 : e6 = e := by have := text_stick 24 s5 (e := e5) (by omega); rw [W.a5] at this; exact Eq.trans this g5
  have g7 : e7 = e := by have := num_stick (Pk.tkS s6) s6 (e := e6) (by omega); rw [W.a6] at this; exact Eq.trans this g6
  have g8 : e8 = e := by have := num_stick (Pk.tkS s7) s7 (e := e7) (by omega); rw [W.a7] at this; exact Eq.trans this g7
  have g9 : e9 = e := by have := flag_stick s8 (e := e8) (by omega); rw [W.a8] at this; exact Eq.trans this g8
  rw [Cd.rdRec_bad hW (by omega)]
  exact g9
theorem err_stick {s1 : ByteArray} {e1 : Nat} {L : Nat → List Rec} {S : Nat → ByteArray} {E : Nat → Nat} {X : Nat → Rec} (hR : Rounds s1 e1 L S E X) {j : Nat} (hj : E j ≠ 0) : ∀ d, E (j + d) = E j
  | 0 => rfl
  | d + 1 => by
    have h1 := err_stick hR hj d
    have h2 := rec_stick (S (j + d)) (e := E (j + d)) (by rw [h1]; exact hj)
    rw [hR.read] at h2
    exact Eq.trans h2 h1

set_option maxHeartbeats 3200000 in
set_option maxRecDepth 100000 in
theorem read_lot (w0 : World) (R : Nat) {s1 : ByteArray} {e1 : Nat} {L : Nat → List Rec} {S : Nat → ByteArray} {E : Nat → Nat} {X : Nat → Rec} (hR : Rounds s1 e1 L S E X) (hs : s1.size ≤ 1099511627776) (m : Nat) (hm : m ≤ 256) (hw0 : w0.heap.size ≤ R) (w : World) (hT : Tk w0 w R (.slice none 0 0) 0 (L 0) (S 0) (E 0)) :
    Calls Try.prog 25 #[.pointer (some ⟨R, 0, none⟩), .int .i64 m] w fun en w' => ∃ v, en = .returned v ∧ ((∃ j, j ≤ m ∧ E j ≠ 0 ∧ v = .slice none 0 0 ∧ Rd w' R (S j) (E j) ∧ Below w0.heap.size w0 w') ∨ Tk w0 w' R v m (L m) (S m) (E m)) := by
  have T1 := Lib.hid hT
  have RD := fun k W h => Cd.read_any R (S k) (E k) W h (Nat.le_trans (hR.size k) hs)
  have RD2 : Hid (∀ k W, Rd W R (S k) (E k) → Calls Try.prog 45 #[.pointer (some ⟨R, 0, none⟩)] W fun en w' => en = .returned (recV (X k)) ∧ Went R (S (k + 1), E (k + 1)) W w') := by
    intro k W h
    have := RD k W h
    rw [hR.read k] at this
    exact this
  have HLN := Lib.hid hR.next
  have HW0 := Lib.hid hw0
  clear RD hR hT hs hw0
  go_enter Try.func25, Try.ntmps25
  go_wp2_with fail
  go_loopw [5, 8] (fun v iv wr => ∃ k : Nat, k ≤ m ∧ iv = .int .i64 k ∧ ∃ vb, vb = v ∧ Hid (Tk w0 wr R vb k (L k) (S k) (E k))) (fun _ iv _ => m - (intOf iv).toNat)
  case atStart => exact ⟨0, Nat.zero_le _, rfl, _, rfl, T1.out⟩
  case round =>
    obtain ⟨k, hk, rfl, vb, rfl, HT⟩ := hrel
    by_cases hkm : k < m
    · have RDk := Lib.hid (RD2.out k)
      have HL := Lib.hid (HLN.out k)
      obtain ⟨y, hy⟩ : ∃ y, X k = y := ⟨_, rfl⟩
      rw [hy] at RDk HL
      clear hy
      go_wp2_with fail
      refine (RDk.out _ HT.out.rd).mono ?_
      rintro e w2 ⟨rfl, hw2⟩
      have hwn : Went R (S (k + 1), E (k + 1)) wr (w2.alloc (.cells ⟨recL y⟩ 39)) := ⟨hw2.1.later ((Below.refl _ _).alloc (Nat.le_refl _) _), hw2.2.alloc _⟩
      have HK3 := Lib.hid (Blk.start w2 39 (recL y))
      obtain ⟨E1, hE1⟩ : ∃ E1, E (k + 1) = E1 := ⟨_, rfl⟩
      have RD3 : Hid (Rd (w2.alloc (.cells ⟨recL y⟩ 39)) R (S (k + 1)) E1) := by rw [← hE1]; exact hwn.1
      have HB3 : Hid (Below w0.heap.size w0 (w2.alloc (.cells ⟨recL y⟩ 39))) := HT.out.below.trans (hwn.2.below HW0.out HT.out.below.size)
      obtain ⟨v4, w4, r4, HT4⟩ := HT.out.next hwn y (by omega) HW0.out
      rw [← HL.out] at HT4
      have HT4 := Lib.hid HT4
      clear hw2 hwn HL RDk
      obtain ⟨y0, y1, y2, y3, y4, y5, y6, y7, y8⟩ := y
      simp only [recV]
      simp only at r4
      generalize hX : w2.heap.size = X2 at HK3
      obtain ⟨c0, c1, c2, c3, c4, c5, c6, c7, c8⟩ := HK3.out.nine
      go_wp2_with fail
      clear HK3
      have hW3 : w2.alloc (.cells #[.int .i64 y0, .int .i64 y1, .int .i64 y2, .int .i64 y3, .string y4, .string y5, .int .i64 y6, .int .i64 y7, .bool y8] 39) = w2.alloc (.cells ⟨recL ⟨y0, y1, y2, y3, y4, y5, y6, y7, y8⟩⟩ 39) := rfl
      generalize w2.alloc (.cells ⟨recL ⟨y0, y1, y2, y3, y4, y5, y6, y7, y8⟩⟩ 39) = W3 at *
      rw [hW3]
      clear hW3 hX
      refine (Pk.err_any R _ _ _ RD3.out).mono ?_
      rintro e w3 ⟨rfl, rfl⟩
      by_cases he : E1 = 0
      · subst he
        go_wp2_with (first | (at_builtin; refine Rk.step_app rfl (.tmp 15) (.tmp 17) rfl rfl rfl rfl r4 ?_) | fail)
        go_roundw
        case rel => exact ⟨k + 1, by omega, by go_num, _, rfl, HT4.out⟩
        case measure => simp [intOf]; omega
      · have hq : ((E1 : Int) != 0) = true := by simp; omega
        clear r4
        go_wp2_with fail
        go_ret
        exact ⟨_, rfl, .inl ⟨k + 1, by omega, by rw [hE1]; exact he, rfl, by rw [hE1]; exact RD3.out, HB3.out⟩⟩
    · have hkn : k = m := by omega
      subst hkn
      go_wp2_with fail
      go_ret
      exact ⟨_, rfl, .inr HT.out⟩

set_option maxHeartbeats 6400000 in
set_option maxRecDepth 100000 in
theorem take_any (s : ByteArray) (w : World) (hs : s.size ≤ 1099511627776) :
    Calls Try.prog 10 #[.string s] w fun e w' => (∃ v, e = .returned (.tuple #[v, .int .i64 ((takeL s).2 : Nat)]) ∧ Sl w' v (takeL s).1) ∧ Below w.heap.size w w' := by
  obtain ⟨n, s1, e1, hN, hz, hne, hge, hbig, hrest⟩ := take_ways s
  have HRET : Hid (∀ {l : List Rec} {e : Nat} {v : Value} {W : World}, takeL s = (l, e) → Sl W v l → ∃ v', (Ending.returned (.tuple #[v, .int .i64 (e : Nat)]) : Ending) = .returned (.tuple #[v', .int .i64 ((takeL s).2 : Nat)]) ∧ Sl W v' (takeL s).1) := fun h hs => ⟨_, by rw [h], by rw [h]; exact hs⟩
  have NUM := fun W h => Pk.rnum_any w.heap.size s 0 W h hs
  rw [hN] at NUM
  have NUM := Lib.hid NUM
  have HS := Lib.hid hs
  have HZ := Lib.hid hz
  have HNE := Lib.hid hne
  have HBIG := Lib.hid hbig
  have HREST := Lib.hid hrest
  clear hN hs hz hne hbig hrest
  go_enter Try.func10, Try.ntmps10
  go_wp2_with fail
  refine (Pk.new_any s w).mono ?_
  rintro e w0 ⟨rfl, h0, b0, _⟩
  have R0 := Lib.hid h0
  have B0 := Lib.hid b0
  clear h0 b0
  go_wp2_with fail
  refine (NUM.out _ R0.out).mono ?_
  rintro e w1 ⟨rfl, hw1⟩
  have R1 : Hid (Rd w1 w.heap.size s1 e1) := hw1.1
  have B1 := Lib.hid (B0.out.trans (hw1.2.below (Nat.le_refl _) B0.out.size))
  clear hw1
  by_cases hg : n > 256
  · have he : e1 = 0 := by
      by_cases h : e1 = 0
      · exact h
      · have := HNE.out h; omega
    have HT := Lib.hid (HBIG.out ⟨he, hg⟩)
    clear he
    go_wp2_with fail
    go_ret2
    exact ⟨HRET.out HT.out (Sl.none _), B1.out⟩
  obtain ⟨m, L, S, E, X, rfl, hm, hR, hE⟩ := HREST.out (fun h => hg h.2)
  have T1 : Hid (Tk w w1 w.heap.size (.slice none 0 0) 0 (L 0) (S 0) (E 0)) := by
    have h := Tk.start R1.out B1.out
    rw [← hR.l0, ← hR.s0, ← hR.e0] at h
    exact h
  have RL := Lib.hid (fun W h => read_lot w w.heap.size hR (Nat.le_trans HZ.out HS.out) m hm (Nat.le_refl _) W h)
  have HST : Hid (∀ j, j ≤ m → E j ≠ 0 → takeL s = ([], E j) ∧ Pk.endE (S j) (E j) = E j) := by
    intro j hj h
    have h1 := err_stick hR h (m - j)
    rw [show j + (m - j) = m from by omega] at h1
    have h2 : Pk.endE (S m) (E m) = E j := by rw [h1]; unfold Pk.endE; rw [if_neg (fun g => h g.1)]
    exact ⟨by have := hE.err (by rw [h2]; exact h); rw [h2] at this; exact this, by unfold Pk.endE; rw [if_neg (fun g => h g.1)]⟩
  have HLL := Lib.hid hR.len
  have HEN := Lib.hid hE
  clear hR hE
  go_wp2_with fail
  refine (RL.out _ T1.out).mono ?_
  rintro e w2 ⟨v, rfl, (⟨j, hj, hej, rfl, hrd, hb⟩ | HT)⟩
  · obtain ⟨ht, hend⟩ := HST.out j hj hej
    have HT2 := Lib.hid ht
    have HB := Lib.hid hb
    have EA := Lib.hid (Pk.end_any w.heap.size (S j) (E j) _ hrd)
    rw [hend] at EA
    generalize E j = EE at *
    have hq : ((EE : Int) != 0) = true := by simp; omega
    clear ht hb hrd hend
    go_wp2_with fail
    refine EA.out.mono ?_
    rintro e w3 ⟨rfl, rfl⟩
    go_wp2_with fail
    go_ret2
    exact ⟨HRET.out HT2.out (Sl.none _), HB.out⟩
  obtain ⟨a, cap, hv, HRC, hcap⟩ := own_sl (HLL.out m) HT.own
  rw [HLL.out m] at hv HRC hcap
  subst hv
  have HSL := Lib.hid HRC
  have HCAP := Lib.hid hcap
  have HB := Lib.hid HT.below
  have EA := Lib.hid (Pk.end_any w.heap.size (S m) (E m) _ HT.rd)
  clear HRC HT
  by_cases hend : Pk.endE (S m) (E m) = 0
  · have HOK := Lib.hid (HEN.out.ok hend)
    have HARG := Lib.hid (HEN.out.arg hend)
    rw [hend] at EA
    clear hend
    have HLK := Lib.hid (HLL.out m)
    generalize L m = l at *
    go_wp2_with fail
    refine EA.out.mono ?_
    rintro e w3 ⟨rfl, rfl⟩
    go_wp2_with fail
    refine (mayL_any a m cap l _ HSL.out (by omega)).mono ?_
    rcases mayL_01 l with ⟨h1, h2⟩ | ⟨h1, h2⟩
    · have hT := Lib.hid (HOK.out h2)
      rw [h1]
      rintro e w4 ⟨rfl, b4⟩
      have HB4 := Lib.hid (HB.out.trans (b4.mono HB.out.size))
      have hSL : Hid (Sl w4 (.slice a m cap) l) := ⟨a, cap, by rw [HLK.out], by rw [HLK.out]; exact HSL.out.later b4, by rw [HLK.out]; exact HCAP.out⟩
      clear b4 h1 h2
      go_wp2_with fail
      go_ret2
      exact ⟨HRET.out hT.out hSL.out, HB4.out⟩
    · have hT := Lib.hid (HARG.out h2)
      rw [h1]
      rintro e w4 ⟨rfl, b4⟩
      have HB4 := Lib.hid (HB.out.trans (b4.mono HB.out.size))
      clear b4 h1 h2
      go_wp2_with fail
      go_ret2
      exact ⟨HRET.out hT.out (Sl.none _), HB4.out⟩
  · have HT2 := Lib.hid (HEN.out.err hend)
    generalize Pk.endE (S m) (E m) = EE at *
    have hq : ((EE : Int) != 0) = true := by simp; omega
    go_wp2_with fail
    refine EA.out.mono ?_
    rintro e w3 ⟨rfl, rfl⟩
    go_wp2_with fail
    go_ret2
    exact ⟨HRET.out HT2.out (Sl.none _), HB.out⟩
end Go.Proofs.Ytafcgknpehphlaa.Lt
