/- The walk of the fifth law of frames where none came in; and at every list. -/
import Derived.Test.YtjmkjdflfmjliaaFrWhole
namespace Go.Proofs.Ytjmkjdflfmjliaa.Fr
open Go.RowKit

theorem fs_none : fs ⟨#[]⟩ = [] ∧ er ⟨#[]⟩ = 0 := fs_cat [] (fun x hx => by cases hx)

set_option maxHeartbeats 4000000 in
set_option maxRecDepth 100000 in
theorem whole_none (a : Option Addr) (cap : Nat) (cut : Nat) (hcut : cut < 65536) (w : World) :
    Calls Try.prog 7 #[.slice a 0 cap, .int .u16 cut] w fun e w' => e = .returned (.bool true) ∧ Below w.heap.size w w' := by
  have A := fun w => fall_any ⟨#[]⟩ (by decide) w
  rw [fs_none.1, fs_none.2] at A
  have HA := Lib.hid A
  clear A
  have hf0 : ∀ w, Frs a [] w := fun w => ⟨fun h => absurd h (by simp)⟩
  have HF0 := Lib.hid hf0
  clear hf0
  have hc : (cut : Int) % 1 = 0 := Int.emod_one _
  go_enter Try.func7, Try.ntmps7
  go_wp2_with fail
  refine (few_any a 0 cap [] rfl w (HF0.out w)).mono ?_
  rintro e w1 ⟨⟨f, rfl, hf⟩, rfl⟩
  clear hf
  cases f with
  | false =>
    go_wp2_with fail
    refine (awake_any w).mono ?_
    rintro e w1 ⟨rfl, b1⟩
    go_wp2_with fail
    go_ret
    exact ⟨rfl, b1⟩
  | true =>
    go_wp2_with fail
    refine wp_loop_rounds 1 ?_
    rw [rounds_succ]
    go_wp2_with fail
    refine (HA.out _).mono ?_
    rintro e w2 ⟨v, rfl, own2, b2⟩
    obtain ⟨am, cm, rfl, hcm, hmm, frm⟩ := own_frs rfl own2
    have HFM := Lib.hid frm
    have B2 := Lib.hid b2
    clear own2 frm b2
    go_wp2_with fail
    refine wp_loop_rounds 1 ?_
    rw [rounds_succ]
    cases a with
    | none =>
      go_wp2_with fail
      refine (same_any am none cm cap 0 [] rfl (by omega) w2 HFM.out (HF0.out _)).mono ?_
      rintro e w3 ⟨rfl, b3⟩
      have B3 := Lib.hid (B2.out.trans (b3.mono B2.out.size))
      clear b3
      go_wp2_with fail
      refine (awake_any w3).mono ?_
      rintro e w4 ⟨rfl, b4⟩
      have B4 := Lib.hid (B3.out.trans (b4.mono B3.out.size))
      clear b4
      go_wp2_with fail
      go_ret
      exact ⟨rfl, B4.out⟩
    | some x =>
      go_wp2_with fail
      refine (same_any am (some x) cm cap 0 [] rfl (by omega) w2 HFM.out (HF0.out _)).mono ?_
      rintro e w3 ⟨rfl, b3⟩
      have B3 := Lib.hid (B2.out.trans (b3.mono B2.out.size))
      clear b3
      go_wp2_with fail
      refine (awake_any w3).mono ?_
      rintro e w4 ⟨rfl, b4⟩
      have B4 := Lib.hid (B3.out.trans (b4.mono B3.out.size))
      clear b4
      go_wp2_with fail
      go_ret
      exact ⟨rfl, B4.out⟩

theorem whole_all (a : Option Addr) (n cap : Nat) (zs : List Fm) (cut : Int) (h0 : 0 ≤ cut ∧ cut < 65536) (w : World) (h : n = 0 ∨ ∃ b o, a = some ⟨b, o, none⟩ ∧ In a n cap zs w) :
    Calls Try.prog 7 #[.slice a n cap, .int .u16 cut] w fun e w' => e = .returned (.bool true) ∧ Below w.heap.size w w' := by
  obtain ⟨c, rfl⟩ := Int.eq_ofNat_of_zero_le h0.1
  rcases h with rfl | ⟨b, o, rfl, h⟩
  · exact whole_none a cap c (by omega) w
  · exact whole_some b o n cap zs c (by omega) w h
end Go.Proofs.Ytjmkjdflfmjliaa.Fr
