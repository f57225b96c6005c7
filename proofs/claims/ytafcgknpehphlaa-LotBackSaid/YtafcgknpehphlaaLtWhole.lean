/- The walk of the third law of layer 11: lots put together again are all. -/
import Derived.Test.YtafcgknpehphlaaLtAwake
set_option linter.unusedSimpArgs false
namespace Go.Proofs.Ytafcgknpehphlaa.Lt
open Go.RowKit
open Cd (Rec Fit may recB zeroR recV recL Blk)
open Rk (At9 Recs rcs W64 shB FewEnd)

theorem take_next (n : Nat) (l : List Rec) (i : Nat) : l.take ((i + 1) * n) = l.take (i * n) ++ chunk n l i := by
  unfold chunk
  rw [Nat.add_mul, Nat.one_mul, List.take_add]
theorem few_fit {l : List Rec} (h : ∀ x ∈ l, W64 x) (hs : ∀ x ∈ l, shB x = true) : ∀ x ∈ l, Fit x := fun x hx => (h x hx).fit (hs x hx)

set_option maxHeartbeats 12800000 in
set_option maxRecDepth 100000 in
theorem whole_any (a : Option Addr) (len cap : Nat) (l : List Rec) (size : Int) (w : World) (hr : Recs a len l w) (hc : len ≤ cap) (h64 : size ≤ 9223372036854775807) :
    Calls Try.prog 5 #[.slice a len cap, .int .i64 size] w fun e w' => e = .returned (.bool true) ∧ Below w.heap.size w w' := by
  have HR := Lib.hid hr
  have HLEN := Lib.hid hr.len_is
  have FE := Lib.hid (fun w h => Rk.few_any 20 a len cap l w h (by omega))
  clear hr
  go_enter Try.func5, Try.ntmps5
  go_wp2_with fail
  refine (FE.out _ HR.out).mono ?_
  rintro e w1 ⟨⟨f, rfl, hf⟩, b1⟩
  have B1 := Lib.hid b1
  have HF := Lib.hid hf
  clear b1 hf
  cases f
  · go_wp2_with fail
    refine (awake_any _).mono ?_
    rintro e w9 ⟨rfl, b9⟩
    have B9 := Lib.hid (B1.out.trans (b9.mono B1.out.size))
    clear b9
    go_wp2_with fail
    go_ret
    exact ⟨rfl, B9.out⟩
  have hl20 : len ≤ 20 := by have := (HF.out (by trivial)).1; have := HLEN.out; omega
  go_wp2_with fail
  refine (cut_any a len cap l size w1 (HR.out.later B1.out) hc (by omega) h64).mono ?_
  rintro e w2 ⟨⟨v, rfl, hcut⟩, b2⟩
  have B2 := Lib.hid (B1.out.trans (b2.mono B1.out.size))
  clear b2
  obtain ⟨Ag, K, cg, rfl, hkz, hcut⟩ := hcut
  by_cases hkg : K = 0
  · subst hkg
    obtain rfl := hkz.1 rfl
    have h0 : len = 0 := by have := HLEN.out; simp at this; omega
    subst h0
    clear hcut
    go_wp2_with fail
    go_loopw [6, 7] (fun v iv wr => v = .slice none 0 0 ∧ iv = .int .i64 0 ∧ wr = w2) (fun _ _ _ => 0)
    case atStart => exact ⟨rfl, rfl, rfl⟩
    case round =>
      obtain ⟨rfl, rfl, rfl⟩ := hrel
      go_wp2_with fail
      refine (same_recs none a 0 0 cap [] _ (Rk.Recs.none _ _) (Rk.Recs.none _ _) (by omega)).mono ?_
      rintro e w3 ⟨rfl, b3⟩
      have B3 := Lib.hid (B2.out.trans (b3.mono B2.out.size))
      clear b3
      go_wp2_with fail
      refine (awake_any _).mono ?_
      rintro e w9 ⟨rfl, b9⟩
      have B9 := Lib.hid (B3.out.trans (b9.mono B3.out.size))
      clear b9
      go_wp2_with fail
      go_ret
      exact ⟨rfl, B9.out⟩
  · obtain ⟨hne, hn1, hkc, g, rfl, hg, hcg, hcells⟩ : l ≠ [] ∧ 1 ≤ nOf size len ∧ K = chunks (nOf size len) l ∧ _ := by
      rcases hcut with h | h
      · exact absurd h hkg
      · exact h
    obtain ⟨n, hn⟩ : ∃ n, nOf size len = n := ⟨_, rfl⟩
    rw [hn] at hn1 hkc hcells
    obtain ⟨K2, hK⟩ : ∃ K2, chunks n l = K2 := ⟨_, rfl⟩
    rw [hK] at hkc
    subst hkc
    have hlt := fun j => chunks_lt (l := l) hn1 j
    rw [hK, HLEN.out] at hlt
    have hlen1 : 1 ≤ len := by
      have := HLEN.out
      cases l with
      | nil => exact absurd rfl hne
      | cons x r => simp at this; omega
    have hK1 : 0 < K := (hlt 0).2 (by omega)
    have HC := Lib.hid hcells
    have HLT := Lib.hid hlt
    obtain ⟨BB, hBB⟩ : ∃ BB, w2.heap.size = BB := ⟨_, rfl⟩
    rw [hBB] at hg
    have HBB := Lib.hid hBB
    have HWB : Hid (w.heap.size ≤ BB) := by show _ ≤ _; rw [← hBB]; exact B2.out.size
    have HNK : Hid (1 ≤ n) := hn1
    have HKT : Hid (l.take (K * n) = l) := List.take_of_length_le (by
      have h := hlt K
      have := HLEN.out
      omega)
    -- what the sizes are
    have HSZ : Hid ((size < 1 ∧ K = 1) ∨ (¬ size < 1 ∧ size = (n : Int))) := by
      by_cases hs : size < 1
      · left
        refine ⟨hs, ?_⟩
        have hnl : n = len := by rw [← hn]; exact if_pos hs
        have h1 : ¬ 1 < K := fun h => by have := (hlt 1).1 h; omega
        omega
      · right
        refine ⟨hs, ?_⟩
        have : n = size.toNat := by rw [← hn]; exact if_neg hs
        omega
    clear hcut hkz hkg hcells hlt hn hK hn1 hBB hne
    go_wp2_with fail
    go_loopw [6, 7] (fun v iv wr => ∃ i : Nat, i ≤ K ∧ iv = .int .i64 i ∧ ∃ vb, vb = v ∧ Hid (wr.ownsRow BB 39 9 vb (l.take (i * n)).length (rcs (l.take (i * n)))) ∧ Hid (Below BB w2 wr)) (fun _ iv _ => K - (intOf iv).toNat)
    case atStart => exact ⟨0, Nat.zero_le _, rfl, _, rfl, by show World.ownsRow _ _ _ _ _ _ _; rw [Nat.zero_mul, List.take_zero]; exact World.ownsRow_nil _ _ _ _, Below.refl _ _⟩
    case round =>
      obtain ⟨i, hi, rfl, vb, rfl, HO, HBR⟩ := hrel
      by_cases hik : i < K
      · obtain ⟨ai, c, hcell, hcc, hrci⟩ := HC.out i hik
        have hcw := (HBR.out.cell (p := ⟨g, i, none⟩) hg).trans hcell
        have hil := (HLT.out i).1 hik
        have hm : (chunk n l i).length = min n (len - i * n) := by rw [chunk_len, HLEN.out]
        have HNX : Hid (l.take ((i + 1) * n) = l.take (i * n) ++ chunk n l i) := take_next n l i
        have HRC := Lib.hid (hrci.later (show Below w2.heap.size w2 wr from by rw [HBB.out]; exact HBR.out))
        have haa : ∃ b o, ai = some ⟨b, o, none⟩ := by
          obtain ⟨b, o, h1, _⟩ := HRC.out.at_ (by have := HNK.out; rw [hm]; omega)
          exact ⟨b, o, h1⟩
        have hl2 : (l.take (i * n)).length ≤ len := by rw [List.length_take, HLEN.out]; omega
        have hbs : BB ≤ wr.heap.size := by have := HBR.out.size; have := HBB.out; omega
        obtain ⟨v5, w5, r5, o5, b5, _⟩ := Rk.app_recs BB _ vb _ _ _ _ c wr HO.out HRC.out haa (by rw [hm]; omega) hbs
        rw [← List.length_append, ← HNX.out] at o5
        have HO5 := Lib.hid o5
        have HB5 := Lib.hid (HBR.out.trans b5)
        have hi1 : i + 1 < K ↔ (i + 1) * n < len := HLT.out (i + 1)
        rw [Nat.add_mul, Nat.one_mul] at hi1
        have hi20 : i < 20 := by
          have h2 : i * 1 ≤ i * n := Nat.mul_le_mul_left _ HNK.out
          omega
        generalize i * n = p at *
        obtain ⟨m, hm2⟩ : ∃ m, (chunk n l i).length = m := ⟨_, rfl⟩
        rw [hm2] at hm hcw r5
        have hn1 := HNK.out
        have hm1 : 1 ≤ m := by omega
        have q0 : ((m : Int) == 0) = false := by simp; omega
        obtain ⟨ba, oa, rfl⟩ := haa
        clear hm2 o5 b5 hcell hl2 hcc hrci HRC
        rcases HSZ.out with ⟨hs, rfl⟩ | ⟨hs, rfl⟩
        · have hs0 : ¬ (size > 0) := by omega
          clear hm hi1 hil
          go_wp2_with (first | (at_builtin; refine Rk.step_app rfl (.tmp 65) (.tmp 69) rfl rfl rfl rfl r5 ?_) | fail)
          go_roundw
          case rel => exact ⟨i + 1, by omega, by go_num, _, rfl, HO5.out, HB5.out⟩
          case measure => simp [intOf]; omega
        · have hs0 : ((n : Int) > 0) := by omega
          have hs2 : ¬ ((m : Int) > (n : Int)) := by omega
          by_cases hii : i + 1 < K
          · have hmn : m = n := by omega
            have q1 : ((m : Int) != (n : Int)) = false := by simp; omega
            have hii2 : ((i : Int) + 1 < (K : Int)) := by omega
            clear hmn hm hi1 hil
            go_wp2_with (first | (at_builtin; refine Rk.step_app rfl (.tmp 65) (.tmp 69) rfl rfl rfl rfl r5 ?_) | fail)
            go_roundw
            case rel => exact ⟨i + 1, by omega, by go_num, _, rfl, HO5.out, HB5.out⟩
            case measure => simp [intOf]; omega
          · have hii2 : ¬ ((i : Int) + 1 < (K : Int)) := by omega
            clear hm hi1 hil
            go_wp2_with (first | (at_builtin; refine Rk.step_app rfl (.tmp 65) (.tmp 69) rfl rfl rfl rfl r5 ?_) | fail)
            go_roundw
            case rel => exact ⟨i + 1, by omega, by go_num, _, rfl, HO5.out, HB5.out⟩
            case measure => simp [intOf]; omega
      · have hie : i = K := by omega
        subst hie
        have ho := HO.out
        rw [HKT.out] at ho
        obtain ⟨a5, c5, rfl, hr5, _⟩ := own_sl rfl ho
        have HR5 := Lib.hid hr5
        have HBW := Lib.hid (B2.out.trans (below_low HBR.out HWB.out))
        have HRW := Lib.hid (HR.out.later HBW.out)
        have HLL := HLEN.out
        clear ho hr5
        rw [HLL] at HR5 ⊢
        go_wp2_with fail
        refine (same_recs a5 a len c5 cap l _ HR5.out HRW.out (by omega)).mono ?_
        rintro e w3 ⟨rfl, b3⟩
        have B3 := Lib.hid (HBW.out.trans (b3.mono HBW.out.size))
        clear b3
        go_wp2_with fail
        refine (awake_any _).mono ?_
        rintro e w9 ⟨rfl, b9⟩
        have B9 := Lib.hid (B3.out.trans (b9.mono B3.out.size))
        clear b9
        go_wp2_with fail
        go_ret
        exact ⟨rfl, B9.out⟩
end Go.Proofs.Ytafcgknpehphlaa.Lt
