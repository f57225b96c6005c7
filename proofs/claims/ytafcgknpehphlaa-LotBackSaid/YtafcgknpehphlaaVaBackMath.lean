/- Plain facts: what is put is taken as it was, whatever stands behind; what is taken was put so. No condition. -/
import Derived.Test.YtafcgknpehphlaaVaSigned
namespace Go.Proofs.Ytafcgknpehphlaa.Va
open Go.RowKit

theorem getD_app (a s : List UInt8) (k : Nat) (h : k < a.length) : (a ++ s).getD k 0 = a.getD k 0 := by
  rw [List.getD_eq_getElem?_getD, List.getD_eq_getElem?_getD, List.getElem?_append_left h]

theorem vk_digs (u : Nat) (h : u < 18446744073709551616) (s : List UInt8) : vk (digs u ++ s) ((digs u).length - 1 + 1) = u := by
  have hp := digs_pos u
  unfold vk
  rw [show (digs u).length - 1 + 1 = (digs u).length by omega, List.take_left, val_digs']
  exact Nat.mod_eq_of_lt h

theorem digs_last (u : Nat) (s : List UInt8) : ¬ ((digs u).length - 1 ≠ 0 ∧ ((digs u ++ s).getD ((digs u).length - 1) 0).toNat = 0) := by
  have hp := digs_pos u
  rw [getD_app _ _ _ (by omega)]
  rcases last_digs u u (Nat.le_refl _) with h | h
  · omega
  · exact fun g => h g.2

theorem takeR_put (u : Nat) (h : u < 9223372036854775808) (s : List UInt8) : takeR 9 (digs u ++ s) = (u, (digs u).length, 0) := by
  have hp := digs_pos u
  rw [takeR_some (fst_digs u u 9 s (Nat.le_refl _) (digs_len9 h)) (digs_last u s), vk_digs u (by omega), show (digs u).length - 1 + 1 = (digs u).length by omega]

theorem digs_top (u : Nat) (h : u < 18446744073709551616) (s : List UInt8) : ¬ ((digs u).length - 1 = 9 ∧ 1 < ((digs u ++ s).getD ((digs u).length - 1) 0).toNat) := by
  rintro ⟨h9, h1⟩
  have hp := digs_pos u
  rw [getD_app _ _ _ (by omega), h9] at h1
  have e := take_snoc (digs u) 9 (by omega)
  rw [List.take_of_length_le (by omega)] at e
  have hv := congrArg val e
  rw [val_digs', val_snoc, show ((digs u).take 9).length = 9 by rw [List.length_take]; omega, show (128 : Nat) ^ 9 = 9223372036854775808 from rfl] at hv
  obtain ⟨_, _, h3, _⟩ := (fst_some_iff 10 (digs u ++ []) 9).1 (by rw [← h9]; exact fst_digs u u 10 [] (Nat.le_refl _) (by omega))
  rw [List.append_nil] at h3
  rw [Nat.mod_eq_of_lt h3] at hv
  omega

theorem takeS_put (z : Int) (h0 : -9223372036854775808 ≤ z) (h1 : z ≤ 9223372036854775807) (s : List UInt8) : takeS (digs (zig z) ++ s) = (z, (digs (zig z)).length, 0) := by
  have hz := zig_lt h0 h1
  have hp := digs_pos (zig z)
  rw [takeS_ok (fst_digs (zig z) (zig z) 10 s (Nat.le_refl _) (digs_len10 hz)) (fun h => h.elim (digs_last _ s) (digs_top _ hz s)), vk_digs _ hz, zag_zig, show (digs (zig z)).length - 1 + 1 = (digs (zig z)).length by omega]

/-- whatever is taken was put so -/
theorem takeR_back (s : List UInt8) : ((takeR 9 s).2.2 = 0 ∧ 1 ≤ (takeR 9 s).2.1 ∧ (takeR 9 s).2.1 ≤ s.length ∧ digs (takeR 9 s).1 = s.take (takeR 9 s).2.1) ∨
    ((takeR 9 s).2.2 ≠ 0 ∧ (takeR 9 s).1 = 0 ∧ (takeR 9 s).2.1 = 0) := by
  cases hf : fst 9 s with
  | none =>
    by_cases hl : s.length < 9
    · rw [takeR_short hf hl]; right; simp
    · rw [takeR_long hf hl]; right; simp
  | some k =>
    obtain ⟨hk, hks, h3, h4⟩ := (fst_some_iff 9 s k).1 hf
    by_cases hz : k ≠ 0 ∧ (s.getD k 0).toNat = 0
    · rw [takeR_zero hf hz]; right; simp
    · rw [takeR_some hf hz]
      left
      refine ⟨rfl, by show 1 ≤ k + 1; omega, by show k + 1 ≤ _; omega, ?_⟩
      show digs (vk s (k + 1)) = s.take (k + 1)
      have hv := val_lt (s.take (k + 1))
      have hl : (s.take (k + 1)).length ≤ 9 := by rw [List.length_take]; omega
      have h2 : 128 ^ (s.take (k + 1)).length ≤ 128 ^ 9 := Nat.pow_le_pow_right (by omega) hl
      have hlt : val (s.take (k + 1)) < 18446744073709551616 := Nat.lt_of_lt_of_le hv (Nat.le_trans h2 (by decide))
      unfold vk
      rw [Nat.mod_eq_of_lt hlt]
      exact digs_val k s hks h3 h4 (by omega)

theorem takeS_back (s : List UInt8) : ((takeS s).2.2 = 0 ∧ 1 ≤ (takeS s).2.1 ∧ (takeS s).2.1 ≤ s.length ∧ digs (zig (takeS s).1) = s.take (takeS s).2.1) ∨
    ((takeS s).2.2 ≠ 0 ∧ (takeS s).1 = 0 ∧ (takeS s).2.1 = 0) := by
  cases hf : fst 10 s with
  | none =>
    by_cases hl : s.length < 10
    · rw [takeS_short hf hl]; right; simp
    · rw [takeS_long hf hl]; right; simp
  | some k =>
    obtain ⟨hk, hks, h3, h4⟩ := (fst_some_iff 10 s k).1 hf
    by_cases hz : (k ≠ 0 ∧ (s.getD k 0).toNat = 0) ∨ (k = 9 ∧ 1 < (s.getD k 0).toNat)
    · rw [takeS_bad hf hz]; right; simp
    · rw [takeS_ok hf hz]
      left
      refine ⟨rfl, by show 1 ≤ k + 1; omega, by show k + 1 ≤ _; omega, ?_⟩
      show digs (zig (zag (vk s (k + 1)))) = s.take (k + 1)
      rw [zig_zag]
      have hlt : val (s.take (k + 1)) < 18446744073709551616 := by
        by_cases h9 : k = 9
        · have e := take_snoc s k hks
          have hv := congrArg val e
          rw [val_snoc, show (s.take k).length = 9 by rw [List.length_take]; omega, show (128 : Nat) ^ 9 = 9223372036854775808 from rfl] at hv
          have hv0 := val_lt (s.take k)
          rw [show (s.take k).length = 9 by rw [List.length_take]; omega, show (128 : Nat) ^ 9 = 9223372036854775808 from rfl] at hv0
          rw [Nat.mod_eq_of_lt h3] at hv
          have h1 : (s.getD k 0).toNat ≤ 1 := by omega
          rcases (show (s.getD k 0).toNat = 0 ∨ (s.getD k 0).toNat = 1 by omega) with e1 | e1 <;> (rw [e1] at hv; omega)
        · have hv := val_lt (s.take (k + 1))
          have hl : (s.take (k + 1)).length ≤ 9 := by rw [List.length_take]; omega
          have h2 : 128 ^ (s.take (k + 1)).length ≤ 128 ^ 9 := Nat.pow_le_pow_right (by omega) hl
          exact Nat.lt_of_lt_of_le hv (Nat.le_trans h2 (by decide))
      unfold vk
      rw [Nat.mod_eq_of_lt hlt]
      exact digs_val k s hks h3 h4 (by omega)

end Go.Proofs.Ytafcgknpehphlaa.Va
