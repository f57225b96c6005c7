/- Lots that are cut, by the document. -/
import Derived.Test.YtafcgknpehphlaaLtLots
set_option linter.unusedSimpArgs false
namespace Go.Proofs.Ytafcgknpehphlaa.Lt
open Go.RowKit
open Cd (Rec Fit may recB zeroR recV recL)
open Rk (At9 Recs rcs)

/-- an append of slices whose outcome is known -/
theorem step_lot {w w' : World} {ops : Array Oper} {rest : List Oper} {o : Oper} {a : Act} {Q : Exit → Act → World → Prop} {v src v' : Value}
    (hg : o.guard = none) (s x : Operand) (hop : o.op = Op.call { callee := Callee.builtin Builtin.append, args := #[s, x], argTypes := #[31, 31] }) (hty : o.type = 31)
    (hs : a.eval s = v) (hx : a.eval x = src) (hr : (Builtin.append_ #[31, 31] 31 #[v, src]).run Try.prog w = .ok v' w')
    (h : wpList Try.prog ops Q rest (a.put o.dst v') w') : wpList Try.prog ops Q (o :: rest) a w := by
  refine wpList_plain hg fun K hK' => ?_
  unfold Oper.wp
  simp [execOp, hop, hty, resolve, invoke, builtin, hs, hx, hr, Result.andThen]
  exact hK' _ _ h

set_option maxHeartbeats 6400000 in
set_option maxRecDepth 100000 in
theorem rcut_any (a : Option Addr) (len cap : Nat) (l : List Rec) (size : Int) (w : World) (hr : Recs a len l w) (hc : len ≤ cap) (hl : len ≤ 300) (h64 : size ≤ 9223372036854775807) :
    Calls Try.prog 13 #[.slice a len cap, .int .i64 size] w fun e w' => (∃ v, e = .returned v ∧ CutV w w' v a (nOf size len) l) ∧ Below w.heap.size w w' := by
  have HLEN := Lib.hid hr.len_is
  by_cases h0 : len = 0
  · subst h0
    have hle : l = [] := List.eq_nil_of_length_eq_zero hr.len_is
    subst hle
    have HF : Hid (CutV w w (.slice none 0 0) a (nOf size 0) []) := .inl ⟨rfl, Lots.start _ _ _ _ _ (Below.refl _ _)⟩
    clear hr
    by_cases hs : size < 1
    · go_enter Try.func13, Try.ntmps13
      go_wp2_with fail
      go_loopw [5, 6] (fun v iv wr => v = .slice none 0 0 ∧ iv = .int .i64 0 ∧ wr = w) (fun _ _ _ => 0)
      case atStart => exact ⟨rfl, rfl, rfl⟩
      case round =>
        obtain ⟨rfl, rfl, rfl⟩ := hrel
        go_wp2_with fail
        go_ret
        exact ⟨⟨_, rfl, HF.out⟩, Below.refl _ _⟩
    · go_enter Try.func13, Try.ntmps13
      go_wp2_with fail
      go_loopw [5, 6] (fun v iv wr => v = .slice none 0 0 ∧ iv = .int .i64 0 ∧ wr = w) (fun _ _ _ => 0)
      case atStart => exact ⟨rfl, rfl, rfl⟩
      case round =>
        obtain ⟨rfl, rfl, rfl⟩ := hrel
        go_wp2_with fail
        go_ret
        exact ⟨⟨_, rfl, HF.out⟩, Below.refl _ _⟩
  obtain ⟨b, off, rfl, hb, _⟩ := hr.at_ (by omega)
  have hne : l ≠ [] := fun h => by have := HLEN.out; rw [h] at this; exact h0 this.symm
  have HNE := Lib.hid hne
  obtain ⟨n, hn⟩ : ∃ n : Nat, nOf size len = n := ⟨_, rfl⟩
  rw [hn]
  have hn1 : 1 ≤ n := by
    rw [← hn]; unfold nOf
    split <;> omega
  have hnm : n ≤ 9223372036854775807 := by
    rw [← hn]; unfold nOf
    split <;> omega
  clear hr hne h0
  by_cases hs : size < 1
  · have hn2 : n = len := by rw [← hn]; exact if_pos hs
    subst hn2
    clear hn
    go_enter Try.func13, Try.ntmps13
    go_wp2_with fail
    go_loopw [5, 6] (fun v iv wr => ∃ p j : Nat, iv = .int .i64 p ∧ Hid (p = min (j * n) n) ∧ p ≤ n ∧ Hid (∀ i, i < j → i * n < n) ∧ j ≤ p ∧ ∃ vb, vb = v ∧ Hid (Lots w wr w.heap.size vb b off n l j)) (fun _ iv _ => n - (intOf iv).toNat)
    case atStart => exact ⟨0, 0, rfl, by show 0 = _; omega, Nat.zero_le _, (fun i hi => by omega), Nat.le_refl _, _, rfl, Lots.start _ _ _ _ _ (Below.refl _ _)⟩
    case round =>
      obtain ⟨p, j, rfl, HP, hp, HJ, hjp, vb, rfl, HL⟩ := hrel
      by_cases hlt : p < n
      · have hpj : j * n = p := by have := HP.out; omega
        have hcl : (chunk n l j).length = min n (n - p) := by rw [chunk_len, hpj, HLEN.out]
        have hJ2 : Hid (∀ i, i < j + 1 → i * n < n) := fun i hi => by
          rcases Nat.lt_or_eq_of_le (Nat.le_of_lt_succ hi) with h | h
          · exact HJ.out i h
          · subst h; omega
        have hP2 : Hid (p + min n (n - p) = min ((j + 1) * n) n) := by
          show _ = _
          rw [Nat.add_mul, Nat.one_mul, hpj]; omega
        have hsz := HL.out.below.size
        obtain ⟨v', w', r, HL2, _, _⟩ := HL.out.next (c := cap - p) (by omega) (Nat.le_refl _) hsz (by rw [hcl]; omega)
        rw [hcl, hpj] at r
        have HL2 := Lib.hid HL2
        clear hcl hpj
        by_cases hmin : n ≤ n - p
        · have e1 : min n (n - p) = n := Nat.min_eq_left hmin
          rw [e1] at r hP2
          have hm1 : (n : Int) ≤ (n : Int) - (p : Int) := by omega
          clear e1
          go_wp2_with (first | (at_builtin; refine step_lot rfl (.tmp 23) (.tmp 35) rfl rfl rfl rfl r ?_) | fail)
          all_goals first
            | (exfalso; omega)
            | (go_roundw
               case rel => exact ⟨p + n, j + 1, by go_num, hP2.out, by omega, hJ2.out, by omega, _, rfl, HL2.out⟩
               case measure => simp [intOf]; omega)
        · have e1 : min n (n - p) = n - p := Nat.min_eq_right (by omega)
          rw [e1] at r hP2
          have hm1 : ¬ (n : Int) ≤ (n : Int) - (p : Int) := by omega
          clear e1
          go_wp2_with (first | (at_builtin; refine step_lot rfl (.tmp 23) (.tmp 35) rfl rfl rfl rfl r ?_) | fail)
          all_goals first
            | (exfalso; omega)
            | (go_roundw
               case rel => exact ⟨n, j + 1, by go_num, by have := hP2.out; show n = _; omega, by omega, hJ2.out, by omega, _, rfl, HL2.out⟩
               case measure => simp [intOf]; omega)
      · have hpe : p = n := by omega
        have hk : chunks n l = j := chunks_end hn1 (by have := HP.out; have := HLEN.out; omega) (fun i hi => by have := HJ.out i hi; have := HLEN.out; omega)
        have HF : Hid (CutV w wr vb (some ⟨b, off, none⟩) n l) := .inr ⟨b, off, rfl, HNE.out, hn1, by rw [hk]; exact HL.out⟩
        clear hk
        go_wp2_with fail
        go_ret
        exact ⟨⟨_, rfl, HF.out⟩, HL.out.below⟩
  · obtain rfl : size = (n : Int) := by
      have : n = size.toNat := by rw [← hn]; exact if_neg hs
      omega
    clear hn h64
    go_enter Try.func13, Try.ntmps13
    go_wp2_with fail
    go_loopw [5, 6] (fun v iv wr => ∃ p j : Nat, iv = .int .i64 p ∧ Hid (p = min (j * n) len) ∧ p ≤ len ∧ Hid (∀ i, i < j → i * n < len) ∧ j ≤ p ∧ ∃ vb, vb = v ∧ Hid (Lots w wr w.heap.size vb b off n l j)) (fun _ iv _ => len - (intOf iv).toNat)
    case atStart => exact ⟨0, 0, rfl, by show 0 = _; omega, Nat.zero_le _, (fun i hi => by omega), Nat.le_refl _, _, rfl, Lots.start _ _ _ _ _ (Below.refl _ _)⟩
    case round =>
      obtain ⟨p, j, rfl, HP, hp, HJ, hjp, vb, rfl, HL⟩ := hrel
      by_cases hlt : p < len
      · have hpj : j * n = p := by have := HP.out; omega
        have hcl : (chunk n l j).length = min n (len - p) := by rw [chunk_len, hpj, HLEN.out]
        have hJ2 : Hid (∀ i, i < j + 1 → i * n < len) := fun i hi => by
          rcases Nat.lt_or_eq_of_le (Nat.le_of_lt_succ hi) with h | h
          · exact HJ.out i h
          · subst h; omega
        have hP2 : Hid (p + min n (len - p) = min ((j + 1) * n) len) := by
          show _ = _
          rw [Nat.add_mul, Nat.one_mul, hpj]; omega
        have hsz := HL.out.below.size
        obtain ⟨v', w', r, HL2, _, _⟩ := HL.out.next (c := cap - p) (by omega) (Nat.le_refl _) hsz (by rw [hcl]; omega)
        rw [hcl, hpj] at r
        have HL2 := Lib.hid HL2
        clear hcl hpj
        by_cases hmin : n ≤ len - p
        · have e1 : min n (len - p) = n := Nat.min_eq_left hmin
          rw [e1] at r hP2
          have hm1 : (n : Int) ≤ (len : Int) - (p : Int) := by omega
          clear e1
          go_wp2_with (first | (at_builtin; refine step_lot rfl (.tmp 23) (.tmp 35) rfl rfl rfl rfl r ?_) | fail)
          all_goals first
            | (exfalso; omega)
            | (go_roundw
               case rel => exact ⟨p + n, j + 1, by go_num, hP2.out, by omega, hJ2.out, by omega, _, rfl, HL2.out⟩
               case measure => simp [intOf]; omega)
        · have e1 : min n (len - p) = len - p := Nat.min_eq_right (by omega)
          rw [e1] at r hP2
          have hm1 : ¬ (n : Int) ≤ (len : Int) - (p : Int) := by omega
          clear e1
          go_wp2_with (first | (at_builtin; refine step_lot rfl (.tmp 23) (.tmp 35) rfl rfl rfl rfl r ?_) | fail)
          all_goals first
            | (exfalso; omega)
            | (go_roundw
               case rel => exact ⟨len, j + 1, by go_num, by have := hP2.out; show len = _; omega, by omega, hJ2.out, by omega, _, rfl, HL2.out⟩
               case measure => simp [intOf]; omega)
      · have hpe : p = len := by omega
        have hk : chunks n l = j := chunks_end hn1 (by have := HP.out; have := HLEN.out; omega) (fun i hi => by have := HJ.out i hi; have := HLEN.out; omega)
        have HF : Hid (CutV w wr vb (some ⟨b, off, none⟩) n l) := .inr ⟨b, off, rfl, HNE.out, hn1, by rw [hk]; exact HL.out⟩
        clear hk
        go_wp2_with fail
        go_ret
        exact ⟨⟨_, rfl, HF.out⟩, HL.out.below⟩
end Go.Proofs.Ytafcgknpehphlaa.Lt
