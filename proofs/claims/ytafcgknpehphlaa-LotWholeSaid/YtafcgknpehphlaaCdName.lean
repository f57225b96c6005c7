/- Which texts are names: by the program, which ranges over letters, and by the document, which looks at bytes. -/
import Derived.Test.YtafcgknpehphlaaCdMath
import Derived.Laws.RangeAny
namespace Go.Proofs.Ytafcgknpehphlaa.Cd
open Go.RowKit

theorem let_true {c : UInt8} (h0 : 33 ≤ c.toNat) (h1 : c.toNat ≤ 126) : let_ c = true := by unfold let_; simp [h0, h1]
theorem nameB_false {s : ByteArray} {k : Nat} (h : k < s.size) (hc : let_ (s[k]'h) = false) : nameB s = false := by
  unfold nameB
  have hm : (s[k]'h) ∈ s.data.toList := by
    have : (s[k]'h) = s.data[k]'h := rfl
    rw [this]
    simp
  have : s.data.toList.all let_ = false := by
    rw [List.all_eq_false]
    exact ⟨_, hm, by rw [hc]; simp⟩
  rw [this, Bool.and_false]
theorem nameB_short {s : ByteArray} (h : s.size = 0 ∨ 24 < s.size) : nameB s = false := by
  unfold nameB
  rcases h with h | h
  · rw [decide_eq_false (show ¬ 1 ≤ s.size by omega)]; rfl
  · rw [decide_eq_false (show ¬ s.size ≤ 24 by omega), Bool.and_false]; rfl
theorem nameB_true {s : ByteArray} (h0 : 1 ≤ s.size) (h1 : s.size ≤ 24) (h : ∀ j (hj : j < s.size), let_ (s[j]'hj) = true) : nameB s = true := by
  unfold nameB
  rw [decide_eq_true h0, decide_eq_true h1]
  simp only [Bool.true_and, List.all_eq_true]
  intro c hc
  obtain ⟨j, hj, rfl⟩ := List.getElem_of_mem hc
  have hj' : j < s.size := by simpa using hj
  have := h j hj'
  rw [Array.getElem_toList]
  exact this

theorem iter_below (w : World) (s : ByteArray) (k : Nat) : Below w.heap.size w (w.iter s k) := (Below.refl _ w).alloc (Nat.le_refl _) _

set_option maxHeartbeats 1600000 in
set_option maxRecDepth 100000 in
theorem isname_any (s : ByteArray) (w : World) :
    Calls Try.prog 55 #[.string s] w fun e w' => e = .returned (.bool (nameB s)) ∧ Below w.heap.size w w' := by
  by_cases h0 : s.size = 0
  · rw [nameB_short (.inl h0)]
    have q0 : ((s.size : Int) == 0) = true := by simp [h0]
    go_enter Try.func55, Try.ntmps55
    go_wp2
    go_ret
    exact ⟨rfl, Below.refl _ _⟩
  have q0 : ((s.size : Int) == 0) = false := by rw [beq_eq_false_iff_ne]; omega
  by_cases h1 : 24 < s.size
  · rw [nameB_short (.inr h1)]
    have q1 : ((s.size : Int) > 24) := by omega
    go_enter Try.func55, Try.ntmps55
    go_wp2
    go_ret
    exact ⟨rfl, Below.refl _ _⟩
  have q1 : ¬ ((s.size : Int) > 24) := by omega
  go_enter Try.func55, Try.ntmps55
  go_wp2
  go_loopw [] (fun w' => ∃ k : Nat, w' = w.iter s k ∧ k ≤ s.size ∧ Hid (∀ j (hj : j < s.size), j < k → let_ (s[j]'hj) = true)) (fun w' => s.size - w'.iterPos w.heap.size)
  case atStart => exact ⟨0, rfl, by omega, fun j _ hj => absurd hj (by omega)⟩
  case round =>
    obtain ⟨k, rfl, hk, HJ⟩ := hrel
    by_cases hks : k < s.size
    · have HN : Hid (let_ (s[k]'hks) = false → nameB s = false) := nameB_false hks
      have HS : Hid (let_ (s[k]'hks) = true → ∀ j (hj : j < s.size), j < k + 1 → let_ (s[j]'hj) = true) := fun hl j hj hj1 => by
        by_cases e : j = k
        · subst e; exact hl
        · exact HJ.out j hj (by omega)
      have HB := Lib.hid (iter_below w s (k + 1))
      by_cases ha : (s[k]'hks).toNat < 128
      · have hnx : ∀ ty, (Instr.next (.pointer (some ⟨w.heap.size, 0, none⟩)) true ty).run Try.prog (w.iter s k) = _ := fun ty => run_next_ascii w s k ty hks ha
        generalize s[k]'hks = c at *
        by_cases c0 : c.toNat < 33
        · have HF := Lib.hid (HN.out (by unfold let_; rw [decide_eq_false (by omega)]; rfl))
          have d0 : ((c.toNat : Int) < 33) := by omega
          go_wp2
          go_ret
          rw [HF.out]
          exact ⟨rfl, HB.out⟩
        · have d0 : ¬ ((c.toNat : Int) < 33) := by omega
          by_cases c1 : 126 < c.toNat
          · have HF := Lib.hid (HN.out (by unfold let_; rw [decide_eq_false (show ¬ c.toNat ≤ 126 by omega), Bool.and_false]))
            have d1 : ((c.toNat : Int) > 126) := by omega
            go_wp2
            go_ret
            rw [HF.out]
            exact ⟨rfl, HB.out⟩
          · have d1 : ¬ ((c.toNat : Int) > 126) := by omega
            have HT := Lib.hid (HS.out (let_true (by omega) (by omega)))
            go_wp2
            go_roundw
            case rel => exact ⟨k + 1, rfl, by omega, HT.out⟩
            case measure => simp; omega
      · have hhi := decode_high s k hks (by omega)
        have HF := Lib.hid (HN.out (by unfold let_; rw [decide_eq_false (show ¬ (s[k]'hks).toNat ≤ 126 by omega), Bool.and_false]))
        have hnx : ∀ ty, (Instr.next (.pointer (some ⟨w.heap.size, 0, none⟩)) true ty).run Try.prog (w.iter s k) = _ := fun ty => run_next_any w s k ty hks
        have HB := Lib.hid (iter_below w s (k + (Utf8.decode s k).2))
        generalize Utf8.decode s k = d at *
        obtain ⟨c, b⟩ := d
        simp only at hhi hnx HB
        have d0 : ¬ ((c : Int) < 33) := by omega
        have d1 : ((c : Int) > 126) := by omega
        go_wp2
        go_ret
        rw [HF.out]
        exact ⟨rfl, HB.out⟩
    · have hnx : ∀ ty, (Instr.next (.pointer (some ⟨w.heap.size, 0, none⟩)) true ty).run Try.prog (w.iter s k) = _ := fun ty => run_next_end w s k ty hks
      have HT : Hid (nameB s = true) := nameB_true (by omega) (by omega) (fun j hj => HJ.out j hj (by omega))
      have HB := Lib.hid (iter_below w s k)
      go_wp2
      go_ret
      rw [HT.out]
      exact ⟨rfl, HB.out⟩

set_option maxHeartbeats 1600000 in
set_option maxRecDepth 100000 in
theorem rname_any (s : ByteArray) (w : World) (hs : s.size ≤ 1073741824) :
    Calls Try.prog 53 #[.string s] w fun e w' => e = .returned (.bool (nameB s)) ∧ w = w' := by
  go_enter Try.func53, Try.ntmps53
  go_wp2_with fail
  go_loop [3] (fun i => ∃ k : Nat, k ≤ s.size ∧ i = .int .i64 k ∧ Hid (∀ j (hj : j < s.size), j < k → let_ (s[j]'hj) = true)) (fun i => s.size - (intOf i).toNat)
  case atStart => exact ⟨0, by omega, rfl, fun j _ hj => absurd hj (by omega)⟩
  case round =>
    obtain ⟨k, hk, rfl, HJ⟩ := hrel
    by_cases hks : k < s.size
    · have HN : Hid (let_ (s[k]'hks) = false → nameB s = false) := nameB_false hks
      have HS : Hid (let_ (s[k]'hks) = true → ∀ j (hj : j < s.size), j < k + 1 → let_ (s[j]'hj) = true) := fun hl j hj hj1 => by
        by_cases e : j = k
        · subst e; exact hl
        · exact HJ.out j hj (by omega)
      by_cases c0 : (s[k]'hks).toNat < 33
      · have HF := Lib.hid (HN.out (by unfold let_; rw [decide_eq_false (by omega)]; rfl))
        have d0 : (((s[k]'hks).toNat : Int) < 33) := by omega
        go_wp2_with fail
        go_ret
        rw [HF.out]
        exact ⟨rfl, rfl⟩
      · have d0 : ¬ (((s[k]'hks).toNat : Int) < 33) := by omega
        by_cases c1 : 126 < (s[k]'hks).toNat
        · have HF := Lib.hid (HN.out (by unfold let_; rw [decide_eq_false (show ¬ (s[k]'hks).toNat ≤ 126 by omega), Bool.and_false]))
          have d1 : (((s[k]'hks).toNat : Int) > 126) := by omega
          go_wp2_with fail
          go_ret
          rw [HF.out]
          exact ⟨rfl, rfl⟩
        · have d1 : ¬ (((s[k]'hks).toNat : Int) > 126) := by omega
          have HT := Lib.hid (HS.out (let_true (by omega) (by omega)))
          go_wp2_with fail
          go_round
          case rel => exact ⟨k + 1, by omega, by go_num, HT.out⟩
          case measure => simp [intOf]; omega
    · obtain rfl : k = s.size := by omega
      have HT : Hid (nameB s = (decide (1 ≤ s.size) && decide (s.size ≤ 24))) := by
        unfold Hid nameB
        rw [List.all_eq_true.2 (fun c hc => by
          obtain ⟨j, hj, rfl⟩ := List.getElem_of_mem hc
          have hj' : j < s.size := by simpa using hj
          have := HJ.out j hj' hj'
          rw [Array.getElem_toList]
          exact this), Bool.and_true]
      by_cases h0 : 1 ≤ s.size
      · have g0 : ((s.size : Int) ≥ 1) := by omega
        by_cases h1 : s.size ≤ 24
        · have g1 : ((s.size : Int) ≤ 24) := by omega
          go_wp2_with fail
          go_ret
          rw [HT.out]
          simp [h0, h1]
        · have g1 : ¬ ((s.size : Int) ≤ 24) := by omega
          go_wp2_with fail
          go_ret
          rw [HT.out]
          simp [h1]
      · have g0 : ¬ ((s.size : Int) ≥ 1) := by omega
        go_wp2_with fail
        go_ret
        rw [HT.out]
        simp [h0]
end Go.Proofs.Ytafcgknpehphlaa.Cd
