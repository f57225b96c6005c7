/- A file is taken out from among others: the library's slices.Delete of one, at rows of pointers. -/
import Derived.Test.YtlmhghcoohalaaaDkIns
import Derived.Lib.SlicesDelete
namespace Go.Proofs.Ytlmhghcoohalaaa.Dk
open Go.RowKit Go.Lib Go.Shelf

set_option maxHeartbeats 4000000 in
set_option maxRecDepth 100000 in
/-- slices.Delete of one: the cells behind it move to it, and the last one is nil -/
theorem delete_at (g n i cap : Nat) (cur : Array Value) (w : World) (hg : w.heap[g]? = some (.cells cur 64 (0, 0))) (hcs : cur.size = cap) (hi : i < n) (hnc : n ≤ cap) (hc63 : cap ≤ 9223372036854775807) (h1c : ∀ u ∈ cur.toList.take n, u.oneCell' = true) :
    Calls Try.prog 57 #[.slice (some ⟨g, 0, none⟩) n cap, .int .i64 (i : Int), .int .i64 ((i : Int) + 1)] w fun e w' =>
      e = .returned (.slice (some ⟨g, 0, none⟩) (n - 1) cap) ∧ w' = (w.drew.setCells g i ((cur.toList.take n).drop (i + 1))).setCells g (n - 1) [.pointer none] := by
  obtain ⟨i0, hi0, hz0, hzs, hzb⟩ := info_parts info64
  obtain ⟨news, hnews⟩ : ∃ news, news = (cur.toList.take n).drop (i + 1) := ⟨_, rfl⟩
  rw [← hnews]
  have hnl : news.length = n - (i + 1) := by rw [hnews]; simp; omega
  have hget : ∀ t u, news[t]? = some u → w.cell? ⟨g, i + 1 + t, none⟩ = some u := fun t u hu => by
    rw [cell_of_row w g (i + 1 + t) cur _ (0, 0) hg]
    rw [hnews, List.getElem?_drop, List.getElem?_take] at hu
    split at hu
    · simpa using hu
    · cases hu
  obtain ⟨A, hA, hsrc⟩ : ∃ A : Addr, (if cap = i + 1 then some (⟨g, 0, none⟩ : Addr) else some ⟨g, i + 1, none⟩) = some A ∧ Hid (∀ t u, news[t]? = some u → w.drew.cell? (A.add t) = some u) := by
    by_cases h : cap = i + 1
    · refine ⟨⟨g, 0, none⟩, by simp [h], fun t u hu => ?_⟩
      have h0 : news.length = 0 := by rw [hnl]; omega
      rw [List.length_eq_zero_iff.1 h0] at hu
      simp at hu
    · exact ⟨⟨g, i + 1, none⟩, by simp [h], fun t u hu => by rw [Addr.add_lit]; exact hget t u hu⟩
  have s1 : Hid (news.length = (n - (i + 1)) * 1) := by show _ = _; rw [Nat.mul_one]; exact hnl
  have s2 : Hid (∀ u ∈ news, u.oneCell' = true) := fun u hu => h1c u (List.mem_of_mem_drop (by rw [← hnews]; exact hu))
  have s3 : Hid (∀ t, t < news.length → (w.drew.cell? ⟨g, 0 + i * 1 + t, none⟩).isSome = true ∧ w.drew.frozen? ⟨g, 0 + i * 1 + t, none⟩ = false) := by
    intro t ht
    rw [hnl] at ht
    rw [Nat.mul_one, Nat.zero_add]
    refine ⟨?_, frozen_of_row w g (i + t) cur _ hg⟩
    show (w.cell? _).isSome = true
    rw [cell_of_row w g (i + t) cur _ (0, 0) hg, Array.getElem?_eq_getElem (by omega)]; rfl
  obtain ⟨W1, hW1⟩ : ∃ W1, W1 = w.drew.setCells g i news := ⟨_, rfl⟩
  have hW : Hid (W1 = w.drew.setCells g (0 + i * 1) news) := by show W1 = _; rw [Nat.mul_one, Nat.zero_add]; exact hW1
  obtain ⟨c1, a1, a2⟩ := heap_setCells g 64 news i w.drew cur hg (by rw [hnl]; omega)
  rw [← hW1] at a1
  have hs1 : c1.size = cap := by rw [← Array.length_toList, a2]; simp; omega
  have hcl : ∀ ty, (Builtin.clear_ #[29] ty #[.slice (some ⟨g, i + (n - (i + 1)), none⟩) (n - (i + (n - (i + 1)))) (cap - (i + (n - (i + 1))))]).run Try.prog W1 = .ok (.tuple #[]) (W1.setCells g (i + (n - (i + 1))) (List.replicate (n - (i + (n - (i + 1)))) (.pointer none))) :=
    fun ty => Lib.run_clear_slice W1 _ 64 ty _ Try.underlying29 (fun _ => by kernel_rfl) rfl rfl g (i + (n - (i + 1))) _ _ (by omega) (fun t ht => by rw [cell_of_row W1 g _ c1 _ (0, 0) a1, Array.getElem?_eq_getElem (by omega)]; rfl) (fun t ht => frozen_of_row W1 g _ c1 _ a1)
  have hlast : (W1.setCells g (i + (n - (i + 1))) (List.replicate (n - (i + (n - (i + 1)))) (Value.pointer none))) = W1.setCells g (n - 1) [.pointer none] := by
    rw [show i + (n - (i + 1)) = n - 1 by omega, show n - (n - 1) = 1 by omega]; rfl
  have HLAST := Lib.hid hlast
  have HW1 := Lib.hid hW1
  have hic : i ≤ cap := by omega
  have hjc : i + 1 ≤ cap := by omega
  have hin : i + 1 ≤ n := by omega
  have hne : ((i : Int) == (i : Int) + 1) = false := by simp; omega
  have hw1 : IntKind.i64.wrap ((i : Int) + 1) = (i : Int) + 1 := by rw [IntKind.wrap_i64]; omega
  have hb1 : (0 : Int) ≤ (i : Int) + 1 := by omega
  have htn : ((i : Int) + 1).toNat = i + 1 := by omega
  have hle : (i : Int) + 1 ≤ (n : Int) := by omega
  have hle2 : (i : Int) ≤ (n : Int) := by omega
  have hlen : n - 1 = i + (n - (i + 1)) := by omega
  have HLEN := Lib.hid hlen
  clear hW1 hg hget hnews hnl a1 a2 hs1 h1c hlast hlen
  go_enter Try.func57, Try.ntmps57
  go_wp2_with fail
  go_region_law (refine step_append_room rfl (.tmp 22) (.tmp 25) 29 rfl 64 i0 1 Try.underlying29 hi0 hzs g 0 i cap (by simp [Act.eval, Act.put]) A (n - (i + 1)) (cap - (i + 1)) news (by simp [Act.eval, Act.put]) s1.out hsrc.out s2.out (by omega) s3.out ?_; rw [← hW.out])
  go_wp2
  go_ret
  exact ⟨by rw [HLEN.out]; rfl, by rw [← HW1.out, ← HLAST.out]⟩
/-- slices.Delete of one -/
theorem delete_any (base n i : Nat) (v : Value) (xs : List Value) (w : World) (hown : w.ownsRow base 64 1 v n xs) (hi : i < n) (h1c : ∀ u ∈ xs, u.oneCell' = true) :
    Calls Try.prog 57 #[v, .int .i64 (i : Int), .int .i64 ((i : Int) + 1)] w fun e w' =>
      ∃ v', e = .returned v' ∧ w'.ownsRow base 64 1 v' (n - 1) (xs.take i ++ xs.drop (i + 1)) ∧ v'.ownBlock = v.ownBlock ∧ w.grownBy w' v.ownBlock := by
  have hxl : xs.length = n := by have := hown.1; omega
  rcases hown.2 with ⟨rfl, h0⟩ | ⟨g, cap, cur, rfl, hbg, hg, hnc, hcm, hcs, htake⟩
  · omega
  · rw [Nat.mul_one] at hcs htake
    have h63 : cap ≤ 9223372036854775807 := by unfold maxLen at hcm; omega
    refine (delete_at g n i cap cur w hg hcs hi hnc h63 (by rw [htake]; exact h1c)).mono ?_
    rintro e w' ⟨rfl, rfl⟩
    rw [htake]
    have hdl : (xs.drop (i + 1)).length = n - (i + 1) := by rw [List.length_drop, hxl]
    obtain ⟨c1, a1, a2⟩ := heap_setCells g 64 (xs.drop (i + 1)) i w.drew cur hg (by rw [hdl]; omega)
    have hs1 : c1.size = cap := by rw [← Array.length_toList, a2]; simp; omega
    obtain ⟨c2, b1, b2⟩ := heap_setCells g 64 [.pointer none] (n - 1) _ c1 a1 (by simp; omega)
    have hs2 : c2.size = cap := by rw [← Array.length_toList, b2]; simp; omega
    have hct : cur.toList.take i = xs.take i := by rw [← htake, List.take_take, Nat.min_eq_left (by omega)]
    refine ⟨_, rfl, ⟨by simp; omega, .inr ⟨g, cap, c2, rfl, hbg, b1, by omega, hcm, by rw [hs2, Nat.mul_one], ?_⟩⟩, rfl, ?_⟩
    · rw [Nat.mul_one, b2, List.append_assoc, List.take_append_of_le_length (by rw [List.length_take, Array.length_toList]; omega), List.take_take, Nat.min_self, a2, hct, List.take_append_of_le_length (by simp; omega), List.take_of_length_le (by simp; omega)]
    · have k1 := grown_setCells g (xs.drop (i + 1)) i w.drew
      have k2 := grown_setCells g [.pointer none] (n - 1) (w.drew.setCells g i (xs.drop (i + 1)))
      exact grown_trans (a := w) ⟨k1.os, k1.tape, k1.output, k1.size, k1.block⟩ k2
end Go.Proofs.Ytlmhghcoohalaaa.Dk
