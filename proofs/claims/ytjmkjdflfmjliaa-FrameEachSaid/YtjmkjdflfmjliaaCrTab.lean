/- The walk of the table: what four steps make of each four bits. -/
import Derived.Test.YtjmkjdflfmjliaaCrSteps
import Derived.Laws.Rows
import Derived.Below
import Derived.Laws.CopyOwn
namespace Go.Proofs.Ytjmkjdflfmjliaa.Cr
open Go.RowKit

/-- the table's first k entries laid, the others not yet -/
def tabV (k i : Nat) : Value := .int .u32 (if i < k then ((sts 4 i : Nat) : Int) else 0)
def tabA (k : Nat) : Array Value := ((List.range 16).map (tabV k)).toArray
theorem tabA_size (k : Nat) : (tabA k).size = 16 := by simp [tabA]
theorem tabA_get (k i : Nat) (h : i < 16) : (tabA k)[i]? = some (tabV k i) := by simp [tabA, h]
theorem tabA_zero : tabA 0 = #[Value.int IntKind.u32 0, Value.int IntKind.u32 0, Value.int IntKind.u32 0, Value.int IntKind.u32 0, Value.int IntKind.u32 0, Value.int IntKind.u32 0, Value.int IntKind.u32 0, Value.int IntKind.u32 0,
  Value.int IntKind.u32 0, Value.int IntKind.u32 0, Value.int IntKind.u32 0, Value.int IntKind.u32 0, Value.int IntKind.u32 0, Value.int IntKind.u32 0, Value.int IntKind.u32 0, Value.int IntKind.u32 0] := by rfl
theorem tabA_set (k : Nat) (h : k < 16) : (tabA k).setIfInBounds k (.int .u32 ((sts 4 k : Nat) : Int)) = tabA (k + 1) := by
  apply Array.ext_getElem?
  intro i
  rw [Array.getElem?_setIfInBounds, tabA_size]
  by_cases hi : i < 16
  · rw [tabA_get _ _ hi, tabA_get _ _ hi]
    by_cases e : k = i
    · subst e; simp [hi, tabV]
    · rw [if_neg e]
      unfold tabV
      by_cases h1 : i < k
      · rw [if_pos h1, if_pos (by omega)]
      · rw [if_neg h1, if_neg (by omega)]
  · rw [Array.getElem?_eq_none (by rw [tabA_size]; omega), Array.getElem?_eq_none (by rw [tabA_size]; omega), if_neg (by omega)]

theorem tabA_one : (tabA 16).all (·.oneCell') = true := by kernel_rfl
/-- a block of cells that stands in memory as laid -/
def Blk (g : Nat) (cs : Array Value) (t : TypeId) (w : World) : Prop := w.heap[g]? = some (.cells cs t (0, 0))

set_option maxHeartbeats 400000 in
theorem fours_any (w : World) :
    Calls Try.prog 27 #[] w fun e w' => e = .returned (.agg (tabA 16)) ∧ Below w.heap.size w w' := by
  go_enter Try.func27, Try.ntmps27
  go_wp2
  go_loopw [2, 3] (fun _ i wr => ∃ k : Nat, k ≤ 16 ∧ i = .int .i64 k ∧ Blk w.heap.size (tabA 0) 54 wr ∧ Blk (w.heap.size + 1) (tabA k) 54 wr ∧ w.heap.size + 1 < wr.heap.size ∧ Below w.heap.size w wr) (fun _ i _ => 16 - (intOf i).toNat)
  case atStart =>
    refine ⟨0, by omega, rfl, ?_, ?_, ?_, ?_⟩
    · exact heap_alloc2_old w _ _
    · exact heap_alloc2_new w _ _
    · simp
    · exact ((Below.refl _ _).alloc (Nat.le_refl _) _).alloc (by simp) _
  case round =>
    obtain ⟨k, hk, rfl, h0, h1, hsz, hb⟩ := hrel
    by_cases hlt : k < 16
    · have hcell : wr.cell? ⟨w.heap.size + 1, k, none⟩ = some (tabV k k) := by
        rw [cell_of_row wr _ _ _ _ _ h1, tabA_get k k hlt]
      have hfr : wr.frozen? ⟨w.heap.size + 1, k, none⟩ = false := frozen_of_row wr _ _ _ _ h1
      go_wp2_with fail
      refine (steps_any k 4 (by omega) (by omega) wr).mono ?_
      rintro e w1 ⟨rfl, rfl⟩
      go_wp2
      go_roundw
      case rel =>
        refine ⟨k + 1, by omega, by go_num, ?_, ?_, ?_, ?_⟩
        · exact (heap_setCell_other wr _ _ _ (by simp)).trans h0
        · have := heap_setCell_same wr _ k _ _ (.int .u32 ((sts 4 k : Nat) : Int)) h1
          rw [tabA_set k hlt] at this
          exact this
        · simpa using hsz
        · exact hb.setCell (by simp) _
      case measure => simp [intOf]; omega
    · obtain rfl : k = 16 := by omega
      go_wp2_with (first
        | (refine wpList_load_row rfl _ _ rfl (w.heap.size + 1) rfl _ _ _ _ h1 Try.underlying54 rfl (by kernel_rfl) ?_)
        | (refine wpList_store_row rfl 54 _ _ rfl w.heap.size (tabA 16) rfl rfl _ (tabA 0) h0 (by kernel_rfl) rfl tabA_one ?_))
      have h2 : Blk w.heap.size (tabA 16) 54 (wr.setRow w.heap.size (tabA 16)) := setRow_heap wr _ _ _ _ _ h0
      have hb2 := below_setRow hb (Nat.le_refl _) (tabA 16)
      generalize wr.setRow w.heap.size (tabA 16) = wz at h2 hb2
      exact bodyPost_ret (v := .agg (tabA 16)) (results_cell_row (by rfl) _ wz w.heap.size _ (tabA 16) _ _ (by rfl) h2 Try.underlying54 rfl (by kernel_rfl)) rfl ⟨rfl, hb2⟩
end Go.Proofs.Ytjmkjdflfmjliaa.Cr
