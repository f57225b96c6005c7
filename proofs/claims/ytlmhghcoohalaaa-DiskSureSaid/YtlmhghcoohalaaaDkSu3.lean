/- The law's own list of what must be there: a name is noted, and what an act notes. -/
import Derived.Test.YtlmhghcoohalaaaDkSu2
namespace Go.Proofs.Ytlmhghcoohalaaa.Dk
open Go.RowKit

set_option maxHeartbeats 3200000 in
set_option maxRecDepth 100000 in
theorem set_any (base X : Nat) (l : Must) (n t : ByteArray) (w : World) (h : Su base w X l) (hl : l.length ≤ 100000) :
    Calls Try.prog 39 #[.pointer (some ⟨X, 0, none⟩), .string n, .string t] w fun e w' => e = .returned (.tuple #[]) ∧ Su base w' X (setS l n t) ∧ Kp base X TM w w' := by
  have hdl : (dropS l n).length ≤ 100000 := Nat.le_trans (List.length_filter_le _ _) hl
  have HD := Lib.hid (drop_any base X l n w h hl)
  unfold setS
  clear h
  generalize dropS l n = m at *
  go_enter Try.func39, Try.ntmps39
  go_wp2_with fail
  refine HD.out.mono ?_
  rintro e w1 ⟨rfl, ⟨vn, vb, h1⟩, k1⟩
  have hX := lt_of_block h1.blk
  have hbw : base ≤ w1.heap.size := by have := h1.ge; omega
  obtain ⟨v1, W1, r1, o1, g1, z1⟩ := app_one base _ _ _ n w1 h1.rn (by omega) hbw 44
  have hXr : some X ≠ vn.ownBlock := fun e => by
    obtain ⟨_, cs, hc⟩ := row_tag h1.rn e.symm
    rw [h1.blk] at hc; cases hc
  have b1 : W1.heap[X]? = _ := (g1.block X hX hXr).trans h1.blk
  have ob : W1.ownsRow base 9 1 vb m.length (nms (m.map (·.2))) := h1.rb.kept g1 (by
    cases hu : vb.ownBlock with
    | none => exact .inl rfl
    | some q => exact .inr fun e => h1.ap q e.symm hu)
  obtain ⟨na, nc, rfl, _⟩ := row_slice h1.rn
  obtain ⟨a1, c1, rfl, _⟩ := row_slice o1
  have b2 := blk3_set (i := 0) (u := .slice a1 (m.length + 1) c1) b1 (ds := #[.slice a1 (m.length + 1) c1, vb]) rfl
  have hk2 : ∀ (j : Nat) (cs : Array Value), W1.heap[j]? = some (Obj.cells cs 9 (0, 0)) → (W1.setCell ⟨X, 0, none⟩ (.slice a1 (m.length + 1) c1)).heap[j]? = some (Obj.cells cs 9 (0, 0)) := fun j cs hj => by
    rw [heap_setCell_other _ _ _ _ (ne_of_tag hj b1 (by decide))]; exact hj
  have o1' := row_at (w' := W1.setCell ⟨X, 0, none⟩ (.slice a1 (m.length + 1) c1)) o1 fun j cs _ hc => hk2 j cs hc
  have ob' := row_at (w' := W1.setCell ⟨X, 0, none⟩ (.slice a1 (m.length + 1) c1)) ob fun j cs _ hc => hk2 j cs hc
  have c0 := blk_cell (i := 0) h1.blk rfl
  have hX1 := lt_of_block b1
  have d0 := blk_cell (i := 0) b1 rfl
  have f0 := blk_free b1 0
  obtain ⟨W2, hW2⟩ : ∃ W2, W2 = W1.setCell ⟨X, 0, none⟩ (.slice a1 (m.length + 1) c1) := ⟨_, rfl⟩
  rw [← hW2] at b2 o1' ob'
  have hbw2 : base ≤ W2.heap.size := by have := lt_of_block b2; have := h1.ge; omega
  obtain ⟨v2, W3, r2, o2, g2, z2⟩ := app_one base _ _ _ t W2 ob' (by omega) hbw2 44
  have hXr2 : some X ≠ vb.ownBlock := fun e => by
    obtain ⟨_, cs, hc⟩ := row_tag ob' e.symm
    rw [b2] at hc; cases hc
  have b3 : W3.heap[X]? = _ := (g2.block X (lt_of_block b2) hXr2).trans b2
  have hsz : W2.heap.size = W1.heap.size := by rw [hW2]; simp [World.setCell]
  have hap2 : ∀ q, (Value.slice a1 (m.length + 1) c1).ownBlock = some q → vb.ownBlock ≠ some q := fun q hu e => by
    rcases z1 q hu with h' | h'
    · exact h1.ap q h' e
    · have := (h1.rb.lt q e).2; omega
  have o1'' := o1'.kept g2 (by
    cases hu : (Value.slice a1 (m.length + 1) c1).ownBlock with
    | none => exact .inl rfl
    | some q => exact .inr fun e => hap2 q hu e.symm)
  have hap3 : ∀ q, (Value.slice a1 (m.length + 1) c1).ownBlock = some q → v2.ownBlock ≠ some q := fun q hq hq2 => by
    have l1 := (o1'.lt q hq).2
    rcases z2 q hq2 with h' | h'
    · exact hap2 q hq h'
    · omega
  obtain ⟨ba, bc, rfl, _⟩ := row_slice h1.rb
  obtain ⟨a2, c2, rfl, _⟩ := row_slice o2
  have b4 := blk3_set (i := 1) (u := .slice a2 (m.length + 1) c2) b3 (ds := #[.slice a1 (m.length + 1) c1, .slice a2 (m.length + 1) c2]) rfl
  have hk4 : ∀ (j : Nat) (cs : Array Value), W3.heap[j]? = some (Obj.cells cs 9 (0, 0)) → (W3.setCell ⟨X, 1, none⟩ (.slice a2 (m.length + 1) c2)).heap[j]? = some (Obj.cells cs 9 (0, 0)) := fun j cs hj => by
    rw [heap_setCell_other _ _ _ _ (ne_of_tag hj b3 (by decide))]; exact hj
  have HR : Hid (Su base (W3.setCell ⟨X, 1, none⟩ (.slice a2 (m.length + 1) c2)) X (m ++ [(n, t)])) := by
    refine ⟨_, _, b4, h1.ge, ?_, ?_, hap3⟩
    · rw [List.length_append, List.map_append, List.map_cons, List.map_nil, nms_snoc]; exact row_at o1'' fun j cs _ hc => hk4 j cs hc
    · rw [List.length_append, List.map_append, List.map_cons, List.map_nil, nms_snoc]; exact row_at o2 fun j cs _ hc => hk4 j cs hc
  have hrt : ∀ (W : World) (vv : Value) (xs : List Value) (q : Nat), W.ownsRow base 9 1 vv m.length xs → some q = vv.ownBlock → base ≤ q ∧ ∀ o, W.heap[q]? = some o → ∃ t ∈ TM, tg o = some t := fun W vv xs q ho e => by
    obtain ⟨h', cs, hc⟩ := row_tag ho e.symm
    exact ⟨h', fun o ho => by rw [hc] at ho; cases ho; exact ⟨_, by simp, rfl⟩⟩
  have HK : Hid (Kp base X TM w (W3.setCell ⟨X, 1, none⟩ (.slice a2 (m.length + 1) c2))) := by
    have q1 : Kp base X TM w W1 := k1.trans (Kp.of_grown g1 fun q hq => hrt w1 _ _ q h1.rn hq.symm)
    have q2 : Kp base X TM w W2 := by rw [hW2]; exact q1.setB h1.ge 0 _
    exact (q2.trans (Kp.of_grown g2 fun q hq => hrt W2 _ _ q ob' hq.symm)).setB h1.ge 1 _
  have p1 := blk_cell (i := 1) b2 rfl
  have p1' := blk_cell (i := 1) b3 rfl
  have f1 := blk_free b3 1
  rw [hW2] at r2 p1
  rw [show (W1.setCell ⟨X, 0, none⟩ (.slice a1 (m.length + 1) c1)).heap.size = W1.heap.size by simp [World.setCell]] at r2
  clear h1 k1 o1 g1 z1 hXr b1 ob b2 hk2 o1' ob' hW2 o2 g2 z2 hXr2 b3 hsz hap2 o1'' hap3 b4 hk4 hrt hX hX1 hbw hbw2
  generalize m.length = len at *
  go_wp2_with (first
    | (at_builtin; refine Lib.wpList_append_run _ rfl _ _ _ _ rfl _ _ rfl rfl _ _ r1 ?_)
    | (at_builtin; refine Lib.wpList_append_run _ rfl _ _ _ _ rfl _ _ rfl rfl _ _ r2 ?_))
  go_end0
  exact ⟨rfl, HR.out, HK.out⟩
end Go.Proofs.Ytlmhghcoohalaaa.Dk
