/- The law's own list of what must be there: a name is forgotten, or noted. -/
import Derived.Test.YtlmhghcoohalaaaDkSu
namespace Go.Proofs.Ytlmhghcoohalaaa.Dk
open Go.RowKit

theorem row_base {w : World} {base base' : Nat} {e : TypeId} {size n : Nat} {v : Value} {xs : List Value} (h : w.ownsRow base' e size v n xs) (hb : base ≤ base') : w.ownsRow base e size v n xs :=
  ⟨h.1, h.2.imp id fun ⟨g, c, cu, q1, q2, q3⟩ => ⟨g, c, cu, q1, Nat.le_trans hb q2, q3⟩⟩
theorem dropS_next {l : Must} {n : ByteArray} {k : Nat} {x : ByteArray × ByteArray} (hk : l[k]? = some x) : dropS (l.take (k + 1)) n = dropS (l.take k) n ++ (if x.1 = n then [] else [x]) := by
  obtain ⟨h1, rfl⟩ := List.getElem?_eq_some_iff.1 hk
  unfold dropS
  rw [List.take_succ_eq_append_getElem h1, List.filter_append]
  congr 1
  by_cases e : l[k].1 = n <;> simp [e]
theorem nms_snoc (l : List ByteArray) (x : ByteArray) : nms (l ++ [x]) = nms l ++ [.string x] := by simp [nms]

/-- two rows that are made side by side -/
structure Two (base : Nat) (w : World) (v u : Value) (l : Must) : Prop where
  rn : w.ownsRow base 9 1 v l.length (nms (l.map (·.1)))
  rb : w.ownsRow base 9 1 u l.length (nms (l.map (·.2)))
  ap : ∀ k, v.ownBlock = some k → u.ownBlock ≠ some k

set_option maxHeartbeats 3200000 in
set_option maxRecDepth 100000 in
theorem drop_any (base X : Nat) (l : Must) (n : ByteArray) (w : World) (h : Su base w X l) (hl : l.length ≤ 100000) :
    Calls Try.prog 41 #[.pointer (some ⟨X, 0, none⟩), .string n] w fun e w' => e = .returned (.tuple #[]) ∧ Su base w' X (dropS l n) ∧ Kp base X TM w w' := by
  obtain ⟨vn, vb, h⟩ := h
  have hbw : base ≤ w.heap.size := by have := h.ge; have := lt_of_block h.blk; omega
  have hX := lt_of_block h.blk
  obtain ⟨na, nc, ba, bc, rfl, rfl, _, _, _, _, _, _, _⟩ := h.reads
  have HS := Lib.hid h
  have HBW := Lib.hid hbw
  have HX := Lib.hid hX
  clear h hbw hX
  obtain ⟨len, hlen⟩ : ∃ len, l.length = len := ⟨_, rfl⟩
  rw [hlen] at hl HS
  have HL := Lib.hid hlen
  have HTA : Hid (l.take len = l) := by show l.take len = l; rw [← hlen]; exact List.take_length
  clear hlen
  go_enter Try.func41, Try.ntmps41
  go_wp2_with fail
  go_loopw [4, 5, 6] (fun v u i wr => ∃ k : Nat, k ≤ len ∧ i = .int .i64 (k : Int) ∧ Hid (Two w.heap.size wr v u (dropS (l.take k) n)) ∧ Hid (Below w.heap.size w wr)) (fun _ _ i _ => len - (intOf i).toNat)
  case atStart => exact ⟨0, by omega, rfl, ⟨World.ownsRow_nil _ _ _ _, World.ownsRow_nil _ _ _ _, fun _ h => by simp [Value.ownBlock] at h⟩, Below.refl _ _⟩
  case round =>
    obtain ⟨k, hk, rfl, HT, HB⟩ := hrel
    have hs : SuAt base wr X (.slice na l.length nc) (.slice ba l.length bc) l := by
      have h' := HS.out
      rw [← HL.out] at h'
      exact h'.kept fun k _ _ hc _ => (HB.out.block k (lt_of_block hc)).trans hc
    obtain ⟨na', nc', ba', bc', e1, e2, n1, b1, n2, b2, c0, c1, hc⟩ := hs.reads
    injection e1 with e1 _ e1'
    injection e2 with e2 _ e2'
    subst e1 e1' e2 e2'
    rw [HL.out] at c0 c1 n1 b1
    by_cases hlt : k < len
    · obtain ⟨x, hx⟩ : ∃ x, l[k]? = some x := ⟨_, List.getElem?_eq_getElem (by rw [HL.out]; exact hlt)⟩
      obtain ⟨gn, gb, rfl, rfl, q0, q1⟩ := hc k x hx
      have hq := ba_eq (a := x.1) (b := n)
      have hnx := dropS_next (n := n) hx
      have hml : (dropS (l.take k) n).length ≤ 100000 := Nat.le_trans (List.length_filter_le _ _) (by rw [List.length_take]; omega)
      by_cases he : x.1 = n
      · rw [decide_eq_true he] at hq
        rw [if_pos he, List.append_nil] at hnx
        have HNX := Lib.hid hnx
        have hnq : (!(x.1.toList == n.toList)) = false := by rw [hq]; rfl
        clear hx he hc hs hnx
        obtain ⟨xn, xb⟩ := x
        simp only at *
        go_wp2_with fail
        go_roundw
        case rel => exact ⟨k + 1, by omega, by go_num, by show Two _ _ _ _ _; rw [HNX.out]; exact HT.out, HB⟩
        case measure => simp [intOf]; omega
      · rw [decide_eq_false he] at hq
        rw [if_neg he] at hnx
        have HNX := Lib.hid hnx
        obtain ⟨v1, w1, r1, o1, g1, k1⟩ := app_one w.heap.size _ _ _ x.1 wr HT.out.rn (by omega) HB.out.size 44
        have hB1 : Below w.heap.size w w1 := HB.out.grown g1 HB.out.size fun q hq => (HT.out.rn.lt q hq).1
        have ou : w1.ownsRow w.heap.size 9 1 u5 (dropS (l.take k) n).length (nms ((dropS (l.take k) n).map (·.2))) := HT.out.rb.kept g1 (by
          cases hu : u5.ownBlock with
          | none => exact .inl rfl
          | some q => exact .inr fun e => HT.out.ap q e.symm hu)
        obtain ⟨v2, w2, r2, o2, g2, k2⟩ := app_one w.heap.size _ _ _ x.2 w1 ou (by omega) hB1.size 44
        have hB2 : Below w.heap.size w w2 := hB1.grown g2 hB1.size fun q hq => (ou.lt q hq).1
        have hap : ∀ q, v1.ownBlock = some q → v2.ownBlock ≠ some q := fun q hq hq2 => by
          have l1 := (o1.lt q hq).2
          rcases k2 q hq2 with h2 | h2
          · rcases k1 q hq with h1 | h1
            · exact HT.out.ap q h1 h2
            · have := (HT.out.rb.lt q h2).2; omega
          · omega
        have hap2 : ∀ q, v1.ownBlock = some q → u5.ownBlock ≠ some q := fun q hu e => by
          rcases k1 q hu with h1 | h1
          · exact HT.out.ap q h1 e
          · have := (HT.out.rb.lt q e).2; omega
        have o1' := o1.kept g2 (by
          cases hu : v1.ownBlock with
          | none => exact .inl rfl
          | some q => exact .inr fun e => hap2 q hu e.symm)
        have HT2 : Hid (Two w.heap.size w2 v1 v2 (dropS (l.take (k + 1)) n)) := by
          show Two _ _ _ _ _
          rw [HNX.out]
          refine ⟨?_, ?_, hap⟩
          · rw [List.length_append, List.map_append, List.map_cons, List.map_nil, nms_snoc]; exact o1'
          · rw [List.length_append, List.map_append, List.map_cons, List.map_nil, nms_snoc]; exact o2
        have HB2 := Lib.hid hB2
        have hs1 : SuAt base w1 X (.slice (some ⟨gn, 0, none⟩) l.length nc) (.slice (some ⟨gb, 0, none⟩) l.length bc) l := by
          have h' := HS.out
          rw [← HL.out] at h'
          exact h'.kept fun k _ _ hc _ => (hB1.block k (lt_of_block hc)).trans hc
        obtain ⟨_, _, _, _, e1, e2, _, _, _, _, d0, d1, hd⟩ := hs1.reads
        injection e1 with e1 _ e1'
        injection e2 with e2 _ e2'
        subst e1 e1' e2 e2'
        obtain ⟨gn', gb', e1, e2, _, p1⟩ := hd k x hx
        injection e1 with e1; injection e1 with e1
        injection e2 with e2; injection e2 with e2
        subst e1 e2
        rw [HL.out] at d0 d1
        have hnq : (!(x.1.toList == n.toList)) = true := by rw [hq]; rfl
        clear hx he hc hs hnx hd hs1 o1 o1' o2 ou g1 g2 k1 k2 hap hap2 hB1 hB2 HT
        obtain ⟨xn, xb⟩ := x
        simp only at *
        generalize (dropS (l.take k) n).length = m at *
        go_wp2_with (first
          | (at_builtin; refine Lib.wpList_append_run _ rfl _ _ _ _ rfl _ _ rfl rfl _ _ r1 ?_)
          | (at_builtin; refine Lib.wpList_append_run _ rfl _ _ _ _ rfl _ _ rfl rfl _ _ r2 ?_))
        go_roundw
        case rel => exact ⟨k + 1, by omega, by go_num, HT2, HB2⟩
        case measure => simp [intOf]; omega
    · obtain rfl : k = len := by omega
      have ht := HT.out
      rw [HTA.out] at ht
      obtain ⟨va, vc, rfl, _⟩ := row_slice ht.rn
      obtain ⟨ua, uc, rfl, _⟩ := row_slice ht.rb
      have hx1 := hs.blk
      have f0 := blk_free hx1 0
      have hx2 := blk3_set (i := 0) (u := .slice va (dropS l n).length vc) hx1 rfl
      have p1 := blk_cell (i := 1) hx2 rfl
      have f1 := blk_free hx2 1
      have hx3 := blk3_set (i := 1) (u := .slice ua (dropS l n).length uc) hx2 (ds := #[.slice va (dropS l n).length vc, .slice ua (dropS l n).length uc]) rfl
      have hkeep : ∀ (j : Nat) (cs : Array Value), wr.heap[j]? = some (Obj.cells cs 9 (0, 0)) → ((wr.setCell ⟨X, 0, none⟩ (.slice va (dropS l n).length vc)).setCell ⟨X, 1, none⟩ (.slice ua (dropS l n).length uc)).heap[j]? = some (Obj.cells cs 9 (0, 0)) := fun j cs hj => by
        rw [heap_setCell_other _ _ _ _ (ne_of_tag hj hx1 (by decide)), heap_setCell_other _ _ _ _ (ne_of_tag hj hx1 (by decide))]; exact hj
      have HR : Hid (Su base ((wr.setCell ⟨X, 0, none⟩ (.slice va (dropS l n).length vc)).setCell ⟨X, 1, none⟩ (.slice ua (dropS l n).length uc)) X (dropS l n)) :=
        ⟨_, _, hx3, hs.ge, row_at (row_base ht.rn HBW.out) fun j cs _ hc => hkeep j cs hc, row_at (row_base ht.rb HBW.out) fun j cs _ hc => hkeep j cs hc, ht.ap⟩
      have HK : Hid (Kp base X TM w ((wr.setCell ⟨X, 0, none⟩ (.slice va (dropS l n).length vc)).setCell ⟨X, 1, none⟩ (.slice ua (dropS l n).length uc))) := ((Kp.of_below HB.out).setB hs.ge 0 _).setB hs.ge 1 _
      clear ht hx1 hx2 hx3 hkeep hs hc HT
      generalize (dropS l n).length = m at *
      go_wp2_with fail
      go_end0
      exact ⟨rfl, HR.out, HK.out⟩
end Go.Proofs.Ytlmhghcoohalaaa.Dk
