/- Keys from one on, given one by one; All, From, and Keys. -/
import Derived.Test.YthcofcpnhopnnaaAvEach
import Derived.Maps.AppendAt
set_option linter.unusedSimpArgs false
namespace Go.Proofs.Ythcofcpnhopnnaa.Av
open Go.RowKit Go.Shelf

attribute [local go_sem] Oper.semAt_some

/-- the keys that are not below one -/
def fromL : T → Int → List Pr
  | .nil, _ => []
  | .nd a k u b, key => if k < key then fromL b key else fromL a key ++ (k, u) :: b.toL
theorem fromL_is : ∀ (t : T) (key : Int), Sorted t.toL → fromL t key = t.toL.drop (pos t.toL key)
  | .nil, _, _ => rfl
  | .nd a k u b, key, h => by
    rw [toL_nd] at h ⊢
    rw [sorted_mid] at h
    obtain ⟨s1, s2, s3, s4⟩ := h
    unfold fromL
    by_cases h1 : k < key
    · have hl : Lo (a.toL ++ [(k, u)]) key := fun p hp => by
        rcases List.mem_append.1 hp with hp | hp
        · have := s3 p hp; omega
        · rw [List.mem_singleton.1 hp]; exact h1
      have e : a.toL ++ (k, u) :: b.toL = (a.toL ++ [(k, u)]) ++ b.toL := by simp
      rw [if_pos h1, e, pos_lo hl, List.drop_length_add_append, fromL_is b key s2]
    · rw [if_neg h1, pos_hi (by omega), List.drop_append_of_le_length (pos_le _ _), fromL_is a key s1]
theorem fromL_len (t : T) (key : Int) : (fromL t key).length ≤ t.toL.length := by
  induction t with
  | nil => exact Nat.le_refl _
  | nd a k u b ia ib =>
    unfold fromL
    rw [toL_nd]
    split
    · simp; omega
    · simp; omega

set_option maxHeartbeats 6400000 in
set_option maxRecDepth 100000 in
theorem from_in (l N : Nat) (W0 : World) (J Jx : List Pr → World → Prop) {Bd : Nat} (hJ : AbidesFrom Bd J) (hY : Rnd l N W0 J Jx) (key : Int) (t : T) :
    ∀ (n : Nat) (p : Option Addr) (pre : List Pr) (W : World), Tr W0 t p → Below W0.heap.size W0 W → J pre W → pre.length + (fromL t key).length ≤ N →
      CallsIn Fence.wide n Try.prog 28 #[.pointer p, .int .i64 key, .func (.yield l) #[] #[]] W (Gv W0 J Jx pre (fromL t key)) := by
  induction t with
  | nil =>
    intro n p pre W ht hb hj _
    obtain rfl : p = none := ht
    have HJ := Lib.hid hj
    have HB := Lib.hid hb
    clear hj hb
    refine callsIn_of_wp Try.func28 rfl trivial ?_ rfl
    simp only [Try.ntmps28, List.size_toArray, List.length_cons, List.length_nil, Nat.reduceAdd, Nat.reduceSub, Array.replicate_succ, Array.replicate_zero, List.push_toArray, List.append_toArray, List.nil_append, List.cons_append]
    gi_wp2_with fail
    go_ret
    exact .inl ⟨by simp, by have := HJ.out; simpa [fromL] using this, HB.out⟩
  | nd a k u b iha ihb =>
    intro n p pre W ht hb hj hN
    obtain ⟨B, pa, pb, rfl, hc, ta, tb⟩ := ht.open_
    by_cases hkk : k < key
    · have hE : fromL (.nd a k u b) key = fromL b key := by
        conv => lhs; unfold fromL
        rw [if_pos hkk]
      rw [hE] at hN ⊢
      have IB := Lib.hid (fun n => ihb n pb pre W tb hb hj hN)
      obtain ⟨c0, c1, c2, c3⟩ := hc _ hb
      have hdd : decide (k < key) = true := by simp [hkk]
      clear hj hb iha ihb ht hc ta tb hY hJ hN
      refine callsIn_of_wp Try.func28 rfl trivial ?_ rfl
      simp only [Try.ntmps28, List.size_toArray, List.length_cons, List.length_nil, Nat.reduceAdd, Nat.reduceSub, Array.replicate_succ, Array.replicate_zero, List.push_toArray, List.append_toArray, List.nil_append, List.cons_append]
      gi_wp2_with fail
      refine ⟨trivial, (fun h => by cases h), (callsIn_wide.2 (less_any k key _)).mono ?_⟩
      rintro e w1 ⟨rfl, rfl⟩
      rw [hdd]
      gi_wp2_with fail
      refine ⟨trivial, (fun h => by cases h), (IB.out _).mono ?_⟩
      rintro e w1 (⟨rfl, h1⟩ | ⟨rfl, h1⟩)
      · have H1 := Lib.hid h1
        clear h1
        gi_wp2_with fail
        go_ret
        exact .inl ⟨rfl, H1.out⟩
      · have H1 := Lib.hid h1
        clear h1
        gi_wp2_with fail
        go_ret
        exact .inr ⟨rfl, H1.out⟩
    have hE : fromL (.nd a k u b) key = fromL a key ++ (k, u) :: b.toL := by
      conv => lhs; unfold fromL
      rw [if_neg hkk]
    rw [hE] at hN ⊢
    have HJ : Hid (J pre W.drew) := hJ _ _ _ none hj (grown_of (Below.refl W.heap.size W).drew) (fun r e => by cases e)
    have HB : Hid (Below W0.heap.size W0 W.drew) := hb.trans ((Below.refl W.heap.size W).drew.mono hb.size)
    rw [List.length_append, List.length_cons] at hN
    have IA := Lib.hid (fun n W hb hj => iha n pa pre W ta hb hj (by omega))
    have IB := Lib.hid (fun n W hb hj => each_in l N W0 J Jx hJ hY b n pb (pre ++ fromL a key ++ [(k, u)]) W tb hb hj (by simp; omega))
    have hN1 : (pre ++ fromL a key).length < N := by simp; omega
    have HC := Lib.hid hc
    have HY := Lib.hid hY
    have HQA : Hid (fromL a key <+: fromL a key ++ (k, u) :: b.toL) := List.prefix_append _ _
    have HQM : Hid (fromL a key ++ [(k, u)] <+: fromL a key ++ (k, u) :: b.toL) := ⟨b.toL, by simp⟩
    have HQB : Hid (∀ q, q <+: b.toL → fromL a key ++ (k, u) :: q <+: fromL a key ++ (k, u) :: b.toL) := by
      rintro q ⟨r, hr⟩
      exact ⟨r, by simp [← hr]⟩
    obtain ⟨c0, c1, c2, c3⟩ := hc _ HB.out
    have k0 := (hc _ hb).1
    have hdd : decide (k < key) = false := by simp; omega
    clear hj hb iha ihb ht hc ta tb hY hJ hE
    refine callsIn_of_wp Try.func28 rfl trivial ?_ rfl
    simp only [Try.ntmps28, List.size_toArray, List.length_cons, List.length_nil, Nat.reduceAdd, Nat.reduceSub, Array.replicate_succ, Array.replicate_zero, List.push_toArray, List.append_toArray, List.nil_append, List.cons_append]
    gi_wp2_with fail
    refine ⟨trivial, (fun h => by cases h), (callsIn_wide.2 (less_any k key _)).mono ?_⟩
    rintro e w1 ⟨rfl, rfl⟩
    rw [hdd]
    clear k0
    gi_wp2_with fail
    refine wpIn_region_any (by kernel_rfl) ?_
    change wpAnyIn _ _ _ _ _ _ _ _ _ (World.drew _)
    refine wpAnyIn_take (i := 0) (oi := { dst := some 22, op := Op.move (Operand.tmp 0), type := 24, pos := "node.go:88", after := #[], guard := none }) (v := ?_) rfl rfl (by kernel_rfl) (by kernel_rfl) (by kernel_rfl) (fun _ _ _ h => h) ⟨Or.inl ⟨by kernel_rfl, ?_⟩, fun _ => rfl⟩ ?_; rotate_left; (focus (intro w; go_simp; all_goals (with_reducible rfl)))
    try simp only [Act.put, List.setIfInBounds_toArray, List.set_cons_zero, List.set_cons_succ]
    refine wpAnyIn_take (i := 1) (oi := { dst := some 23, op := Op.nilCheck (Operand.tmp 22), type := 0, pos := "node.go:88", after := #[{ on := 0, ground := Ground.data }], guard := none }) (v := ?_) rfl rfl (by kernel_rfl) (by kernel_rfl) (by kernel_rfl) (fun _ _ _ h => h) ⟨Or.inl ⟨by kernel_rfl, ?_⟩, fun _ => rfl⟩ ?_; rotate_left; (focus (intro w; go_simp; all_goals (with_reducible rfl)))
    try simp only [Act.put, List.setIfInBounds_toArray, List.set_cons_zero, List.set_cons_succ]
    refine wpAnyIn_take (i := 2) (oi := { dst := some 24, op := Op.fieldAddr 56 (Operand.tmp 23) 2, type := 0, pos := "node.go:88", after := #[{ on := 1, ground := Ground.data }], guard := none }) (v := ?_) rfl rfl (by kernel_rfl) (by kernel_rfl) (by kernel_rfl) (fun _ _ _ h => h) ⟨Or.inl ⟨by kernel_rfl, ?_⟩, fun _ => rfl⟩ ?_; rotate_left; (focus (intro w; go_simp; all_goals (with_reducible rfl)))
    try simp only [Act.put, List.setIfInBounds_toArray, List.set_cons_zero, List.set_cons_succ]
    refine wpAnyIn_take (i := 4) (oi := { dst := some 26, op := Op.move (Operand.tmp 1), type := 3, pos := "node.go:88", after := #[], guard := none }) (v := ?_) rfl rfl (by kernel_rfl) (by kernel_rfl) (by kernel_rfl) (fun _ _ _ h => h) ⟨Or.inl ⟨by kernel_rfl, ?_⟩, fun _ => rfl⟩ ?_; rotate_left; (focus (intro w; go_simp; all_goals (with_reducible rfl)))
    try simp only [Act.put, List.setIfInBounds_toArray, List.set_cons_zero, List.set_cons_succ]
    refine wpAnyIn_take (i := 5) (oi := { dst := some 27, op := Op.move (Operand.tmp 2), type := 34, pos := "node.go:88", after := #[], guard := none }) (v := ?_) rfl rfl (by kernel_rfl) (by kernel_rfl) (by kernel_rfl) (fun _ _ _ h => h) ⟨Or.inl ⟨by kernel_rfl, ?_⟩, fun _ => rfl⟩ ?_; rotate_left; (focus (intro w; go_simp; all_goals (with_reducible rfl)))
    try simp only [Act.put, List.setIfInBounds_toArray, List.set_cons_zero, List.set_cons_succ]
    refine wpAnyIn_ready (rs := [3]) (by kernel_rfl) (by simp) ?_
    refine AllReadyIn.cons rfl (fun K hK => ?_) ?_
    · go_simp
      refine hK _ _ ?_
      clear hK K
      refine wpAnyIn_ready (rs := [6]) (by kernel_rfl) (by simp) ?_
      refine AllReadyIn.cons rfl (fun K hK => ?_) ?_
      · go_simp
        refine ⟨trivial, (fun h => by cases h), (IA.out _ _ HB.out HJ.out).mono ?_⟩
        rintro e w1 (⟨rfl, hj1, hb1⟩ | ⟨rfl, q, hq, hx⟩)
        · have HJ1 := Lib.hid hj1
          have HB1 := Lib.hid hb1
          obtain ⟨d0, d1, d2, d3⟩ := HC.out w1 hb1
          clear hj1 hb1 c0 c1 c2 c3
          refine hK _ _ ?_
          clear hK K
          refine wpAnyIn_take (i := 7) (oi := { dst := some 29, op := Op.move (Operand.tmp 28), type := 4, pos := "node.go:88", after := #[{ on := 6, ground := Ground.data }, { on := 6, ground := Ground.chain }], guard := none }) (v := ?_) rfl rfl (by kernel_rfl) (by kernel_rfl) (by kernel_rfl) (fun _ _ _ h => h) ⟨Or.inl ⟨by kernel_rfl, ?_⟩, fun _ => rfl⟩ ?_; rotate_left; (focus (intro w; go_simp; all_goals (with_reducible rfl)))
          try simp only [Act.put, List.setIfInBounds_toArray, List.set_cons_zero, List.set_cons_succ]
          refine wpAnyIn_take (i := 8) (oi := { dst := some 30, op := Op.move (Operand.tmp 2), type := 34, pos := "node.go:88", after := #[{ on := 7, ground := Ground.guard }], guard := some (7, true) }) (v := ?_) rfl rfl (by kernel_rfl) (by kernel_rfl) (by kernel_rfl) (fun _ _ _ h => h) ⟨Or.inl ⟨by kernel_rfl, ?_⟩, fun _ => rfl⟩ ?_; rotate_left; (focus (intro w; go_simp; all_goals (with_reducible rfl)))
          try simp only [Act.put, List.setIfInBounds_toArray, List.set_cons_zero, List.set_cons_succ]
          refine wpAnyIn_take (i := 9) (oi := { dst := some 31, op := Op.move (Operand.tmp 0), type := 24, pos := "node.go:88", after := #[{ on := 7, ground := Ground.guard }], guard := some (7, true) }) (v := ?_) rfl rfl (by kernel_rfl) (by kernel_rfl) (by kernel_rfl) (fun _ _ _ h => h) ⟨Or.inl ⟨by kernel_rfl, ?_⟩, fun _ => rfl⟩ ?_; rotate_left; (focus (intro w; go_simp; all_goals (with_reducible rfl)))
          try simp only [Act.put, List.setIfInBounds_toArray, List.set_cons_zero, List.set_cons_succ]
          refine wpAnyIn_take (i := 10) (oi := { dst := some 32, op := Op.nilCheck (Operand.tmp 31), type := 0, pos := "node.go:88", after := #[{ on := 9, ground := Ground.data }, { on := 7, ground := Ground.guard }], guard := some (7, true) }) (v := ?_) rfl rfl (by kernel_rfl) (by kernel_rfl) (by kernel_rfl) (fun _ _ _ h => h) ⟨Or.inl ⟨by kernel_rfl, ?_⟩, fun _ => rfl⟩ ?_; rotate_left; (focus (intro w; go_simp; all_goals (with_reducible rfl)))
          try simp only [Act.put, List.setIfInBounds_toArray, List.set_cons_zero, List.set_cons_succ]
          refine wpAnyIn_take (i := 11) (oi := { dst := some 33, op := Op.fieldAddr 56 (Operand.tmp 32) 0, type := 0, pos := "node.go:88", after := #[{ on := 10, ground := Ground.data }, { on := 7, ground := Ground.guard }], guard := some (7, true) }) (v := ?_) rfl rfl (by kernel_rfl) (by kernel_rfl) (by kernel_rfl) (fun _ _ _ h => h) ⟨Or.inl ⟨by kernel_rfl, ?_⟩, fun _ => rfl⟩ ?_; rotate_left; (focus (intro w; go_simp; all_goals (with_reducible rfl)))
          try simp only [Act.put, List.setIfInBounds_toArray, List.set_cons_zero, List.set_cons_succ]
          refine wpAnyIn_take (i := 13) (oi := { dst := some 35, op := Op.move (Operand.tmp 0), type := 24, pos := "node.go:88", after := #[{ on := 7, ground := Ground.guard }], guard := some (7, true) }) (v := ?_) rfl rfl (by kernel_rfl) (by kernel_rfl) (by kernel_rfl) (fun _ _ _ h => h) ⟨Or.inl ⟨by kernel_rfl, ?_⟩, fun _ => rfl⟩ ?_; rotate_left; (focus (intro w; go_simp; all_goals (with_reducible rfl)))
          try simp only [Act.put, List.setIfInBounds_toArray, List.set_cons_zero, List.set_cons_succ]
          refine wpAnyIn_take (i := 14) (oi := { dst := some 36, op := Op.nilCheck (Operand.tmp 35), type := 0, pos := "node.go:88", after := #[{ on := 13, ground := Ground.data }, { on := 7, ground := Ground.guard }], guard := some (7, true) }) (v := ?_) rfl rfl (by kernel_rfl) (by kernel_rfl) (by kernel_rfl) (fun _ _ _ h => h) ⟨Or.inl ⟨by kernel_rfl, ?_⟩, fun _ => rfl⟩ ?_; rotate_left; (focus (intro w; go_simp; all_goals (with_reducible rfl)))
          try simp only [Act.put, List.setIfInBounds_toArray, List.set_cons_zero, List.set_cons_succ]
          refine wpAnyIn_take (i := 15) (oi := { dst := some 37, op := Op.fieldAddr 56 (Operand.tmp 36) 1, type := 0, pos := "node.go:88", after := #[{ on := 14, ground := Ground.data }, { on := 7, ground := Ground.guard }], guard := some (7, true) }) (v := ?_) rfl rfl (by kernel_rfl) (by kernel_rfl) (by kernel_rfl) (fun _ _ _ h => h) ⟨Or.inl ⟨by kernel_rfl, ?_⟩, fun _ => rfl⟩ ?_; rotate_left; (focus (intro w; go_simp; all_goals (with_reducible rfl)))
          try simp only [Act.put, List.setIfInBounds_toArray, List.set_cons_zero, List.set_cons_succ]
          refine wpAnyIn_ready (rs := [12, 16]) (by kernel_rfl) (by simp) ?_
          refine AllReadyIn.cons rfl (fun K hK => ?_) ?_
          · go_simp
            refine hK _ _ ?_
            clear hK K
            refine wpAnyIn_ready (rs := [16]) (by kernel_rfl) (by simp) ?_
            refine AllReadyIn.cons rfl (fun K hK => ?_) ?_
            · go_simp
              refine hK _ _ ?_
              clear hK K
              refine wpAnyIn_ready (rs := [17]) (by kernel_rfl) (by simp) ?_
              refine AllReadyIn.cons rfl (fun K hK => ?_) ?_
              · go_simp
                obtain ⟨fn, tmps, assign, body, hy, hR⟩ := HY.out (n - 1) _ (k, u) _ HJ1.out hN1
                dsimp only [enc] at hy
                have HR := Lib.hid hR
                clear hR
                go_simp
                refine ⟨(fun h => by cases h), HR.out.mono ?_⟩
                rintro e w2 (⟨rfl, hj2, hb2⟩ | ⟨rfl, hx⟩)
                · have HJ2 := Lib.hid hj2
                  have HB2 := Lib.hid (HB1.out.trans hb2)
                  obtain ⟨g0, g1, g2, g3⟩ := HC.out w2 HB2.out
                  clear hj2 hb2 d0 d1 d2 d3 hy HR
                  refine hK _ _ ?_
                  clear hK K
                  refine wpAnyIn_take (i := 18) (oi := { dst := some 40, op := Op.pick (Operand.tmp 29) (Operand.tmp 39) (Operand.const (Value.bool false)), type := 4, pos := "node.go:88", after := #[{ on := 7, ground := Ground.data }, { on := 17, ground := Ground.data }], guard := none }) (v := ?_) rfl rfl (by kernel_rfl) (by kernel_rfl) (by kernel_rfl) (fun _ _ _ h => h) ⟨Or.inl ⟨by kernel_rfl, ?_⟩, fun _ => rfl⟩ ?_; rotate_left; (focus (intro w; go_simp; all_goals (with_reducible rfl)))
                  try simp only [Act.put, List.setIfInBounds_toArray, List.set_cons_zero, List.set_cons_succ]
                  refine wpAnyIn_take (i := 19) (oi := { dst := some 41, op := Op.move (Operand.tmp 40), type := 4, pos := "node.go:88", after := #[{ on := 18, ground := Ground.data }, { on := 17, ground := Ground.chain }], guard := none }) (v := ?_) rfl rfl (by kernel_rfl) (by kernel_rfl) (by kernel_rfl) (fun _ _ _ h => h) ⟨Or.inl ⟨by kernel_rfl, ?_⟩, fun _ => rfl⟩ ?_; rotate_left; (focus (intro w; go_simp; all_goals (with_reducible rfl)))
                  try simp only [Act.put, List.setIfInBounds_toArray, List.set_cons_zero, List.set_cons_succ]
                  refine wpAnyIn_take (i := 20) (oi := { dst := some 42, op := Op.move (Operand.tmp 0), type := 24, pos := "node.go:88", after := #[{ on := 19, ground := Ground.guard }], guard := some (19, true) }) (v := ?_) rfl rfl (by kernel_rfl) (by kernel_rfl) (by kernel_rfl) (fun _ _ _ h => h) ⟨Or.inl ⟨by kernel_rfl, ?_⟩, fun _ => rfl⟩ ?_; rotate_left; (focus (intro w; go_simp; all_goals (with_reducible rfl)))
                  try simp only [Act.put, List.setIfInBounds_toArray, List.set_cons_zero, List.set_cons_succ]
                  refine wpAnyIn_take (i := 21) (oi := { dst := some 43, op := Op.nilCheck (Operand.tmp 42), type := 0, pos := "node.go:88", after := #[{ on := 20, ground := Ground.data }, { on := 19, ground := Ground.guard }], guard := some (19, true) }) (v := ?_) rfl rfl (by kernel_rfl) (by kernel_rfl) (by kernel_rfl) (fun _ _ _ h => h) ⟨Or.inl ⟨by kernel_rfl, ?_⟩, fun _ => rfl⟩ ?_; rotate_left; (focus (intro w; go_simp; all_goals (with_reducible rfl)))
                  try simp only [Act.put, List.setIfInBounds_toArray, List.set_cons_zero, List.set_cons_succ]
                  refine wpAnyIn_take (i := 22) (oi := { dst := some 44, op := Op.fieldAddr 56 (Operand.tmp 43) 3, type := 0, pos := "node.go:88", after := #[{ on := 21, ground := Ground.data }, { on := 19, ground := Ground.guard }], guard := some (19, true) }) (v := ?_) rfl rfl (by kernel_rfl) (by kernel_rfl) (by kernel_rfl) (fun _ _ _ h => h) ⟨Or.inl ⟨by kernel_rfl, ?_⟩, fun _ => rfl⟩ ?_; rotate_left; (focus (intro w; go_simp; all_goals (with_reducible rfl)))
                  try simp only [Act.put, List.setIfInBounds_toArray, List.set_cons_zero, List.set_cons_succ]
                  refine wpAnyIn_take (i := 24) (oi := { dst := some 46, op := Op.move (Operand.tmp 2), type := 34, pos := "node.go:88", after := #[{ on := 19, ground := Ground.guard }], guard := some (19, true) }) (v := ?_) rfl rfl (by kernel_rfl) (by kernel_rfl) (by kernel_rfl) (fun _ _ _ h => h) ⟨Or.inl ⟨by kernel_rfl, ?_⟩, fun _ => rfl⟩ ?_; rotate_left; (focus (intro w; go_simp; all_goals (with_reducible rfl)))
                  try simp only [Act.put, List.setIfInBounds_toArray, List.set_cons_zero, List.set_cons_succ]
                  refine wpAnyIn_ready (rs := [23]) (by kernel_rfl) (by simp) ?_
                  refine AllReadyIn.cons rfl (fun K hK => ?_) ?_
                  · go_simp
                    refine hK _ _ ?_
                    clear hK K
                    refine wpAnyIn_ready (rs := [25]) (by kernel_rfl) (by simp) ?_
                    refine AllReadyIn.cons rfl (fun K hK => ?_) ?_
                    · go_simp
                      refine ⟨trivial, (fun h => by cases h), (IB.out _ _ HB2.out HJ2.out).mono ?_⟩
                      rintro e w3 (⟨rfl, hj3, hb3⟩ | ⟨rfl, q, hq, hx⟩)
                      · have HJ3 := Lib.hid hj3
                        have HB3 := Lib.hid hb3
                        clear hj3 hb3 g0 g1 g2 g3
                        refine hK _ _ ?_
                        clear hK K
                        refine wpAnyIn_take (i := 26) (oi := { dst := some 48, op := Op.pick (Operand.tmp 41) (Operand.tmp 47) (Operand.const (Value.bool false)), type := 4, pos := "node.go:88", after := #[{ on := 19, ground := Ground.data }, { on := 25, ground := Ground.data }], guard := none }) (v := ?_) rfl rfl (by kernel_rfl) (by kernel_rfl) (by kernel_rfl) (fun _ _ _ h => h) ⟨Or.inl ⟨by kernel_rfl, ?_⟩, fun _ => rfl⟩ ?_; rotate_left; (focus (intro w; go_simp; all_goals (with_reducible rfl)))
                        try simp only [Act.put, List.setIfInBounds_toArray, List.set_cons_zero, List.set_cons_succ]
                        refine wpAnyIn_ready (rs := [27]) (by kernel_rfl) (by simp) ?_
                        refine AllReadyIn.cons rfl (fun K hK => ?_) ?_
                        · go_simp
                          refine hK _ _ ?_
                          clear hK K
                          refine wpAnyIn_done (by kernel_rfl) ?_ _
                          gi_wp2_with fail
                          go_ret
                          exact .inl ⟨by simp, by have := HJ3.out; simpa [T.toL, List.append_assoc] using this, HB3.out⟩
                        exact AllReadyIn.nil
                      · have HX := Lib.hid hx
                        have HQ := Lib.hid hq
                        clear hx hq g0 g1 g2 g3
                        refine hK _ _ ?_
                        clear hK K
                        refine wpAnyIn_take (i := 26) (oi := { dst := some 48, op := Op.pick (Operand.tmp 41) (Operand.tmp 47) (Operand.const (Value.bool false)), type := 4, pos := "node.go:88", after := #[{ on := 19, ground := Ground.data }, { on := 25, ground := Ground.data }], guard := none }) (v := ?_) rfl rfl (by kernel_rfl) (by kernel_rfl) (by kernel_rfl) (fun _ _ _ h => h) ⟨Or.inl ⟨by kernel_rfl, ?_⟩, fun _ => rfl⟩ ?_; rotate_left; (focus (intro w; go_simp; all_goals (with_reducible rfl)))
                        try simp only [Act.put, List.setIfInBounds_toArray, List.set_cons_zero, List.set_cons_succ]
                        refine wpAnyIn_ready (rs := [27]) (by kernel_rfl) (by simp) ?_
                        refine AllReadyIn.cons rfl (fun K hK => ?_) ?_
                        · go_simp
                          refine hK _ _ ?_
                          clear hK K
                          refine wpAnyIn_done (by kernel_rfl) ?_ _
                          gi_wp2_with fail
                          go_ret
                          exact .inr ⟨by simp, _, HQB.out _ HQ.out, by have := HX.out; simpa [List.append_assoc] using this⟩
                        exact AllReadyIn.nil
                    exact AllReadyIn.nil
                  exact AllReadyIn.nil
                · have HX := Lib.hid hx
                  clear hx d0 d1 d2 d3 hy HR
                  refine hK _ _ ?_
                  clear hK K
                  refine wpAnyIn_take (i := 18) (oi := { dst := some 40, op := Op.pick (Operand.tmp 29) (Operand.tmp 39) (Operand.const (Value.bool false)), type := 4, pos := "node.go:88", after := #[{ on := 7, ground := Ground.data }, { on := 17, ground := Ground.data }], guard := none }) (v := ?_) rfl rfl (by kernel_rfl) (by kernel_rfl) (by kernel_rfl) (fun _ _ _ h => h) ⟨Or.inl ⟨by kernel_rfl, ?_⟩, fun _ => rfl⟩ ?_; rotate_left; (focus (intro w; go_simp; all_goals (with_reducible rfl)))
                  try simp only [Act.put, List.setIfInBounds_toArray, List.set_cons_zero, List.set_cons_succ]
                  refine wpAnyIn_take (i := 19) (oi := { dst := some 41, op := Op.move (Operand.tmp 40), type := 4, pos := "node.go:88", after := #[{ on := 18, ground := Ground.data }, { on := 17, ground := Ground.chain }], guard := none }) (v := ?_) rfl rfl (by kernel_rfl) (by kernel_rfl) (by kernel_rfl) (fun _ _ _ h => h) ⟨Or.inl ⟨by kernel_rfl, ?_⟩, fun _ => rfl⟩ ?_; rotate_left; (focus (intro w; go_simp; all_goals (with_reducible rfl)))
                  try simp only [Act.put, List.setIfInBounds_toArray, List.set_cons_zero, List.set_cons_succ]
                  refine wpAnyIn_take (i := 20) (oi := { dst := some 42, op := Op.move (Operand.tmp 0), type := 24, pos := "node.go:88", after := #[{ on := 19, ground := Ground.guard }], guard := some (19, true) }) (v := undef) rfl rfl (by kernel_rfl) (by kernel_rfl) (by kernel_rfl) (fun _ _ _ h => h) ⟨Or.inr ⟨by kernel_rfl, rfl⟩, fun _ => rfl⟩ ?_
                  try simp only [Act.put, List.setIfInBounds_toArray, List.set_cons_zero, List.set_cons_succ]
                  refine wpAnyIn_take (i := 21) (oi := { dst := some 43, op := Op.nilCheck (Operand.tmp 42), type := 0, pos := "node.go:88", after := #[{ on := 20, ground := Ground.data }, { on := 19, ground := Ground.guard }], guard := some (19, true) }) (v := undef) rfl rfl (by kernel_rfl) (by kernel_rfl) (by kernel_rfl) (fun _ _ _ h => h) ⟨Or.inr ⟨by kernel_rfl, rfl⟩, fun _ => rfl⟩ ?_
                  try simp only [Act.put, List.setIfInBounds_toArray, List.set_cons_zero, List.set_cons_succ]
                  refine wpAnyIn_take (i := 22) (oi := { dst := some 44, op := Op.fieldAddr 56 (Operand.tmp 43) 3, type := 0, pos := "node.go:88", after := #[{ on := 21, ground := Ground.data }, { on := 19, ground := Ground.guard }], guard := some (19, true) }) (v := undef) rfl rfl (by kernel_rfl) (by kernel_rfl) (by kernel_rfl) (fun _ _ _ h => h) ⟨Or.inr ⟨by kernel_rfl, rfl⟩, fun _ => rfl⟩ ?_
                  try simp only [Act.put, List.setIfInBounds_toArray, List.set_cons_zero, List.set_cons_succ]
                  refine wpAnyIn_take (i := 23) (oi := { dst := some 45, op := Op.load 24 (Operand.tmp 44), type := 24, pos := "node.go:88", after := #[{ on := 22, ground := Ground.data }, { on := 19, ground := Ground.guard }], guard := some (19, true) }) (v := undef) rfl rfl (by kernel_rfl) (by kernel_rfl) (by kernel_rfl) (fun _ _ _ h => h) ⟨Or.inr ⟨by kernel_rfl, rfl⟩, fun _ => rfl⟩ ?_
                  try simp only [Act.put, List.setIfInBounds_toArray, List.set_cons_zero, List.set_cons_succ]
                  refine wpAnyIn_take (i := 24) (oi := { dst := some 46, op := Op.move (Operand.tmp 2), type := 34, pos := "node.go:88", after := #[{ on := 19, ground := Ground.guard }], guard := some (19, true) }) (v := undef) rfl rfl (by kernel_rfl) (by kernel_rfl) (by kernel_rfl) (fun _ _ _ h => h) ⟨Or.inr ⟨by kernel_rfl, rfl⟩, fun _ => rfl⟩ ?_
                  try simp only [Act.put, List.setIfInBounds_toArray, List.set_cons_zero, List.set_cons_succ]
                  refine wpAnyIn_ready (rs := [25]) (by kernel_rfl) (by simp) ?_
                  refine AllReadyIn.cons rfl (fun K hK => ?_) ?_
                  · go_simp
                    first | refine ⟨trivial, ?_⟩ | refine ⟨fun _ _ => trivial, ?_⟩
                    refine hK _ _ ?_
                    clear hK K
                    refine wpAnyIn_take (i := 26) (oi := { dst := some 48, op := Op.pick (Operand.tmp 41) (Operand.tmp 47) (Operand.const (Value.bool false)), type := 4, pos := "node.go:88", after := #[{ on := 19, ground := Ground.data }, { on := 25, ground := Ground.data }], guard := none }) (v := ?_) rfl rfl (by kernel_rfl) (by kernel_rfl) (by kernel_rfl) (fun _ _ _ h => h) ⟨Or.inl ⟨by kernel_rfl, ?_⟩, fun _ => rfl⟩ ?_; rotate_left; (focus (intro w; go_simp; all_goals (with_reducible rfl)))
                    try simp only [Act.put, List.setIfInBounds_toArray, List.set_cons_zero, List.set_cons_succ]
                    refine wpAnyIn_ready (rs := [27]) (by kernel_rfl) (by simp) ?_
                    refine AllReadyIn.cons rfl (fun K hK => ?_) ?_
                    · go_simp
                      refine hK _ _ ?_
                      clear hK K
                      refine wpAnyIn_done (by kernel_rfl) ?_ _
                      gi_wp2_with fail
                      go_ret
                      exact .inr ⟨by simp, _, HQM.out, by have := HX.out; simpa [List.append_assoc] using this⟩
                    exact AllReadyIn.nil
                  exact AllReadyIn.nil
              exact AllReadyIn.nil
            exact AllReadyIn.nil
          refine AllReadyIn.cons rfl (fun K hK => ?_) ?_
          · go_simp
            refine hK _ _ ?_
            clear hK K
            refine wpAnyIn_ready (rs := [12]) (by kernel_rfl) (by simp) ?_
            refine AllReadyIn.cons rfl (fun K hK => ?_) ?_
            · go_simp
              refine hK _ _ ?_
              clear hK K
              refine wpAnyIn_ready (rs := [17]) (by kernel_rfl) (by simp) ?_
              refine AllReadyIn.cons rfl (fun K hK => ?_) ?_
              · go_simp
                obtain ⟨fn, tmps, assign, body, hy, hR⟩ := HY.out (n - 1) _ (k, u) _ HJ1.out hN1
                dsimp only [enc] at hy
                have HR := Lib.hid hR
                clear hR
                go_simp
                refine ⟨(fun h => by cases h), HR.out.mono ?_⟩
                rintro e w2 (⟨rfl, hj2, hb2⟩ | ⟨rfl, hx⟩)
                · have HJ2 := Lib.hid hj2
                  have HB2 := Lib.hid (HB1.out.trans hb2)
                  obtain ⟨g0, g1, g2, g3⟩ := HC.out w2 HB2.out
                  clear hj2 hb2 d0 d1 d2 d3 hy HR
                  refine hK _ _ ?_
                  clear hK K
                  refine wpAnyIn_take (i := 18) (oi := { dst := some 40, op := Op.pick (Operand.tmp 29) (Operand.tmp 39) (Operand.const (Value.bool false)), type := 4, pos := "node.go:88", after := #[{ on := 7, ground := Ground.data }, { on := 17, ground := Ground.data }], guard := none }) (v := ?_) rfl rfl (by kernel_rfl) (by kernel_rfl) (by kernel_rfl) (fun _ _ _ h => h) ⟨Or.inl ⟨by kernel_rfl, ?_⟩, fun _ => rfl⟩ ?_; rotate_left; (focus (intro w; go_simp; all_goals (with_reducible rfl)))
                  try simp only [Act.put, List.setIfInBounds_toArray, List.set_cons_zero, List.set_cons_succ]
                  refine wpAnyIn_take (i := 19) (oi := { dst := some 41, op := Op.move (Operand.tmp 40), type := 4, pos := "node.go:88", after := #[{ on := 18, ground := Ground.data }, { on := 17, ground := Ground.chain }], guard := none }) (v := ?_) rfl rfl (by kernel_rfl) (by kernel_rfl) (by kernel_rfl) (fun _ _ _ h => h) ⟨Or.inl ⟨by kernel_rfl, ?_⟩, fun _ => rfl⟩ ?_; rotate_left; (focus (intro w; go_simp; all_goals (with_reducible rfl)))
                  try simp only [Act.put, List.setIfInBounds_toArray, List.set_cons_zero, List.set_cons_succ]
                  refine wpAnyIn_take (i := 20) (oi := { dst := some 42, op := Op.move (Operand.tmp 0), type := 24, pos := "node.go:88", after := #[{ on := 19, ground := Ground.guard }], guard := some (19, true) }) (v := ?_) rfl rfl (by kernel_rfl) (by kernel_rfl) (by kernel_rfl) (fun _ _ _ h => h) ⟨Or.inl ⟨by kernel_rfl, ?_⟩, fun _ => rfl⟩ ?_; rotate_left; (focus (intro w; go_simp; all_goals (with_reducible rfl)))
                  try simp only [Act.put, List.setIfInBounds_toArray, List.set_cons_zero, List.set_cons_succ]
                  refine wpAnyIn_take (i := 21) (oi := { dst := some 43, op := Op.nilCheck (Operand.tmp 42), type := 0, pos := "node.go:88", after := #[{ on := 20, ground := Ground.data }, { on := 19, ground := Ground.guard }], guard := some (19, true) }) (v := ?_) rfl rfl (by kernel_rfl) (by kernel_rfl) (by kernel_rfl) (fun _ _ _ h => h) ⟨Or.inl ⟨by kernel_rfl, ?_⟩, fun _ => rfl⟩ ?_; rotate_left; (focus (intro w; go_simp; all_goals (with_reducible rfl)))
                  try simp only [Act.put, List.setIfInBounds_toArray, List.set_cons_zero, List.set_cons_succ]
                  refine wpAnyIn_take (i := 22) (oi := { dst := some 44, op := Op.fieldAddr 56 (Operand.tmp 43) 3, type := 0, pos := "node.go:88", after := #[{ on := 21, ground := Ground.data }, { on := 19, ground := Ground.guard }], guard := some (19, true) }) (v := ?_) rfl rfl (by kernel_rfl) (by kernel_rfl) (by kernel_rfl) (fun _ _ _ h => h) ⟨Or.inl ⟨by kernel_rfl, ?_⟩, fun _ => rfl⟩ ?_; rotate_left; (focus (intro w; go_simp; all_goals (with_reducible rfl)))
                  try simp only [Act.put, List.setIfInBounds_toArray, List.set_cons_zero, List.set_cons_succ]
                  refine wpAnyIn_take (i := 24) (oi := { dst := some 46, op := Op.move (Operand.tmp 2), type := 34, pos := "node.go:88", after := #[{ on := 19, ground := Ground.guard }], guard := some (19, true) }) (v := ?_) rfl rfl (by kernel_rfl) (by kernel_rfl) (by kernel_rfl) (fun _ _ _ h => h) ⟨Or.inl ⟨by kernel_rfl, ?_⟩, fun _ => rfl⟩ ?_; rotate_left; (focus (intro w; go_simp; all_goals (with_reducible rfl)))
                  try simp only [Act.put, List.setIfInBounds_toArray, List.set_cons_zero, List.set_cons_succ]
                  refine wpAnyIn_ready (rs := [23]) (by kernel_rfl) (by simp) ?_
                  refine AllReadyIn.cons rfl (fun K hK => ?_) ?_
                  · go_simp
                    refine hK _ _ ?_
                    clear hK K
                    refine wpAnyIn_ready (rs := [25]) (by kernel_rfl) (by simp) ?_
                    refine AllReadyIn.cons rfl (fun K hK => ?_) ?_
                    · go_simp
                      refine ⟨trivial, (fun h => by cases h), (IB.out _ _ HB2.out HJ2.out).mono ?_⟩
                      rintro e w3 (⟨rfl, hj3, hb3⟩ | ⟨rfl, q, hq, hx⟩)
                      · have HJ3 := Lib.hid hj3
                        have HB3 := Lib.hid hb3
                        clear hj3 hb3 g0 g1 g2 g3
                        refine hK _ _ ?_
                        clear hK K
                        refine wpAnyIn_take (i := 26) (oi := { dst := some 48, op := Op.pick (Operand.tmp 41) (Operand.tmp 47) (Operand.const (Value.bool false)), type := 4, pos := "node.go:88", after := #[{ on := 19, ground := Ground.data }, { on := 25, ground := Ground.data }], guard := none }) (v := ?_) rfl rfl (by kernel_rfl) (by kernel_rfl) (by kernel_rfl) (fun _ _ _ h => h) ⟨Or.inl ⟨by kernel_rfl, ?_⟩, fun _ => rfl⟩ ?_; rotate_left; (focus (intro w; go_simp; all_goals (with_reducible rfl)))
                        try simp only [Act.put, List.setIfInBounds_toArray, List.set_cons_zero, List.set_cons_succ]
                        refine wpAnyIn_ready (rs := [27]) (by kernel_rfl) (by simp) ?_
                        refine AllReadyIn.cons rfl (fun K hK => ?_) ?_
                        · go_simp
                          refine hK _ _ ?_
                          clear hK K
                          refine wpAnyIn_done (by kernel_rfl) ?_ _
                          gi_wp2_with fail
                          go_ret
                          exact .inl ⟨by simp, by have := HJ3.out; simpa [T.toL, List.append_assoc] using this, HB3.out⟩
                        exact AllReadyIn.nil
                      · have HX := Lib.hid hx
                        have HQ := Lib.hid hq
                        clear hx hq g0 g1 g2 g3
                        refine hK _ _ ?_
                        clear hK K
                        refine wpAnyIn_take (i := 26) (oi := { dst := some 48, op := Op.pick (Operand.tmp 41) (Operand.tmp 47) (Operand.const (Value.bool false)), type := 4, pos := "node.go:88", after := #[{ on := 19, ground := Ground.data }, { on := 25, ground := Ground.data }], guard := none }) (v := ?_) rfl rfl (by kernel_rfl) (by kernel_rfl) (by kernel_rfl) (fun _ _ _ h => h) ⟨Or.inl ⟨by kernel_rfl, ?_⟩, fun _ => rfl⟩ ?_; rotate_left; (focus (intro w; go_simp; all_goals (with_reducible rfl)))
                        try simp only [Act.put, List.setIfInBounds_toArray, List.set_cons_zero, List.set_cons_succ]
                        refine wpAnyIn_ready (rs := [27]) (by kernel_rfl) (by simp) ?_
                        refine AllReadyIn.cons rfl (fun K hK => ?_) ?_
                        · go_simp
                          refine hK _ _ ?_
                          clear hK K
                          refine wpAnyIn_done (by kernel_rfl) ?_ _
                          gi_wp2_with fail
                          go_ret
                          exact .inr ⟨by simp, _, HQB.out _ HQ.out, by have := HX.out; simpa [List.append_assoc] using this⟩
                        exact AllReadyIn.nil
                    exact AllReadyIn.nil
                  exact AllReadyIn.nil
                · have HX := Lib.hid hx
                  clear hx d0 d1 d2 d3 hy HR
                  refine hK _ _ ?_
                  clear hK K
                  refine wpAnyIn_take (i := 18) (oi := { dst := some 40, op := Op.pick (Operand.tmp 29) (Operand.tmp 39) (Operand.const (Value.bool false)), type := 4, pos := "node.go:88", after := #[{ on := 7, ground := Ground.data }, { on := 17, ground := Ground.data }], guard := none }) (v := ?_) rfl rfl (by kernel_rfl) (by kernel_rfl) (by kernel_rfl) (fun _ _ _ h => h) ⟨Or.inl ⟨by kernel_rfl, ?_⟩, fun _ => rfl⟩ ?_; rotate_left; (focus (intro w; go_simp; all_goals (with_reducible rfl)))
                  try simp only [Act.put, List.setIfInBounds_toArray, List.set_cons_zero, List.set_cons_succ]
                  refine wpAnyIn_take (i := 19) (oi := { dst := some 41, op := Op.move (Operand.tmp 40), type := 4, pos := "node.go:88", after := #[{ on := 18, ground := Ground.data }, { on := 17, ground := Ground.chain }], guard := none }) (v := ?_) rfl rfl (by kernel_rfl) (by kernel_rfl) (by kernel_rfl) (fun _ _ _ h => h) ⟨Or.inl ⟨by kernel_rfl, ?_⟩, fun _ => rfl⟩ ?_; rotate_left; (focus (intro w; go_simp; all_goals (with_reducible rfl)))
                  try simp only [Act.put, List.setIfInBounds_toArray, List.set_cons_zero, List.set_cons_succ]
                  refine wpAnyIn_take (i := 20) (oi := { dst := some 42, op := Op.move (Operand.tmp 0), type := 24, pos := "node.go:88", after := #[{ on := 19, ground := Ground.guard }], guard := some (19, true) }) (v := undef) rfl rfl (by kernel_rfl) (by kernel_rfl) (by kernel_rfl) (fun _ _ _ h => h) ⟨Or.inr ⟨by kernel_rfl, rfl⟩, fun _ => rfl⟩ ?_
                  try simp only [Act.put, List.setIfInBounds_toArray, List.set_cons_zero, List.set_cons_succ]
                  refine wpAnyIn_take (i := 21) (oi := { dst := some 43, op := Op.nilCheck (Operand.tmp 42), type := 0, pos := "node.go:88", after := #[{ on := 20, ground := Ground.data }, { on := 19, ground := Ground.guard }], guard := some (19, true) }) (v := undef) rfl rfl (by kernel_rfl) (by kernel_rfl) (by kernel_rfl) (fun _ _ _ h => h) ⟨Or.inr ⟨by kernel_rfl, rfl⟩, fun _ => rfl⟩ ?_
                  try simp only [Act.put, List.setIfInBounds_toArray, List.set_cons_zero, List.set_cons_succ]
                  refine wpAnyIn_take (i := 22) (oi := { dst := some 44, op := Op.fieldAddr 56 (Operand.tmp 43) 3, type := 0, pos := "node.go:88", after := #[{ on := 21, ground := Ground.data }, { on := 19, ground := Ground.guard }], guard := some (19, true) }) (v := undef) rfl rfl (by kernel_rfl) (by kernel_rfl) (by kernel_rfl) (fun _ _ _ h => h) ⟨Or.inr ⟨by kernel_rfl, rfl⟩, fun _ => rfl⟩ ?_
                  try simp only [Act.put, List.setIfInBounds_toArray, List.set_cons_zero, List.set_cons_succ]
                  refine wpAnyIn_take (i := 23) (oi := { dst := some 45, op := Op.load 24 (Operand.tmp 44), type := 24, pos := "node.go:88", after := #[{ on := 22, ground := Ground.data }, { on := 19, ground := Ground.guard }], guard := some (19, true) }) (v := undef) rfl rfl (by kernel_rfl) (by kernel_rfl) (by kernel_rfl) (fun _ _ _ h => h) ⟨Or.inr ⟨by kernel_rfl, rfl⟩, fun _ => rfl⟩ ?_
                  try simp only [Act.put, List.setIfInBounds_toArray, List.set_cons_zero, List.set_cons_succ]
                  refine wpAnyIn_take (i := 24) (oi := { dst := some 46, op := Op.move (Operand.tmp 2), type := 34, pos := "node.go:88", after := #[{ on := 19, ground := Ground.guard }], guard := some (19, true) }) (v := undef) rfl rfl (by kernel_rfl) (by kernel_rfl) (by kernel_rfl) (fun _ _ _ h => h) ⟨Or.inr ⟨by kernel_rfl, rfl⟩, fun _ => rfl⟩ ?_
                  try simp only [Act.put, List.setIfInBounds_toArray, List.set_cons_zero, List.set_cons_succ]
                  refine wpAnyIn_ready (rs := [25]) (by kernel_rfl) (by simp) ?_
                  refine AllReadyIn.cons rfl (fun K hK => ?_) ?_
                  · go_simp
                    first | refine ⟨trivial, ?_⟩ | refine ⟨fun _ _ => trivial, ?_⟩
                    refine hK _ _ ?_
                    clear hK K
                    refine wpAnyIn_take (i := 26) (oi := { dst := some 48, op := Op.pick (Operand.tmp 41) (Operand.tmp 47) (Operand.const (Value.bool false)), type := 4, pos := "node.go:88", after := #[{ on := 19, ground := Ground.data }, { on := 25, ground := Ground.data }], guard := none }) (v := ?_) rfl rfl (by kernel_rfl) (by kernel_rfl) (by kernel_rfl) (fun _ _ _ h => h) ⟨Or.inl ⟨by kernel_rfl, ?_⟩, fun _ => rfl⟩ ?_; rotate_left; (focus (intro w; go_simp; all_goals (with_reducible rfl)))
                    try simp only [Act.put, List.setIfInBounds_toArray, List.set_cons_zero, List.set_cons_succ]
                    refine wpAnyIn_ready (rs := [27]) (by kernel_rfl) (by simp) ?_
                    refine AllReadyIn.cons rfl (fun K hK => ?_) ?_
                    · go_simp
                      refine hK _ _ ?_
                      clear hK K
                      refine wpAnyIn_done (by kernel_rfl) ?_ _
                      gi_wp2_with fail
                      go_ret
                      exact .inr ⟨by simp, _, HQM.out, by have := HX.out; simpa [List.append_assoc] using this⟩
                    exact AllReadyIn.nil
                  exact AllReadyIn.nil
              exact AllReadyIn.nil
            exact AllReadyIn.nil
          exact AllReadyIn.nil
        · have HX := Lib.hid hx
          have HQ := Lib.hid hq
          clear hx hq c0 c1 c2 c3
          refine hK _ _ ?_
          clear hK K
          refine wpAnyIn_take (i := 7) (oi := { dst := some 29, op := Op.move (Operand.tmp 28), type := 4, pos := "node.go:88", after := #[{ on := 6, ground := Ground.data }, { on := 6, ground := Ground.chain }], guard := none }) (v := ?_) rfl rfl (by kernel_rfl) (by kernel_rfl) (by kernel_rfl) (fun _ _ _ h => h) ⟨Or.inl ⟨by kernel_rfl, ?_⟩, fun _ => rfl⟩ ?_; rotate_left; (focus (intro w; go_simp; all_goals (with_reducible rfl)))
          try simp only [Act.put, List.setIfInBounds_toArray, List.set_cons_zero, List.set_cons_succ]
          refine wpAnyIn_take (i := 8) (oi := { dst := some 30, op := Op.move (Operand.tmp 2), type := 34, pos := "node.go:88", after := #[{ on := 7, ground := Ground.guard }], guard := some (7, true) }) (v := undef) rfl rfl (by kernel_rfl) (by kernel_rfl) (by kernel_rfl) (fun _ _ _ h => h) ⟨Or.inr ⟨by kernel_rfl, rfl⟩, fun _ => rfl⟩ ?_
          try simp only [Act.put, List.setIfInBounds_toArray, List.set_cons_zero, List.set_cons_succ]
          refine wpAnyIn_take (i := 9) (oi := { dst := some 31, op := Op.move (Operand.tmp 0), type := 24, pos := "node.go:88", after := #[{ on := 7, ground := Ground.guard }], guard := some (7, true) }) (v := undef) rfl rfl (by kernel_rfl) (by kernel_rfl) (by kernel_rfl) (fun _ _ _ h => h) ⟨Or.inr ⟨by kernel_rfl, rfl⟩, fun _ => rfl⟩ ?_
          try simp only [Act.put, List.setIfInBounds_toArray, List.set_cons_zero, List.set_cons_succ]
          refine wpAnyIn_take (i := 10) (oi := { dst := some 32, op := Op.nilCheck (Operand.tmp 31), type := 0, pos := "node.go:88", after := #[{ on := 9, ground := Ground.data }, { on := 7, ground := Ground.guard }], guard := some (7, true) }) (v := undef) rfl rfl (by kernel_rfl) (by kernel_rfl) (by kernel_rfl) (fun _ _ _ h => h) ⟨Or.inr ⟨by kernel_rfl, rfl⟩, fun _ => rfl⟩ ?_
          try simp only [Act.put, List.setIfInBounds_toArray, List.set_cons_zero, List.set_cons_succ]
          refine wpAnyIn_take (i := 11) (oi := { dst := some 33, op := Op.fieldAddr 56 (Operand.tmp 32) 0, type := 0, pos := "node.go:88", after := #[{ on := 10, ground := Ground.data }, { on := 7, ground := Ground.guard }], guard := some (7, true) }) (v := undef) rfl rfl (by kernel_rfl) (by kernel_rfl) (by kernel_rfl) (fun _ _ _ h => h) ⟨Or.inr ⟨by kernel_rfl, rfl⟩, fun _ => rfl⟩ ?_
          try simp only [Act.put, List.setIfInBounds_toArray, List.set_cons_zero, List.set_cons_succ]
          refine wpAnyIn_take (i := 12) (oi := { dst := some 34, op := Op.load 3 (Operand.tmp 33), type := 3, pos := "node.go:88", after := #[{ on := 11, ground := Ground.data }, { on := 7, ground := Ground.guard }], guard := some (7, true) }) (v := undef) rfl rfl (by kernel_rfl) (by kernel_rfl) (by kernel_rfl) (fun _ _ _ h => h) ⟨Or.inr ⟨by kernel_rfl, rfl⟩, fun _ => rfl⟩ ?_
          try simp only [Act.put, List.setIfInBounds_toArray, List.set_cons_zero, List.set_cons_succ]
          refine wpAnyIn_take (i := 13) (oi := { dst := some 35, op := Op.move (Operand.tmp 0), type := 24, pos := "node.go:88", after := #[{ on := 7, ground := Ground.guard }], guard := some (7, true) }) (v := undef) rfl rfl (by kernel_rfl) (by kernel_rfl) (by kernel_rfl) (fun _ _ _ h => h) ⟨Or.inr ⟨by kernel_rfl, rfl⟩, fun _ => rfl⟩ ?_
          try simp only [Act.put, List.setIfInBounds_toArray, List.set_cons_zero, List.set_cons_succ]
          refine wpAnyIn_take (i := 14) (oi := { dst := some 36, op := Op.nilCheck (Operand.tmp 35), type := 0, pos := "node.go:88", after := #[{ on := 13, ground := Ground.data }, { on := 7, ground := Ground.guard }], guard := some (7, true) }) (v := undef) rfl rfl (by kernel_rfl) (by kernel_rfl) (by kernel_rfl) (fun _ _ _ h => h) ⟨Or.inr ⟨by kernel_rfl, rfl⟩, fun _ => rfl⟩ ?_
          try simp only [Act.put, List.setIfInBounds_toArray, List.set_cons_zero, List.set_cons_succ]
          refine wpAnyIn_take (i := 15) (oi := { dst := some 37, op := Op.fieldAddr 56 (Operand.tmp 36) 1, type := 0, pos := "node.go:88", after := #[{ on := 14, ground := Ground.data }, { on := 7, ground := Ground.guard }], guard := some (7, true) }) (v := undef) rfl rfl (by kernel_rfl) (by kernel_rfl) (by kernel_rfl) (fun _ _ _ h => h) ⟨Or.inr ⟨by kernel_rfl, rfl⟩, fun _ => rfl⟩ ?_
          try simp only [Act.put, List.setIfInBounds_toArray, List.set_cons_zero, List.set_cons_succ]
          refine wpAnyIn_take (i := 16) (oi := { dst := some 38, op := Op.load 3 (Operand.tmp 37), type := 3, pos := "node.go:88", after := #[{ on := 15, ground := Ground.data }, { on := 7, ground := Ground.guard }], guard := some (7, true) }) (v := undef) rfl rfl (by kernel_rfl) (by kernel_rfl) (by kernel_rfl) (fun _ _ _ h => h) ⟨Or.inr ⟨by kernel_rfl, rfl⟩, fun _ => rfl⟩ ?_
          try simp only [Act.put, List.setIfInBounds_toArray, List.set_cons_zero, List.set_cons_succ]
          refine wpAnyIn_ready (rs := [17]) (by kernel_rfl) (by simp) ?_
          refine AllReadyIn.cons rfl (fun K hK => ?_) ?_
          · go_simp
            first | refine ⟨trivial, ?_⟩ | refine ⟨fun _ _ => trivial, ?_⟩
            refine hK _ _ ?_
            clear hK K
            refine wpAnyIn_take (i := 18) (oi := { dst := some 40, op := Op.pick (Operand.tmp 29) (Operand.tmp 39) (Operand.const (Value.bool false)), type := 4, pos := "node.go:88", after := #[{ on := 7, ground := Ground.data }, { on := 17, ground := Ground.data }], guard := none }) (v := ?_) rfl rfl (by kernel_rfl) (by kernel_rfl) (by kernel_rfl) (fun _ _ _ h => h) ⟨Or.inl ⟨by kernel_rfl, ?_⟩, fun _ => rfl⟩ ?_; rotate_left; (focus (intro w; go_simp; all_goals (with_reducible rfl)))
            try simp only [Act.put, List.setIfInBounds_toArray, List.set_cons_zero, List.set_cons_succ]
            refine wpAnyIn_take (i := 19) (oi := { dst := some 41, op := Op.move (Operand.tmp 40), type := 4, pos := "node.go:88", after := #[{ on := 18, ground := Ground.data }, { on := 17, ground := Ground.chain }], guard := none }) (v := ?_) rfl rfl (by kernel_rfl) (by kernel_rfl) (by kernel_rfl) (fun _ _ _ h => h) ⟨Or.inl ⟨by kernel_rfl, ?_⟩, fun _ => rfl⟩ ?_; rotate_left; (focus (intro w; go_simp; all_goals (with_reducible rfl)))
            try simp only [Act.put, List.setIfInBounds_toArray, List.set_cons_zero, List.set_cons_succ]
            refine wpAnyIn_take (i := 20) (oi := { dst := some 42, op := Op.move (Operand.tmp 0), type := 24, pos := "node.go:88", after := #[{ on := 19, ground := Ground.guard }], guard := some (19, true) }) (v := undef) rfl rfl (by kernel_rfl) (by kernel_rfl) (by kernel_rfl) (fun _ _ _ h => h) ⟨Or.inr ⟨by kernel_rfl, rfl⟩, fun _ => rfl⟩ ?_
            try simp only [Act.put, List.setIfInBounds_toArray, List.set_cons_zero, List.set_cons_succ]
            refine wpAnyIn_take (i := 21) (oi := { dst := some 43, op := Op.nilCheck (Operand.tmp 42), type := 0, pos := "node.go:88", after := #[{ on := 20, ground := Ground.data }, { on := 19, ground := Ground.guard }], guard := some (19, true) }) (v := undef) rfl rfl (by kernel_rfl) (by kernel_rfl) (by kernel_rfl) (fun _ _ _ h => h) ⟨Or.inr ⟨by kernel_rfl, rfl⟩, fun _ => rfl⟩ ?_
            try simp only [Act.put, List.setIfInBounds_toArray, List.set_cons_zero, List.set_cons_succ]
            refine wpAnyIn_take (i := 22) (oi := { dst := some 44, op := Op.fieldAddr 56 (Operand.tmp 43) 3, type := 0, pos := "node.go:88", after := #[{ on := 21, ground := Ground.data }, { on := 19, ground := Ground.guard }], guard := some (19, true) }) (v := undef) rfl rfl (by kernel_rfl) (by kernel_rfl) (by kernel_rfl) (fun _ _ _ h => h) ⟨Or.inr ⟨by kernel_rfl, rfl⟩, fun _ => rfl⟩ ?_
            try simp only [Act.put, List.setIfInBounds_toArray, List.set_cons_zero, List.set_cons_succ]
            refine wpAnyIn_take (i := 23) (oi := { dst := some 45, op := Op.load 24 (Operand.tmp 44), type := 24, pos := "node.go:88", after := #[{ on := 22, ground := Ground.data }, { on := 19, ground := Ground.guard }], guard := some (19, true) }) (v := undef) rfl rfl (by kernel_rfl) (by kernel_rfl) (by kernel_rfl) (fun _ _ _ h => h) ⟨Or.inr ⟨by kernel_rfl, rfl⟩, fun _ => rfl⟩ ?_
            try simp only [Act.put, List.setIfInBounds_toArray, List.set_cons_zero, List.set_cons_succ]
            refine wpAnyIn_take (i := 24) (oi := { dst := some 46, op := Op.move (Operand.tmp 2), type := 34, pos := "node.go:88", after := #[{ on := 19, ground := Ground.guard }], guard := some (19, true) }) (v := undef) rfl rfl (by kernel_rfl) (by kernel_rfl) (by kernel_rfl) (fun _ _ _ h => h) ⟨Or.inr ⟨by kernel_rfl, rfl⟩, fun _ => rfl⟩ ?_
            try simp only [Act.put, List.setIfInBounds_toArray, List.set_cons_zero, List.set_cons_succ]
            refine wpAnyIn_ready (rs := [25]) (by kernel_rfl) (by simp) ?_
            refine AllReadyIn.cons rfl (fun K hK => ?_) ?_
            · go_simp
              first | refine ⟨trivial, ?_⟩ | refine ⟨fun _ _ => trivial, ?_⟩
              refine hK _ _ ?_
              clear hK K
              refine wpAnyIn_take (i := 26) (oi := { dst := some 48, op := Op.pick (Operand.tmp 41) (Operand.tmp 47) (Operand.const (Value.bool false)), type := 4, pos := "node.go:88", after := #[{ on := 19, ground := Ground.data }, { on := 25, ground := Ground.data }], guard := none }) (v := ?_) rfl rfl (by kernel_rfl) (by kernel_rfl) (by kernel_rfl) (fun _ _ _ h => h) ⟨Or.inl ⟨by kernel_rfl, ?_⟩, fun _ => rfl⟩ ?_; rotate_left; (focus (intro w; go_simp; all_goals (with_reducible rfl)))
              try simp only [Act.put, List.setIfInBounds_toArray, List.set_cons_zero, List.set_cons_succ]
              refine wpAnyIn_ready (rs := [27]) (by kernel_rfl) (by simp) ?_
              refine AllReadyIn.cons rfl (fun K hK => ?_) ?_
              · go_simp
                refine hK _ _ ?_
                clear hK K
                refine wpAnyIn_done (by kernel_rfl) ?_ _
                gi_wp2_with fail
                go_ret
                exact .inr ⟨by simp, _, HQ.out.trans HQA.out, HX.out⟩
              exact AllReadyIn.nil
            exact AllReadyIn.nil
          exact AllReadyIn.nil
      exact AllReadyIn.nil
    exact AllReadyIn.nil

/-! All and From. -/
theorem all_any (pm : Option Addr) (w : World) :
    Calls Try.prog 21 #[.pointer pm] w fun e w' => e = .returned (.func (.func 29) #[] #[.pointer (some ⟨w.heap.size, 0, none⟩)]) ∧ w' = w.alloc (.cells #[.pointer pm] 27) := by
  go_enter Try.func21, Try.ntmps21
  go_wp2
  go_ret
  exact ⟨rfl, rfl⟩
theorem from_any (pm : Option Addr) (key : Int) (w : World) :
    Calls Try.prog 20 #[.pointer pm, .int .i64 key] w fun e w' => e = .returned (.func (.func 27) #[] #[.pointer (some ⟨w.heap.size, 0, none⟩), .pointer (some ⟨w.heap.size + 1, 0, none⟩)]) ∧ w' = (w.alloc (.cells #[.pointer pm] 27)).alloc (.cells #[.int .i64 key] 3) := by
  go_enter Try.func20, Try.ntmps20
  go_wp2
  go_ret
  exact ⟨by simp, rfl⟩
/-- a map's tree, whatever has been made since -/
def Hd (W0 : World) (pm : Option Addr) (t : T) : Prop := ∃ p, Tr W0 t p ∧ ∀ W', Below W0.heap.size W0 W' → Calls Try.prog 24 #[.pointer pm] W' fun e w'' => e = .returned (.pointer p) ∧ W' = w''
theorem Hd.nil (W0 : World) : Hd W0 none .nil := ⟨none, rfl, fun W' _ => top_nil W'⟩
theorem Hd.map {base M : Nat} {W : World} {l : List Pr} (h : Mp base W M l) : ∃ t, Hd W (some ⟨M, 0, none⟩) t ∧ t.toL = l ∧ Sorted t.toL := by
  obtain ⟨p, t, h1, h2, _, h4, h5, _⟩ := h.read
  exact ⟨t, ⟨p, h2, fun W' hb => top_any M p W' (cells2 (Below.same hb h1)).1⟩, h4, h5⟩
set_option maxHeartbeats 3200000 in
set_option maxRecDepth 100000 in
theorem all1_in (n : Nat) (l Bm : Nat) (W0 : World) (pm : Option Addr) (t : T) (hd : Hd W0 pm t) (J Jx : List Pr → World → Prop) (W : World) {Bd : Nat} (hJ : AbidesFrom Bd J)
    (hY : ∀ pre x W1, J pre W1 → pre.length < t.toL.length → YieldAt Fence.wide (n - 1) Try.prog l (enc x) W1 fun e W' =>
      (e = .returned (.bool true) ∧ J (pre ++ [x]) W' ∧ Below W0.heap.size W1 W') ∨ (e = .returned (.bool false) ∧ Jx (pre ++ [x]) W'))
    (hb : Below W0.heap.size W0 W) (hBm : W.cell? ⟨Bm, 0, none⟩ = some (.pointer pm)) (h0 : J [] W) :
    CallsIn Fence.wide n Try.prog 29 #[.func (.yield l) #[] #[], .pointer (some ⟨Bm, 0, none⟩)] W fun e W' => (∃ v, e = .returned v) ∧
      ((∃ xs, xs = t.toL ∧ J xs W') ∨ (∃ pre, pre <+: t.toL ∧ Jx pre W')) := by
  obtain ⟨p, htr, htop⟩ := hd
  have HT := Lib.hid (htop W hb)
  have HE := Lib.hid (fun n => each_in l t.toL.length W0 J Jx hJ (fun m pre x W hj hl => wide_any (hY pre x W hj hl)) t n p [] W htr hb h0 (by simp))
  clear htr htop hY hJ h0 hb
  refine callsIn_of_wp Try.func29 rfl trivial ?_ rfl
  simp only [Try.ntmps29, List.size_toArray, List.length_cons, List.length_nil, Nat.reduceAdd, Nat.reduceSub, Array.replicate_succ, Array.replicate_zero, List.push_toArray, List.append_toArray, List.nil_append, List.cons_append]
  gi_wp2_with fail
  refine ⟨trivial, (fun h => by cases h), (callsIn_wide.2 HT.out).mono ?_⟩
  rintro e w1 ⟨rfl, rfl⟩
  gi_wp2_with fail
  refine ⟨trivial, (fun h => by cases h), (HE.out _).mono ?_⟩
  rintro e w1 (⟨rfl, hj, _⟩ | ⟨rfl, q, hq, hx⟩)
  · have HJ := Lib.hid hj
    clear hj
    gi_wp2_with fail
    go_end0
    exact ⟨⟨_, rfl⟩, .inl ⟨_, rfl, by have := HJ.out; simpa using this⟩⟩
  · have HX := Lib.hid hx
    have HQ := Lib.hid hq
    clear hx hq
    gi_wp2_with fail
    go_end0
    exact ⟨⟨_, rfl⟩, .inr ⟨q, HQ.out, by have := HX.out; simpa using this⟩⟩
/-- **All() HANDS BACK WHAT GIVES ALL KEYS, rising** -/
theorem all_stops (n : Nat) (Bm : Nat) (W0 : World) (pm : Option Addr) (t : T) (hd : Hd W0 pm t) (w : World) (hb : Below W0.heap.size W0 w) (hBm : Boxed w Bm 27 (.pointer pm)) :
    SeqStopsK Fence.wide n Try.prog 29 #[.pointer (some ⟨Bm, 0, none⟩)] enc (Below W0.heap.size) (fun xs => xs = t.toL) (fun pre => pre <+: t.toL) t.toL.length w := fun l J Jx W hW hJ _ hY h0 =>
  all1_in n l Bm W0 pm t hd J Jx W hJ hY (hb.trans (hW.mono hb.size)) ((hW.cell (p := ⟨Bm, 0, none⟩) hBm.lt).trans hBm.cell) h0
set_option maxHeartbeats 3200000 in
set_option maxRecDepth 100000 in
theorem from1_in (n : Nat) (l Bm Bk : Nat) (key : Int) (W0 : World) (pm : Option Addr) (t : T) (hd : Hd W0 pm t) (J Jx : List Pr → World → Prop) (W : World) {Bd : Nat} (hJ : AbidesFrom Bd J)
    (hY : ∀ pre x W1, J pre W1 → pre.length < (fromL t key).length → YieldAt Fence.wide (n - 1) Try.prog l (enc x) W1 fun e W' =>
      (e = .returned (.bool true) ∧ J (pre ++ [x]) W' ∧ Below W0.heap.size W1 W') ∨ (e = .returned (.bool false) ∧ Jx (pre ++ [x]) W'))
    (hb : Below W0.heap.size W0 W) (hBm : W.cell? ⟨Bm, 0, none⟩ = some (.pointer pm)) (hBk : W.cell? ⟨Bk, 0, none⟩ = some (.int .i64 key)) (h0 : J [] W) :
    CallsIn Fence.wide n Try.prog 27 #[.func (.yield l) #[] #[], .pointer (some ⟨Bm, 0, none⟩), .pointer (some ⟨Bk, 0, none⟩)] W fun e W' => (∃ v, e = .returned v) ∧
      ((∃ xs, xs = fromL t key ∧ J xs W') ∨ (∃ pre, pre <+: fromL t key ∧ Jx pre W')) := by
  obtain ⟨p, htr, htop⟩ := hd
  have hbd : Below W0.heap.size W0 W.drew := hb.trans ((Below.refl W.heap.size W).drew.mono hb.size)
  have HT := Lib.hid (htop W.drew hbd)
  have HE := Lib.hid (fun n => from_in l (fromL t key).length W0 J Jx hJ (fun m pre x W hj hl => wide_any (hY pre x W hj hl)) key t n p [] W.drew htr hbd (hJ _ _ _ none h0 (grown_of (Below.refl W.heap.size W).drew) (fun r e => by cases e)) (by simp))
  have k0 : W.drew.cell? ⟨Bm, 0, none⟩ = some (.pointer pm) := hBm
  have k1 : W.drew.cell? ⟨Bk, 0, none⟩ = some (.int .i64 key) := hBk
  clear htr htop hY hJ h0 hb hbd hBm hBk
  refine callsIn_of_wp Try.func27 rfl trivial ?_ rfl
  simp only [Try.ntmps27, List.size_toArray, List.length_cons, List.length_nil, Nat.reduceAdd, Nat.reduceSub, Array.replicate_succ, Array.replicate_zero, List.push_toArray, List.append_toArray, List.nil_append, List.cons_append]
  gi_wp2_with fail
  refine wpIn_region_any (by kernel_rfl) ?_
  change wpAnyIn _ _ _ _ _ _ _ _ _ (World.drew _)
  refine wpAnyIn_take (i := 3) (oi := { dst := some 7, op := Op.move (Operand.tmp 0), type := 34, pos := "avl.go:90", after := #[], guard := none }) (v := ?_) rfl rfl (by kernel_rfl) (by kernel_rfl) (by kernel_rfl) (fun _ _ _ h => h) ⟨Or.inl ⟨by kernel_rfl, ?_⟩, fun _ => rfl⟩ ?_; rotate_left; (focus (intro w; go_simp; all_goals (with_reducible rfl)))
  try simp only [Act.put, List.setIfInBounds_toArray, List.set_cons_zero, List.set_cons_succ]
  refine wpAnyIn_ready (rs := [0, 2]) (by kernel_rfl) (by simp) ?_
  refine AllReadyIn.cons rfl (fun K hK => ?_) ?_
  · go_simp
    refine hK _ _ ?_
    clear hK K
    refine wpAnyIn_ready (rs := [1, 2]) (by kernel_rfl) (by simp) ?_
    refine AllReadyIn.cons rfl (fun K hK => ?_) ?_
    · go_simp
      refine ⟨trivial, (fun h => by cases h), (callsIn_wide.2 HT.out).mono ?_⟩
      rintro e w1 ⟨rfl, rfl⟩
      · refine hK _ _ ?_
        clear hK K
        refine wpAnyIn_ready (rs := [2]) (by kernel_rfl) (by simp) ?_
        refine AllReadyIn.cons rfl (fun K hK => ?_) ?_
        · go_simp
          refine hK _ _ ?_
          clear hK K
          refine wpAnyIn_ready (rs := [4]) (by kernel_rfl) (by simp) ?_
          refine AllReadyIn.cons rfl (fun K hK => ?_) ?_
          · go_simp
            refine ⟨trivial, (fun h => by cases h), (HE.out _).mono ?_⟩
            rintro e w1 (⟨rfl, hj, hjb⟩ | ⟨rfl, q, hq, hx⟩)
            · have HJ := Lib.hid hj
              clear hj hjb
              refine hK _ _ ?_
              clear hK K
              refine wpAnyIn_done (by kernel_rfl) ?_ _
              gi_wp2_with fail
              go_end0
              exact ⟨⟨_, rfl⟩, .inl ⟨_, rfl, by have := HJ.out; simpa using this⟩⟩
            · have HX := Lib.hid hx
              have HQ := Lib.hid hq
              clear hx hq
              refine hK _ _ ?_
              clear hK K
              refine wpAnyIn_done (by kernel_rfl) ?_ _
              gi_wp2_with fail
              go_end0
              exact ⟨⟨_, rfl⟩, .inr ⟨q, HQ.out, by have := HX.out; simpa using this⟩⟩
          exact AllReadyIn.nil
        exact AllReadyIn.nil
    refine AllReadyIn.cons rfl (fun K hK => ?_) ?_
    · go_simp
      refine hK _ _ ?_
      clear hK K
      refine wpAnyIn_ready (rs := [1]) (by kernel_rfl) (by simp) ?_
      refine AllReadyIn.cons rfl (fun K hK => ?_) ?_
      · go_simp
        refine ⟨trivial, (fun h => by cases h), (callsIn_wide.2 HT.out).mono ?_⟩
        rintro e w1 ⟨rfl, rfl⟩
        · refine hK _ _ ?_
          clear hK K
          refine wpAnyIn_ready (rs := [4]) (by kernel_rfl) (by simp) ?_
          refine AllReadyIn.cons rfl (fun K hK => ?_) ?_
          · go_simp
            refine ⟨trivial, (fun h => by cases h), (HE.out _).mono ?_⟩
            rintro e w1 (⟨rfl, hj, hjb⟩ | ⟨rfl, q, hq, hx⟩)
            · have HJ := Lib.hid hj
              clear hj hjb
              refine hK _ _ ?_
              clear hK K
              refine wpAnyIn_done (by kernel_rfl) ?_ _
              gi_wp2_with fail
              go_end0
              exact ⟨⟨_, rfl⟩, .inl ⟨_, rfl, by have := HJ.out; simpa using this⟩⟩
            · have HX := Lib.hid hx
              have HQ := Lib.hid hq
              clear hx hq
              refine hK _ _ ?_
              clear hK K
              refine wpAnyIn_done (by kernel_rfl) ?_ _
              gi_wp2_with fail
              go_end0
              exact ⟨⟨_, rfl⟩, .inr ⟨q, HQ.out, by have := HX.out; simpa using this⟩⟩
          exact AllReadyIn.nil
      exact AllReadyIn.nil
    exact AllReadyIn.nil
  refine AllReadyIn.cons rfl (fun K hK => ?_) ?_
  · go_simp
    refine hK _ _ ?_
    clear hK K
    refine wpAnyIn_ready (rs := [0]) (by kernel_rfl) (by simp) ?_
    refine AllReadyIn.cons rfl (fun K hK => ?_) ?_
    · go_simp
      refine hK _ _ ?_
      clear hK K
      refine wpAnyIn_ready (rs := [1]) (by kernel_rfl) (by simp) ?_
      refine AllReadyIn.cons rfl (fun K hK => ?_) ?_
      · go_simp
        refine ⟨trivial, (fun h => by cases h), (callsIn_wide.2 HT.out).mono ?_⟩
        rintro e w1 ⟨rfl, rfl⟩
        · refine hK _ _ ?_
          clear hK K
          refine wpAnyIn_ready (rs := [4]) (by kernel_rfl) (by simp) ?_
          refine AllReadyIn.cons rfl (fun K hK => ?_) ?_
          · go_simp
            refine ⟨trivial, (fun h => by cases h), (HE.out _).mono ?_⟩
            rintro e w1 (⟨rfl, hj, hjb⟩ | ⟨rfl, q, hq, hx⟩)
            · have HJ := Lib.hid hj
              clear hj hjb
              refine hK _ _ ?_
              clear hK K
              refine wpAnyIn_done (by kernel_rfl) ?_ _
              gi_wp2_with fail
              go_end0
              exact ⟨⟨_, rfl⟩, .inl ⟨_, rfl, by have := HJ.out; simpa using this⟩⟩
            · have HX := Lib.hid hx
              have HQ := Lib.hid hq
              clear hx hq
              refine hK _ _ ?_
              clear hK K
              refine wpAnyIn_done (by kernel_rfl) ?_ _
              gi_wp2_with fail
              go_end0
              exact ⟨⟨_, rfl⟩, .inr ⟨q, HQ.out, by have := HX.out; simpa using this⟩⟩
          exact AllReadyIn.nil
      exact AllReadyIn.nil
    exact AllReadyIn.nil
  exact AllReadyIn.nil
/-- **From(key) HANDS BACK WHAT GIVES THE KEYS THAT ARE NOT BELOW, rising** -/
theorem from_stops (n : Nat) (Bm Bk : Nat) (key : Int) (W0 : World) (pm : Option Addr) (t : T) (hd : Hd W0 pm t) (w : World) (hb : Below W0.heap.size W0 w) (hBm : Boxed w Bm 27 (.pointer pm)) (hBk : Boxed w Bk 3 (.int .i64 key)) :
    SeqStopsK Fence.wide n Try.prog 27 #[.pointer (some ⟨Bm, 0, none⟩), .pointer (some ⟨Bk, 0, none⟩)] enc (Below W0.heap.size) (fun xs => xs = fromL t key) (fun pre => pre <+: fromL t key) (fromL t key).length w := fun l J Jx W hW hJ _ hY h0 =>
  from1_in n l Bm Bk key W0 pm t hd J Jx W hJ hY (hb.trans (hW.mono hb.size)) ((hW.cell (p := ⟨Bm, 0, none⟩) hBm.lt).trans hBm.cell) ((hW.cell (p := ⟨Bk, 0, none⟩) hBk.lt).trans hBk.cell) h0
end Go.Proofs.Ythcofcpnhopnnaa.Av
