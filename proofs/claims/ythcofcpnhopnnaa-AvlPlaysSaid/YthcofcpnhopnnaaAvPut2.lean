/- Trees: level, find, least, put and drop in memory. -/
import Derived.Test.YthcofcpnhopnnaaAvPut
import Derived.Deep.LoopGhost
set_option linter.unusedSimpArgs false
namespace Go.Proofs.Ythcofcpnhopnnaa.Av
open Go.RowKit

set_option maxHeartbeats 1600000 in
theorem level_any (k u : Int) (a b : T) (p pa pb : Option Addr) (w : World) (hn : Nd w p k u) (ha : Tr w a pa) (hb : Tr w b pb) (h1 : a.ht ≤ 900) (h2 : b.ht ≤ 900) :
    Calls Try.prog 32 #[.pointer p, .pointer pa, .pointer pb] w fun e w' => ∃ q, e = .returned (.pointer q) ∧ Tr w' (lvl a k u b) q ∧ Below w.heap.size w w' := by
  have HN := Lib.hid hn
  have HA := Lib.hid ha
  have HB := Lib.hid hb
  clear hn ha hb
  go_enter Try.func32, Try.ntmps32
  go_wp2_with fail
  refine (depth_any a _ _ HA.out).mono ?_
  rintro e w1 ⟨rfl, rfl⟩
  go_wp2_with fail
  refine (depth_any b _ _ HB.out).mono ?_
  rintro e w1 ⟨rfl, rfl⟩
  have hw : IntKind.i64.wrap ((a.ht : Int) - (b.ht : Int)) = (a.ht : Int) - (b.ht : Int) := by rw [IntKind.wrap_i64]; omega
  by_cases c1 : a.ht = b.ht + 2
  · have hL : lvl a k u b = lowL k u b a := by unfold lvl; rw [if_pos c1]
    cases a with
    | nil => exact absurd c1 (by rw [ht_nil]; omega)
    | nd c j v s =>
      have hb1 : c.ht ≤ 900 ∧ s.ht ≤ 900 := by rw [ht_nd] at h1; omega
      generalize (T.nd c j v s).ht = x at *
      have e2 : (((x : Nat) : Int) - (b.ht : Int) == 2) = true := by simp; omega
      have e2' : (x : Int) - (b.ht : Int) = 2 := by omega
      go_wp2_with fail
      refine (lowL_any k u c s j v b p pa pb _ HN.out HA.out HB.out hb1.1 hb1.2 h2).mono ?_
      rintro e w1 ⟨q, rfl, ht, hbl⟩
      have HT := Lib.hid ht
      have HBL := Lib.hid hbl
      clear ht hbl
      go_wp2_with fail
      go_ret
      exact ⟨_, rfl, by rw [hL]; exact HT.out, HBL.out⟩
  · by_cases c2 : b.ht = a.ht + 2
    · have hL : lvl a k u b = lowR a k u b := by unfold lvl; rw [if_neg c1, if_pos c2]
      cases b with
      | nil => exact absurd c2 (by rw [ht_nil]; omega)
      | nd s j v c =>
        have hb1 : c.ht ≤ 900 ∧ s.ht ≤ 900 := by rw [ht_nd] at h2; omega
        generalize (T.nd s j v c).ht = x at *
        have e2 : ((a.ht : Int) - ((x : Nat) : Int) == 2) = false := by simp; omega
        have e2' : (a.ht : Int) - (x : Int) = -2 := by omega
        go_wp2_with fail
        refine (lowR_any k u c s j v a p pb pa _ HN.out HB.out HA.out hb1.1 hb1.2 h1).mono ?_
        rintro e w1 ⟨q, rfl, ht, hbl⟩
        have HT := Lib.hid ht
        have HBL := Lib.hid hbl
        clear ht hbl
        go_wp2_with fail
        go_ret
        exact ⟨_, rfl, by rw [hL]; exact HT.out, HBL.out⟩
    · have hL : lvl a k u b = .nd a k u b := by unfold lvl; rw [if_neg c1, if_neg c2]
      have e2 : ¬ ((a.ht : Int) - (b.ht : Int) = 2) := by omega
      have e3 : ¬ ((a.ht : Int) - (b.ht : Int) = -2) := by omega
      go_wp2_with fail
      refine (with_any k u a b p pa pb _ HN.out HA.out HB.out (by omega) (by omega)).mono ?_
      rintro e w1 ⟨q, rfl, ht, hbl⟩
      have HT := Lib.hid ht
      have HBL := Lib.hid hbl
      clear ht hbl
      go_wp2_with fail
      go_ret
      exact ⟨_, rfl, by rw [hL]; exact HT.out, HBL.out⟩

/-! The node of a key. -/
/-- the node of a key, where it is -/
def fnd : T → Int → T
  | .nil, _ => .nil
  | .nd a k u b, key => if key < k then fnd a key else if k < key then fnd b key else .nd a k u b
theorem fnd_get : ∀ (t : T) (key : Int), Sorted t.toL → getM t.toL key = (match fnd t key with | .nil => none | .nd _ _ u _ => some u)
  | .nil, _, _ => rfl
  | .nd a k u b, key, h => by
    rw [toL_nd] at h ⊢
    rw [sorted_mid] at h
    obtain ⟨s1, s2, s3, s4⟩ := h
    unfold fnd
    by_cases h1 : key < k
    · rw [if_pos h1, getM_left s4 h1]; exact fnd_get a key s1
    · rw [if_neg h1]
      by_cases h2 : k < key
      · rw [if_pos h2, getM_right s3 h2]; exact fnd_get b key s2
      · rw [if_neg h2]
        obtain rfl : key = k := by omega
        exact getM_here s3
def T.sz : T → Nat
  | .nil => 0
  | .nd a _ _ b => a.sz + b.sz + 1
set_option maxHeartbeats 1600000 in
theorem find_any (t : T) (p : Option Addr) (key : Int) (w : World) (h : Tr w t p) :
    Calls Try.prog 25 #[.pointer p, .int .i64 key] w fun e w' => (∃ q, e = .returned (.pointer q) ∧ Tr w (fnd t key) q) ∧ w = w' := by
  have H := Lib.hid h
  clear h
  go_enter Try.func25, Try.ntmps25
  go_wp2_with fail
  go_loopg [0] t.sz (fun n v wr => ∃ (s : T) (q : Option Addr), v = .pointer q ∧ Hid (s.sz = n) ∧ Hid (Tr w s q) ∧ Hid (fnd s key = fnd t key) ∧ w = wr)
  case atStart => exact ⟨t, p, rfl, rfl, H.out, rfl, rfl⟩
  case round =>
    obtain ⟨s, q, rfl, HN, HS, HF, rfl⟩ := hrel
    cases s with
    | nil =>
      obtain rfl : q = none := HS.out
      go_wp2_with fail
      go_ret
      exact ⟨⟨_, rfl, by rw [← HF.out]; rfl⟩, rfl⟩
    | nd a k u b =>
      obtain ⟨B, pa, pb, rfl, hc, ta, tb⟩ := HS.out.open_
      obtain ⟨c0, c1, c2, c3⟩ := hc _ (Below.refl _ _)
      have TA := Lib.hid ta
      have TB := Lib.hid tb
      clear hc ta tb
      by_cases h1 : key < k
      · have e1 : cmpI key k = -1 := by unfold cmpI; rw [if_pos h1]
        have HF2 : Hid (fnd a key = fnd t key) := by
          show fnd a key = fnd t key
          rw [← HF.out]
          conv => rhs; unfold fnd
          rw [if_pos h1]
        have HN2 : Hid (a.sz + b.sz + 1 = _) := HN
        go_wp2_with fail
        refine (cmp_any _ _ _).mono ?_
        rintro e w1 ⟨rfl, rfl⟩
        rw [e1]
        go_wp2_with fail
        go_roundg a.sz
        case rel => exact ⟨a, pa, rfl, rfl, TA.out, HF2.out, rfl⟩
        case measure => have := HN2.out; omega
      · by_cases h2 : k < key
        · have e1 : cmpI key k = 1 := by unfold cmpI; rw [if_neg h1, if_pos h2]
          have HF2 : Hid (fnd b key = fnd t key) := by
            show fnd b key = fnd t key
            rw [← HF.out]
            conv => rhs; unfold fnd
            rw [if_neg h1, if_pos h2]
          have HN2 : Hid (a.sz + b.sz + 1 = _) := HN
          go_wp2_with fail
          refine (cmp_any _ _ _).mono ?_
          rintro e w1 ⟨rfl, rfl⟩
          rw [e1]
          go_wp2_with fail
          go_roundg b.sz
          case rel => exact ⟨b, pb, rfl, rfl, TB.out, HF2.out, rfl⟩
          case measure => have := HN2.out; omega
        · have e1 : cmpI key k = 0 := by unfold cmpI; rw [if_neg h1, if_neg h2]
          have HF2 : Hid (fnd (.nd a k u b) key = .nd a k u b) := by
            show fnd (.nd a k u b) key = _
            unfold fnd
            rw [if_neg h1, if_neg h2]
          go_wp2_with fail
          refine (cmp_any _ _ _).mono ?_
          rintro e w1 ⟨rfl, rfl⟩
          rw [e1]
          go_wp2_with fail
          go_ret
          exact ⟨⟨_, rfl, by rw [← HF.out, HF2.out]; exact HS.out⟩, rfl⟩

/-! The least node. -/
def lstT : T → T
  | .nil => .nil
  | .nd .nil k u b => .nd .nil k u b
  | .nd (.nd a j v c) _ _ _ => lstT (.nd a j v c)
theorem lstT_is : ∀ t : T, t ≠ .nil → ∃ b, lstT t = .nd .nil (lstP t).1 (lstP t).2 b
  | .nil, h => absurd rfl h
  | .nd .nil k u b, _ => ⟨b, rfl⟩
  | .nd (.nd a j v c) k u b, _ => lstT_is (.nd a j v c) (by intro h; cases h)
set_option maxHeartbeats 1600000 in
theorem least_node (t : T) (ht : t ≠ .nil) (p : Option Addr) (w : World) (h : Tr w t p) :
    Calls Try.prog 33 #[.pointer p] w fun e w' => (∃ q, e = .returned (.pointer q) ∧ Nd w q (lstP t).1 (lstP t).2) ∧ w = w' := by
  have H := Lib.hid h
  clear h
  go_enter Try.func33, Try.ntmps33
  go_wp2_with fail
  go_loopg [0] t.sz (fun n v wr => ∃ (s : T) (q : Option Addr), v = .pointer q ∧ Hid (s.sz = n) ∧ Hid (s ≠ .nil) ∧ Hid (Tr w s q) ∧ Hid (lstP s = lstP t) ∧ w = wr)
  case atStart => exact ⟨t, p, rfl, rfl, ht, H.out, rfl, rfl⟩
  case round =>
    obtain ⟨s, q, rfl, HN, HZ, HS, HF, rfl⟩ := hrel
    cases s with
    | nil => exact absurd rfl HZ.out
    | nd a k u b =>
      obtain ⟨B, pa, pb, rfl, hc, ta, tb⟩ := HS.out.open_
      obtain ⟨c0, c1, c2, c3⟩ := hc _ (Below.refl _ _)
      have TA := Lib.hid ta
      clear hc ta tb
      cases a with
      | nil =>
        obtain rfl : pa = none := TA.out
        go_wp2_with fail
        go_ret
        exact ⟨⟨_, rfl, by rw [← HF.out]; exact HS.out.nd⟩, rfl⟩
      | nd a j v c =>
        obtain ⟨B2, _, _, rfl, _⟩ := TA.out.open_
        have HN2 : Hid ((T.nd a j v c).sz + b.sz + 1 = _) := HN
        go_wp2_with fail
        go_roundg (T.nd a j v c).sz
        case rel => exact ⟨.nd a j v c, _, rfl, rfl, Lib.hid (by intro h; cases h), TA.out, HF.out, rfl⟩
        case measure => have := HN2.out; omega

/-! Put. -/
set_option maxHeartbeats 6400000 in
set_option maxRecDepth 100000 in
theorem put_any (key value : Int) : ∀ (t : T) (p : Option Addr) (w : World), Tr w t p → t.Bal → Sorted t.toL → t.ht ≤ 800 →
    Calls Try.prog 22 #[.pointer p, .int .i64 key, .int .i64 value] w fun e w' => ∃ q, e = .returned (.pointer q) ∧ Tr w' (putT t key value) q ∧ Below w.heap.size w w' := by
  intro t
  induction t with
  | nil =>
    intro p w h _ _ _
    obtain rfl : p = none := h
    have HT : Hid (Tr (w.alloc (.cells #[.int .i64 key, .int .i64 value, .pointer none, .pointer none, .int .i64 1] 56)) (putT .nil key value) (some ⟨w.heap.size, 0, none⟩)) := ⟨w.heap.size, none, none, rfl, alloc_new w _, rfl, rfl⟩
    have HBL := Lib.hid ((Below.refl w.heap.size w).alloc (Nat.le_refl _) (.cells #[.int .i64 key, .int .i64 value, .pointer none, .pointer none, .int .i64 1] 56))
    go_enter Try.func22, Try.ntmps22
    go_wp2_with fail
    go_ret
    exact ⟨_, rfl, HT.out, HBL.out⟩
  | nd a k u b iha ihb =>
    intro p w h hbal hs hh
    rw [bal_nd] at hbal
    obtain ⟨b1, b2, b3, b4⟩ := hbal
    rw [toL_nd, sorted_mid] at hs
    obtain ⟨s1, s2, s3, s4⟩ := hs
    have hh2 : a.ht ≤ 799 ∧ b.ht ≤ 799 := by rw [ht_nd] at hh; omega
    have PA := putT_is key value a b1 s1
    have PB := putT_is key value b b2 s2
    have ND := Lib.hid h.nd
    have H0 := Lib.hid h
    obtain ⟨B, pa, pb, rfl, hc, ta, tb⟩ := h.open_
    have IA := Lib.hid (fun W hb => iha pa W (ta.later hb) b1 s1 (by omega))
    have IB := Lib.hid (fun W hb => ihb pb W (tb.later hb) b2 s2 (by omega))
    have HC := Lib.hid hc
    have TA := Lib.hid ta
    have TB := Lib.hid tb
    obtain ⟨c0, c1, c2, c3⟩ := hc _ (Below.refl _ _)
    clear iha ihb hc ta tb h b1 b2 b3 b4 s1 s2 s3 s4
    go_enter Try.func22, Try.ntmps22
    go_wp2_with fail
    refine (cmp_any _ _ _).mono ?_
    rintro e w1 ⟨rfl, rfl⟩
    by_cases h1 : key < k
    · have e1 : cmpI key k = -1 := by unfold cmpI; rw [if_pos h1]
      have hE : putT (.nd a k u b) key value = lvl (putT a key value) k u b := by
        conv => lhs; unfold putT
        rw [if_pos h1]
      rw [e1]
      go_upto_region 5 with fail
      have HB10 := Lib.hid (below_d (w := w))
      have hStart := HC.out _ HB10.out
      clear c0 c1 c2 c3
      refine wp_region_held_drew (S := fun w' => w'.cell? ⟨B, 0, none⟩ = some (.int .i64 k) ∧ w'.cell? ⟨B, 1, none⟩ = some (.int .i64 u) ∧ w'.cell? ⟨B, 2, none⟩ = some (.pointer pa) ∧ w'.cell? ⟨B, 3, none⟩ = some (.pointer pb)) (by kernel_rfl) (hStart) (fun hHeld => ?_)
      refine wpAnyH_take (i := 0) (oi := { dst := some 23, op := Op.move (Operand.tmp 0), type := 24, pos := "node.go:45", after := #[], guard := none }) (v := ?_) rfl (by kernel_rfl) (by kernel_rfl) (by kernel_rfl) (fun _ _ _ h => h) (Or.inl ⟨by rfl, ?_⟩) (by assumption) ?_; rotate_left; (focus (intro w hSw; (try dsimp only at hSw); go_simp; all_goals (with_reducible rfl)))
      try simp only [Act.put, List.setIfInBounds_toArray, List.set_cons_zero, List.set_cons_succ]
      refine wpAnyH_take (i := 1) (oi := { dst := some 24, op := Op.move (Operand.tmp 0), type := 24, pos := "node.go:45", after := #[], guard := none }) (v := ?_) rfl (by kernel_rfl) (by kernel_rfl) (by kernel_rfl) (fun _ _ _ h => h) (Or.inl ⟨by rfl, ?_⟩) (by assumption) ?_; rotate_left; (focus (intro w hSw; (try dsimp only at hSw); go_simp; all_goals (with_reducible rfl)))
      try simp only [Act.put, List.setIfInBounds_toArray, List.set_cons_zero, List.set_cons_succ]
      refine wpAnyH_take (i := 2) (oi := { dst := some 25, op := Op.nilCheck (Operand.tmp 24), type := 0, pos := "node.go:45", after := #[{ on := 1, ground := Ground.data }], guard := none }) (v := ?_) rfl (by kernel_rfl) (by kernel_rfl) (by kernel_rfl) (fun _ _ _ h => h) (Or.inl ⟨by rfl, ?_⟩) (by assumption) ?_; rotate_left; (focus (intro w hSw; (try dsimp only at hSw); go_simp; all_goals (with_reducible rfl)))
      try simp only [Act.put, List.setIfInBounds_toArray, List.set_cons_zero, List.set_cons_succ]
      refine wpAnyH_take (i := 3) (oi := { dst := some 26, op := Op.fieldAddr 56 (Operand.tmp 25) 2, type := 0, pos := "node.go:45", after := #[{ on := 2, ground := Ground.data }], guard := none }) (v := ?_) rfl (by kernel_rfl) (by kernel_rfl) (by kernel_rfl) (fun _ _ _ h => h) (Or.inl ⟨by rfl, ?_⟩) (by assumption) ?_; rotate_left; (focus (intro w hSw; (try dsimp only at hSw); go_simp; all_goals (with_reducible rfl)))
      try simp only [Act.put, List.setIfInBounds_toArray, List.set_cons_zero, List.set_cons_succ]
      refine wpAnyH_take (i := 4) (oi := { dst := some 27, op := Op.load 24 (Operand.tmp 26), type := 24, pos := "node.go:45", after := #[{ on := 3, ground := Ground.data }], guard := none }) (v := ?_) rfl (by kernel_rfl) (by kernel_rfl) (by kernel_rfl) (fun _ _ _ h => h) (Or.inl ⟨by rfl, ?_⟩) (by assumption) ?_; rotate_left; (focus (intro w hSw; (try dsimp only at hSw); go_simp; all_goals (with_reducible rfl)))
      try simp only [Act.put, List.setIfInBounds_toArray, List.set_cons_zero, List.set_cons_succ]
      refine wpAnyH_take (i := 5) (oi := { dst := some 28, op := Op.move (Operand.tmp 1), type := 3, pos := "node.go:45", after := #[], guard := none }) (v := ?_) rfl (by kernel_rfl) (by kernel_rfl) (by kernel_rfl) (fun _ _ _ h => h) (Or.inl ⟨by rfl, ?_⟩) (by assumption) ?_; rotate_left; (focus (intro w hSw; (try dsimp only at hSw); go_simp; all_goals (with_reducible rfl)))
      try simp only [Act.put, List.setIfInBounds_toArray, List.set_cons_zero, List.set_cons_succ]
      refine wpAnyH_take (i := 6) (oi := { dst := some 29, op := Op.move (Operand.tmp 2), type := 3, pos := "node.go:45", after := #[], guard := none }) (v := ?_) rfl (by kernel_rfl) (by kernel_rfl) (by kernel_rfl) (fun _ _ _ h => h) (Or.inl ⟨by rfl, ?_⟩) (by assumption) ?_; rotate_left; (focus (intro w hSw; (try dsimp only at hSw); go_simp; all_goals (with_reducible rfl)))
      try simp only [Act.put, List.setIfInBounds_toArray, List.set_cons_zero, List.set_cons_succ]
      refine wpAnyH_take (i := 8) (oi := { dst := some 31, op := Op.move (Operand.tmp 0), type := 24, pos := "node.go:45", after := #[], guard := none }) (v := ?_) rfl (by kernel_rfl) (by kernel_rfl) (by kernel_rfl) (fun _ _ _ h => h) (Or.inl ⟨by rfl, ?_⟩) (by assumption) ?_; rotate_left; (focus (intro w hSw; (try dsimp only at hSw); go_simp; all_goals (with_reducible rfl)))
      try simp only [Act.put, List.setIfInBounds_toArray, List.set_cons_zero, List.set_cons_succ]
      refine wpAnyH_take (i := 9) (oi := { dst := some 32, op := Op.nilCheck (Operand.tmp 31), type := 0, pos := "node.go:45", after := #[{ on := 8, ground := Ground.data }], guard := none }) (v := ?_) rfl (by kernel_rfl) (by kernel_rfl) (by kernel_rfl) (fun _ _ _ h => h) (Or.inl ⟨by rfl, ?_⟩) (by assumption) ?_; rotate_left; (focus (intro w hSw; (try dsimp only at hSw); go_simp; all_goals (with_reducible rfl)))
      try simp only [Act.put, List.setIfInBounds_toArray, List.set_cons_zero, List.set_cons_succ]
      refine wpAnyH_take (i := 10) (oi := { dst := some 33, op := Op.fieldAddr 56 (Operand.tmp 32) 3, type := 0, pos := "node.go:45", after := #[{ on := 9, ground := Ground.data }], guard := none }) (v := ?_) rfl (by kernel_rfl) (by kernel_rfl) (by kernel_rfl) (fun _ _ _ h => h) (Or.inl ⟨by rfl, ?_⟩) (by assumption) ?_; rotate_left; (focus (intro w hSw; (try dsimp only at hSw); go_simp; all_goals (with_reducible rfl)))
      try simp only [Act.put, List.setIfInBounds_toArray, List.set_cons_zero, List.set_cons_succ]
      refine wpAnyH_take (i := 11) (oi := { dst := some 34, op := Op.load 24 (Operand.tmp 33), type := 24, pos := "node.go:45", after := #[{ on := 10, ground := Ground.data }], guard := none }) (v := ?_) rfl (by kernel_rfl) (by kernel_rfl) (by kernel_rfl) (fun _ _ _ h => h) (Or.inl ⟨by rfl, ?_⟩) (by assumption) ?_; rotate_left; (focus (intro w hSw; (try dsimp only at hSw); go_simp; all_goals (with_reducible rfl)))
      try simp only [Act.put, List.setIfInBounds_toArray, List.set_cons_zero, List.set_cons_succ]
      refine wpAnyH_ready (rs := [7]) (by kernel_rfl) (by simp) ?_
      refine AllReadyH.cons (o := { dst := some 30, op := Op.call { callee := Callee.value (Operand.func 22), args := #[Operand.tmp 27, Operand.tmp 28, Operand.tmp 29], argTypes := #[24, 3, 3] }, type := 24, pos := "node.go:45", after := #[{ on := 4, ground := Ground.data }, { on := 5, ground := Ground.data }, { on := 6, ground := Ground.data }], guard := none }) rfl (fun K hK => ?_) AllReadyH.nil
      go_simp
      refine (IA.out _ HB10.out).mono ?_
      rintro e w11 ⟨q11, rfl, ht11, hb11⟩
      have HB11 := Lib.hid (HB10.out.trans (hb11.mono HB10.out.size))
      have R11 := Lib.hid ht11
      have hKeep := HC.out _ HB11.out
      clear ht11 hb11
      go_wp2_with fail
      refine hK.out _ _ ?_ (fun hHeld => ?_)
      · exact hKeep
      clear hK K
      try simp only [Act.put, List.setIfInBounds_toArray, List.set_cons_zero, List.set_cons_succ]
      refine wpAnyH_ready (rs := [12]) (by kernel_rfl) (by simp) ?_
      refine AllReadyH.cons (o := { dst := some 35, op := Op.call { callee := Callee.value (Operand.func 32), args := #[Operand.tmp 23, Operand.tmp 30, Operand.tmp 34], argTypes := #[24, 24, 24] }, type := 24, pos := "node.go:45", after := #[{ on := 0, ground := Ground.data }, { on := 7, ground := Ground.data }, { on := 11, ground := Ground.data }, { on := 7, ground := Ground.chain }], guard := none }) rfl (fun K hK => ?_) AllReadyH.nil
      go_simp
      refine (level_any k u (putT a key value) b _ q11 pb _ (ND.out.later HB11.out) R11.out (TB.out.later HB11.out) (by have := PA.2.2.2; omega) (by omega)).mono ?_
      rintro e w12 ⟨q12, rfl, ht12, hb12⟩
      have HB12 := Lib.hid (HB11.out.trans (hb12.mono HB11.out.size))
      have R12 := Lib.hid ht12
      have hKeep := HC.out _ HB12.out
      clear ht12 hb12
      go_wp2_with fail
      refine hK.out _ _ ?_ (fun hHeld => ?_)
      · exact hKeep
      clear hK K
      try simp only [Act.put, List.setIfInBounds_toArray, List.set_cons_zero, List.set_cons_succ]
      refine wpAnyH_take (i := 13) (oi := { dst := some 6, op := Op.assign (Operand.tmp 35), type := 24, pos := "node.go:45", after := #[{ on := 12, ground := Ground.data }, { on := 12, ground := Ground.chain }, { on := 0, ground := Ground.phase }, { on := 1, ground := Ground.phase }, { on := 2, ground := Ground.phase }, { on := 3, ground := Ground.phase }, { on := 4, ground := Ground.phase }, { on := 5, ground := Ground.phase }, { on := 6, ground := Ground.phase }, { on := 7, ground := Ground.phase }, { on := 8, ground := Ground.phase }, { on := 9, ground := Ground.phase }, { on := 10, ground := Ground.phase }, { on := 11, ground := Ground.phase }, { on := 12, ground := Ground.phase }], guard := none }) (v := ?_) rfl (by kernel_rfl) (by kernel_rfl) (by kernel_rfl) (fun _ _ _ h => h) (Or.inl ⟨by rfl, ?_⟩) (by assumption) ?_; rotate_left; (focus (intro w hSw; (try dsimp only at hSw); go_simp; all_goals (with_reducible rfl)))
      try simp only [Act.put, List.setIfInBounds_toArray, List.set_cons_zero, List.set_cons_succ]
      refine wpAnyH_done (by kernel_rfl) ?_ _
      go_wp2_with fail
      go_ret
      exact ⟨_, rfl, by rw [hE]; exact R12.out, HB12.out⟩
    · by_cases h2 : k < key
      · have e1 : cmpI key k = 1 := by unfold cmpI; rw [if_neg h1, if_pos h2]
        have hE : putT (.nd a k u b) key value = lvl a k u (putT b key value) := by
          conv => lhs; unfold putT
          rw [if_neg h1, if_pos h2]
        rw [e1]
        go_upto_region 7 with fail
        have HB10 := Lib.hid (below_d (w := w))
        have hStart := HC.out _ HB10.out
        clear c0 c1 c2 c3
        refine wp_region_held_drew (S := fun w' => w'.cell? ⟨B, 0, none⟩ = some (.int .i64 k) ∧ w'.cell? ⟨B, 1, none⟩ = some (.int .i64 u) ∧ w'.cell? ⟨B, 2, none⟩ = some (.pointer pa) ∧ w'.cell? ⟨B, 3, none⟩ = some (.pointer pb)) (by kernel_rfl) (hStart) (fun hHeld => ?_)
        refine wpAnyH_take (i := 0) (oi := { dst := some 39, op := Op.move (Operand.tmp 0), type := 24, pos := "node.go:47", after := #[], guard := none }) (v := ?_) rfl (by kernel_rfl) (by kernel_rfl) (by kernel_rfl) (fun _ _ _ h => h) (Or.inl ⟨by rfl, ?_⟩) (by assumption) ?_; rotate_left; (focus (intro w hSw; (try dsimp only at hSw); go_simp; all_goals (with_reducible rfl)))
        try simp only [Act.put, List.setIfInBounds_toArray, List.set_cons_zero, List.set_cons_succ]
        refine wpAnyH_take (i := 1) (oi := { dst := some 40, op := Op.move (Operand.tmp 0), type := 24, pos := "node.go:47", after := #[], guard := none }) (v := ?_) rfl (by kernel_rfl) (by kernel_rfl) (by kernel_rfl) (fun _ _ _ h => h) (Or.inl ⟨by rfl, ?_⟩) (by assumption) ?_; rotate_left; (focus (intro w hSw; (try dsimp only at hSw); go_simp; all_goals (with_reducible rfl)))
        try simp only [Act.put, List.setIfInBounds_toArray, List.set_cons_zero, List.set_cons_succ]
        refine wpAnyH_take (i := 2) (oi := { dst := some 41, op := Op.nilCheck (Operand.tmp 40), type := 0, pos := "node.go:47", after := #[{ on := 1, ground := Ground.data }], guard := none }) (v := ?_) rfl (by kernel_rfl) (by kernel_rfl) (by kernel_rfl) (fun _ _ _ h => h) (Or.inl ⟨by rfl, ?_⟩) (by assumption) ?_; rotate_left; (focus (intro w hSw; (try dsimp only at hSw); go_simp; all_goals (with_reducible rfl)))
        try simp only [Act.put, List.setIfInBounds_toArray, List.set_cons_zero, List.set_cons_succ]
        refine wpAnyH_take (i := 3) (oi := { dst := some 42, op := Op.fieldAddr 56 (Operand.tmp 41) 2, type := 0, pos := "node.go:47", after := #[{ on := 2, ground := Ground.data }], guard := none }) (v := ?_) rfl (by kernel_rfl) (by kernel_rfl) (by kernel_rfl) (fun _ _ _ h => h) (Or.inl ⟨by rfl, ?_⟩) (by assumption) ?_; rotate_left; (focus (intro w hSw; (try dsimp only at hSw); go_simp; all_goals (with_reducible rfl)))
        try simp only [Act.put, List.setIfInBounds_toArray, List.set_cons_zero, List.set_cons_succ]
        refine wpAnyH_take (i := 4) (oi := { dst := some 43, op := Op.load 24 (Operand.tmp 42), type := 24, pos := "node.go:47", after := #[{ on := 3, ground := Ground.data }], guard := none }) (v := ?_) rfl (by kernel_rfl) (by kernel_rfl) (by kernel_rfl) (fun _ _ _ h => h) (Or.inl ⟨by rfl, ?_⟩) (by assumption) ?_; rotate_left; (focus (intro w hSw; (try dsimp only at hSw); go_simp; all_goals (with_reducible rfl)))
        try simp only [Act.put, List.setIfInBounds_toArray, List.set_cons_zero, List.set_cons_succ]
        refine wpAnyH_take (i := 5) (oi := { dst := some 44, op := Op.move (Operand.tmp 0), type := 24, pos := "node.go:47", after := #[], guard := none }) (v := ?_) rfl (by kernel_rfl) (by kernel_rfl) (by kernel_rfl) (fun _ _ _ h => h) (Or.inl ⟨by rfl, ?_⟩) (by assumption) ?_; rotate_left; (focus (intro w hSw; (try dsimp only at hSw); go_simp; all_goals (with_reducible rfl)))
        try simp only [Act.put, List.setIfInBounds_toArray, List.set_cons_zero, List.set_cons_succ]
        refine wpAnyH_take (i := 6) (oi := { dst := some 45, op := Op.nilCheck (Operand.tmp 44), type := 0, pos := "node.go:47", after := #[{ on := 5, ground := Ground.data }], guard := none }) (v := ?_) rfl (by kernel_rfl) (by kernel_rfl) (by kernel_rfl) (fun _ _ _ h => h) (Or.inl ⟨by rfl, ?_⟩) (by assumption) ?_; rotate_left; (focus (intro w hSw; (try dsimp only at hSw); go_simp; all_goals (with_reducible rfl)))
        try simp only [Act.put, List.setIfInBounds_toArray, List.set_cons_zero, List.set_cons_succ]
        refine wpAnyH_take (i := 7) (oi := { dst := some 46, op := Op.fieldAddr 56 (Operand.tmp 45) 3, type := 0, pos := "node.go:47", after := #[{ on := 6, ground := Ground.data }], guard := none }) (v := ?_) rfl (by kernel_rfl) (by kernel_rfl) (by kernel_rfl) (fun _ _ _ h => h) (Or.inl ⟨by rfl, ?_⟩) (by assumption) ?_; rotate_left; (focus (intro w hSw; (try dsimp only at hSw); go_simp; all_goals (with_reducible rfl)))
        try simp only [Act.put, List.setIfInBounds_toArray, List.set_cons_zero, List.set_cons_succ]
        refine wpAnyH_take (i := 8) (oi := { dst := some 47, op := Op.load 24 (Operand.tmp 46), type := 24, pos := "node.go:47", after := #[{ on := 7, ground := Ground.data }], guard := none }) (v := ?_) rfl (by kernel_rfl) (by kernel_rfl) (by kernel_rfl) (fun _ _ _ h => h) (Or.inl ⟨by rfl, ?_⟩) (by assumption) ?_; rotate_left; (focus (intro w hSw; (try dsimp only at hSw); go_simp; all_goals (with_reducible rfl)))
        try simp only [Act.put, List.setIfInBounds_toArray, List.set_cons_zero, List.set_cons_succ]
        refine wpAnyH_take (i := 9) (oi := { dst := some 48, op := Op.move (Operand.tmp 1), type := 3, pos := "node.go:47", after := #[], guard := none }) (v := ?_) rfl (by kernel_rfl) (by kernel_rfl) (by kernel_rfl) (fun _ _ _ h => h) (Or.inl ⟨by rfl, ?_⟩) (by assumption) ?_; rotate_left; (focus (intro w hSw; (try dsimp only at hSw); go_simp; all_goals (with_reducible rfl)))
        try simp only [Act.put, List.setIfInBounds_toArray, List.set_cons_zero, List.set_cons_succ]
        refine wpAnyH_take (i := 10) (oi := { dst := some 49, op := Op.move (Operand.tmp 2), type := 3, pos := "node.go:47", after := #[], guard := none }) (v := ?_) rfl (by kernel_rfl) (by kernel_rfl) (by kernel_rfl) (fun _ _ _ h => h) (Or.inl ⟨by rfl, ?_⟩) (by assumption) ?_; rotate_left; (focus (intro w hSw; (try dsimp only at hSw); go_simp; all_goals (with_reducible rfl)))
        try simp only [Act.put, List.setIfInBounds_toArray, List.set_cons_zero, List.set_cons_succ]
        refine wpAnyH_ready (rs := [11]) (by kernel_rfl) (by simp) ?_
        refine AllReadyH.cons (o := { dst := some 50, op := Op.call { callee := Callee.value (Operand.func 22), args := #[Operand.tmp 47, Operand.tmp 48, Operand.tmp 49], argTypes := #[24, 3, 3] }, type := 24, pos := "node.go:47", after := #[{ on := 8, ground := Ground.data }, { on := 9, ground := Ground.data }, { on := 10, ground := Ground.data }], guard := none }) rfl (fun K hK => ?_) AllReadyH.nil
        go_simp
        refine (IB.out _ HB10.out).mono ?_
        rintro e w11 ⟨q11, rfl, ht11, hb11⟩
        have HB11 := Lib.hid (HB10.out.trans (hb11.mono HB10.out.size))
        have R11 := Lib.hid ht11
        have hKeep := HC.out _ HB11.out
        clear ht11 hb11
        go_wp2_with fail
        refine hK.out _ _ ?_ (fun hHeld => ?_)
        · exact hKeep
        clear hK K
        try simp only [Act.put, List.setIfInBounds_toArray, List.set_cons_zero, List.set_cons_succ]
        refine wpAnyH_ready (rs := [12]) (by kernel_rfl) (by simp) ?_
        refine AllReadyH.cons (o := { dst := some 51, op := Op.call { callee := Callee.value (Operand.func 32), args := #[Operand.tmp 39, Operand.tmp 43, Operand.tmp 50], argTypes := #[24, 24, 24] }, type := 24, pos := "node.go:47", after := #[{ on := 0, ground := Ground.data }, { on := 4, ground := Ground.data }, { on := 11, ground := Ground.data }, { on := 11, ground := Ground.chain }], guard := none }) rfl (fun K hK => ?_) AllReadyH.nil
        go_simp
        refine (level_any k u a (putT b key value) _ pa q11 _ (ND.out.later HB11.out) (TA.out.later HB11.out) R11.out (by omega) (by have := PB.2.2.2; omega)).mono ?_
        rintro e w12 ⟨q12, rfl, ht12, hb12⟩
        have HB12 := Lib.hid (HB11.out.trans (hb12.mono HB11.out.size))
        have R12 := Lib.hid ht12
        have hKeep := HC.out _ HB12.out
        clear ht12 hb12
        go_wp2_with fail
        refine hK.out _ _ ?_ (fun hHeld => ?_)
        · exact hKeep
        clear hK K
        try simp only [Act.put, List.setIfInBounds_toArray, List.set_cons_zero, List.set_cons_succ]
        refine wpAnyH_take (i := 13) (oi := { dst := some 6, op := Op.assign (Operand.tmp 51), type := 24, pos := "node.go:47", after := #[{ on := 12, ground := Ground.data }, { on := 12, ground := Ground.chain }, { on := 0, ground := Ground.phase }, { on := 1, ground := Ground.phase }, { on := 2, ground := Ground.phase }, { on := 3, ground := Ground.phase }, { on := 4, ground := Ground.phase }, { on := 5, ground := Ground.phase }, { on := 6, ground := Ground.phase }, { on := 7, ground := Ground.phase }, { on := 8, ground := Ground.phase }, { on := 9, ground := Ground.phase }, { on := 10, ground := Ground.phase }, { on := 11, ground := Ground.phase }, { on := 12, ground := Ground.phase }], guard := none }) (v := ?_) rfl (by kernel_rfl) (by kernel_rfl) (by kernel_rfl) (fun _ _ _ h => h) (Or.inl ⟨by rfl, ?_⟩) (by assumption) ?_; rotate_left; (focus (intro w hSw; (try dsimp only at hSw); go_simp; all_goals (with_reducible rfl)))
        try simp only [Act.put, List.setIfInBounds_toArray, List.set_cons_zero, List.set_cons_succ]
        refine wpAnyH_done (by kernel_rfl) ?_ _
        go_wp2_with fail
        go_ret
        exact ⟨_, rfl, by rw [hE]; exact R12.out, HB12.out⟩
      · have e1 : cmpI key k = 0 := by unfold cmpI; rw [if_neg h1, if_neg h2]
        have hE : putT (.nd a k u b) key value = .nd a key value b := by
          conv => lhs; unfold putT
          rw [if_neg h1, if_neg h2]
        obtain ⟨B', pa', pb', q1, q2, _⟩ := H0.out
        injection q1 with q1; injection q1 with q1
        subst q1
        obtain ⟨_, _, d2, d3, d4⟩ := cells5 q2
        obtain rfl : pa' = pa := by rw [c2] at d2; cases d2; rfl
        obtain rfl : pb' = pb := by rw [c3] at d3; cases d3; rfl
        have HT : Hid (Tr (w.drew.alloc (.cells #[.int .i64 key, .int .i64 value, .pointer pa', .pointer pb', .int .i64 ((T.nd a k u b).ht : Nat)] 56)) (.nd a key value b) (some ⟨w.heap.size, 0, none⟩)) := by
          have hbl : Below w.heap.size w (w.drew.alloc (.cells #[.int .i64 key, .int .i64 value, .pointer pa', .pointer pb', .int .i64 ((T.nd a k u b).ht : Nat)] 56)) := ((Below.refl _ w).drew).alloc (Nat.le_refl _) _
          exact ⟨w.heap.size, pa', pb', rfl, alloc_new w.drew _, TA.out.later hbl, TB.out.later hbl⟩
        have hbl : ∀ o, Below w.heap.size w (w.drew.alloc o) := fun o => ((Below.refl _ w).drew).alloc (Nat.le_refl _) o
        have HBL := Lib.hid hbl
        rw [e1]
        clear hbl q2 d2 d3 H0 PA PB
        generalize (T.nd a k u b).ht = x at *
        go_wp2_with fail
        all_goals go_region
        all_goals go_wp2_with fail
        all_goals (go_ret; exact ⟨_, rfl, by rw [hE]; exact HT.out, HBL.out _⟩)

/-! Drop. -/
theorem htD (t : T) (key : Int) (hb : t.Bal) (hs : Sorted t.toL) (ha : isAt t.toL key = true) : (dropT t key).ht ≤ t.ht := (dropT_is t key hb hs ha).2.2.1
theorem lst_at {t : T} (hs : Sorted t.toL) (hn : t ≠ .nil) : isAt t.toL (lstP t).1 = true := by
  obtain ⟨r, hr⟩ := lstP_is t hn
  exact isAt_of_mem (u := (lstP t).2) hs (by rw [hr]; exact List.mem_cons_self ..)
set_option maxHeartbeats 6400000 in
set_option maxRecDepth 100000 in
theorem drop_any : ∀ (t : T) (key : Int) (p : Option Addr) (w : World), Tr w t p → t.Bal → Sorted t.toL → t.ht ≤ 800 → isAt t.toL key = true →
    Calls Try.prog 23 #[.pointer p, .int .i64 key] w fun e w' => ∃ q, e = .returned (.pointer q) ∧ Tr w' (dropT t key) q ∧ Below w.heap.size w w' := by
  intro t
  induction t with
  | nil => intro key p w _ _ _ _ h; cases h
  | nd a k u b iha ihb =>
    intro key p w h hbal hs hh hat
    rw [bal_nd] at hbal
    obtain ⟨b1, b2, b3, b4⟩ := hbal
    rw [toL_nd] at hs hat
    rw [sorted_mid] at hs
    obtain ⟨s1, s2, s3, s4⟩ := hs
    have hh2 : a.ht ≤ 799 ∧ b.ht ≤ 799 := by rw [ht_nd] at hh; omega
    have ND := Lib.hid h.nd
    have H0 := Lib.hid h
    obtain ⟨B, pa, pb, rfl, hc, ta, tb⟩ := h.open_
    have IA := Lib.hid (fun key' ha W hb => iha key' pa W (ta.later hb) b1 s1 (by omega) ha)
    have IB := Lib.hid (fun key' ha W hb => ihb key' pb W (tb.later hb) b2 s2 (by omega) ha)
    have HC := Lib.hid hc
    have TA := Lib.hid ta
    have TB := Lib.hid tb
    obtain ⟨c0, c1, c2, c3⟩ := hc _ (Below.refl _ _)
    clear iha ihb hc ta tb h b3 b4
    go_enter Try.func23, Try.ntmps23
    go_wp2_with fail
    refine (cmp_any _ _ _).mono ?_
    rintro e w1 ⟨rfl, rfl⟩
    by_cases h1 : key < k
    · have e1 : cmpI key k = -1 := by unfold cmpI; rw [if_pos h1]
      have hE : dropT (.nd a k u b) key = lvl (dropT a key) k u b := by
        conv => lhs; unfold dropT
        rw [if_pos h1]
      rw [isAt_left h1] at hat
      have hd := htD a key b1 s1 hat
      have HAT := Lib.hid hat
      rw [e1]
      clear b1 b2 s1 s2 s3 s4 hat
      go_upto_region 3 with fail
      have HB10 := Lib.hid (below_d (w := w))
      have hStart := HC.out _ HB10.out
      clear c0 c1 c2 c3
      refine wp_region_held_drew (S := fun w' => w'.cell? ⟨B, 0, none⟩ = some (.int .i64 k) ∧ w'.cell? ⟨B, 1, none⟩ = some (.int .i64 u) ∧ w'.cell? ⟨B, 2, none⟩ = some (.pointer pa) ∧ w'.cell? ⟨B, 3, none⟩ = some (.pointer pb)) (by kernel_rfl) (hStart) (fun hHeld => ?_)
      refine wpAnyH_take (i := 0) (oi := { dst := some 16, op := Op.move (Operand.tmp 0), type := 24, pos := "node.go:56", after := #[], guard := none }) (v := ?_) rfl (by kernel_rfl) (by kernel_rfl) (by kernel_rfl) (fun _ _ _ h => h) (Or.inl ⟨by rfl, ?_⟩) (by assumption) ?_; rotate_left; (focus (intro w hSw; (try dsimp only at hSw); go_simp; all_goals (with_reducible rfl)))
      try simp only [Act.put, List.setIfInBounds_toArray, List.set_cons_zero, List.set_cons_succ]
      refine wpAnyH_take (i := 1) (oi := { dst := some 17, op := Op.move (Operand.tmp 0), type := 24, pos := "node.go:56", after := #[], guard := none }) (v := ?_) rfl (by kernel_rfl) (by kernel_rfl) (by kernel_rfl) (fun _ _ _ h => h) (Or.inl ⟨by rfl, ?_⟩) (by assumption) ?_; rotate_left; (focus (intro w hSw; (try dsimp only at hSw); go_simp; all_goals (with_reducible rfl)))
      try simp only [Act.put, List.setIfInBounds_toArray, List.set_cons_zero, List.set_cons_succ]
      refine wpAnyH_take (i := 2) (oi := { dst := some 18, op := Op.nilCheck (Operand.tmp 17), type := 0, pos := "node.go:56", after := #[{ on := 1, ground := Ground.data }], guard := none }) (v := ?_) rfl (by kernel_rfl) (by kernel_rfl) (by kernel_rfl) (fun _ _ _ h => h) (Or.inl ⟨by rfl, ?_⟩) (by assumption) ?_; rotate_left; (focus (intro w hSw; (try dsimp only at hSw); go_simp; all_goals (with_reducible rfl)))
      try simp only [Act.put, List.setIfInBounds_toArray, List.set_cons_zero, List.set_cons_succ]
      refine wpAnyH_take (i := 3) (oi := { dst := some 19, op := Op.fieldAddr 56 (Operand.tmp 18) 2, type := 0, pos := "node.go:56", after := #[{ on := 2, ground := Ground.data }], guard := none }) (v := ?_) rfl (by kernel_rfl) (by kernel_rfl) (by kernel_rfl) (fun _ _ _ h => h) (Or.inl ⟨by rfl, ?_⟩) (by assumption) ?_; rotate_left; (focus (intro w hSw; (try dsimp only at hSw); go_simp; all_goals (with_reducible rfl)))
      try simp only [Act.put, List.setIfInBounds_toArray, List.set_cons_zero, List.set_cons_succ]
      refine wpAnyH_take (i := 4) (oi := { dst := some 20, op := Op.load 24 (Operand.tmp 19), type := 24, pos := "node.go:56", after := #[{ on := 3, ground := Ground.data }], guard := none }) (v := ?_) rfl (by kernel_rfl) (by kernel_rfl) (by kernel_rfl) (fun _ _ _ h => h) (Or.inl ⟨by rfl, ?_⟩) (by assumption) ?_; rotate_left; (focus (intro w hSw; (try dsimp only at hSw); go_simp; all_goals (with_reducible rfl)))
      try simp only [Act.put, List.setIfInBounds_toArray, List.set_cons_zero, List.set_cons_succ]
      refine wpAnyH_take (i := 5) (oi := { dst := some 21, op := Op.move (Operand.tmp 1), type := 3, pos := "node.go:56", after := #[], guard := none }) (v := ?_) rfl (by kernel_rfl) (by kernel_rfl) (by kernel_rfl) (fun _ _ _ h => h) (Or.inl ⟨by rfl, ?_⟩) (by assumption) ?_; rotate_left; (focus (intro w hSw; (try dsimp only at hSw); go_simp; all_goals (with_reducible rfl)))
      try simp only [Act.put, List.setIfInBounds_toArray, List.set_cons_zero, List.set_cons_succ]
      refine wpAnyH_take (i := 7) (oi := { dst := some 23, op := Op.move (Operand.tmp 0), type := 24, pos := "node.go:56", after := #[], guard := none }) (v := ?_) rfl (by kernel_rfl) (by kernel_rfl) (by kernel_rfl) (fun _ _ _ h => h) (Or.inl ⟨by rfl, ?_⟩) (by assumption) ?_; rotate_left; (focus (intro w hSw; (try dsimp only at hSw); go_simp; all_goals (with_reducible rfl)))
      try simp only [Act.put, List.setIfInBounds_toArray, List.set_cons_zero, List.set_cons_succ]
      refine wpAnyH_take (i := 8) (oi := { dst := some 24, op := Op.nilCheck (Operand.tmp 23), type := 0, pos := "node.go:56", after := #[{ on := 7, ground := Ground.data }], guard := none }) (v := ?_) rfl (by kernel_rfl) (by kernel_rfl) (by kernel_rfl) (fun _ _ _ h => h) (Or.inl ⟨by rfl, ?_⟩) (by assumption) ?_; rotate_left; (focus (intro w hSw; (try dsimp only at hSw); go_simp; all_goals (with_reducible rfl)))
      try simp only [Act.put, List.setIfInBounds_toArray, List.set_cons_zero, List.set_cons_succ]
      refine wpAnyH_take (i := 9) (oi := { dst := some 25, op := Op.fieldAddr 56 (Operand.tmp 24) 3, type := 0, pos := "node.go:56", after := #[{ on := 8, ground := Ground.data }], guard := none }) (v := ?_) rfl (by kernel_rfl) (by kernel_rfl) (by kernel_rfl) (fun _ _ _ h => h) (Or.inl ⟨by rfl, ?_⟩) (by assumption) ?_; rotate_left; (focus (intro w hSw; (try dsimp only at hSw); go_simp; all_goals (with_reducible rfl)))
      try simp only [Act.put, List.setIfInBounds_toArray, List.set_cons_zero, List.set_cons_succ]
      refine wpAnyH_take (i := 10) (oi := { dst := some 26, op := Op.load 24 (Operand.tmp 25), type := 24, pos := "node.go:56", after := #[{ on := 9, ground := Ground.data }], guard := none }) (v := ?_) rfl (by kernel_rfl) (by kernel_rfl) (by kernel_rfl) (fun _ _ _ h => h) (Or.inl ⟨by rfl, ?_⟩) (by assumption) ?_; rotate_left; (focus (intro w hSw; (try dsimp only at hSw); go_simp; all_goals (with_reducible rfl)))
      try simp only [Act.put, List.setIfInBounds_toArray, List.set_cons_zero, List.set_cons_succ]
      refine wpAnyH_ready (rs := [6]) (by kernel_rfl) (by simp) ?_
      refine AllReadyH.cons (o := { dst := some 22, op := Op.call { callee := Callee.value (Operand.func 23), args := #[Operand.tmp 20, Operand.tmp 21], argTypes := #[24, 3] }, type := 24, pos := "node.go:56", after := #[{ on := 4, ground := Ground.data }, { on := 5, ground := Ground.data }], guard := none }) rfl (fun K hK => ?_) AllReadyH.nil
      go_simp
      refine (IA.out key HAT.out _ HB10.out).mono ?_
      rintro e w11 ⟨q11, rfl, ht11, hb11⟩
      have HB11 := Lib.hid (HB10.out.trans (hb11.mono HB10.out.size))
      have R11 := Lib.hid ht11
      have hKeep := HC.out _ HB11.out
      clear ht11 hb11
      go_wp2_with fail
      refine hK.out _ _ ?_ (fun hHeld => ?_)
      · exact hKeep
      clear hK K
      try simp only [Act.put, List.setIfInBounds_toArray, List.set_cons_zero, List.set_cons_succ]
      refine wpAnyH_ready (rs := [11]) (by kernel_rfl) (by simp) ?_
      refine AllReadyH.cons (o := { dst := some 27, op := Op.call { callee := Callee.value (Operand.func 32), args := #[Operand.tmp 16, Operand.tmp 22, Operand.tmp 26], argTypes := #[24, 24, 24] }, type := 24, pos := "node.go:56", after := #[{ on := 0, ground := Ground.data }, { on := 6, ground := Ground.data }, { on := 10, ground := Ground.data }, { on := 6, ground := Ground.chain }], guard := none }) rfl (fun K hK => ?_) AllReadyH.nil
      go_simp
      refine (level_any k u (dropT a key) b _ q11 pb _ (ND.out.later HB11.out) R11.out (TB.out.later HB11.out) (by omega) (by omega)).mono ?_
      rintro e w12 ⟨q12, rfl, ht12, hb12⟩
      have HB12 := Lib.hid (HB11.out.trans (hb12.mono HB11.out.size))
      have R12 := Lib.hid ht12
      have hKeep := HC.out _ HB12.out
      clear ht12 hb12
      go_wp2_with fail
      refine hK.out _ _ ?_ (fun hHeld => ?_)
      · exact hKeep
      clear hK K
      try simp only [Act.put, List.setIfInBounds_toArray, List.set_cons_zero, List.set_cons_succ]
      refine wpAnyH_take (i := 12) (oi := { dst := some 4, op := Op.assign (Operand.tmp 27), type := 24, pos := "node.go:56", after := #[{ on := 11, ground := Ground.data }, { on := 11, ground := Ground.chain }, { on := 0, ground := Ground.phase }, { on := 1, ground := Ground.phase }, { on := 2, ground := Ground.phase }, { on := 3, ground := Ground.phase }, { on := 4, ground := Ground.phase }, { on := 5, ground := Ground.phase }, { on := 6, ground := Ground.phase }, { on := 7, ground := Ground.phase }, { on := 8, ground := Ground.phase }, { on := 9, ground := Ground.phase }, { on := 10, ground := Ground.phase }, { on := 11, ground := Ground.phase }], guard := none }) (v := ?_) rfl (by kernel_rfl) (by kernel_rfl) (by kernel_rfl) (fun _ _ _ h => h) (Or.inl ⟨by rfl, ?_⟩) (by assumption) ?_; rotate_left; (focus (intro w hSw; (try dsimp only at hSw); go_simp; all_goals (with_reducible rfl)))
      try simp only [Act.put, List.setIfInBounds_toArray, List.set_cons_zero, List.set_cons_succ]
      refine wpAnyH_done (by kernel_rfl) ?_ _
      go_wp2_with fail
      go_ret
      exact ⟨_, rfl, by rw [hE]; exact R12.out, HB12.out⟩
    · by_cases h2 : k < key
      · have e1 : cmpI key k = 1 := by unfold cmpI; rw [if_neg h1, if_pos h2]
        have hE : dropT (.nd a k u b) key = lvl a k u (dropT b key) := by
          conv => lhs; unfold dropT
          rw [if_neg h1, if_pos h2]
        rw [isAt_right s3 h2] at hat
        have hd := htD b key b2 s2 hat
        have HAT := Lib.hid hat
        rw [e1]
        clear b1 b2 s1 s2 s3 s4 hat
        go_upto_region 5 with fail
        have HB10 := Lib.hid (below_d (w := w))
        have hStart := HC.out _ HB10.out
        clear c0 c1 c2 c3
        refine wp_region_held_drew (S := fun w' => w'.cell? ⟨B, 0, none⟩ = some (.int .i64 k) ∧ w'.cell? ⟨B, 1, none⟩ = some (.int .i64 u) ∧ w'.cell? ⟨B, 2, none⟩ = some (.pointer pa) ∧ w'.cell? ⟨B, 3, none⟩ = some (.pointer pb)) (by kernel_rfl) (hStart) (fun hHeld => ?_)
        refine wpAnyH_take (i := 0) (oi := { dst := some 31, op := Op.move (Operand.tmp 0), type := 24, pos := "node.go:58", after := #[], guard := none }) (v := ?_) rfl (by kernel_rfl) (by kernel_rfl) (by kernel_rfl) (fun _ _ _ h => h) (Or.inl ⟨by rfl, ?_⟩) (by assumption) ?_; rotate_left; (focus (intro w hSw; (try dsimp only at hSw); go_simp; all_goals (with_reducible rfl)))
        try simp only [Act.put, List.setIfInBounds_toArray, List.set_cons_zero, List.set_cons_succ]
        refine wpAnyH_take (i := 1) (oi := { dst := some 32, op := Op.move (Operand.tmp 0), type := 24, pos := "node.go:58", after := #[], guard := none }) (v := ?_) rfl (by kernel_rfl) (by kernel_rfl) (by kernel_rfl) (fun _ _ _ h => h) (Or.inl ⟨by rfl, ?_⟩) (by assumption) ?_; rotate_left; (focus (intro w hSw; (try dsimp only at hSw); go_simp; all_goals (with_reducible rfl)))
        try simp only [Act.put, List.setIfInBounds_toArray, List.set_cons_zero, List.set_cons_succ]
        refine wpAnyH_take (i := 2) (oi := { dst := some 33, op := Op.nilCheck (Operand.tmp 32), type := 0, pos := "node.go:58", after := #[{ on := 1, ground := Ground.data }], guard := none }) (v := ?_) rfl (by kernel_rfl) (by kernel_rfl) (by kernel_rfl) (fun _ _ _ h => h) (Or.inl ⟨by rfl, ?_⟩) (by assumption) ?_; rotate_left; (focus (intro w hSw; (try dsimp only at hSw); go_simp; all_goals (with_reducible rfl)))
        try simp only [Act.put, List.setIfInBounds_toArray, List.set_cons_zero, List.set_cons_succ]
        refine wpAnyH_take (i := 3) (oi := { dst := some 34, op := Op.fieldAddr 56 (Operand.tmp 33) 2, type := 0, pos := "node.go:58", after := #[{ on := 2, ground := Ground.data }], guard := none }) (v := ?_) rfl (by kernel_rfl) (by kernel_rfl) (by kernel_rfl) (fun _ _ _ h => h) (Or.inl ⟨by rfl, ?_⟩) (by assumption) ?_; rotate_left; (focus (intro w hSw; (try dsimp only at hSw); go_simp; all_goals (with_reducible rfl)))
        try simp only [Act.put, List.setIfInBounds_toArray, List.set_cons_zero, List.set_cons_succ]
        refine wpAnyH_take (i := 4) (oi := { dst := some 35, op := Op.load 24 (Operand.tmp 34), type := 24, pos := "node.go:58", after := #[{ on := 3, ground := Ground.data }], guard := none }) (v := ?_) rfl (by kernel_rfl) (by kernel_rfl) (by kernel_rfl) (fun _ _ _ h => h) (Or.inl ⟨by rfl, ?_⟩) (by assumption) ?_; rotate_left; (focus (intro w hSw; (try dsimp only at hSw); go_simp; all_goals (with_reducible rfl)))
        try simp only [Act.put, List.setIfInBounds_toArray, List.set_cons_zero, List.set_cons_succ]
        refine wpAnyH_take (i := 5) (oi := { dst := some 36, op := Op.move (Operand.tmp 0), type := 24, pos := "node.go:58", after := #[], guard := none }) (v := ?_) rfl (by kernel_rfl) (by kernel_rfl) (by kernel_rfl) (fun _ _ _ h => h) (Or.inl ⟨by rfl, ?_⟩) (by assumption) ?_; rotate_left; (focus (intro w hSw; (try dsimp only at hSw); go_simp; all_goals (with_reducible rfl)))
        try simp only [Act.put, List.setIfInBounds_toArray, List.set_cons_zero, List.set_cons_succ]
        refine wpAnyH_take (i := 6) (oi := { dst := some 37, op := Op.nilCheck (Operand.tmp 36), type := 0, pos := "node.go:58", after := #[{ on := 5, ground := Ground.data }], guard := none }) (v := ?_) rfl (by kernel_rfl) (by kernel_rfl) (by kernel_rfl) (fun _ _ _ h => h) (Or.inl ⟨by rfl, ?_⟩) (by assumption) ?_; rotate_left; (focus (intro w hSw; (try dsimp only at hSw); go_simp; all_goals (with_reducible rfl)))
        try simp only [Act.put, List.setIfInBounds_toArray, List.set_cons_zero, List.set_cons_succ]
        refine wpAnyH_take (i := 7) (oi := { dst := some 38, op := Op.fieldAddr 56 (Operand.tmp 37) 3, type := 0, pos := "node.go:58", after := #[{ on := 6, ground := Ground.data }], guard := none }) (v := ?_) rfl (by kernel_rfl) (by kernel_rfl) (by kernel_rfl) (fun _ _ _ h => h) (Or.inl ⟨by rfl, ?_⟩) (by assumption) ?_; rotate_left; (focus (intro w hSw; (try dsimp only at hSw); go_simp; all_goals (with_reducible rfl)))
        try simp only [Act.put, List.setIfInBounds_toArray, List.set_cons_zero, List.set_cons_succ]
        refine wpAnyH_take (i := 8) (oi := { dst := some 39, op := Op.load 24 (Operand.tmp 38), type := 24, pos := "node.go:58", after := #[{ on := 7, ground := Ground.data }], guard := none }) (v := ?_) rfl (by kernel_rfl) (by kernel_rfl) (by kernel_rfl) (fun _ _ _ h => h) (Or.inl ⟨by rfl, ?_⟩) (by assumption) ?_; rotate_left; (focus (intro w hSw; (try dsimp only at hSw); go_simp; all_goals (with_reducible rfl)))
        try simp only [Act.put, List.setIfInBounds_toArray, List.set_cons_zero, List.set_cons_succ]
        refine wpAnyH_take (i := 9) (oi := { dst := some 40, op := Op.move (Operand.tmp 1), type := 3, pos := "node.go:58", after := #[], guard := none }) (v := ?_) rfl (by kernel_rfl) (by kernel_rfl) (by kernel_rfl) (fun _ _ _ h => h) (Or.inl ⟨by rfl, ?_⟩) (by assumption) ?_; rotate_left; (focus (intro w hSw; (try dsimp only at hSw); go_simp; all_goals (with_reducible rfl)))
        try simp only [Act.put, List.setIfInBounds_toArray, List.set_cons_zero, List.set_cons_succ]
        refine wpAnyH_ready (rs := [10]) (by kernel_rfl) (by simp) ?_
        refine AllReadyH.cons (o := { dst := some 41, op := Op.call { callee := Callee.value (Operand.func 23), args := #[Operand.tmp 39, Operand.tmp 40], argTypes := #[24, 3] }, type := 24, pos := "node.go:58", after := #[{ on := 8, ground := Ground.data }, { on := 9, ground := Ground.data }], guard := none }) rfl (fun K hK => ?_) AllReadyH.nil
        go_simp
        refine (IB.out key HAT.out _ HB10.out).mono ?_
        rintro e w11 ⟨q11, rfl, ht11, hb11⟩
        have HB11 := Lib.hid (HB10.out.trans (hb11.mono HB10.out.size))
        have R11 := Lib.hid ht11
        have hKeep := HC.out _ HB11.out
        clear ht11 hb11
        go_wp2_with fail
        refine hK.out _ _ ?_ (fun hHeld => ?_)
        · exact hKeep
        clear hK K
        try simp only [Act.put, List.setIfInBounds_toArray, List.set_cons_zero, List.set_cons_succ]
        refine wpAnyH_ready (rs := [11]) (by kernel_rfl) (by simp) ?_
        refine AllReadyH.cons (o := { dst := some 42, op := Op.call { callee := Callee.value (Operand.func 32), args := #[Operand.tmp 31, Operand.tmp 35, Operand.tmp 41], argTypes := #[24, 24, 24] }, type := 24, pos := "node.go:58", after := #[{ on := 0, ground := Ground.data }, { on := 4, ground := Ground.data }, { on := 10, ground := Ground.data }, { on := 10, ground := Ground.chain }], guard := none }) rfl (fun K hK => ?_) AllReadyH.nil
        go_simp
        refine (level_any k u a (dropT b key) _ pa q11 _ (ND.out.later HB11.out) (TA.out.later HB11.out) R11.out (by omega) (by omega)).mono ?_
        rintro e w12 ⟨q12, rfl, ht12, hb12⟩
        have HB12 := Lib.hid (HB11.out.trans (hb12.mono HB11.out.size))
        have R12 := Lib.hid ht12
        have hKeep := HC.out _ HB12.out
        clear ht12 hb12
        go_wp2_with fail
        refine hK.out _ _ ?_ (fun hHeld => ?_)
        · exact hKeep
        clear hK K
        try simp only [Act.put, List.setIfInBounds_toArray, List.set_cons_zero, List.set_cons_succ]
        refine wpAnyH_take (i := 12) (oi := { dst := some 4, op := Op.assign (Operand.tmp 42), type := 24, pos := "node.go:58", after := #[{ on := 11, ground := Ground.data }, { on := 11, ground := Ground.chain }, { on := 0, ground := Ground.phase }, { on := 1, ground := Ground.phase }, { on := 2, ground := Ground.phase }, { on := 3, ground := Ground.phase }, { on := 4, ground := Ground.phase }, { on := 5, ground := Ground.phase }, { on := 6, ground := Ground.phase }, { on := 7, ground := Ground.phase }, { on := 8, ground := Ground.phase }, { on := 9, ground := Ground.phase }, { on := 10, ground := Ground.phase }, { on := 11, ground := Ground.phase }], guard := none }) (v := ?_) rfl (by kernel_rfl) (by kernel_rfl) (by kernel_rfl) (fun _ _ _ h => h) (Or.inl ⟨by rfl, ?_⟩) (by assumption) ?_; rotate_left; (focus (intro w hSw; (try dsimp only at hSw); go_simp; all_goals (with_reducible rfl)))
        try simp only [Act.put, List.setIfInBounds_toArray, List.set_cons_zero, List.set_cons_succ]
        refine wpAnyH_done (by kernel_rfl) ?_ _
        go_wp2_with fail
        go_ret
        exact ⟨_, rfl, by rw [hE]; exact R12.out, HB12.out⟩
      · have e1 : cmpI key k = 0 := by unfold cmpI; rw [if_neg h1, if_neg h2]
        rw [e1]
        clear hat
        cases b with
        | nil =>
          obtain rfl : pb = none := TB.out
          have hE : dropT (.nd a k u .nil) key = a := by
            conv => lhs; unfold dropT
            rw [if_neg h1, if_neg h2]
          clear b1 b2 s1 s2 s3 s4
          go_wp2_with fail
          go_ret
          exact ⟨_, rfl, by rw [hE]; exact TA.out, Below.refl _ _⟩
        | nd c j v d =>
          have hne : T.nd c j v d ≠ .nil := by intro h; cases h
          have hE : dropT (.nd a k u (.nd c j v d)) key = lvl a (lstP (.nd c j v d)).1 (lstP (.nd c j v d)).2 (dropT (.nd c j v d) (lstP (.nd c j v d)).1) := by
            conv => lhs; unfold dropT
            rw [if_neg h1, if_neg h2]
          have hat := lst_at s2 hne
          have hd := htD _ _ b2 s2 hat
          have HAT := Lib.hid hat
          have HNE := Lib.hid hne
          have HLN := Lib.hid (fun W hb => least_node (.nd c j v d) hne pb W (TB.out.later hb))
          obtain ⟨B2, _, _, rfl, _⟩ := TB.out.open_
          clear b1 b2 s1 s2 s3 s4 hat hne
          generalize hBQ : T.nd c j v d = b at *
          have HBQ := Lib.hid hBQ
          clear hBQ
          go_wp2_with fail
          refine (HLN.out _ (Below.refl _ _)).mono ?_
          rintro e w1 ⟨⟨q, rfl, hnd⟩, rfl⟩
          obtain ⟨Q, x2, x3, x4, rfl, hQ⟩ := hnd.at_
          have NQ := Lib.hid hnd
          have HC2 : Hid (∀ w', Below w.heap.size w w' → w'.cell? ⟨B, 0, none⟩ = some (.int .i64 k) ∧ w'.cell? ⟨B, 1, none⟩ = some (.int .i64 u) ∧ w'.cell? ⟨B, 2, none⟩ = some (.pointer pa) ∧ w'.cell? ⟨B, 3, none⟩ = some (.pointer (some ⟨B2, 0, none⟩)) ∧ w'.cell? ⟨Q, 0, none⟩ = some (.int .i64 (lstP b).1)) := fun W hb => by
            obtain ⟨a0, a1, a2, a3⟩ := HC.out W hb
            obtain ⟨f0, _, _, _, _⟩ := cells5 (Below.same hb hQ)
            exact ⟨a0, a1, a2, a3, f0⟩
          clear HC hnd hQ
          have HC := HC2
          clear HC2
          have HB10 := Lib.hid (below_d (w := w))
          go_upto_region 9 with fail
          have hStart := HC.out _ HB10.out
          clear c0 c1 c2 c3
          refine wp_region_held_drew (S := fun w' => w'.cell? ⟨B, 0, none⟩ = some (.int .i64 k) ∧ w'.cell? ⟨B, 1, none⟩ = some (.int .i64 u) ∧ w'.cell? ⟨B, 2, none⟩ = some (.pointer pa) ∧ w'.cell? ⟨B, 3, none⟩ = some (.pointer (some ⟨B2, 0, none⟩)) ∧ w'.cell? ⟨Q, 0, none⟩ = some (.int .i64 (lstP b).1)) (by kernel_rfl) (hStart) (fun hHeld => ?_)
          refine wpAnyH_take (i := 0) (oi := { dst := some 57, op := Op.move (Operand.tmp 6), type := 24, pos := "node.go:64", after := #[], guard := none }) (v := ?_) rfl (by kernel_rfl) (by kernel_rfl) (by kernel_rfl) (fun _ _ _ h => h) (Or.inl ⟨by rfl, ?_⟩) (by assumption) ?_; rotate_left; (focus (intro w hSw; (try dsimp only at hSw); go_simp; all_goals (with_reducible rfl)))
          try simp only [Act.put, List.setIfInBounds_toArray, List.set_cons_zero, List.set_cons_succ]
          refine wpAnyH_take (i := 1) (oi := { dst := some 58, op := Op.move (Operand.tmp 0), type := 24, pos := "node.go:64", after := #[], guard := none }) (v := ?_) rfl (by kernel_rfl) (by kernel_rfl) (by kernel_rfl) (fun _ _ _ h => h) (Or.inl ⟨by rfl, ?_⟩) (by assumption) ?_; rotate_left; (focus (intro w hSw; (try dsimp only at hSw); go_simp; all_goals (with_reducible rfl)))
          try simp only [Act.put, List.setIfInBounds_toArray, List.set_cons_zero, List.set_cons_succ]
          refine wpAnyH_take (i := 2) (oi := { dst := some 59, op := Op.nilCheck (Operand.tmp 58), type := 0, pos := "node.go:64", after := #[{ on := 1, ground := Ground.data }], guard := none }) (v := ?_) rfl (by kernel_rfl) (by kernel_rfl) (by kernel_rfl) (fun _ _ _ h => h) (Or.inl ⟨by rfl, ?_⟩) (by assumption) ?_; rotate_left; (focus (intro w hSw; (try dsimp only at hSw); go_simp; all_goals (with_reducible rfl)))
          try simp only [Act.put, List.setIfInBounds_toArray, List.set_cons_zero, List.set_cons_succ]
          refine wpAnyH_take (i := 3) (oi := { dst := some 60, op := Op.fieldAddr 56 (Operand.tmp 59) 2, type := 0, pos := "node.go:64", after := #[{ on := 2, ground := Ground.data }], guard := none }) (v := ?_) rfl (by kernel_rfl) (by kernel_rfl) (by kernel_rfl) (fun _ _ _ h => h) (Or.inl ⟨by rfl, ?_⟩) (by assumption) ?_; rotate_left; (focus (intro w hSw; (try dsimp only at hSw); go_simp; all_goals (with_reducible rfl)))
          try simp only [Act.put, List.setIfInBounds_toArray, List.set_cons_zero, List.set_cons_succ]
          refine wpAnyH_take (i := 4) (oi := { dst := some 61, op := Op.load 24 (Operand.tmp 60), type := 24, pos := "node.go:64", after := #[{ on := 3, ground := Ground.data }], guard := none }) (v := ?_) rfl (by kernel_rfl) (by kernel_rfl) (by kernel_rfl) (fun _ _ _ h => h) (Or.inl ⟨by rfl, ?_⟩) (by assumption) ?_; rotate_left; (focus (intro w hSw; (try dsimp only at hSw); go_simp; all_goals (with_reducible rfl)))
          try simp only [Act.put, List.setIfInBounds_toArray, List.set_cons_zero, List.set_cons_succ]
          refine wpAnyH_take (i := 5) (oi := { dst := some 62, op := Op.move (Operand.tmp 0), type := 24, pos := "node.go:64", after := #[], guard := none }) (v := ?_) rfl (by kernel_rfl) (by kernel_rfl) (by kernel_rfl) (fun _ _ _ h => h) (Or.inl ⟨by rfl, ?_⟩) (by assumption) ?_; rotate_left; (focus (intro w hSw; (try dsimp only at hSw); go_simp; all_goals (with_reducible rfl)))
          try simp only [Act.put, List.setIfInBounds_toArray, List.set_cons_zero, List.set_cons_succ]
          refine wpAnyH_take (i := 6) (oi := { dst := some 63, op := Op.nilCheck (Operand.tmp 62), type := 0, pos := "node.go:64", after := #[{ on := 5, ground := Ground.data }], guard := none }) (v := ?_) rfl (by kernel_rfl) (by kernel_rfl) (by kernel_rfl) (fun _ _ _ h => h) (Or.inl ⟨by rfl, ?_⟩) (by assumption) ?_; rotate_left; (focus (intro w hSw; (try dsimp only at hSw); go_simp; all_goals (with_reducible rfl)))
          try simp only [Act.put, List.setIfInBounds_toArray, List.set_cons_zero, List.set_cons_succ]
          refine wpAnyH_take (i := 7) (oi := { dst := some 64, op := Op.fieldAddr 56 (Operand.tmp 63) 3, type := 0, pos := "node.go:64", after := #[{ on := 6, ground := Ground.data }], guard := none }) (v := ?_) rfl (by kernel_rfl) (by kernel_rfl) (by kernel_rfl) (fun _ _ _ h => h) (Or.inl ⟨by rfl, ?_⟩) (by assumption) ?_; rotate_left; (focus (intro w hSw; (try dsimp only at hSw); go_simp; all_goals (with_reducible rfl)))
          try simp only [Act.put, List.setIfInBounds_toArray, List.set_cons_zero, List.set_cons_succ]
          refine wpAnyH_take (i := 8) (oi := { dst := some 65, op := Op.load 24 (Operand.tmp 64), type := 24, pos := "node.go:64", after := #[{ on := 7, ground := Ground.data }], guard := none }) (v := ?_) rfl (by kernel_rfl) (by kernel_rfl) (by kernel_rfl) (fun _ _ _ h => h) (Or.inl ⟨by rfl, ?_⟩) (by assumption) ?_; rotate_left; (focus (intro w hSw; (try dsimp only at hSw); go_simp; all_goals (with_reducible rfl)))
          try simp only [Act.put, List.setIfInBounds_toArray, List.set_cons_zero, List.set_cons_succ]
          refine wpAnyH_take (i := 9) (oi := { dst := some 66, op := Op.move (Operand.tmp 6), type := 24, pos := "node.go:64", after := #[], guard := none }) (v := ?_) rfl (by kernel_rfl) (by kernel_rfl) (by kernel_rfl) (fun _ _ _ h => h) (Or.inl ⟨by rfl, ?_⟩) (by assumption) ?_; rotate_left; (focus (intro w hSw; (try dsimp only at hSw); go_simp; all_goals (with_reducible rfl)))
          try simp only [Act.put, List.setIfInBounds_toArray, List.set_cons_zero, List.set_cons_succ]
          refine wpAnyH_take (i := 10) (oi := { dst := some 67, op := Op.nilCheck (Operand.tmp 66), type := 0, pos := "node.go:64", after := #[{ on := 9, ground := Ground.data }], guard := none }) (v := ?_) rfl (by kernel_rfl) (by kernel_rfl) (by kernel_rfl) (fun _ _ _ h => h) (Or.inl ⟨by rfl, ?_⟩) (by assumption) ?_; rotate_left; (focus (intro w hSw; (try dsimp only at hSw); go_simp; all_goals (with_reducible rfl)))
          try simp only [Act.put, List.setIfInBounds_toArray, List.set_cons_zero, List.set_cons_succ]
          refine wpAnyH_take (i := 11) (oi := { dst := some 68, op := Op.fieldAddr 56 (Operand.tmp 67) 0, type := 0, pos := "node.go:64", after := #[{ on := 10, ground := Ground.data }], guard := none }) (v := ?_) rfl (by kernel_rfl) (by kernel_rfl) (by kernel_rfl) (fun _ _ _ h => h) (Or.inl ⟨by rfl, ?_⟩) (by assumption) ?_; rotate_left; (focus (intro w hSw; (try dsimp only at hSw); go_simp; all_goals (with_reducible rfl)))
          try simp only [Act.put, List.setIfInBounds_toArray, List.set_cons_zero, List.set_cons_succ]
          refine wpAnyH_take (i := 12) (oi := { dst := some 69, op := Op.load 3 (Operand.tmp 68), type := 3, pos := "node.go:64", after := #[{ on := 11, ground := Ground.data }], guard := none }) (v := ?_) rfl (by kernel_rfl) (by kernel_rfl) (by kernel_rfl) (fun _ _ _ h => h) (Or.inl ⟨by rfl, ?_⟩) (by assumption) ?_; rotate_left; (focus (intro w hSw; (try dsimp only at hSw); go_simp; all_goals (with_reducible rfl)))
          try simp only [Act.put, List.setIfInBounds_toArray, List.set_cons_zero, List.set_cons_succ]
          refine wpAnyH_ready (rs := [13]) (by kernel_rfl) (by simp) ?_
          refine AllReadyH.cons (o := { dst := some 70, op := Op.call { callee := Callee.value (Operand.func 23), args := #[Operand.tmp 65, Operand.tmp 69], argTypes := #[24, 3] }, type := 24, pos := "node.go:64", after := #[{ on := 8, ground := Ground.data }, { on := 12, ground := Ground.data }], guard := none }) rfl (fun K hK => ?_) AllReadyH.nil
          go_simp
          refine (IB.out _ HAT.out _ HB10.out).mono ?_
          rintro e w11 ⟨q11, rfl, ht11, hb11⟩
          have HB11 := Lib.hid (HB10.out.trans (hb11.mono HB10.out.size))
          have R11 := Lib.hid ht11
          have hKeep := HC.out _ HB11.out
          clear ht11 hb11
          go_wp2_with fail
          refine hK.out _ _ ?_ (fun hHeld => ?_)
          · exact hKeep
          clear hK K
          try simp only [Act.put, List.setIfInBounds_toArray, List.set_cons_zero, List.set_cons_succ]
          refine wpAnyH_ready (rs := [14]) (by kernel_rfl) (by simp) ?_
          refine AllReadyH.cons (o := { dst := some 71, op := Op.call { callee := Callee.value (Operand.func 32), args := #[Operand.tmp 57, Operand.tmp 61, Operand.tmp 70], argTypes := #[24, 24, 24] }, type := 24, pos := "node.go:64", after := #[{ on := 0, ground := Ground.data }, { on := 4, ground := Ground.data }, { on := 13, ground := Ground.data }, { on := 13, ground := Ground.chain }], guard := none }) rfl (fun K hK => ?_) AllReadyH.nil
          go_simp
          refine (level_any (lstP b).1 (lstP b).2 a (dropT b (lstP b).1) _ pa q11 _ (NQ.out.later HB11.out) (TA.out.later HB11.out) R11.out (by omega) (by omega)).mono ?_
          rintro e w12 ⟨q12, rfl, ht12, hb12⟩
          have HB12 := Lib.hid (HB11.out.trans (hb12.mono HB11.out.size))
          have R12 := Lib.hid ht12
          have hKeep := HC.out _ HB12.out
          clear ht12 hb12
          go_wp2_with fail
          refine hK.out _ _ ?_ (fun hHeld => ?_)
          · exact hKeep
          clear hK K
          try simp only [Act.put, List.setIfInBounds_toArray, List.set_cons_zero, List.set_cons_succ]
          refine wpAnyH_take (i := 15) (oi := { dst := some 4, op := Op.assign (Operand.tmp 71), type := 24, pos := "node.go:64", after := #[{ on := 14, ground := Ground.data }, { on := 14, ground := Ground.chain }, { on := 0, ground := Ground.phase }, { on := 1, ground := Ground.phase }, { on := 2, ground := Ground.phase }, { on := 3, ground := Ground.phase }, { on := 4, ground := Ground.phase }, { on := 5, ground := Ground.phase }, { on := 6, ground := Ground.phase }, { on := 7, ground := Ground.phase }, { on := 8, ground := Ground.phase }, { on := 9, ground := Ground.phase }, { on := 10, ground := Ground.phase }, { on := 11, ground := Ground.phase }, { on := 12, ground := Ground.phase }, { on := 13, ground := Ground.phase }, { on := 14, ground := Ground.phase }], guard := none }) (v := ?_) rfl (by kernel_rfl) (by kernel_rfl) (by kernel_rfl) (fun _ _ _ h => h) (Or.inl ⟨by rfl, ?_⟩) (by assumption) ?_; rotate_left; (focus (intro w hSw; (try dsimp only at hSw); go_simp; all_goals (with_reducible rfl)))
          try simp only [Act.put, List.setIfInBounds_toArray, List.set_cons_zero, List.set_cons_succ]
          refine wpAnyH_done (by kernel_rfl) ?_ _
          go_wp2_with fail
          go_ret
          exact ⟨_, rfl, by rw [HBQ.out, hE]; exact R12.out, HB12.out⟩
end Go.Proofs.Ythcofcpnhopnnaa.Av
