/- Which record is newer, and which are the same. -/
import Derived.Test.YtngmcefbljkgaaaRkNewer
import Derived.Deep.RegionHeld3
namespace Go.Proofs.Ytngmcefbljkgaaa.Rk
open Go.RowKit
open Cd (Rec Fit may putB recB zeroR recV recL Blk)
open Sa (drewN_below)

theorem gtr_bl (x y : List UInt8) : (!Op.bytesLess x y && !x == y) = Op.bytesLess y x := by
  by_cases e : x = y
  · subst e; rw [bl_irrefl]; simp
  · have hne : (x == y) = false := by simp [e]
    rcases bl_total x y e with h | h
    · rw [h]
      cases k : Op.bytesLess y x with
      | false => rfl
      | true => have := bl_trans _ _ _ h k; rw [bl_irrefl] at this; cases this
    · cases k : Op.bytesLess x y with
      | false => rw [h, hne]; rfl
      | true => have := bl_trans _ _ _ h k; rw [bl_irrefl] at this; cases this
theorem byt_len {x : Rec} (h : Fit x) : (byt x).length ≤ 1099511627776 := by
  unfold byt putB
  split
  · have := Cd.recB_len (fit_kept h); omega
  · simp
theorem newer_ne {a b : Rec} (h : ¬ a.rv = b.rv) : newer a b = decide (b.rv < a.rv) := if_neg h
theorem newer_eq {a b : Rec} (h : a.rv = b.rv) : newer a b = Op.bytesLess (byt b) (byt a) := if_pos h

/-- two records that came in -/
structure Two (w W : World) (la lb : List Value) : Prop where
  a : Blk W w.heap.size la
  b : Blk W (w.heap.size + 1) lb
  below : Below w.heap.size w W
theorem Two.start (w : World) (ty ty' : TypeId) (la lb : List Value) : Two w ((w.alloc (.cells ⟨la⟩ ty)).alloc (.cells ⟨lb⟩ ty')) la lb := by
  have h2 := Blk.start (w.alloc (.cells ⟨la⟩ ty)) ty' lb
  have e : (w.alloc (.cells ⟨la⟩ ty)).heap.size = w.heap.size + 1 := by simp
  rw [e] at h2
  exact ⟨(Blk.start w ty la).later ((Below.refl _ _).alloc (Nat.le_refl _) _), h2, ((Below.refl _ _).alloc (Nat.le_refl _) _).alloc (by simp) _⟩
theorem Two.later {w W W' : World} {la lb : List Value} (h : Two w W la lb) (hb : Below W.heap.size W W') : Two w W' la lb :=
  ⟨h.a.later hb, h.b.later hb, h.below.trans (hb.mono h.below.size)⟩
theorem Two.drew {w W : World} {la lb : List Value} (h : Two w W la lb) : Two w W.drew la lb := h.later ((Below.refl _ _).drew)

set_option maxHeartbeats 3200000 in
set_option maxRecDepth 100000 in
theorem newer_any (x y : Rec) (w : World) (hx : Fit x) (hy : Fit y) :
    Calls Try.prog 11 #[recV x, recV y] w fun e w' => e = .returned (.bool (newer x y)) ∧ Below w.heap.size w w' := by
  have BX := fun w => bytes_any x w hx
  have BY := fun w => bytes_any y w hy
  have HRET : Hid (∀ t f : Bool, t = f → Ending.returned (Value.bool t) = Ending.returned (Value.bool f)) := fun _ _ h => by rw [h]
  have T0 := Lib.hid (Two.start w 23 23 (recL x) (recL y))
  by_cases hr : x.rv = y.rv
  · have HN : newer x y = Op.bytesLess (byt y) (byt x) := newer_eq hr
    generalize newer x y = nw at *
    generalize byt x = bx at *
    generalize byt y = by_ at *
    have HN := Lib.hid HN
    clear hx hy
    obtain ⟨x0, x1, x2, x3, x4, x5, x6, x7, x8⟩ := x
    obtain ⟨y0, y1, y2, y3, y4, y5, y6, y7, y8⟩ := y
    obtain rfl : x3 = y3 := hr
    simp only [recV] at BX BY
    have BX := Lib.hid BX
    have BY := Lib.hid BY
    have T1 := Lib.hid T0.out.drew
    unfold recV
    go_enter Try.func11, Try.ntmps11
    go_wp2_with fail
    refine wp_region_held_drew (S := fun w' => (w'.cell? ⟨w.heap.size, 0, none⟩ = some (.int .i64 x0) ∧ w'.cell? ⟨w.heap.size, 1, none⟩ = some (.int .i64 x1) ∧ w'.cell? ⟨w.heap.size, 2, none⟩ = some (.int .i64 x2) ∧ w'.cell? ⟨w.heap.size, 3, none⟩ = some (.int .i64 x3) ∧ w'.cell? ⟨w.heap.size, 4, none⟩ = some (.string x4) ∧ w'.cell? ⟨w.heap.size, 5, none⟩ = some (.string x5) ∧ w'.cell? ⟨w.heap.size, 6, none⟩ = some (.int .i64 x6) ∧ w'.cell? ⟨w.heap.size, 7, none⟩ = some (.int .i64 x7) ∧ w'.cell? ⟨w.heap.size, 8, none⟩ = some (.bool x8)) ∧ (w'.cell? ⟨w.heap.size + 1, 0, none⟩ = some (.int .i64 y0) ∧ w'.cell? ⟨w.heap.size + 1, 1, none⟩ = some (.int .i64 y1) ∧ w'.cell? ⟨w.heap.size + 1, 2, none⟩ = some (.int .i64 y2) ∧ w'.cell? ⟨w.heap.size + 1, 3, none⟩ = some (.int .i64 x3) ∧ w'.cell? ⟨w.heap.size + 1, 4, none⟩ = some (.string y4) ∧ w'.cell? ⟨w.heap.size + 1, 5, none⟩ = some (.string y5) ∧ w'.cell? ⟨w.heap.size + 1, 6, none⟩ = some (.int .i64 y6) ∧ w'.cell? ⟨w.heap.size + 1, 7, none⟩ = some (.int .i64 y7) ∧ w'.cell? ⟨w.heap.size + 1, 8, none⟩ = some (.bool y8))) (by kernel_rfl) (⟨T1.out.a.nine, T1.out.b.nine⟩) (fun hHeld => ?_)
    refine wpAnyH_take (i := 0) (oi := { dst := some 15, op := Op.load 23 (Operand.tmp 2), type := 23, pos := "rank.go:15", after := #[], guard := none }) (v := ?_) rfl (by kernel_rfl) (by kernel_rfl) (by kernel_rfl) (fun _ _ _ h => h) (Or.inl ⟨by rfl, ?_⟩) (by assumption) ?_; rotate_left; (focus (intro w hSw; (try dsimp only at hSw); go_simp; all_goals (with_reducible rfl)))
    try simp only [Act.put, List.setIfInBounds_toArray, List.set_cons_zero, List.set_cons_succ]
    refine wpAnyH_take (i := 2) (oi := { dst := some 17, op := Op.load 23 (Operand.tmp 3), type := 23, pos := "rank.go:15", after := #[], guard := none }) (v := ?_) rfl (by kernel_rfl) (by kernel_rfl) (by kernel_rfl) (fun _ _ _ h => h) (Or.inl ⟨by rfl, ?_⟩) (by assumption) ?_; rotate_left; (focus (intro w hSw; (try dsimp only at hSw); go_simp; all_goals (with_reducible rfl)))
    try simp only [Act.put, List.setIfInBounds_toArray, List.set_cons_zero, List.set_cons_succ]
    refine wpAnyH_ready (rs := [1]) (by kernel_rfl) (by simp) ?_
    refine AllReadyH.cons (o := { dst := some 16, op := Op.call { callee := Callee.value (Operand.func 18), args := #[Operand.tmp 15], argTypes := #[23] }, type := 9, pos := "rank.go:15", after := #[{ on := 0, ground := Ground.data }], guard := none }) rfl (fun K hK => ?_) AllReadyH.nil
    go_simp
    refine (BX.out _).mono ?_
    rintro e w1 ⟨rfl, b1⟩
    have T2 := Lib.hid (T1.out.later b1)
    clear b1
    have hKeep := And.intro T2.out.a.nine T2.out.b.nine
    go_wp2_with fail
    refine hK.out _ _ ?_ (fun hHeld => ?_)
    · exact hKeep
    clear hK K
    try simp only [Act.put, List.setIfInBounds_toArray, List.set_cons_zero, List.set_cons_succ]
    refine wpAnyH_ready (rs := [3]) (by kernel_rfl) (by simp) ?_
    refine AllReadyH.cons (o := { dst := some 18, op := Op.call { callee := Callee.value (Operand.func 18), args := #[Operand.tmp 17], argTypes := #[23] }, type := 9, pos := "rank.go:15", after := #[{ on := 2, ground := Ground.data }, { on := 1, ground := Ground.chain }], guard := none }) rfl (fun K hK => ?_) AllReadyH.nil
    go_simp
    refine (BY.out _).mono ?_
    rintro e w2 ⟨rfl, b2⟩
    have T3 := Lib.hid (T2.out.later b2)
    clear b2
    have hKeep := And.intro T3.out.a.nine T3.out.b.nine
    go_wp2_with fail
    refine hK.out _ _ ?_ (fun hHeld => ?_)
    · exact hKeep
    clear hK K
    try simp only [Act.put, List.setIfInBounds_toArray, List.set_cons_zero, List.set_cons_succ]
    refine wpAnyH_take (i := 4) (oi := { dst := some 19, op := Op.binOp BinOp.gtr 9 (Operand.tmp 16) (Operand.tmp 18) 9, type := 4, pos := "rank.go:15", after := #[{ on := 1, ground := Ground.data }, { on := 3, ground := Ground.data }], guard := none }) (v := ?_) rfl (by kernel_rfl) (by kernel_rfl) (by kernel_rfl) (fun _ _ _ h => h) (Or.inl ⟨by rfl, ?_⟩) (by assumption) ?_; rotate_left; (focus (intro w hSw; (try dsimp only at hSw); go_simp; all_goals (with_reducible rfl)))
    try simp only [Act.put, List.setIfInBounds_toArray, List.set_cons_zero, List.set_cons_succ]
    refine wpAnyH_take (i := 5) (oi := { dst := some 4, op := Op.assign (Operand.tmp 19), type := 4, pos := "rank.go:15", after := #[{ on := 4, ground := Ground.data }, { on := 3, ground := Ground.chain }, { on := 0, ground := Ground.phase }, { on := 1, ground := Ground.phase }, { on := 2, ground := Ground.phase }, { on := 3, ground := Ground.phase }, { on := 4, ground := Ground.phase }], guard := none }) (v := ?_) rfl (by kernel_rfl) (by kernel_rfl) (by kernel_rfl) (fun _ _ _ h => h) (Or.inl ⟨by rfl, ?_⟩) (by assumption) ?_; rotate_left; (focus (intro w hSw; (try dsimp only at hSw); go_simp; all_goals (with_reducible rfl)))
    try simp only [Act.put, List.setIfInBounds_toArray, List.set_cons_zero, List.set_cons_succ]
    refine wpAnyH_done (by kernel_rfl) ?_ _
    go_wp2_with fail
    go_ret
    refine ⟨HRET.out _ _ ?_, T3.out.below⟩
    rw [HN.out]
    exact gtr_bl _ _
  · have HN : newer x y = decide (y.rv < x.rv) := newer_ne hr
    generalize newer x y = nw at *
    have HN := Lib.hid HN
    clear hx hy BX BY
    obtain ⟨x0, x1, x2, x3, x4, x5, x6, x7, x8⟩ := x
    obtain ⟨y0, y1, y2, y3, y4, y5, y6, y7, y8⟩ := y
    simp only at hr
    unfold recV
    go_enter Try.func11, Try.ntmps11
    go_wp2_with fail
    go_ret
    exact ⟨rfl, T0.out.below⟩

set_option maxHeartbeats 3200000 in
set_option maxRecDepth 100000 in
theorem same_any (x y : Rec) (w : World) :
    Calls Try.prog 13 #[recV x, recV y] w fun e w' => (∃ f : Bool, e = .returned (.bool f) ∧ (f = true ↔ kept x = kept y)) ∧ Below w.heap.size w w' := by
  have BX := fun w => kept_c x w
  have BY := fun w => kept_c y w
  have T0 := Lib.hid (Two.start w 23 23 (recL x) (recL y))
  have T1 := Lib.hid T0.out.drew
  generalize kept x = u at *
  generalize kept y = v at *
  obtain ⟨x0, x1, x2, x3, x4, x5, x6, x7, x8⟩ := x
  obtain ⟨y0, y1, y2, y3, y4, y5, y6, y7, y8⟩ := y
  obtain ⟨u0, u1, u2, u3, u4, u5, u6, u7, u8⟩ := u
  obtain ⟨v0, v1, v2, v3, v4, v5, v6, v7, v8⟩ := v
  simp only [recV] at BX BY
  have BX := Lib.hid BX
  have BY := Lib.hid BY
  obtain ⟨f, hf⟩ : ∃ f : Bool, (f = true ↔ (⟨u0, u1, u2, u3, u4, u5, u6, u7, u8⟩ : Rec) = ⟨v0, v1, v2, v3, v4, v5, v6, v7, v8⟩) := by
    by_cases h : (⟨u0, u1, u2, u3, u4, u5, u6, u7, u8⟩ : Rec) = ⟨v0, v1, v2, v3, v4, v5, v6, v7, v8⟩
    · exact ⟨true, by simp [h]⟩
    · exact ⟨false, by simp [h]⟩
  have HF := Lib.hid hf
  have NT : Hid (u0 = v0 → u1 = v1 → u2 = v2 → u3 = v3 → u4.toList = v4.toList → u5.toList = v5.toList → u6 = v6 → u7 = v7 → u8 = v8 → f = true) := by
    intro h0 h1 h2 h3 h4 h5 h6 h7 h8
    rw [ByteArray.toList_eq, ByteArray.toList_eq] at h4 h5
    have h4 : u4 = v4 := ByteArray.ext (Array.toList_inj.1 h4)
    have h5 : u5 = v5 := ByteArray.ext (Array.toList_inj.1 h5)
    subst h0 h1 h2 h3 h4 h5 h6 h7 h8
    exact hf.2 rfl
  have NG : Hid (f = true → u0 = v0 ∧ u1 = v1 ∧ u2 = v2 ∧ u3 = v3 ∧ u4.toList = v4.toList ∧ u5.toList = v5.toList ∧ u6 = v6 ∧ u7 = v7 ∧ u8 = v8) := by
    intro h
    have e := hf.1 h
    injection e with h0 h1 h2 h3 h4 h5 h6 h7 h8
    subst h0 h1 h2 h3 h4 h5 h6 h7 h8
    exact ⟨rfl, rfl, rfl, rfl, rfl, rfl, rfl, rfl, rfl⟩
  clear hf
  unfold recV
  go_enter Try.func13, Try.ntmps13
  go_wp2_with fail
  refine wp_region_held_drew (S := fun w' => (w'.cell? ⟨w.heap.size, 0, none⟩ = some (.int .i64 x0) ∧ w'.cell? ⟨w.heap.size, 1, none⟩ = some (.int .i64 x1) ∧ w'.cell? ⟨w.heap.size, 2, none⟩ = some (.int .i64 x2) ∧ w'.cell? ⟨w.heap.size, 3, none⟩ = some (.int .i64 x3) ∧ w'.cell? ⟨w.heap.size, 4, none⟩ = some (.string x4) ∧ w'.cell? ⟨w.heap.size, 5, none⟩ = some (.string x5) ∧ w'.cell? ⟨w.heap.size, 6, none⟩ = some (.int .i64 x6) ∧ w'.cell? ⟨w.heap.size, 7, none⟩ = some (.int .i64 x7) ∧ w'.cell? ⟨w.heap.size, 8, none⟩ = some (.bool x8)) ∧ (w'.cell? ⟨w.heap.size + 1, 0, none⟩ = some (.int .i64 y0) ∧ w'.cell? ⟨w.heap.size + 1, 1, none⟩ = some (.int .i64 y1) ∧ w'.cell? ⟨w.heap.size + 1, 2, none⟩ = some (.int .i64 y2) ∧ w'.cell? ⟨w.heap.size + 1, 3, none⟩ = some (.int .i64 y3) ∧ w'.cell? ⟨w.heap.size + 1, 4, none⟩ = some (.string y4) ∧ w'.cell? ⟨w.heap.size + 1, 5, none⟩ = some (.string y5) ∧ w'.cell? ⟨w.heap.size + 1, 6, none⟩ = some (.int .i64 y6) ∧ w'.cell? ⟨w.heap.size + 1, 7, none⟩ = some (.int .i64 y7) ∧ w'.cell? ⟨w.heap.size + 1, 8, none⟩ = some (.bool y8))) (by kernel_rfl) (⟨T1.out.a.nine, T1.out.b.nine⟩) (fun hHeld => ?_)
  refine wpAnyH_take (i := 0) (oi := { dst := some 5, op := Op.load 23 (Operand.tmp 2), type := 23, pos := "rank.go:34", after := #[], guard := none }) (v := ?_) rfl (by kernel_rfl) (by kernel_rfl) (by kernel_rfl) (fun _ _ _ h => h) (Or.inl ⟨by rfl, ?_⟩) (by assumption) ?_; rotate_left; (focus (intro w hSw; (try dsimp only at hSw); go_simp; all_goals (with_reducible rfl)))
  try simp only [Act.put, List.setIfInBounds_toArray, List.set_cons_zero, List.set_cons_succ]
  refine wpAnyH_take (i := 2) (oi := { dst := some 7, op := Op.load 23 (Operand.tmp 3), type := 23, pos := "rank.go:34", after := #[], guard := none }) (v := ?_) rfl (by kernel_rfl) (by kernel_rfl) (by kernel_rfl) (fun _ _ _ h => h) (Or.inl ⟨by rfl, ?_⟩) (by assumption) ?_; rotate_left; (focus (intro w hSw; (try dsimp only at hSw); go_simp; all_goals (with_reducible rfl)))
  try simp only [Act.put, List.setIfInBounds_toArray, List.set_cons_zero, List.set_cons_succ]
  refine wpAnyH_ready (rs := [1]) (by kernel_rfl) (by simp) ?_
  refine AllReadyH.cons (o := { dst := some 6, op := Op.call { callee := Callee.value (Operand.func 16), args := #[Operand.tmp 5], argTypes := #[23] }, type := 23, pos := "rank.go:34", after := #[{ on := 0, ground := Ground.data }], guard := none }) rfl (fun K hK => ?_) AllReadyH.nil
  go_simp
  refine (BX.out _).mono ?_
  rintro e w1 ⟨rfl, b1⟩
  have T2 := Lib.hid (T1.out.later b1)
  clear b1
  have hKeep := And.intro T2.out.a.nine T2.out.b.nine
  go_wp2_with fail
  refine hK.out _ _ ?_ (fun hHeld => ?_)
  · exact hKeep
  clear hK K
  try simp only [Act.put, List.setIfInBounds_toArray, List.set_cons_zero, List.set_cons_succ]
  refine wpAnyH_ready (rs := [3]) (by kernel_rfl) (by simp) ?_
  refine AllReadyH.cons (o := { dst := some 8, op := Op.call { callee := Callee.value (Operand.func 16), args := #[Operand.tmp 7], argTypes := #[23] }, type := 23, pos := "rank.go:34", after := #[{ on := 2, ground := Ground.data }, { on := 1, ground := Ground.chain }], guard := none }) rfl (fun K hK => ?_) AllReadyH.nil
  go_simp
  refine (BY.out _).mono ?_
  rintro e w2 ⟨rfl, b2⟩
  have T3 := Lib.hid (T2.out.later b2)
  clear b2
  have hKeep := And.intro T3.out.a.nine T3.out.b.nine
  go_wp2_with fail
  refine hK.out _ _ ?_ (fun hHeld => ?_)
  · exact hKeep
  clear hK K
  try simp only [Act.put, List.setIfInBounds_toArray, List.set_cons_zero, List.set_cons_succ]
  refine wpAnyH_take (i := 4) (oi := { dst := some 9, op := Op.binOp BinOp.eql 23 (Operand.tmp 6) (Operand.tmp 8) 23, type := 4, pos := "rank.go:34", after := #[{ on := 1, ground := Ground.data }, { on := 3, ground := Ground.data }], guard := none }) (v := Value.bool f) rfl (by kernel_rfl) (by kernel_rfl) (by kernel_rfl) (fun _ _ _ h => h) (Or.inl ⟨by rfl, ?_⟩) (by assumption) ?_; focus (intro w hSw; (try dsimp only at hSw); go_simp; ((repeat' split) <;> first | (rw [NT.out (by assumption) (by assumption) (by assumption) (by assumption) (by assumption) (by assumption) (by assumption) (by assumption) (by assumption)]) | (rw [show f = false from Bool.eq_false_iff.2 (fun hq => by obtain ⟨h0, h1, h2, h3, h4, h5, h6, h7, h8⟩ := NG.out hq; contradiction)])))
  try simp only [Act.put, List.setIfInBounds_toArray, List.set_cons_zero, List.set_cons_succ]
  refine wpAnyH_take (i := 5) (oi := { dst := some 4, op := Op.assign (Operand.tmp 9), type := 4, pos := "rank.go:34", after := #[{ on := 4, ground := Ground.data }, { on := 3, ground := Ground.chain }, { on := 0, ground := Ground.phase }, { on := 1, ground := Ground.phase }, { on := 2, ground := Ground.phase }, { on := 3, ground := Ground.phase }, { on := 4, ground := Ground.phase }], guard := none }) (v := ?_) rfl (by kernel_rfl) (by kernel_rfl) (by kernel_rfl) (fun _ _ _ h => h) (Or.inl ⟨by rfl, ?_⟩) (by assumption) ?_; rotate_left; (focus (intro w hSw; (try dsimp only at hSw); go_simp; all_goals (with_reducible rfl)))
  try simp only [Act.put, List.setIfInBounds_toArray, List.set_cons_zero, List.set_cons_succ]
  refine wpAnyH_done (by kernel_rfl) ?_ _
  go_wp2_with fail
  go_ret
  exact ⟨⟨f, rfl, HF.out⟩, T3.out.below⟩
end Go.Proofs.Ytngmcefbljkgaaa.Rk
