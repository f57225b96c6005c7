/- The walk of the third law of layer 12: all keys are given, rising, each with the value that it was put with last. -/
import Derived.Test.YthcofcpnhopnnaaAvActs
import Derived.Deep.CutRange
import Derived.Deep.Cut
import Derived.WalkSmall
set_option linter.unusedSimpArgs false
namespace Go.Proofs.Ythcofcpnhopnnaa.Av
open Go.RowKit Go.Shelf

attribute [local go_sem] Oper.semAt_some

/-- no panic -/
def NP (Q : Exit → Act → World → Prop) : Exit → Act → World → Prop
  | .panic _, _, _ => False
  | e, a, w => Q e a w
theorem np_le {Q : Exit → Act → World → Prop} : ∀ e a w, NP Q e a w → Q e a w
  | .panic _, _, _, h => h.elim
  | .normal, _, _, h => h
  | .ret, _, _, h => h
  | .exit _, _, _, h => h
  | .goto _, _, _, h => h
  | .outgrown, _, _, h => h
theorem func_nil2 (f : Fn) (a c : Array Value) (w : World) : (binOp .eql 48 (.func f a c) .nilFunc).run Try.prog w = .ok (.bool false) w := rfl

set_option maxHeartbeats 12800000 in
set_option maxRecDepth 100000 in
theorem alls_any (a : Option Addr) (len cap : Nat) (acts : List Ac) (w : World) (hr : ActsIn a len acts w) (hc : len ≤ cap) :
    Calls Try.prog 5 #[.slice a len cap] w fun e w' => e = .returned (.bool true) ∧ Below w.heap.size w w' := by
  have HR := Lib.hid hr
  have HLEN := Lib.hid hr.len_is
  clear hr
  refine (callsIn_wide (n := 4)).1 ?_
  refine callsIn_of_wp_marks Try.func5 rfl trivial ?_ rfl
  simp only [Try.ntmps5, List.size_toArray, List.length_cons, List.length_nil, Nat.reduceAdd, Nat.reduceSub, Array.replicate_succ, Array.replicate_zero, List.push_toArray, List.append_toArray, List.nil_append, List.cons_append]
  refine wpIn_wide.2 (wp_mono (Q := NP (bodyPostM Fence.wide 4 Try.prog Try.f5 (fun e w' => e = .returned (.bool true) ∧ Below w.heap.size w w'))) ?_ np_le)
  have b1 := Boxed.new w 22 (.slice a len cap)
  have b2 := Boxed.new (w.alloc (.cells #[.slice a len cap] 22)) 4 (.bool false)
  rw [World.size_alloc] at b2
  have b1' := b1.alloc (.cells #[.bool false] 4)
  have bb : Below w.heap.size w ((w.alloc (.cells #[.slice a len cap] 22)).alloc (.cells #[.bool false] 4)) := ((Below.refl _ w).alloc (Nat.le_refl _) _).alloc (by simp) _
  by_cases hs : len > 120
  · have hs' : ((len : Int) > 120) := by omega
    go_wp2_with fail
    refine (awake_any _).mono ?_
    rintro e w1 ⟨rfl, hb1⟩
    have hr1 := (show Boxed w1 (w.heap.size + 1) 4 (.bool false) from (hb1.block _ b2.lt).trans b2)
    have cr := hr1.cell
    have fr := hr1.frozen
    have HR2 := Lib.hid (hr1.set (.bool true))
    have HB2 := Lib.hid ((bb.trans (hb1.mono bb.size)).setCell (p := ⟨w.heap.size + 1, 0, none⟩) (by show w.heap.size ≤ w.heap.size + 1; omega) (.bool true))
    clear hb1 hr1
    go_wp2_with fail
    have hc2 := HR2.out.cell
    refine ⟨_, ?_, rfl, HB2.out⟩
    simp [results, Try.f5, go_sem, hc2]
  have hs' : ¬ ((len : Int) > 120) := by omega
  have SZ : ((w.alloc (.cells #[.slice a len cap] 22)).alloc (.cells #[.bool false] 4)).heap.size = w.heap.size + 1 + 1 := by simp
  have hm0 := mp_new ((w.alloc (.cells #[.slice a len cap] 22)).alloc (.cells #[.bool false] 4))
  rw [SZ] at hm0
  have HM0 := Lib.hid hm0
  have HB0 := Lib.hid (bb.alloc bb.size (.cells #[.pointer none, .int .i64 0] 26))
  have B10 := Lib.hid (b1'.alloc (.cells #[.pointer none, .int .i64 0] 26))
  have B20 := Lib.hid (b2.alloc (.cells #[.pointer none, .int .i64 0] 26))
  clear hm0 b1 b2 b1' bb
  go_wp2_with fail
  go_loopw [4] (fun iv wr => ∃ k : Nat, k ≤ len ∧ iv = .int .i64 (k : Int) ∧ Hid (Mp (w.heap.size + 1 + 1) wr (w.heap.size + 1 + 1) (putA (acts.take k))) ∧ Hid (Boxed wr w.heap.size 22 (.slice a len cap)) ∧ Hid (Boxed wr (w.heap.size + 1) 4 (.bool false)) ∧ Hid (Below w.heap.size w wr)) (fun iv _ => (len - intOf iv).toNat)
  case atStart => exact ⟨0, Nat.zero_le _, rfl, HM0.out, B10.out, B20.out, HB0.out⟩
  case round =>
    obtain ⟨k, hk, rfl, HM, B1, B2, HB⟩ := hrel
    clear HM0 HB0 B10 B20
    have c1 := B1.out.cell
    by_cases hkl : k < len
    · have hkl' : ((k : Int) < len) := by omega
      obtain ⟨x, hx⟩ : ∃ x, acts[k]? = some x := ⟨_, List.getElem?_eq_getElem (by have := HLEN.out; omega)⟩
      have hput := putA_snoc hx
      obtain ⟨b, off, rfl, hb, hcell⟩ := HR.out.at_ (by omega)
      obtain ⟨_, d1, d2⟩ := hcell k x hx
      obtain ⟨k0, k1, k2⟩ := x
      simp only at d1 d2 hput
      have KQ : Hid (∀ W', Below wr.heap.size wr W' → W'.cell? ⟨w.heap.size, 0, none⟩ = some (.slice (some ⟨b, off, none⟩) len cap) ∧ W'.cell? ⟨b, off + k * 3 + 1, none⟩ = some (.int .i64 k1) ∧ W'.cell? ⟨b, off + k * 3 + 2, none⟩ = some (.int .i64 k2)) := fun W' hbb =>
        ⟨(hbb.cell (p := ⟨w.heap.size, 0, none⟩) B1.out.lt).trans c1, ((HB.out.trans (hbb.mono HB.out.size)).cell (p := ⟨b, off + k * 3 + 1, none⟩) hb).trans d1, ((HB.out.trans (hbb.mono HB.out.size)).cell (p := ⟨b, off + k * 3 + 2, none⟩) hb).trans d2⟩
      have hStart := KQ.out _ (below_d (w := wr))
      have hp := mput_any k1 k2 (mp_later HM.out (below_d (w := wr))) (by have := putA_len (acts.take k); rw [List.length_take] at this; omega)
      rw [← hput] at hp
      have HP := Lib.hid hp
      have HDC := Lib.hid (And.intro d1 d2)
      clear hcell d1 d2 hp hput hx
      go_upto_region 7 with fail
      refine wp_region_held_drew (S := fun w' => w'.cell? ⟨w.heap.size, 0, none⟩ = some (.slice (some ⟨b, off, none⟩) len cap) ∧ w'.cell? ⟨b, off + k * 3 + 1, none⟩ = some (.int .i64 k1) ∧ w'.cell? ⟨b, off + k * 3 + 2, none⟩ = some (.int .i64 k2)) (by kernel_rfl) (hStart) (fun hHeld => ?_)
      refine wpAnyH_take (i := 0) (oi := { dst := some 25, op := Op.load 22 (Operand.tmp 1), type := 22, pos := "law.go:99", after := #[], guard := none }) (v := ?_) rfl (by kernel_rfl) (by kernel_rfl) (by kernel_rfl) (fun _ _ _ h => h) (Or.inl ⟨by kernel_rfl, ?_⟩) (by assumption) ?_; rotate_left; (focus (intro w hSw; (try dsimp only at hSw); go_simp; all_goals (with_reducible rfl)))
      try simp only [Act.put, List.setIfInBounds_toArray, List.set_cons_zero, List.set_cons_succ]
      refine wpAnyH_take (i := 1) (oi := { dst := some 26, op := Op.move (Operand.tmp 4), type := 3, pos := "law.go:99", after := #[], guard := none }) (v := ?_) rfl (by kernel_rfl) (by kernel_rfl) (by kernel_rfl) (fun _ _ _ h => h) (Or.inl ⟨by kernel_rfl, ?_⟩) (by assumption) ?_; rotate_left; (focus (intro w hSw; (try dsimp only at hSw); go_simp; all_goals (with_reducible rfl)))
      try simp only [Act.put, List.setIfInBounds_toArray, List.set_cons_zero, List.set_cons_succ]
      refine wpAnyH_take (i := 2) (oi := { dst := some 27, op := Op.indexAddr 22 (Operand.tmp 25) (Operand.tmp 26), type := 0, pos := "law.go:99", after := #[{ on := 0, ground := Ground.data }, { on := 1, ground := Ground.data }], guard := none }) (v := ?_) rfl (by kernel_rfl) (by kernel_rfl) (by kernel_rfl) (fun _ _ _ h => h) (Or.inl ⟨by kernel_rfl, ?_⟩) (by assumption) ?_; rotate_left; (focus (intro w hSw; (try dsimp only at hSw); go_simp; all_goals (with_reducible rfl)))
      try simp only [Act.put, List.setIfInBounds_toArray, List.set_cons_zero, List.set_cons_succ]
      refine wpAnyH_take (i := 3) (oi := { dst := some 28, op := Op.fieldAddr 33 (Operand.tmp 27) 1, type := 0, pos := "law.go:99", after := #[{ on := 2, ground := Ground.data }], guard := none }) (v := ?_) rfl (by kernel_rfl) (by kernel_rfl) (by kernel_rfl) (fun _ _ _ h => h) (Or.inl ⟨by kernel_rfl, ?_⟩) (by assumption) ?_; rotate_left; (focus (intro w hSw; (try dsimp only at hSw); go_simp; all_goals (with_reducible rfl)))
      try simp only [Act.put, List.setIfInBounds_toArray, List.set_cons_zero, List.set_cons_succ]
      refine wpAnyH_take (i := 4) (oi := { dst := some 29, op := Op.load 3 (Operand.tmp 28), type := 3, pos := "law.go:99", after := #[{ on := 3, ground := Ground.data }], guard := none }) (v := ?_) rfl (by kernel_rfl) (by kernel_rfl) (by kernel_rfl) (fun _ _ _ h => h) (Or.inl ⟨by kernel_rfl, ?_⟩) (by assumption) ?_; rotate_left; (focus (intro w hSw; (try dsimp only at hSw); go_simp; all_goals (with_reducible rfl)))
      try simp only [Act.put, List.setIfInBounds_toArray, List.set_cons_zero, List.set_cons_succ]
      refine wpAnyH_take (i := 5) (oi := { dst := some 30, op := Op.load 22 (Operand.tmp 1), type := 22, pos := "law.go:99", after := #[], guard := none }) (v := ?_) rfl (by kernel_rfl) (by kernel_rfl) (by kernel_rfl) (fun _ _ _ h => h) (Or.inl ⟨by kernel_rfl, ?_⟩) (by assumption) ?_; rotate_left; (focus (intro w hSw; (try dsimp only at hSw); go_simp; all_goals (with_reducible rfl)))
      try simp only [Act.put, List.setIfInBounds_toArray, List.set_cons_zero, List.set_cons_succ]
      refine wpAnyH_take (i := 6) (oi := { dst := some 31, op := Op.move (Operand.tmp 4), type := 3, pos := "law.go:99", after := #[], guard := none }) (v := ?_) rfl (by kernel_rfl) (by kernel_rfl) (by kernel_rfl) (fun _ _ _ h => h) (Or.inl ⟨by kernel_rfl, ?_⟩) (by assumption) ?_; rotate_left; (focus (intro w hSw; (try dsimp only at hSw); go_simp; all_goals (with_reducible rfl)))
      try simp only [Act.put, List.setIfInBounds_toArray, List.set_cons_zero, List.set_cons_succ]
      refine wpAnyH_take (i := 7) (oi := { dst := some 32, op := Op.indexAddr 22 (Operand.tmp 30) (Operand.tmp 31), type := 0, pos := "law.go:99", after := #[{ on := 5, ground := Ground.data }, { on := 6, ground := Ground.data }], guard := none }) (v := ?_) rfl (by kernel_rfl) (by kernel_rfl) (by kernel_rfl) (fun _ _ _ h => h) (Or.inl ⟨by kernel_rfl, ?_⟩) (by assumption) ?_; rotate_left; (focus (intro w hSw; (try dsimp only at hSw); go_simp; all_goals (with_reducible rfl)))
      try simp only [Act.put, List.setIfInBounds_toArray, List.set_cons_zero, List.set_cons_succ]
      refine wpAnyH_take (i := 8) (oi := { dst := some 33, op := Op.fieldAddr 33 (Operand.tmp 32) 2, type := 0, pos := "law.go:99", after := #[{ on := 7, ground := Ground.data }], guard := none }) (v := ?_) rfl (by kernel_rfl) (by kernel_rfl) (by kernel_rfl) (fun _ _ _ h => h) (Or.inl ⟨by kernel_rfl, ?_⟩) (by assumption) ?_; rotate_left; (focus (intro w hSw; (try dsimp only at hSw); go_simp; all_goals (with_reducible rfl)))
      try simp only [Act.put, List.setIfInBounds_toArray, List.set_cons_zero, List.set_cons_succ]
      refine wpAnyH_take (i := 9) (oi := { dst := some 34, op := Op.load 3 (Operand.tmp 33), type := 3, pos := "law.go:99", after := #[{ on := 8, ground := Ground.data }], guard := none }) (v := ?_) rfl (by kernel_rfl) (by kernel_rfl) (by kernel_rfl) (fun _ _ _ h => h) (Or.inl ⟨by kernel_rfl, ?_⟩) (by assumption) ?_; rotate_left; (focus (intro w hSw; (try dsimp only at hSw); go_simp; all_goals (with_reducible rfl)))
      try simp only [Act.put, List.setIfInBounds_toArray, List.set_cons_zero, List.set_cons_succ]
      refine wpAnyH_ready (rs := [10]) (by kernel_rfl) (by simp) ?_
      refine AllReadyH.cons (o := { dst := some 35, op := Op.call { callee := Callee.value (Operand.func 7), args := #[Operand.tmp 3, Operand.tmp 29, Operand.tmp 34], argTypes := #[26, 3, 3] }, type := 4, pos := "law.go:99", after := #[{ on := 4, ground := Ground.data }, { on := 9, ground := Ground.data }], guard := none }) rfl (fun K hK => ?_) AllReadyH.nil
      go_simp
      refine HP.out.mono ?_
      rintro e w8 ⟨rfl, hm8, hk8⟩
      have HM8 := Lib.hid hm8
      have hall : ∀ k o, wr.heap[k]? = some o → k ≠ w.heap.size + 1 + 1 → w8.heap[k]? = some o := fun k o ho hn => hk8.block k o ho (.inr ⟨hn, fun t ht => nomatch ht⟩)
      have B18 := Lib.hid (show Boxed w8 w.heap.size 22 (.slice (some ⟨b, off, none⟩) len cap) from hall _ _ B1.out (by omega))
      have B28 := Lib.hid (show Boxed w8 (w.heap.size + 1) 4 (.bool false) from hall _ _ B2.out (by omega))
      have HB8 := Lib.hid (HB.out.trans (below_low (A := w.heap.size) ((Below.mono below_d (by have := mp_lt HM.out; omega)).trans (hk8.below (by have := mp_lt HM.out; show _ ≤ wr.heap.size; omega))) (by omega)))
      have hKeep : w8.cell? ⟨w.heap.size, 0, none⟩ = some (.slice (some ⟨b, off, none⟩) len cap) ∧ w8.cell? ⟨b, off + k * 3 + 1, none⟩ = some (.int .i64 k1) ∧ w8.cell? ⟨b, off + k * 3 + 2, none⟩ = some (.int .i64 k2) := ⟨B18.out.cell, (HB8.out.cell (p := ⟨b, off + k * 3 + 1, none⟩) hb).trans HDC.out.1, (HB8.out.cell (p := ⟨b, off + k * 3 + 2, none⟩) hb).trans HDC.out.2⟩
      clear hm8 hk8 hall
      go_wp2_with fail
      refine hK.out _ _ ?_ (fun hHeld => ?_)
      · exact hKeep
      clear hK K
      try simp only [Act.put, List.setIfInBounds_toArray, List.set_cons_zero, List.set_cons_succ]
      refine wpAnyH_done (by kernel_rfl) ?_ _
      go_wp2_with fail
      go_roundw
      case rel => exact ⟨k + 1, by omega, by go_num, HM8.out, B18.out, B28.out, HB8.out⟩
      case measure => simp [intOf]; omega
    · have hkl' : ¬ ((k : Int) < len) := by omega
      obtain rfl : k = len := by omega
      have hm := HM.out
      rw [List.take_of_length_le (by have := HLEN.out; omega)] at hm
      obtain ⟨t, hd, htl, hts⟩ := Hd.map hm
      have HD := Lib.hid hd
      have HTL := Lib.hid htl
      have HM2 := Lib.hid hm
      clear hm hd htl HM hts
      go_wp2_with fail
      refine (all_any _ _).mono ?_
      rintro e w' ⟨rfl, rfl⟩
      have hfn := func_nil2 (.func 29) #[] #[.pointer (some ⟨wr.heap.size, 0, none⟩)] (wr.alloc (.cells #[.pointer (some ⟨w.heap.size + 1 + 1, 0, none⟩)] 27))
      go_wp2_with fail
      have bp := Boxed.new wr 27 (.pointer (some ⟨w.heap.size + 1 + 1, 0, none⟩))
      have bm := Boxed.new (wr.alloc (.cells #[.pointer (some ⟨w.heap.size + 1 + 1, 0, none⟩)] 27)) 3 (.int .i64 0)
      have bf := Boxed.new ((wr.alloc (.cells #[.pointer (some ⟨w.heap.size + 1 + 1, 0, none⟩)] 27)).alloc (.cells #[.int .i64 0] 3)) 3 (.int .i64 0)
      simp only [World.size_alloc] at bm bf
      have bm' := bm.alloc (.cells #[.int .i64 0] 3)
      have bp' := (bp.alloc (.cells #[.int .i64 0] 3)).alloc (.cells #[.int .i64 0] 3)
      have hW : Below wr.heap.size wr (((wr.alloc (.cells #[.pointer (some ⟨w.heap.size + 1 + 1, 0, none⟩)] 27)).alloc (.cells #[.int .i64 0] 3)).alloc (.cells #[.int .i64 0] 3)) := (((Below.refl _ wr).alloc (Nat.le_refl _) _).alloc (by simp) _).alloc (by simp; omega) _
      have hsz : (((wr.alloc (.cells #[.pointer (some ⟨w.heap.size + 1 + 1, 0, none⟩)] 27)).alloc (.cells #[.int .i64 0] 3)).alloc (.cells #[.int .i64 0] 3)).heap.size = wr.heap.size + 1 + 1 + 1 := by simp
      have hMW : w.heap.size + 1 + 1 < wr.heap.size := mp_lt HM2.out
      have htn : t.toL.length ≤ 120 := by rw [HTL.out]; have := putA_len acts; have := HLEN.out; omega
      generalize (((wr.alloc (.cells #[.pointer (some ⟨w.heap.size + 1 + 1, 0, none⟩)] 27)).alloc (.cells #[.int .i64 0] 3)).alloc (.cells #[.int .i64 0] 3)) = W0 at *
      clear bp bm hfn
      refine (wpIn_wide (n := 4)).1 ?_
      refine wpIn_rangeFunc_ownG rfl (by omega) (gf := 29) (lb := #[.pointer (some ⟨wr.heap.size, 0, none⟩)]) rfl trivial (enters_of Try.func29 (by kernel_rfl) rfl)
        (all_stops _ wr.heap.size wr _ t HD.out W0 hW bp') belowK_t (belowK_b (by omega)) (Below.refl _ _) (fun _ => rfl)
        (fun pre W => GoodL acts pre ∧ Boxed W (wr.heap.size + 1) 3 (.int .i64 (pre.length : Nat)) ∧ Boxed W (wr.heap.size + 1 + 1) 3 (.int .i64 (lastK pre)) ∧ Below wr.heap.size wr W)
        (fun _ pre _ => ¬ GoodL acts pre)
        (OwnFrom.and (ownFrom_pure _ _) (OwnFrom.and (Own.from (boxed_own _ _ _) _) (OwnFrom.and (Own.from (boxed_own _ _ _) _) (ownFrom_below (Nat.le_refl _) (by omega)))))
        (fun _ => ownFrom_pure _ _)
        ⟨⟨List.Pairwise.nil, fun p hp => nomatch hp⟩, bm', bf, hW⟩
        (fun x => { tmps := #[.slice a k cap, .pointer (some ⟨w.heap.size, 0, none⟩), .pointer (some ⟨w.heap.size + 1, 0, none⟩), .pointer (some ⟨w.heap.size + 1 + 1, 0, none⟩), .int .i64 (k : Int), .func (.func 29) #[] #[.pointer (some ⟨wr.heap.size, 0, none⟩)], .pointer (some ⟨wr.heap.size + 1, 0, none⟩), .pointer (some ⟨wr.heap.size + 1 + 1, 0, none⟩), .int .i64 x.1, .int .i64 x.2, undef, undef, undef, undef, undef, .slice a k cap, .int .i64 (k : Int), .bool false, undef, .int .i64 (k : Int), .slice a k cap, .int .i64 (k : Int), .bool false, u23, u24, u25, u26, u27, u28, u29, u30, u31, u32, u33, u34, u35, .func (.func 29) #[] #[.pointer (some ⟨wr.heap.size, 0, none⟩)], .func (.func 29) #[] #[.pointer (some ⟨wr.heap.size, 0, none⟩)], .bool false, .func (.func 29) #[] #[.pointer (some ⟨wr.heap.size, 0, none⟩)], .int .i64 x.1, .int .i64 x.2, undef, undef, undef, undef, undef, undef, undef, undef, undef, undef, undef, undef, undef, undef, undef, undef, undef, undef, undef, undef, undef, undef, undef, undef, undef, undef, undef, undef, undef, undef, undef, undef, undef, undef, undef, undef, undef, undef, undef, undef, undef, undef, undef, undef, undef, undef, undef, undef, undef, undef, undef, undef, undef, undef, undef, undef, undef, undef, undef, undef, undef, undef, undef], defers := [] }) ?assign ?body ?done ?stop
      case assign =>
        intro l x W K hK
        gi_wp2
        exact hK
      case body =>
        clear bm' bf bp' hW
        rintro l pre ⟨xk, xv⟩ W ⟨hG, hm, hbf, hB⟩ hlt
        have HG := Lib.hid hG
        have cs := (hB.cell (p := ⟨w.heap.size, 0, none⟩) B1.out.lt).trans c1
        have hr : Boxed W (w.heap.size + 1) 4 (.bool false) := (hB.block _ B2.out.lt).trans B2.out
        have cr := hr.cell
        have fr := hr.frozen
        have cm := hm.cell
        have fm := hm.frozen
        have cb := hbf.cell
        have fb := hbf.frozen
        have HM := Lib.hid hm
        have HF := Lib.hid hbf
        have HBW := Lib.hid hB
        have hln : pre.length ≤ 120 := by omega
        have hn1 : wr.heap.size + 1 ≠ wr.heap.size + 1 + 1 := by omega
        have hn2 : wr.heap.size + 1 + 1 ≠ wr.heap.size + 1 := by omega
        have hwn : IntKind.i64.wrap ((pre.length : Int) + 1) = ((pre.length : Int) + 1) := by rw [IntKind.wrap_i64]; omega
        have hwk : IntKind.i64.wrap ((k : Int) - 1) = (k : Int) - 1 := by rw [IntKind.wrap_i64]; omega
        have HFIN : Hid (Sorted (pre ++ [(xk, xv)]) → lastA acts xk = some xv → ∀ m : Int, m = (pre.length : Int) + 1 → KeepsFrom (wr.heap.size + 1 + 1 + 1) W ((W.setCell ⟨wr.heap.size + 1 + 1, 0, none⟩ (.int .i64 xk)).setCell ⟨wr.heap.size + 1, 0, none⟩ (.int .i64 m)) ∧ Below wr.heap.size W ((W.setCell ⟨wr.heap.size + 1 + 1, 0, none⟩ (.int .i64 xk)).setCell ⟨wr.heap.size + 1, 0, none⟩ (.int .i64 m)) ∧ GoodL acts (pre ++ [(xk, xv)]) ∧ Boxed ((W.setCell ⟨wr.heap.size + 1 + 1, 0, none⟩ (.int .i64 xk)).setCell ⟨wr.heap.size + 1, 0, none⟩ (.int .i64 m)) (wr.heap.size + 1) 3 (.int .i64 ((pre ++ [(xk, xv)]).length : Nat)) ∧ Boxed ((W.setCell ⟨wr.heap.size + 1 + 1, 0, none⟩ (.int .i64 xk)).setCell ⟨wr.heap.size + 1, 0, none⟩ (.int .i64 m)) (wr.heap.size + 1 + 1) 3 (.int .i64 (lastK (pre ++ [(xk, xv)]))) ∧ Below wr.heap.size wr ((W.setCell ⟨wr.heap.size + 1 + 1, 0, none⟩ (.int .i64 xk)).setCell ⟨wr.heap.size + 1, 0, none⟩ (.int .i64 m))) := by
          intro hso hla m hmm
          have hbel : Below wr.heap.size W ((W.setCell ⟨wr.heap.size + 1 + 1, 0, none⟩ (.int .i64 xk)).setCell ⟨wr.heap.size + 1, 0, none⟩ (.int .i64 m)) := ((Below.refl _ W).setCell (p := ⟨wr.heap.size + 1 + 1, 0, none⟩) (by show _ ≤ wr.heap.size + 1 + 1; omega) _).setCell (p := ⟨wr.heap.size + 1, 0, none⟩) (by show _ ≤ wr.heap.size + 1; omega) _
          refine ⟨((KeepsOthers.setCell _ _ _).trans (KeepsOthers.setCell _ _ _)).from _, hbel, ⟨hso, fun p hp => ?_⟩, ?_, ?_, hB.trans hbel⟩
          · rcases List.mem_append.1 hp with hp | hp
            · exact hG.2 p hp
            · rw [List.mem_singleton.1 hp]; exact hla
          · have := (hm.other hn1 (.int .i64 xk)).set (.int .i64 m)
            rw [hmm] at this ⊢
            rw [List.length_append]
            exact this
          · rw [lastK_snoc]
            exact (hbf.set (.int .i64 xk)).other hn2 _
        have HSO := Lib.hid (sorted_snoc (x := (xk, xv)) hG.1)
        generalize hlk : lastK pre = lk at *
        have HNS : Hid (¬ Sorted (pre ++ [(xk, xv)]) → ¬ GoodL acts (pre ++ [(xk, xv)])) := fun h h2 => h h2.1
        have HNL : Hid (lastA acts xk ≠ some xv → ¬ GoodL acts (pre ++ [(xk, xv)])) := fun h h2 => h (h2.2 (xk, xv) (by simp))
        have HKF : Hid (KeepsFrom (wr.heap.size + 1 + 1 + 1) W (W.setCell ⟨w.heap.size + 1, 0, none⟩ (.bool false))) := (KeepsOthers.setCell _ _ _).from _
        have HLK := Lib.hid hlk
        clear hG hm hbf hB hr hlk
        by_cases hbad : 0 < pre.length ∧ xk ≤ lk
        · obtain ⟨hp0, hxl⟩ := hbad
          have hp0' : ((pre.length : Int) > 0) := by omega
          have HBAD : Hid (¬ GoodL acts (pre ++ [(xk, xv)])) := HNS.out (by
            rw [HSO.out]
            rintro (h | h)
            · rw [h] at hp0; exact absurd hp0 (by simp)
            · simp only at h; omega)
          gi_wp2_with fail
          exact ⟨HKF.out, HBAD.out⟩
        have HSRT : Hid (Sorted (pre ++ [(xk, xv)])) := HSO.out.2 (by
          rcases Nat.eq_zero_or_pos pre.length with h0 | h0
          · exact .inl (List.eq_nil_of_length_eq_zero h0)
          · right; simp only; omega)
        have hcase : (¬ ((pre.length : Int) > 0)) ∨ (((pre.length : Int) > 0) ∧ ¬ (xk ≤ lk)) := by omega
        clear hbad HSO HNS HLK
        rcases hcase with hc1 | ⟨hc1, hc2⟩
        all_goals
          gi_wp2_with fail
          gi_loopw [10, 11] (fun is i wx => ∃ j : Nat, j ≤ k ∧ i = .int .i64 ((j : Int) - 1) ∧ W = wx ∧ ((is = .bool false ∧ Hid (NoneFrom acts j xk)) ∨ (is = .bool true ∧ Hid (lastA acts xk = some xv)))) (fun _ i _ => (intOf i + 1).toNat)
          case atStart => exact ⟨k, Nat.le_refl _, rfl, rfl, .inl ⟨rfl, by show NoneFrom acts k xk; rw [← HLEN.out]; exact noneFrom_all acts xk⟩⟩
          case round =>
            obtain ⟨j, hj, rfl, rfl, hst⟩ := hrel
            rcases hst with ⟨rfl, HNF⟩ | ⟨rfl, HLA⟩
            · cases j with
              | zero =>
                have hge : ¬ ((((0 : Nat) : Int) - 1) ≥ 0) := by omega
                have HBAD : Hid (¬ GoodL acts (pre ++ [(xk, xv)])) := HNL.out (by rw [lastA_none HNF.out]; intro h; cases h)
                gi_wp2_with fail
                exact ⟨HKF.out, HBAD.out⟩
              | succ j =>
                have hje : (((j + 1 : Nat) : Int) - 1) = (j : Int) := by omega
                rw [hje]
                have hge : ((j : Int) ≥ 0) := by omega
                have hjk : ((j : Int) < (k : Int)) := by omega
                obtain ⟨y, hy⟩ : ∃ y, acts[j]? = some y := ⟨_, List.getElem?_eq_getElem (by have := HLEN.out; omega)⟩
                obtain ⟨b, off, rfl, hb, hcell⟩ := HR.out.at_ (by omega)
                obtain ⟨_, d1, d2⟩ := hcell j y hy
                have hbw : Below w.heap.size w W := HB.out.trans (HBW.out.mono HB.out.size)
                rw [← hbw.cell (p := ⟨b, off + j * 3 + 1, none⟩) hb] at d1
                rw [← hbw.cell (p := ⟨b, off + j * 3 + 2, none⟩) hb] at d2
                have hw2 : IntKind.i64.wrap ((j : Int) - 1) = (j : Int) - 1 := by rw [IntKind.wrap_i64]; omega
                obtain ⟨y0, y1, y2⟩ := y
                simp only at d1 d2
                clear hcell hbw hje
                by_cases hyk : y1 = xk
                · have hlast := lastA_at HNF.out hy hyk
                  simp only at hlast
                  have hyk' : (y1 == xk) = true := by simp [hyk]
                  by_cases hyv : y2 = xv
                  · have HLA : Hid (lastA acts xk = some xv) := by rw [← hyv]; exact hlast
                    have hyv' : (y2 != xv) = false := by simp [hyv]
                    clear hlast hy hyk hyv
                    gi_wp2_with fail
                    go_roundw
                    case rel => exact ⟨j, by omega, by first | rfl | trivial, by first | rfl | trivial, .inr ⟨rfl, HLA.out⟩⟩
                    case measure => first | (simp [intOf]; done) | (simp [intOf]; omega)
                  · have HBAD : Hid (¬ GoodL acts (pre ++ [(xk, xv)])) := HNL.out (by rw [hlast]; intro h; exact hyv (by injection h))
                    have hyv' : (y2 != xv) = true := by simp [hyv]
                    clear hlast hy hyk hyv
                    gi_wp2_with fail
                    exact ⟨HKF.out, HBAD.out⟩
                · have hyk' : (y1 == xk) = false := by simp [hyk]
                  have HNF2 := Lib.hid (noneFrom_step HNF.out hy hyk)
                  clear hy hyk
                  gi_wp2_with fail
                  go_roundw
                  case rel => exact ⟨j, by omega, by first | rfl | trivial, by first | rfl | trivial, .inl ⟨rfl, HNF2.out⟩⟩
                  case measure => first | (simp [intOf]; done) | (simp [intOf]; omega)
            · have HEND := Lib.hid (HFIN.out HSRT.out HLA.out _ rfl)
              by_cases hge : (((j : Int) - 1) ≥ 0)
              · gi_wp2_with fail
                first | exact HEND.out | exact ⟨by rw [hsz]; exact HEND.out.1, HEND.out.2⟩
              · gi_wp2_with fail
                first | exact HEND.out | exact ⟨by rw [hsz]; exact HEND.out.1, HEND.out.2⟩
      case done =>
        clear bm' bf bp' hW
        rintro D ys W hD rfl ⟨hG, hm, hbf, hB⟩ hK
        have cs := (hB.cell (p := ⟨w.heap.size, 0, none⟩) B1.out.lt).trans c1
        have hr : Boxed W (w.heap.size + 1) 4 (.bool false) := (hB.block _ B2.out.lt).trans B2.out
        have HM := Lib.hid hm
        have HRB := Lib.hid hr
        have HBW := Lib.hid hB
        have HK := Lib.hid hK
        have HMP := Lib.hid (mp_later HM2.out hB)
        have HPL := Lib.hid (show (putA acts).length ≤ 120 by have := putA_len acts; have := HLEN.out; omega)
        rw [HTL.out] at HM
        clear hG hm hbf hB hr hK
        go_wp2_with fail
        go_loopw [12] (fun iv wx => ∃ j : Nat, j ≤ k ∧ iv = .int .i64 (j : Int) ∧ W = wx) (fun iv _ => (k - intOf iv).toNat)
        case atStart => exact ⟨0, Nat.zero_le _, rfl, rfl⟩
        case round =>
          obtain ⟨j, hj, rfl, rfl⟩ := hrel
          by_cases hjk : j < k
          · have hjk' : ((j : Int) < k) := by omega
            obtain ⟨y, hy⟩ : ∃ y, acts[j]? = some y := ⟨_, List.getElem?_eq_getElem (by have := HLEN.out; omega)⟩
            obtain ⟨b, off, rfl, hb, hcell⟩ := HR.out.at_ (by omega)
            obtain ⟨_, d1, _⟩ := hcell j y hy
            have hbw : Below w.heap.size w W := HB.out.trans (HBW.out.mono HB.out.size)
            rw [← hbw.cell (p := ⟨b, off + j * 3 + 1, none⟩) hb] at d1
            obtain ⟨v, hv⟩ := got_put hy
            obtain ⟨y0, y1, y2⟩ := y
            simp only at d1 hv
            have hg := get_any y1 HMP.out
            unfold getV at hg
            rw [hv] at hg
            have HGE := Lib.hid hg
            clear hcell hbw hv hg hy
            go_wp2_with fail
            refine HGE.out.mono ?_
            rintro e w1 ⟨rfl, rfl⟩
            go_wp2_with fail
            go_roundw
            case rel => exact ⟨j + 1, by omega, by go_num, by first | rfl | trivial⟩
            case measure => simp [intOf]; omega
          · have hjk' : ¬ ((j : Int) < k) := by omega
            obtain rfl : j = k := by omega
            go_upto_region 34 with fail
            have HMD := Lib.hid (show Boxed W.drew (wr.heap.size + 1) 3 (.int .i64 ((putA acts).length : Nat)) from HM.out)
            have HLN := Lib.hid (len_any (mp_later HMP.out (below_d (w := W))))
            have hStart := HMD.out.cell
            have hne : w.heap.size + 1 ≠ wr.heap.size + 1 := by omega
            generalize (putA acts).length = pl at *
            refine wp_region_held_drew (S := fun w' => w'.cell? ⟨wr.heap.size + 1, 0, none⟩ = some (.int .i64 (pl : Int))) (by kernel_rfl) (hStart) (fun hHeld => ?_)
            refine wpAnyH_take (i := 0) (oi := { dst := some 99, op := Op.load 3 (Operand.tmp 6), type := 3, pos := "law.go:128", after := #[], guard := none }) (v := ?_) rfl (by kernel_rfl) (by kernel_rfl) (by kernel_rfl) (fun _ _ _ h => h) (Or.inl ⟨by kernel_rfl, ?_⟩) (by assumption) ?_; rotate_left; (focus (intro w hSw; (try dsimp only at hSw); go_simp; all_goals (with_reducible rfl)))
            try simp only [Act.put, List.setIfInBounds_toArray, List.set_cons_zero, List.set_cons_succ]
            refine wpAnyH_ready (rs := [1]) (by kernel_rfl) (by simp) ?_
            refine AllReadyH.cons (o := { dst := some 100, op := Op.call { callee := Callee.value (Operand.func 14), args := #[Operand.tmp 3], argTypes := #[26] }, type := 3, pos := "law.go:128", after := #[], guard := none }) rfl (fun K hK => ?_) AllReadyH.nil
            go_simp
            refine HLN.out.mono ?_
            rintro e w8 ⟨rfl, rfl⟩
            have hKeep := HMD.out.cell
            go_wp2_with fail
            refine hK.out _ _ ?_ (fun hHeld => ?_)
            · exact hKeep
            clear hK K
            try simp only [Act.put, List.setIfInBounds_toArray, List.set_cons_zero, List.set_cons_succ]
            refine wpAnyH_take (i := 2) (oi := { dst := some 101, op := Op.binOp BinOp.eql 3 (Operand.tmp 99) (Operand.tmp 100) 3, type := 4, pos := "law.go:128", after := #[{ on := 0, ground := Ground.data }, { on := 1, ground := Ground.data }], guard := none }) (v := ?_) rfl (by kernel_rfl) (by kernel_rfl) (by kernel_rfl) (fun _ _ _ h => h) (Or.inl ⟨by kernel_rfl, ?_⟩) (by assumption) ?_; rotate_left; (focus (intro w hSw; (try dsimp only at hSw); go_simp; all_goals (with_reducible rfl)))
            try simp only [Act.put, List.setIfInBounds_toArray, List.set_cons_zero, List.set_cons_succ]
            refine wpAnyH_take (i := 3) (oi := { dst := some 102, op := Op.move (Operand.tmp 101), type := 4, pos := "law.go:128", after := #[{ on := 2, ground := Ground.data }, { on := 1, ground := Ground.chain }], guard := none }) (v := ?_) rfl (by kernel_rfl) (by kernel_rfl) (by kernel_rfl) (fun _ _ _ h => h) (Or.inl ⟨by kernel_rfl, ?_⟩) (by assumption) ?_; rotate_left; (focus (intro w hSw; (try dsimp only at hSw); go_simp; all_goals (with_reducible rfl)))
            try simp only [Act.put, List.setIfInBounds_toArray, List.set_cons_zero, List.set_cons_succ]
            refine wpAnyH_ready (rs := [4]) (by kernel_rfl) (by simp) ?_
            refine AllReadyH.cons (o := { dst := some 103, op := Op.call { callee := Callee.value (Operand.func 6), args := #[], argTypes := #[] }, type := 4, pos := "law.go:128", after := #[{ on := 3, ground := Ground.chain }, { on := 3, ground := Ground.guard }], guard := some (3, true) }) rfl (fun K hK => ?_) AllReadyH.nil
            go_simp
            refine (awake_any _).mono ?_
            rintro e w9 ⟨rfl, hb9⟩
            have HM9 := Lib.hid (show Boxed w9 (wr.heap.size + 1) 3 (.int .i64 (pl : Int)) from (hb9.block _ HMD.out.lt).trans HMD.out)
            have hr9 := (show Boxed w9 (w.heap.size + 1) 4 (.bool false) from (hb9.block _ HRB.out.lt).trans HRB.out)
            have crr := hr9.cell
            have frr := hr9.frozen
            have HR9 := Lib.hid (hr9.set (.bool true))
            have HK9 := Lib.hid ((Below.heap_setCell w9 ⟨w.heap.size + 1, 0, none⟩ (.bool true) D (by show D ≠ w.heap.size + 1; omega)).trans ((hb9.block D (Array.getElem?_eq_some_iff.1 HK.out).1).trans HK.out))
            have HB9 := Lib.hid ((HB.out.trans ((HBW.out.mono HB.out.size).trans ((below_d.mono (by have := HB.out.size; have := HBW.out.size; omega)).trans (hb9.mono (by have := HB.out.size; have := HBW.out.size; show _ ≤ W.heap.size; omega))))).setCell (p := ⟨w.heap.size + 1, 0, none⟩) (by show w.heap.size ≤ w.heap.size + 1; omega) (.bool true))
            have hKeep := HM9.out.cell
            clear hb9 hr9
            go_wp2_with fail
            refine hK.out _ _ ?_ (fun hHeld => ?_)
            · exact hKeep
            clear hK K
            try simp only [Act.put, List.setIfInBounds_toArray, List.set_cons_zero, List.set_cons_succ]
            refine wpAnyH_take (i := 5) (oi := { dst := some 104, op := Op.pick (Operand.tmp 102) (Operand.tmp 103) (Operand.const (Value.bool false)), type := 4, pos := "law.go:128", after := #[{ on := 3, ground := Ground.data }, { on := 4, ground := Ground.data }], guard := none }) (v := ?_) rfl (by kernel_rfl) (by kernel_rfl) (by kernel_rfl) (fun _ _ _ h => h) (Or.inl ⟨by kernel_rfl, ?_⟩) (by assumption) ?_; rotate_left; (focus (intro w hSw; (try dsimp only at hSw); go_simp; all_goals (with_reducible rfl)))
            try simp only [Act.put, List.setIfInBounds_toArray, List.set_cons_zero, List.set_cons_succ]
            refine wpAnyH_ready (rs := [6]) (by kernel_rfl) (by simp) ?_
            refine AllReadyH.cons (o := { dst := none, op := Op.store 4 (Operand.tmp 2) (Operand.tmp 104), type := 0, pos := "law.go:128", after := #[{ on := 5, ground := Ground.data }, { on := 4, ground := Ground.chain }, { on := 0, ground := Ground.phase }, { on := 1, ground := Ground.phase }, { on := 2, ground := Ground.phase }, { on := 3, ground := Ground.phase }, { on := 4, ground := Ground.phase }, { on := 5, ground := Ground.phase }], guard := none }) rfl (fun K hK => ?_) AllReadyH.nil
            go_simp
            have hKeep := (HM9.out.other hne.symm (.bool true)).cell
            refine hK.out _ _ ?_ (fun hHeld => ?_)
            · exact hKeep
            clear hK K
            try simp only [Act.put, List.setIfInBounds_toArray, List.set_cons_zero, List.set_cons_succ]
            refine wpAnyH_done (by kernel_rfl) ?_ _
            go_wp2_with fail
            have hK9 := HK9.out
            refine ⟨by simp, .inl ⟨_, _, rfl, run_takeDeferred hK9, ?_⟩⟩
            have hc9 : (((w9.setCell ⟨w.heap.size + 1, 0, none⟩ (.bool true)).putObj D (.deferred none)).cell? ⟨w.heap.size + 1, 0, none⟩) = some (.bool true) :=
              (World.cell?_of_block (World.putObj_heap_other (k := w.heap.size + 1) (by omega))).trans HR9.out.cell
            refine ⟨.bool true, ?_, rfl, ?_⟩
            · simp [results, Try.f5, go_sem, hc9]
            · exact HB9.out.trans (belowK_b (w := w) (Nat.le_refl _) _ D _ _ (by omega) hK9 rfl rfl)
      case stop =>
        rintro D c pre W hD hpre hbad _
        rw [HTL.out] at hpre
        exact absurd (good_pre (good_put acts) hpre) hbad
end Go.Proofs.Ythcofcpnhopnnaa.Av
