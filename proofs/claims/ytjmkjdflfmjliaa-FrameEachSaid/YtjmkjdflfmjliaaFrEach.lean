/- Frames given one by one: what the function that is ranged over does, whatever the loop's body is. -/
import Derived.Test.YtjmkjdflfmjliaaFrTake
import Derived.RangeFuncNested
import Derived.RangeFuncBound
import Derived.RangeFuncCalls
import Derived.RangeFuncLeaves
import Derived.RangeFuncBox
import Derived.Shelf.Abstract
import Derived.Shelf.RegionOpen
import Derived.OwnWalkIn
import Derived.TacticsInMore
import Derived.LoopNIn
import Derived.LoopIn
namespace Go.Proofs.Ytjmkjdflfmjliaa.Fr
open Go.RowKit Go.Shelf

attribute [local go_sem] Oper.semAt_some

/-- what stands in a block stays there -/
def Kp (n : Nat) (W W' : World) : Prop := W'.heap[n]? = W.heap[n]?
theorem kp_t {n : Nat} {A B C : World} (h : Kp n A B) (k : Kp n B C) : Kp n A C := Eq.trans k h
theorem kp_b {n : Nat} {w : World} (hn : n < w.heap.size) (W : World) (l : Nat) (o o' : Obj) (hl : w.heap.size ≤ l) (_ : W.heap[l]? = some o) (_ : o.isCells = false) (_ : o.isWalk = false) : Kp n W (W.putObj l o') :=
  World.putObj_heap_other (by omega)
theorem grown_of {W W' : World} (h : Below W.heap.size W W') : W.grownBy W' none := ⟨h.os, h.tape, h.output, h.size, fun k hk _ => h.block k hk⟩
/-- a frame as it is handed over -/
abbrev enc (x : Fm) : Array Value := #[.agg #[.int .i64 x.1, .string x.2]]

set_option maxHeartbeats 800000 in
theorem each_any (s : ByteArray) (w : World) :
    Calls Try.prog 16 #[.string s] w fun e w' => e = .returned (.func (.func 26) #[] #[.pointer (some ⟨w.heap.size, 0, none⟩)]) ∧ w' = w.alloc (.cells #[.string s] 9) := by
  go_enter Try.func16, Try.ntmps16
  go_wp2
  go_ret
  exact ⟨rfl, rfl⟩

set_option maxRecDepth 100000 in
set_option maxHeartbeats 1600000 in
theorem loop_in (n : Nat) (hn : 1 ≤ n) (l Bn : Nat) (s : ByteArray) (hs : s.size ≤ 1000000) (J Jx : List Fm → World → Prop) (W : World) (hJ : AbidesFrom W.heap.size J)
    (hY : ∀ pre x W1, J pre W1 → pre.length < (fs s).length → YieldAt Fence.wide (n - 1) Try.prog l (enc x) W1 fun e W' =>
      (e = .returned (.bool true) ∧ J (pre ++ [x]) W' ∧ Kp Bn W1 W') ∨ (e = .returned (.bool false) ∧ Jx (pre ++ [x]) W'))
    (hBn : Boxed W Bn 9 (.string s)) (h0 : J [] W) :
    CallsIn Fence.wide n Try.prog 26 #[.func (.yield l) #[] #[], .pointer (some ⟨Bn, 0, none⟩)] W fun e W' => (∃ v, e = .returned v) ∧
      ((∃ xs, xs = fs s ∧ J xs W') ∨ (∃ pre, pre <+: fs s ∧ Jx pre W')) := by
  have HY := Lib.hid hY
  clear hY
  have HBn := Lib.hid hBn
  clear hBn
  refine callsIn_of_wp Try.func26 rfl trivial ?_ rfl
  simp only [Try.ntmps26, List.size_toArray, List.length_cons, List.length_nil, Nat.reduceAdd, Nat.reduceSub, Array.replicate_succ, Array.replicate_zero, List.push_toArray, List.append_toArray, List.nil_append, List.cons_append]
  gi_wp2
  gi_loopw [3] (fun p wr => ∃ (pre : List Fm) (k : Nat), Hid (Way s pre k) ∧ p = .int .i64 (pos pre) ∧ Hid (J pre wr) ∧ Hid (Boxed wr Bn 9 (.string s)))
    (fun p _ => s.size + 1 - (intOf p).toNat)
  case atStart => exact ⟨[], s.size + 1, Way.start s, rfl, h0, HBn.out⟩
  case round =>
    obtain ⟨pre, k, HW, rfl, HJ, HB⟩ := hrel
    have hle := HW.out.2.2
    have hc := HB.out.cell
    have ht := fun w => ftake_any (rst s (pos pre)) (by rw [rst_size]; omega) w
    unfold TkV at ht
    have HT := Lib.hid ht
    clear ht
    by_cases hz : (tk (rst s (pos pre))).2.2 = 0
    · obtain ⟨k', HW', hlt, hp, hlen⟩ := HW.out.next hz
      have HW2 := Lib.hid HW'
      have HP := Lib.hid hp
      clear HW'
      have htk := tk_ok hz
      rw [rst_size] at htk
      clear hp
      generalize tk (rst s (pos pre)) = t at *
      obtain ⟨⟨q, d⟩, m, er⟩ := t
      obtain rfl : er = 0 := hz
      simp only at htk
      have HM := Lib.hid htk.1
      have hm := htk.2
      clear htk
      gi_wp2_with fail
      refine ⟨trivial, (callsIn_wide.2 (HT.out wr)).mono ?_⟩
      rintro e w1 ⟨rfl, hb1⟩
      have hJ1 : J pre w1 := hJ _ _ _ none HJ.out (grown_of hb1) (fun r e => by cases e)
      have hJ2 : J pre (w1.alloc (.cells #[.int .i64 q, .string d] 27)) := hJ _ _ _ none hJ1 (World.grownBy_alloc _ _ none) (fun r e => by cases e)
      have HB2 : Hid (Boxed (w1.alloc (.cells #[.int .i64 q, .string d] 27)) Bn 9 (.string s)) := (HB.out.kept (grown_of hb1) (by simp)).alloc _
      obtain ⟨fn, tmps, assign, body, hy, hR⟩ := HY.out pre (q, d) _ hJ2 hlen
      dsimp only [enc] at hy
      have HR := Lib.hid hR
      clear hR hJ1 hJ2 hb1
      gi_wp2_with fail
      refine HR.out.mono ?_
      rintro e W3 (⟨rfl, hJ3, hk3⟩ | ⟨rfl, hJx3⟩)
      · have HJ3 := Lib.hid hJ3
        have HB3 : Hid (Boxed W3 Bn 9 (.string s)) := hk3.trans HB2.out
        clear hJ3 hk3
        have hps : (pos pre : Int) + (m : Int) = (pos (pre ++ [(q, d)]) : Nat) := by rw [HP.out]; omega
        have hlim : pos (pre ++ [(q, d)]) ≤ s.size := HW2.out.2.2
        have hmore := pos_snoc pre (q, d)
        have HMO := Lib.hid hmore
        clear hmore
        gi_wp2_with fail
        go_roundw
        case rel => exact ⟨pre ++ [(q, d)], k', HW2, rfl, HJ3, HB3⟩
        case measure => have h1 := HP.out; have h2 := HM.out; simp [intOf]; omega
      · have HJx := Lib.hid hJx3
        clear hJx3
        gi_wp2_with fail
        refine bodyPost_ret (results_none rfl _ _ _) rfl ?_
        exact ⟨⟨_, rfl⟩, .inr ⟨pre ++ [(q, d)], HW2.out.pre, HJx.out⟩⟩
    · have hd := HW.out.done hz
      have HD := Lib.hid hd
      clear hd
      obtain ⟨z1, z2⟩ := tk_no hz
      generalize tk (rst s (pos pre)) = t at *
      obtain ⟨⟨q, d⟩, m, er⟩ := t
      simp only at z1 z2 hz
      have hne : ((er : Int) != 0) = true := by simp; omega
      clear z1 z2
      gi_wp2_with fail
      refine ⟨trivial, (callsIn_wide.2 (HT.out wr)).mono ?_⟩
      rintro e w1 ⟨rfl, hb1⟩
      have hJ1 : J pre w1 := hJ _ _ _ none HJ.out (grown_of hb1) (fun r e => by cases e)
      have HJ2 : Hid (J pre (w1.alloc (.cells #[.int .i64 q, .string d] 27))) := hJ _ _ _ none hJ1 (World.grownBy_alloc _ _ none) (fun r e => by cases e)
      clear hJ1 hb1
      gi_wp2_with fail
      refine ⟨fun _ h => (by cases h), ?_⟩
      gi_wp2_with fail
      refine bodyPost_ret (results_none rfl _ _ _) rfl ?_
      exact ⟨⟨_, rfl⟩, .inl ⟨pre, HD.out, HJ2.out⟩⟩

/-- **Each(s) HANDS BACK WHAT GIVES ALL FRAMES, in order; or the first ones, where no more are wanted** -/
theorem each_stops (n : Nat) (hn : 1 ≤ n) (Bn : Nat) (s : ByteArray) (hs : s.size ≤ 1000000) (w : World) (hBn : Boxed w Bn 9 (.string s)) :
    SeqStopsK Fence.wide n Try.prog 26 #[.pointer (some ⟨Bn, 0, none⟩)] enc (Kp Bn) (fun xs => xs = fs s) (fun pre => pre <+: fs s) (fs s).length w := fun l J Jx W hW hJ _ hY h0 =>
  loop_in n hn l Bn s hs J Jx W hJ hY ((hW.block Bn hBn.lt).trans hBn) h0
end Go.Proofs.Ytjmkjdflfmjliaa.Fr
