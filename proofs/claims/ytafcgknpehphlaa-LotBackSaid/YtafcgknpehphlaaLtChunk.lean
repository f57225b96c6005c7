/- Lots given one by one: what slices.Chunk hands back does, whatever the loop's body is. -/
import Derived.Test.YtafcgknpehphlaaLtLots
import Derived.RangeFuncNested
import Derived.RangeFuncBound
import Derived.RangeFuncCalls
import Derived.RangeFuncLeaves
import Derived.RangeFuncBox
import Derived.Shelf.Abstract
import Derived.Shelf.RegionOpen
import Derived.OwnWalkIn
import Derived.TacticsInMore
import Derived.LoopNIn
import Derived.LoopIn
import Derived.Sort.QuietIn
set_option linter.unusedSimpArgs false
namespace Go.Proofs.Ytafcgknpehphlaa.Lt
open Go.RowKit Go.Shelf
open Cd (Rec Fit may recB zeroR recV recL)
open Rk (At9 Recs rcs)

attribute [local go_sem] Oper.semAt_some

/-- what stands in two blocks stays there -/
def Kc (m n : Nat) (W W' : World) : Prop := W'.heap[m]? = W.heap[m]? ∧ W'.heap[n]? = W.heap[n]?
theorem kc_t {m n : Nat} {A B C : World} (h : Kc m n A B) (k : Kc m n B C) : Kc m n A C := ⟨k.1.trans h.1, k.2.trans h.2⟩
theorem kc_b {m n : Nat} {w : World} (hm : m < w.heap.size) (hn : n < w.heap.size) (W : World) (l : Nat) (o o' : Obj) (hl : w.heap.size ≤ l) (_ : W.heap[l]? = some o) (_ : o.isCells = false) (_ : o.isWalk = false) : Kc m n W (W.putObj l o') :=
  ⟨World.putObj_heap_other (by omega), World.putObj_heap_other (by omega)⟩
theorem grownC_of {W W' : World} (h : Below W.heap.size W W') : W.grownBy W' none := ⟨h.os, h.tape, h.output, h.size, fun k hk _ => h.block k hk⟩
/-- the i-th lot as it is handed over -/
abbrev lotV (b off n len i : Nat) : Value := .slice (some ⟨b, off + i * n * 9, none⟩) (min n (len - i * n)) (min n (len - i * n))
abbrev encC (b off n len : Nat) (i : Nat) : Array Value := #[lotV b off n len i]

set_option maxHeartbeats 800000 in
theorem chunk_c (a : Option Addr) (len cap n : Nat) (hn : 1 ≤ n) (w : World) :
    Calls Try.prog 31 #[.slice a len cap, .int .i64 n] w fun e w' => e = .returned (.func (.func 54) #[] #[.pointer (some ⟨w.heap.size, 0, none⟩), .pointer (some ⟨w.heap.size + 1, 0, none⟩)]) ∧ w' = (w.alloc (.cells #[.slice a len cap] 22)).alloc (.cells #[.int .i64 n] 3) := by
  have h1 : ¬ ((n : Int) < 1) := by omega
  go_enter Try.func31, Try.ntmps31
  go_wp2
  go_ret
  exact ⟨rfl, rfl⟩

set_option maxRecDepth 100000 in
set_option maxHeartbeats 1600000 in
theorem chunk_in (nn : Nat) (hnn : 1 ≤ nn) (a : Option Addr) (lp Bs Bn b off len cap n K : Nat) (ha : 0 < len → a = some ⟨b, off, none⟩) (hc : len ≤ cap) (hl : len ≤ 1000) (hn1 : 1 ≤ n) (hn2 : n ≤ 9223372036854775807) (hK : ∀ j, j < K ↔ j * n < len) (J Jx : List Nat → World → Prop) (W : World) (hJ : AbidesFrom W.heap.size J)
    (hY : ∀ pre x W1, J pre W1 → pre.length < K → YieldAt Fence.wide (nn - 1) Try.prog lp (encC b off n len x) W1 fun e W' =>
      (e = .returned (.bool true) ∧ J (pre ++ [x]) W' ∧ Kc Bs Bn W1 W') ∨ (e = .returned (.bool false) ∧ Jx (pre ++ [x]) W'))
    (hBs : Boxed W Bs 22 (.slice a len cap)) (hBn : Boxed W Bn 3 (.int .i64 n)) (h0 : J [] W) :
    CallsIn Fence.wide nn Try.prog 54 #[.func (.yield lp) #[] #[], .pointer (some ⟨Bs, 0, none⟩), .pointer (some ⟨Bn, 0, none⟩)] W fun e W' => (∃ v, e = .returned v) ∧
      ((∃ xs, xs = List.range K ∧ J xs W') ∨ (∃ pre, pre <+: List.range K ∧ Jx pre W')) := by
  have HY := Lib.hid hY
  clear hY
  have HKK := Lib.hid hK
  have HBs := Lib.hid hBs
  have HBn := Lib.hid hBn
  clear hBs hBn hK
  refine callsIn_of_wp Try.func54 rfl trivial ?_ rfl
  simp only [Try.ntmps54, List.size_toArray, List.length_cons, List.length_nil, Nat.reduceAdd, Nat.reduceSub, Array.replicate_succ, Array.replicate_zero, List.push_toArray, List.append_toArray, List.nil_append, List.cons_append]
  gi_wp2
  gi_loopw [4] (fun iv wr => ∃ (j p : Nat), Hid (p = j * n) ∧ iv = .int .i64 p ∧ j ≤ K ∧ Hid (J (List.range j) wr) ∧ Hid (Boxed wr Bs 22 (.slice a len cap)) ∧ Hid (Boxed wr Bn 3 (.int .i64 n)))
    (fun iv _ => len - (intOf iv).toNat)
  case atStart => exact ⟨0, 0, by show 0 = 0 * n; omega, rfl, Nat.zero_le _, h0, HBs.out, HBn.out⟩
  case round =>
    obtain ⟨j, p, HP, rfl, hj, HJ, HS, HN⟩ := hrel
    have hcs := HS.out.cell
    have hcn := HN.out.cell
    by_cases hlt : p < len
    · obtain rfl := ha (by omega)
      have hjK : j < K := (HKK.out j).2 (by rw [← HP.out]; exact hlt)
      have hov : (p : Int) + (n : Int) ≤ 9223372036854775807 := by
        have h := HP.out
        rcases Nat.eq_zero_or_pos j with h0 | h0
        · subst h0; omega
        · have : n ≤ j * n := Nat.le_mul_of_pos_left n h0
          omega
      obtain ⟨e, he⟩ : ∃ e : Nat, min n (len - p) = e := ⟨_, rfl⟩
      have he1 : 1 ≤ e := by omega
      have he2 : p + e ≤ len := by omega
      have hcp : ¬ cap = p := by omega
      by_cases hm : n ≤ len - p
      · have hen : e = n := by omega
        rw [hen] at he he1 he2
        clear hen
        have m1 : (n : Int) ≤ ((len - p : Nat) : Int) := by omega
        gi_wp2_with fail
        gi_quiet (fail)
        have hdb : Below wr.heap.size wr (wr.drewN nq) := drewN_below (Below.refl _ _) nq
        have hJ2 : J (List.range j) (wr.drewN nq) := hJ _ _ _ none HJ.out (grownC_of hdb) (fun r e => by cases e)
        have HS2 : Hid (Boxed (wr.drewN nq) Bs 22 (.slice (some ⟨b, off, none⟩) len cap)) := HS.out.kept (grownC_of hdb) (by simp)
        have HN2 : Hid (Boxed (wr.drewN nq) Bn 3 (.int .i64 n)) := HN.out.kept (grownC_of hdb) (by simp)
        obtain ⟨fn, tmps, assign, body, hy, hR⟩ := HY.out (List.range j) j _ hJ2 (by rw [List.length_range]; exact hjK)
        dsimp only [encC, lotV] at hy
        rw [← HP.out, he] at hy
        have HR := Lib.hid hR
        have HE := Lib.hid he
        clear hR hJ2 hdb he
        gi_wp2_with fail
        refine HR.out.mono ?_
        rintro e3 W3 (⟨rfl, hJ3, hk3⟩ | ⟨rfl, hJx3⟩)
        · have HJ3 : Hid (J (List.range (j + 1)) W3) := by rw [List.range_succ]; exact hJ3
          have HS3 : Hid (Boxed W3 Bs 22 (.slice (some ⟨b, off, none⟩) len cap)) := hk3.1.trans HS2.out
          have HN3 : Hid (Boxed W3 Bn 3 (.int .i64 n)) := hk3.2.trans HN2.out
          have hcn3 := HN3.out.cell
          have HP3 : Hid (p + n = (j + 1) * n) := by
            show _ = _
            rw [Nat.add_mul, Nat.one_mul, ← HP.out]
          clear hJ3 hk3
          gi_wp2_with fail
          go_roundw
          case rel => exact ⟨j + 1, p + n, HP3.out, by go_num, by omega, HJ3.out, HS3.out, HN3.out⟩
          case measure => simp [intOf]; omega
        · have HJx : Hid (Jx (List.range (j + 1)) W3) := by rw [List.range_succ]; exact hJx3
          have HPR : Hid (List.range (j + 1) <+: List.range K) := by
            refine ⟨(List.range' (j + 1) (K - (j + 1))), ?_⟩
            rw [List.range_eq_range', List.range_eq_range']
            have h := List.range'_append_1 (s := 0) (m := j + 1) (n := K - (j + 1))
            rw [Nat.zero_add] at h
            rw [h]
            congr 1
            omega
          clear hJx3
          gi_wp2_with fail
          refine bodyPost_ret (results_none rfl _ _ _) rfl ?_
          exact ⟨⟨_, rfl⟩, .inr ⟨_, HPR.out, HJx.out⟩⟩
      · have hen : e = len - p := by omega
        rw [hen] at he he1 he2
        clear hen
        have m1 : ¬ (n : Int) ≤ ((len - p : Nat) : Int) := by omega
        gi_wp2_with fail
        gi_quiet (fail)
        have hdb : Below wr.heap.size wr (wr.drewN nq) := drewN_below (Below.refl _ _) nq
        have hJ2 : J (List.range j) (wr.drewN nq) := hJ _ _ _ none HJ.out (grownC_of hdb) (fun r e => by cases e)
        have HS2 : Hid (Boxed (wr.drewN nq) Bs 22 (.slice (some ⟨b, off, none⟩) len cap)) := HS.out.kept (grownC_of hdb) (by simp)
        have HN2 : Hid (Boxed (wr.drewN nq) Bn 3 (.int .i64 n)) := HN.out.kept (grownC_of hdb) (by simp)
        obtain ⟨fn, tmps, assign, body, hy, hR⟩ := HY.out (List.range j) j _ hJ2 (by rw [List.length_range]; exact hjK)
        dsimp only [encC, lotV] at hy
        rw [← HP.out, he] at hy
        have HR := Lib.hid hR
        have HE := Lib.hid he
        clear hR hJ2 hdb he
        gi_wp2_with fail
        refine HR.out.mono ?_
        rintro e3 W3 (⟨rfl, hJ3, hk3⟩ | ⟨rfl, hJx3⟩)
        · have HJ3 : Hid (J (List.range (j + 1)) W3) := by rw [List.range_succ]; exact hJ3
          have HS3 : Hid (Boxed W3 Bs 22 (.slice (some ⟨b, off, none⟩) len cap)) := hk3.1.trans HS2.out
          have HN3 : Hid (Boxed W3 Bn 3 (.int .i64 n)) := hk3.2.trans HN2.out
          have hcn3 := HN3.out.cell
          have HP3 : Hid (p + n = (j + 1) * n) := by
            show _ = _
            rw [Nat.add_mul, Nat.one_mul, ← HP.out]
          clear hJ3 hk3
          gi_wp2_with fail
          go_roundw
          case rel => exact ⟨j + 1, p + n, HP3.out, by go_num, by omega, HJ3.out, HS3.out, HN3.out⟩
          case measure => simp [intOf]; omega
        · have HJx : Hid (Jx (List.range (j + 1)) W3) := by rw [List.range_succ]; exact hJx3
          have HPR : Hid (List.range (j + 1) <+: List.range K) := by
            refine ⟨(List.range' (j + 1) (K - (j + 1))), ?_⟩
            rw [List.range_eq_range', List.range_eq_range']
            have h := List.range'_append_1 (s := 0) (m := j + 1) (n := K - (j + 1))
            rw [Nat.zero_add] at h
            rw [h]
            congr 1
            omega
          clear hJx3
          gi_wp2_with fail
          refine bodyPost_ret (results_none rfl _ _ _) rfl ?_
          exact ⟨⟨_, rfl⟩, .inr ⟨_, HPR.out, HJx.out⟩⟩
    · have hKj : K = j := by
        rcases Nat.lt_or_ge j K with h | h
        · have := (HKK.out j).1 h
          rw [← HP.out] at this; omega
        · omega
      have HJ2 : Hid (J (List.range K) wr) := by rw [hKj]; exact HJ.out
      clear hKj
      gi_wp2_with fail
      refine bodyPost_end (results_none rfl _ _ _) rfl ?_
      exact ⟨⟨_, rfl⟩, .inl ⟨_, rfl, HJ2.out⟩⟩

/-- slices.Chunk HANDS BACK WHAT GIVES ALL LOTS, in order; or the first ones, where no more are wanted -/
theorem chunk_stops (nn : Nat) (hnn : 1 ≤ nn) (a : Option Addr) (Bs Bn b off len cap n K : Nat) (ha : 0 < len → a = some ⟨b, off, none⟩) (hc : len ≤ cap) (hl : len ≤ 1000) (hn1 : 1 ≤ n) (hn2 : n ≤ 9223372036854775807) (hK : ∀ j, j < K ↔ j * n < len) (w : World)
    (hBs : Boxed w Bs 22 (.slice a len cap)) (hBn : Boxed w Bn 3 (.int .i64 n)) :
    SeqStopsK Fence.wide nn Try.prog 54 #[.pointer (some ⟨Bs, 0, none⟩), .pointer (some ⟨Bn, 0, none⟩)] (encC b off n len) (Kc Bs Bn) (fun xs => xs = List.range K) (fun pre => pre <+: List.range K) K w := fun l J Jx W hW hJ _ hY h0 =>
  chunk_in nn hnn a l Bs Bn b off len cap n K ha hc hl hn1 hn2 hK J Jx W hJ hY ((hW.block Bs hBs.lt).trans hBs) ((hW.block Bn hBn.lt).trans hBn) h0
end Go.Proofs.Ytafcgknpehphlaa.Lt
