/- The newest of records: the program's. -/
import Derived.Test.YtngmcefbljkgaaaRkRow
namespace Go.Proofs.Ytngmcefbljkgaaa.Rk
open Go.RowKit
open Cd (Rec Fit may putB recB zeroR recV recL Blk st9 below_new9)
open Sa (drewN_below)

/-- the newest one, kept; a zero one of none -/
def bestR : List Rec → Rec
  | [] => zeroR
  | x :: r => kept (top x r)
def isR : List Rec → Bool
  | [] => false
  | _ :: _ => true
theorem top_snoc : ∀ (r : List Rec) (x y : Rec), top x (r ++ [y]) = if newer y (top x r) then y else top x r
  | [], _, _ => rfl
  | z :: r, x, y => top_snoc r (if newer z x then z else x) y
theorem top_take (r : List Rec) (x y : Rec) (k : Nat) (h : r[k]? = some y) : top x (r.take (k + 1)) = if newer y (top x (r.take k)) then y else top x (r.take k) := by
  obtain ⟨hk, he⟩ := List.getElem?_eq_some_iff.1 h
  rw [List.take_succ_eq_append_getElem hk, top_snoc, he]

/-- what stands in a round: the result's cell, the newest so far -/
structure Bs (w W : World) (t : Rec) : Prop where
  z : Blk W w.heap.size (recL zeroR)
  b : Blk W (w.heap.size + 1) (recL t)
  below : Below w.heap.size w W
theorem Bs.put {w W : World} {t : Rec} (h : Bs w W t) (v0 : Int) (v1 v2 v3 : Int) (v4 v5 : ByteArray) (v6 v7 : Int) (v8 : Bool) :
    Bs w (st9 W (w.heap.size + 1) (.int .i64 v0) (.int .i64 v1) (.int .i64 v2) (.int .i64 v3) (.string v4) (.string v5) (.int .i64 v6) (.int .i64 v7) (.bool v8)) ⟨v0, v1, v2, v3, v4, v5, v6, v7, v8⟩ :=
  ⟨h.z.but (Cd.but_own9 _ _ _ _ _ _ _ _ _ _ _) (by omega), h.b.setNine _ _ _ _ _ _ _ _ _, below_new9 h.below (by omega) _ _ _ _ _ _ _ _ _⟩
theorem Bs.later {w W W' : World} {t : Rec} (h : Bs w W t) (hb : Below W.heap.size W W') : Bs w W' t :=
  ⟨h.z.later hb, h.b.later hb, h.below.trans (hb.mono h.below.size)⟩

set_option maxHeartbeats 6400000 in
set_option maxRecDepth 100000 in
theorem best_any (a : Option Addr) (len cap : Nat) (xs : List Rec) (w : World) (hr : Recs a len xs w) (hc : len ≤ cap) (hl : len ≤ 1000) (hok : ∀ x ∈ xs, Fit x) :
    Calls Try.prog 9 #[.slice a len cap] w fun e w' => e = .returned (.tuple #[recV (bestR xs), .bool (isR xs)]) ∧ Below w.heap.size w w' := by
  have HR := Lib.hid hr
  have HOK := Lib.hid hok
  cases xs with
  | nil =>
    obtain rfl : 0 = len := hr.len_is
    have B0 : Hid (Below w.heap.size w (w.alloc (.cells ⟨recL zeroR⟩ 23))) := (Below.refl _ w).alloc (Nat.le_refl _) _
    clear hr hok
    go_enter Try.func9, Try.ntmps9
    go_wp2_with fail
    refine bodyPost_ret (v := .tuple #[.agg #[.int .i64 0, .int .i64 0, .int .i64 0, .int .i64 0, .string ⟨#[]⟩, .string ⟨#[]⟩, .int .i64 0, .int .i64 0, .bool false], .bool false]) ?_ rfl ⟨rfl, B0.out⟩
    simp [results, Try.results9, go_sem]
  | cons x r =>
    have hlen : r.length + 1 = len := hr.len_is
    have HLEN := Lib.hid hlen
    obtain ⟨b, off, rfl, hb, hcell⟩ := hr.at_ (by omega)
    have HC := Lib.hid hcell
    have c0 := hcell 0 x rfl
    rw [Nat.zero_mul, Nat.add_zero] at c0
    have hlen1 : 1 ≤ len := by omega
    have hne : ((len : Int) == 0) = false := by simp; omega
    obtain ⟨x0, x1, x2, x3, x4, x5, x6, x7, x8⟩ := x
    have S0 : Hid (Bs w ((w.alloc (.cells ⟨recL zeroR⟩ 23)).alloc (.cells ⟨recL ⟨x0, x1, x2, x3, x4, x5, x6, x7, x8⟩⟩ 23)) ⟨x0, x1, x2, x3, x4, x5, x6, x7, x8⟩) := by
      have h := Two.start w 23 23 (recL zeroR) (recL ⟨x0, x1, x2, x3, x4, x5, x6, x7, x8⟩)
      exact ⟨h.a, h.b, h.below⟩
    obtain ⟨c0, c1, c2, c3, c4, c5, c6, c7, c8⟩ := c0
    simp only at c0 c1 c2 c3 c4 c5 c6 c7 c8
    obtain ⟨X, hX⟩ : ∃ X : Rec, (⟨x0, x1, x2, x3, x4, x5, x6, x7, x8⟩ : Rec) = X := ⟨_, rfl⟩
    rw [hX] at HR HOK HC
    have HEND : Hid (∀ u, kept (top X r) = u → recV (bestR (⟨x0, x1, x2, x3, x4, x5, x6, x7, x8⟩ :: r)) = recV u) := fun u h => by rw [← h, ← hX]; rfl
    have HX := Lib.hid hX
    clear hX
    clear hr hok hcell hlen
    go_enter Try.func9, Try.ntmps9
    by_cases hcap : cap = 1
    · go_wp2_with fail
      go_loopw [17] (fun i wr => ∃ k : Nat, k ≤ len - 1 ∧ i = .int .i64 k ∧ Hid (Bs w wr (top X (r.take k)))) (fun i _ => len - (intOf i).toNat)
      case atStart => exact ⟨0, by omega, rfl, by show Bs w _ (top X []); rw [show top X [] = X from rfl, ← HX.out]; exact S0.out⟩
      case round =>
        obtain ⟨k, hk, rfl, HS⟩ := hrel
        by_cases hlt0 : k < len - 1
        · exfalso; omega
        · have HK := Lib.hid (show r.take k = r from List.take_of_length_le (by have := HLEN.out; omega))
          have HS : Hid (Bs w wr (top X r)) := by show Bs _ _ _; rw [← HK.out]; rw [HK.out]; have h := HS.out; rw [HK.out] at h; exact h
          have KC := fun w => kept_c (top X r) w
          generalize top X r = t at *
          generalize hk2 : kept t = u at *
          have KC := Lib.hid KC
          clear hk2
          obtain ⟨t0, t1, t2, t3, t4, t5, t6, t7, t8⟩ := t
          obtain ⟨u0, u1, u2, u3, u4, u5, u6, u7, u8⟩ := u
          have KC : Hid (∀ w, Calls Try.prog 16 #[.agg #[.int .i64 t0, .int .i64 t1, .int .i64 t2, .int .i64 t3, .string t4, .string t5, .int .i64 t6, .int .i64 t7, .bool t8]] w fun e w' => e = .returned (.agg #[.int .i64 u0, .int .i64 u1, .int .i64 u2, .int .i64 u3, .string u4, .string u5, .int .i64 u6, .int .i64 u7, .bool u8]) ∧ Below w.heap.size w w') := KC.out
          obtain ⟨d0, d1, d2, d3, d4, d5, d6, d7, d8⟩ := HS.out.b.nine
          have hlt := HS.out.b.lt
          go_wp2_with fail
          refine (KC.out _).mono ?_
          rintro e w2 ⟨rfl, b2⟩
          have HS2 := Lib.hid (HS.out.later b2)
          clear b2 d0 d1 d2 d3 d4 d5 d6 d7 d8
          obtain ⟨d0, d1, d2, d3, d4, d5, d6, d7, d8⟩ := HS2.out.z.nine
          obtain ⟨f0, f1, f2, f3, f4, f5, f6, f7, f8⟩ := HS2.out.z.nineF
          have T := HS2.out.z.setNine (.int .i64 u0) (.int .i64 u1) (.int .i64 u2) (.int .i64 u3) (.string u4) (.string u5) (.int .i64 u6) (.int .i64 u7) (.bool u8)
          obtain ⟨c0, c1, c2, c3, c4, c5, c6, c7, c8⟩ := T.nine
          have G : Hid (Below w.heap.size w (st9 w2 w.heap.size (.int .i64 u0) (.int .i64 u1) (.int .i64 u2) (.int .i64 u3) (.string u4) (.string u5) (.int .i64 u6) (.int .i64 u7) (.bool u8))) := below_new9 HS2.out.below (Nat.le_refl _) (.int .i64 u0) (.int .i64 u1) (.int .i64 u2) (.int .i64 u3) (.string u4) (.string u5) (.int .i64 u6) (.int .i64 u7) (.bool u8)
          unfold st9 at c0 c1 c2 c3 c4 c5 c6 c7 c8
          clear T
          go_wp2_with fail
          refine bodyPost_ret (v := .tuple #[.agg #[.int .i64 u0, .int .i64 u1, .int .i64 u2, .int .i64 u3, .string u4, .string u5, .int .i64 u6, .int .i64 u7, .bool u8], .bool true]) ?_ rfl ⟨by rw [HEND.out _ rfl]; rfl, G.out⟩
          simp [results, Try.results9, go_sem, c0, c1, c2, c3, c4, c5, c6, c7, c8]
    · go_wp2_with fail
      go_loopw [17] (fun i wr => ∃ k : Nat, k ≤ len - 1 ∧ i = .int .i64 k ∧ Hid (Bs w wr (top X (r.take k)))) (fun i _ => len - (intOf i).toNat)
      case atStart => exact ⟨0, by omega, rfl, by show Bs w _ (top X []); rw [show top X [] = X from rfl, ← HX.out]; exact S0.out⟩
      case round =>
        obtain ⟨k, hk, rfl, HS⟩ := hrel
        by_cases hlt0 : k < len - 1
        · obtain ⟨y, hy⟩ : ∃ y, r[k]? = some y := ⟨_, List.getElem?_eq_getElem (by have := HLEN.out; omega)⟩
          have htt := top_take r X y k hy
          have HFY := Lib.hid (HOK.out y (List.mem_cons_of_mem _ (List.mem_of_getElem? hy)))
          have HFT : Hid (Fit (top X (r.take k))) := by
            rcases top_mem (r.take k) X with h | h
            · show Fit _; rw [h]; exact HOK.out X (List.mem_cons_self ..)
            · exact HOK.out _ (List.mem_cons_of_mem _ (List.mem_of_mem_take h))
          have cy := (HC.out (k + 1) y hy).later hb HS.out.below
          rw [show off + (k + 1) * 9 = off + 9 + k * 9 by omega] at cy
          generalize top X (r.take k) = t at *
          have NW := fun w => newer_any y t w HFY.out HFT.out
          generalize hnw : newer y t = nw at *
          have NW := Lib.hid NW
          have HTT := Lib.hid htt
          have HBW := Lib.hid (Nat.lt_of_lt_of_le hb HS.out.below.size)
          clear htt hy hnw HFY HFT
          obtain ⟨y0, y1, y2, y3, y4, y5, y6, y7, y8⟩ := y
          obtain ⟨t0, t1, t2, t3, t4, t5, t6, t7, t8⟩ := t
          have NW : Hid (∀ w, Calls Try.prog 11 #[.agg #[.int .i64 y0, .int .i64 y1, .int .i64 y2, .int .i64 y3, .string y4, .string y5, .int .i64 y6, .int .i64 y7, .bool y8], .agg #[.int .i64 t0, .int .i64 t1, .int .i64 t2, .int .i64 t3, .string t4, .string t5, .int .i64 t6, .int .i64 t7, .bool t8]] w fun e w' => e = .returned (.bool nw) ∧ Below w.heap.size w w') := NW.out
          obtain ⟨c0, c1, c2, c3, c4, c5, c6, c7, c8⟩ := cy
          simp only at c0 c1 c2 c3 c4 c5 c6 c7 c8
          obtain ⟨d0, d1, d2, d3, d4, d5, d6, d7, d8⟩ := HS.out.b.nine
          have hlt := HS.out.b.lt
          have hbw := HBW.out
          have kb : Below wr.heap.size wr (wr.alloc (.cells ⟨recL ⟨y0, y1, y2, y3, y4, y5, y6, y7, y8⟩⟩ 23)) := (Below.refl _ _).alloc (Nat.le_refl _) _
          have HS1 := Lib.hid (HS.out.later kb)
          have KY := Lib.hid (Blk.start wr 23 (recL ⟨y0, y1, y2, y3, y4, y5, y6, y7, y8⟩))
          clear kb
          go_wp2_with fail
          refine (NW.out _).mono ?_
          rintro e w2 ⟨rfl, b2⟩
          have HS2 := Lib.hid (HS1.out.later b2)
          have KY2 := Lib.hid (KY.out.later b2)
          have hlt2 := HS2.out.b.lt
          clear b2 c0 c1 c2 c3 c4 c5 c6 c7 c8 d0 d1 d2 d3 d4 d5 d6 d7 d8
          cases nw
          · go_wp2_with fail
            go_roundw
            case rel => exact ⟨k + 1, by omega, by go_num, by show Bs _ _ _; rw [HTT.out]; exact HS2.out⟩
            case measure => simp [intOf]; omega
          · obtain ⟨c0, c1, c2, c3, c4, c5, c6, c7, c8⟩ := KY2.out.nine
            obtain ⟨f0, f1, f2, f3, f4, f5, f6, f7, f8⟩ := HS2.out.b.nineF
            obtain ⟨d0, d1, d2, d3, d4, d5, d6, d7, d8⟩ := HS2.out.b.nine
            have HS3 := Lib.hid (HS2.out.put y0 y1 y2 y3 y4 y5 y6 y7 y8)
            go_wp2_with fail
            go_roundw
            case rel => exact ⟨k + 1, by omega, by go_num, by show Bs _ _ _; rw [HTT.out]; exact HS3.out⟩
            case measure => simp [intOf]; omega
        · have HK := Lib.hid (show r.take k = r from List.take_of_length_le (by have := HLEN.out; omega))
          have HS : Hid (Bs w wr (top X r)) := by show Bs _ _ _; rw [← HK.out]; rw [HK.out]; have h := HS.out; rw [HK.out] at h; exact h
          have KC := fun w => kept_c (top X r) w
          generalize top X r = t at *
          generalize hk2 : kept t = u at *
          have KC := Lib.hid KC
          clear hk2
          obtain ⟨t0, t1, t2, t3, t4, t5, t6, t7, t8⟩ := t
          obtain ⟨u0, u1, u2, u3, u4, u5, u6, u7, u8⟩ := u
          have KC : Hid (∀ w, Calls Try.prog 16 #[.agg #[.int .i64 t0, .int .i64 t1, .int .i64 t2, .int .i64 t3, .string t4, .string t5, .int .i64 t6, .int .i64 t7, .bool t8]] w fun e w' => e = .returned (.agg #[.int .i64 u0, .int .i64 u1, .int .i64 u2, .int .i64 u3, .string u4, .string u5, .int .i64 u6, .int .i64 u7, .bool u8]) ∧ Below w.heap.size w w') := KC.out
          obtain ⟨d0, d1, d2, d3, d4, d5, d6, d7, d8⟩ := HS.out.b.nine
          have hlt := HS.out.b.lt
          go_wp2_with fail
          refine (KC.out _).mono ?_
          rintro e w2 ⟨rfl, b2⟩
          have HS2 := Lib.hid (HS.out.later b2)
          clear b2 d0 d1 d2 d3 d4 d5 d6 d7 d8
          obtain ⟨d0, d1, d2, d3, d4, d5, d6, d7, d8⟩ := HS2.out.z.nine
          obtain ⟨f0, f1, f2, f3, f4, f5, f6, f7, f8⟩ := HS2.out.z.nineF
          have T := HS2.out.z.setNine (.int .i64 u0) (.int .i64 u1) (.int .i64 u2) (.int .i64 u3) (.string u4) (.string u5) (.int .i64 u6) (.int .i64 u7) (.bool u8)
          obtain ⟨c0, c1, c2, c3, c4, c5, c6, c7, c8⟩ := T.nine
          have G : Hid (Below w.heap.size w (st9 w2 w.heap.size (.int .i64 u0) (.int .i64 u1) (.int .i64 u2) (.int .i64 u3) (.string u4) (.string u5) (.int .i64 u6) (.int .i64 u7) (.bool u8))) := below_new9 HS2.out.below (Nat.le_refl _) (.int .i64 u0) (.int .i64 u1) (.int .i64 u2) (.int .i64 u3) (.string u4) (.string u5) (.int .i64 u6) (.int .i64 u7) (.bool u8)
          unfold st9 at c0 c1 c2 c3 c4 c5 c6 c7 c8
          clear T
          go_wp2_with fail
          refine bodyPost_ret (v := .tuple #[.agg #[.int .i64 u0, .int .i64 u1, .int .i64 u2, .int .i64 u3, .string u4, .string u5, .int .i64 u6, .int .i64 u7, .bool u8], .bool true]) ?_ rfl ⟨by rw [HEND.out _ rfl]; rfl, G.out⟩
          simp [results, Try.results9, go_sem, c0, c1, c2, c3, c4, c5, c6, c7, c8]
end Go.Proofs.Ytngmcefbljkgaaa.Rk
