/- What a writer has written: its parts, laid into one row of bytes from the last one on. -/
import Derived.Test.YtafcgknpehphlaaPkWrite
import Derived.Deep.LoopGhost
import Derived.Deep.OwnRows
import Derived.Lib.BufferWrite
import Derived.RegionTactic
import Derived.ChangeAlike
import Derived.BigRegion
namespace Go.Proofs.Ytafcgknpehphlaa.Pk
open Go.RowKit

/-- the row of bytes while the parts of r are still to be laid into it -/
def rowOf (l r : List ByteArray) : List Value := List.replicate (cat r).length (.int .u8 0) ++ Va.bs ((cat l).drop (cat r).length)

/-- parts, and those that stand behind them -/
theorem cat_append (a b : List ByteArray) : cat (a ++ b) = cat b ++ cat a := by
  induction a with
  | nil => simp [cat]
  | cons x r ih => simp [cat, ih]

theorem bs_bytes (l : List UInt8) : Lib.byteCells l = Va.bs l := rfl

/-- one part more is laid into the row -/
theorem row_step (d r : List ByteArray) (x : ByteArray) :
    (rowOf (d ++ x :: r) (x :: r)).take (cat r).length ++ Lib.byteCells x.data.toList ++ (rowOf (d ++ x :: r) (x :: r)).drop ((cat r).length + x.size) = rowOf (d ++ x :: r) r := by
  have hx : x.data.toList.length = x.size := byte_len x
  unfold rowOf
  rw [cat_append]
  simp only [cat, List.length_append, hx, bs_bytes]
  rw [List.take_append_of_le_length (by simp), List.take_replicate, Nat.min_eq_left (by omega)]
  have e1 : List.drop ((cat r).length + x.size) (List.replicate ((cat r).length + x.size) (Value.int .u8 0)) = [] := List.drop_eq_nil_of_le (by simp)
  have e2 : List.drop ((cat r).length + x.size) (cat r ++ x.data.toList ++ cat d) = cat d := by
    rw [show (cat r).length + x.size = (cat r ++ x.data.toList).length by simp]
    exact List.drop_left
  rw [List.drop_append, List.length_replicate, e1, Nat.sub_self, List.drop_zero, List.nil_append, e2]
  rw [List.append_assoc, ← Va.bs_append, List.append_assoc (cat r), List.drop_left]

theorem row_start (l : List ByteArray) : rowOf l l = List.replicate (cat l).length (.int .u8 0) := by
  unfold rowOf; rw [List.drop_eq_nil_of_le (Nat.le_refl _)]; simp [Va.bs]
theorem row_end (l : List ByteArray) : rowOf l [] = Va.bs (cat l) := by
  simp [rowOf, cat]
theorem row_len (d r : List ByteArray) : (rowOf (d ++ r) r).length = (cat (d ++ r)).length := by
  unfold rowOf
  rw [List.length_append, List.length_replicate, Va.bs_len, List.length_drop, cat_append, List.length_append]
  omega

theorem made (v : Value) (n : Nat) : (madeCells #[v] n).toList = List.replicate n v := by
  rw [List.eq_replicate_iff]
  refine ⟨by simp [madeCells], fun b hb => ?_⟩
  simp [madeCells, Nat.mod_one] at hb
  exact hb.2.symm

theorem cell_at {W : World} {g : Nat} {cur : Array Value} {t : TypeId} (h : W.heap[g]? = some (.cells cur t (0, 0))) (j : Nat) : W.cell? ⟨g, j, none⟩ = cur[j]? := by simp [World.cell?, h]

theorem conv_row {W : World} {g : Nat} {cur : Array Value} {t : TypeId} (l : List UInt8) (h : W.heap[g]? = some (.cells cur t (0, 0))) (hc : cur.toList = Va.bs l) (n c : Nat) (hn : l.length = n) :
    (convert 67 9 (.slice (some ⟨g, 0, none⟩) n c)).run Try.prog W = .ok (Va.str l) W := by
  subst hn
  refine run_convert_bytes_back W _ _ _ ⟨g, 0, none⟩ c l Try.underlying67 Try.underlying5 Try.underlying9 ?_
  intro j hj
  have e : (⟨g, 0, none⟩ : Addr).add j = ⟨g, j, none⟩ := by unfold Addr.add; split <;> simp_all
  rw [e, cell_at h, ← Array.getElem?_toList, hc]
  simp [Va.bs, hj]

/-- a part is laid into the row, from its place on -/
theorem copy_step {W : World} {g n o : Nat} {cur : Array Value} (x : ByteArray) (h : W.heap[g]? = some (.cells cur 5 (0, 0))) (hn : cur.size = n) (ho : o + x.size ≤ n) :
    ∃ W2 cur2, (Builtin.copy_ #[67, 9] 3 #[.slice (if n = o then some ⟨g, 0, none⟩ else some ⟨g, o, none⟩) (n - o) (n - o), .string x]).run Try.prog W = .ok (goInt x.size) W2 ∧
      W2.heap[g]? = some (.cells cur2 5 (0, 0)) ∧ cur2.toList = cur.toList.take o ++ Lib.byteCells x.data.toList ++ cur.toList.drop (o + x.size) ∧ Below g W W2 := by
  obtain ⟨i0, hi, hz0, hz1, hz2⟩ := info_parts Va.info8
  by_cases hx : x.size = 0
  · have hb : x.data.toList = [] := List.eq_nil_of_length_eq_zero (by rw [byte_len]; exact hx)
    refine ⟨W, cur, ?_, h, by rw [hb, hx]; simp [Lib.byteCells], Below.refl _ _⟩
    rw [hx]
    exact Lib.run_copy_empty_string W _ _ _ 5 _ _ _ x Try.underlying67 (by rw [hi]; rfl) hx
  · rw [if_neg (by omega)]
    have hcp := Lib.run_copy_row_string (P := Try.prog) W 67 9 3 5 g o (n - o) (n - o) x cur 5 Try.underlying67 (by rw [hi]; simp [hz1]) h (by omega) (by omega)
    exact ⟨_, _, hcp, setRow_heap _ _ _ _ _ _ h, by simp, ⟨rfl, rfl, rfl, by simp, fun k hk => setRow_other _ _ _ _ (by omega)⟩⟩

set_option maxHeartbeats 1600000 in
set_option maxRecDepth 100000 in
theorem bytes_any (B : Nat) (p : Option Addr) (l : List ByteArray) (w : World) (hw : Wr w B p l) (hl : (cat l).length ≤ 1073741824) :
    Calls Try.prog 20 #[.pointer (some ⟨B, 0, none⟩)] w fun e w' => e = .returned (Va.str (cat l)) ∧ Below w.heap.size w w' := by
  have HW := Lib.hid hw
  have hmk := run_make_row' (P := Try.prog) 67 5 (.int .u8 0) 1 Try.underlying67 Va.info8 rfl .i64 .i64 (cat l).length (by omega) (by omega)
  obtain ⟨M, hM⟩ : ∃ M, M = madeCells #[Value.int .u8 0] (cat l).length := ⟨_, rfl⟩
  rw [← hM] at hmk
  have HM : Hid (M.toList = List.replicate (cat l).length (.int .u8 0)) := by unfold Hid; rw [hM]; exact made _ _
  clear hM
  have c0 := hw.cl.c0
  have c1 : ∀ o, (w.alloc o).cell? ⟨B, 0, none⟩ = some (.pointer p) := fun o => (World.cell?_alloc_lt w o _ hw.cl.lt).trans c0
  have hb0 : Below w.heap.size w (w.alloc (.cells M 5)) := (Below.refl _ w).alloc (Nat.le_refl _) _
  have hg0 : (w.alloc (.cells M 5)).heap[w.heap.size]? = some (.cells M 5 (0, 0)) := heap_alloc_new w _
  have HB0 := Lib.hid hb0
  have HG0 := Lib.hid hg0
  clear hw hb0 hg0
  go_enter Try.func20, Try.ntmps20
  go_wp2_with fail
  refine (size_any B p l w HW.out).mono ?_
  rintro e w1 ⟨rfl, rfl⟩
  go_wp2_with fail
  go_loopg [4] l.length (fun k v wr => ∃ (d r : List ByteArray) (q : Option Addr) (cur : Array Value), Hid (l = d ++ r) ∧ Hid (r.length = k) ∧ v = .pointer q ∧ Hid (Chain w B q r) ∧ Hid (wr.heap[w.heap.size]? = some (.cells cur 5 (0, 0))) ∧ Hid (cur.toList = rowOf l r) ∧ Hid (Below w.heap.size w wr))
  case atStart => exact ⟨[], l, p, M, rfl, rfl, rfl, HW.out.ch, HG0.out, HM.out.trans (row_start l).symm, HB0.out⟩
  case round =>
    obtain ⟨d, r, q, cur, HD, HK, rfl, HC, HG, HR, HB⟩ := hrel
    cases r with
    | nil =>
      obtain rfl : q = none := HC.out
      have hcv := conv_row (cat l) HG.out (HR.out.trans (row_end l)) (cat l).length (cat l).length rfl
      go_wp2_with fail
      go_ret
      exact ⟨rfl, HB.out⟩
    | cons x r =>
      obtain ⟨b, q', rfl, _, hb, h0, h1, h2, hc⟩ := HC.out
      have hlen : (cat l).length = (cat d).length + (cat (x :: r)).length := by rw [HD.out, cat_append, List.length_append]; omega
      have hsz : (cat (x :: r)).length = (cat r).length + x.size := by simp [cat]
      have HS := Lib.hid hsz
      have HCC := Lib.hid hc
      have HRS := Lib.hid (row_step d r x)
      have k0 := (HB.out.cell (p := ⟨b, 0, none⟩) hb).trans h0
      have k1 := (HB.out.cell (p := ⟨b, 1, none⟩) hb).trans h1
      have hsub : IntKind.i64.wrap (((cat (x :: r)).length : Int) - (x.size : Int)) = ((cat r).length : Int) := by rw [IntKind.wrap_i64]; omega
      have hcs : cur.size = (cat l).length := by rw [← Array.length_toList, HR.out, HD.out, row_len]
      generalize (cat (x :: r)).length = c at *
      generalize (cat r).length = o at *
      have HN := Lib.hid hlen
      clear hsz hlen hc h0 h1
      have ho : o ≤ (cat l).length := by have := HN.out; have := HS.out; omega
      obtain ⟨W2, cur2, hcp, hg2, hr2, hb2⟩ := copy_step (W := wr.drew) x HG.out hcs (o := o) (by have := HN.out; have := HS.out; omega)
      have HG2 := Lib.hid hg2
      have HB2 : Hid (Below w.heap.size w W2) := HB.out.drew.trans hb2
      have HR2 : Hid (cur2.toList = rowOf l r) := by
        unfold Hid
        rw [hr2, HR.out, HD.out]
        exact HRS.out
      have k2 := (HB2.out.cell (p := ⟨b, 2, none⟩) hb).trans h2
      clear hg2 hr2 hb2 h2
      by_cases hno : (cat l).length = o
      · subst hno
        rw [if_pos rfl, Nat.sub_self] at hcp
        go_wp2_with fail
        go_region
        all_goals
          go_wp2_with fail
          go_roundg r.length
          case rel => exact ⟨d ++ [x], r, q', cur2, by unfold Hid; rw [HD.out]; simp, rfl, rfl, HCC.out, HG2.out, HR2.out, HB2.out⟩
          case measure => have := HK.out; simp at this; omega
      · rw [if_neg hno] at hcp
        go_wp2_with fail
        go_region
        all_goals
          go_wp2_with fail
          go_roundg r.length
          case rel => exact ⟨d ++ [x], r, q', cur2, by unfold Hid; rw [HD.out]; simp, rfl, rfl, HCC.out, HG2.out, HR2.out, HB2.out⟩
          case measure => have := HK.out; simp at this; omega

theorem bytes_nil (w : World) :
    Calls Try.prog 20 #[.pointer none] w fun e w' => e = .returned (.string ⟨#[]⟩) ∧ w = w' := by
  go_enter Try.func20, Try.ntmps20
  go_wp2_with fail
  go_ret
  exact ⟨rfl, rfl⟩
end Go.Proofs.Ytafcgknpehphlaa.Pk
