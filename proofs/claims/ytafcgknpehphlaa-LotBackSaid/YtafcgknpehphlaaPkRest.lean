/- What is left to be read: how its methods cut a part off. -/
import Derived.Test.YtafcgknpehphlaaPkKit
import Derived.Deep.OwnRows
import Derived.Lib.BufferWrite
namespace Go.Proofs.Ytafcgknpehphlaa.Pk
open Go.RowKit
open Va (takeR takeS)

set_option maxHeartbeats 800000 in
set_option maxRecDepth 100000 in
theorem cut_any (R : Nat) (s : ByteArray) (b : Value) (n : Nat) (w : World) (h : Bx w R (.string s) b) (hn : n ≤ s.size) :
    Calls Try.prog 60 #[.pointer (some ⟨R, 0, none⟩), .int .i64 n] w fun e w' => e = .returned (.string (s.extract 0 n)) ∧ w' = w.setCell ⟨R, 0, none⟩ (.string (s.extract n s.size)) := by
  have c0 := h.c0
  have f0 := h.f0
  clear h
  go_enter Try.func60, Try.ntmps60
  go_wp2_with fail
  go_ret
  exact ⟨rfl, rfl⟩

theorem cut_bx {W : World} {R n : Nat} {s : ByteArray} {b : Value} (h : Bx W R (.string s) b) {w' : World} (hw : w' = W.setCell ⟨R, 0, none⟩ (.string (s.extract n s.size))) : Bx w' R (.string (s.extract n s.size)) b ∧ But R W w' := by
  subst hw; exact ⟨h.set0 _, (But.refl R W).setCell (p := ⟨R, 0, none⟩) rfl _⟩

theorem takeR_le (s : List UInt8) : (takeR 9 s).2.1 ≤ s.length := by
  rcases Va.takeR_back s with ⟨_, _, h, _⟩ | ⟨_, _, h⟩
  · exact h
  · rw [h]; exact Nat.zero_le _
theorem takeS_le (s : List UInt8) : (takeS s).2.1 ≤ s.length := by
  rcases Va.takeS_back s with ⟨_, _, h, _⟩ | ⟨_, _, h⟩
  · exact h
  · rw [h]; exact Nat.zero_le _
theorem takeR_err (s : List UInt8) : (takeR 9 s).2.2 ≤ 3 := by
  unfold takeR; split <;> split <;> simp
theorem takeS_err (s : List UInt8) : (takeS s).2.2 ≤ 3 := by
  unfold takeS; split <;> split <;> simp

/-- what is taken of bytes: a number; one with a sign -/
def tkN (s : ByteArray) : Int × Nat × Nat := (((takeR 9 s.data.toList).1 : Nat), (takeR 9 s.data.toList).2.1, (takeR 9 s.data.toList).2.2)
def tkS (s : ByteArray) : Int × Nat × Nat := takeS s.data.toList

/-- a number that is read: it, what is left, the first error -/
def rdNum (t : Int × Nat × Nat) (s : ByteArray) (e : Nat) : Int × ByteArray × Nat :=
  if e = 0 then (if t.2.2 = 0 then (t.1, s.extract t.2.1 s.size, 0) else (0, s, t.2.2)) else (0, s, e)

set_option maxHeartbeats 800000 in
set_option maxRecDepth 100000 in
theorem number_take (R : Nat) (s : ByteArray) (b : Value) (w : World) (h : Bx w R (.string s) b) (hs : s.size ≤ 1099511627776) :
    Calls Try.prog 43 #[.pointer (some ⟨R, 0, none⟩), .func (.func 44) #[] #[]] w fun e w' =>
      e = .returned (.tuple #[.int .i64 (rdNum (tkN s) s 0).1, .int .i64 (rdNum (tkN s) s 0).2.2]) ∧ Bx w' R (.string (rdNum (tkN s) s 0).2.1) b ∧ But R w w' := by
  have H := Lib.hid h
  have hle : (tkN s).2.1 ≤ s.size := by rw [← byte_len']; exact takeR_le _
  have hv : Hid (Calls Try.prog 44 #[.string s] w fun e w' => e = .returned (.tuple #[.int .i64 (tkN s).1, .int .i64 (tkN s).2.1, .int .i64 (tkN s).2.2]) ∧ w = w') := Va.vtake_any s w (by unfold maxLen; omega)
  have c0 := h.c0
  clear h
  generalize tkN s = t at *
  obtain ⟨x, k, er⟩ := t
  simp only at hle
  by_cases he : er = 0
  · subst he
    have hr : Hid (rdNum (x, k, 0) s 0 = (x, s.extract k s.size, 0)) := rfl
    rw [hr.out]
    go_enter Try.func43, Try.ntmps43
    go_wp2_with fail
    refine (hv.out).mono ?_
    rintro e w1 ⟨rfl, rfl⟩
    go_wp2_with fail
    refine (cut_any R s b k w H.out hle).mono ?_
    rintro e w1 ⟨rfl, h1⟩
    have H1 := Lib.hid (cut_bx H.out h1)
    clear h1
    go_wp2_with fail
    go_ret2
    exact ⟨rfl, H1.out⟩
  · have hr : Hid (rdNum (x, k, er) s 0 = (0, s, er)) := by unfold Hid rdNum; rw [if_pos rfl, if_neg he]
    rw [hr.out]
    have hq : ((er : Int) == 0) = false := by simp; omega
    go_enter Try.func43, Try.ntmps43
    go_wp2_with fail
    refine (hv.out).mono ?_
    rintro e w1 ⟨rfl, rfl⟩
    go_wp2_with fail
    go_ret2
    exact ⟨rfl, H.out, But.refl _ _⟩

set_option maxHeartbeats 800000 in
set_option maxRecDepth 100000 in
theorem number_takes (R : Nat) (s : ByteArray) (b : Value) (w : World) (h : Bx w R (.string s) b) (hs : s.size ≤ 1099511627776) :
    Calls Try.prog 43 #[.pointer (some ⟨R, 0, none⟩), .func (.func 71) #[] #[]] w fun e w' =>
      e = .returned (.tuple #[.int .i64 (rdNum (tkS s) s 0).1, .int .i64 (rdNum (tkS s) s 0).2.2]) ∧ Bx w' R (.string (rdNum (tkS s) s 0).2.1) b ∧ But R w w' := by
  have H := Lib.hid h
  have hle : (tkS s).2.1 ≤ s.size := by rw [← byte_len']; exact takeS_le _
  have hv : Hid (Calls Try.prog 71 #[.string s] w fun e w' => e = .returned (.tuple #[.int .i64 (tkS s).1, .int .i64 (tkS s).2.1, .int .i64 (tkS s).2.2]) ∧ w = w') := Va.vtakes_any s w (by unfold maxLen; omega)
  have c0 := h.c0
  clear h
  generalize tkS s = t at *
  obtain ⟨x, k, er⟩ := t
  simp only at hle
  by_cases he : er = 0
  · subst he
    have hr : Hid (rdNum (x, k, 0) s 0 = (x, s.extract k s.size, 0)) := rfl
    rw [hr.out]
    go_enter Try.func43, Try.ntmps43
    go_wp2_with fail
    refine (hv.out).mono ?_
    rintro e w1 ⟨rfl, rfl⟩
    go_wp2_with fail
    refine (cut_any R s b k w H.out hle).mono ?_
    rintro e w1 ⟨rfl, h1⟩
    have H1 := Lib.hid (cut_bx H.out h1)
    clear h1
    go_wp2_with fail
    go_ret2
    exact ⟨rfl, H1.out⟩
  · have hr : Hid (rdNum (x, k, er) s 0 = (0, s, er)) := by unfold Hid rdNum; rw [if_pos rfl, if_neg he]
    rw [hr.out]
    have hq : ((er : Int) == 0) = false := by simp; omega
    go_enter Try.func43, Try.ntmps43
    go_wp2_with fail
    refine (hv.out).mono ?_
    rintro e w1 ⟨rfl, rfl⟩
    go_wp2_with fail
    go_ret2
    exact ⟨rfl, H.out, But.refl _ _⟩

/-- a text that is read -/
def rdText (most : Int) (s : ByteArray) (e : Nat) : ByteArray × ByteArray × Nat :=
  if e = 0 then
    (if (takeR 9 s.data.toList).2.2 = 0 then
      (if ((takeR 9 s.data.toList).1 : Int) > most then (⟨#[]⟩, s, 12)
      else if (takeR 9 s.data.toList).1 > s.size - (takeR 9 s.data.toList).2.1 then (⟨#[]⟩, s, 3)
      else (s.extract (takeR 9 s.data.toList).2.1 ((takeR 9 s.data.toList).2.1 + (takeR 9 s.data.toList).1), s.extract ((takeR 9 s.data.toList).2.1 + (takeR 9 s.data.toList).1) s.size, 0))
    else (⟨#[]⟩, s, (takeR 9 s.data.toList).2.2))
  else (⟨#[]⟩, s, e)

/-- a flag that is read -/
def rdFlag (s : ByteArray) (e : Nat) : Bool × ByteArray × Nat :=
  if e = 0 then
    (match s.data.toList with
    | [] => (false, s, 3)
    | c :: _ => if c.toNat = 0 then (false, s.extract 1 s.size, 0) else if c.toNat = 1 then (true, s.extract 1 s.size, 0) else (false, s, 2))
  else (false, s, e)

theorem extract_from (s : ByteArray) (a b : Nat) (h : a + b ≤ s.size) : (s.extract a s.size).extract 0 b = s.extract a (a + b) ∧ (s.extract a s.size).extract b (s.extract a s.size).size = s.extract (a + b) s.size := by
  constructor
  · apply ByteArray.ext; simp [ByteArray.data_extract]; rw [Nat.min_eq_left h]
  · apply ByteArray.ext; simp [ByteArray.data_extract]; rw [show min (a + (s.size - a)) s.size = s.size by omega]

set_option maxHeartbeats 800000 in
set_option maxRecDepth 100000 in
/-- a text's own bytes anew -/
theorem lite_any (s : ByteArray) (w : World) (hlim : s.size ≤ 1099511627776) :
    Calls Try.prog 76 #[.string s] w fun e w' => e = .returned (.string s) ∧ Below w.heap.size w w' := by
  by_cases h0 : s.size = 0
  · obtain rfl : s = ⟨#[]⟩ := ByteArray.ext (Array.eq_empty_of_size_eq_zero h0)
    go_enter Try.func76, Try.ntmps76
    go_wp2
    go_ret
    exact ⟨rfl, Below.refl _ _⟩
  · obtain ⟨i0, hi, hz0, hz1, hz2⟩ := info_parts Va.info8
    have hmk := run_make_row' (P := Try.prog) 67 5 (.int .u8 0) 1 Try.underlying67 Va.info8 rfl .i64 .i64 s.size (by omega) (by omega)
    obtain ⟨M, hM⟩ : ∃ M, M = madeCells #[Value.int .u8 0] s.size := ⟨_, rfl⟩
    rw [← hM] at hmk
    have hMs : M.size = s.size := by rw [hM, size_madeCells]
    clear hM
    have hg : (w.alloc (.cells M 5)).heap[w.heap.size]? = some (.cells M 5 (0, 0)) := heap_alloc_new w _
    have hcp := Lib.run_copy_row_string (P := Try.prog) (w.alloc (.cells M 5)) 67 9 3 5 w.heap.size 0 s.size s.size s M 5 Try.underlying67 (by rw [hi]; simp [hz1]) hg (Nat.le_refl _) (by omega)
    obtain ⟨W2, hW2⟩ : ∃ W2, W2 = (w.alloc (.cells M 5)).setRow w.heap.size (M.toList.take 0 ++ Lib.byteCells s.data.toList ++ M.toList.drop (0 + s.size)).toArray := ⟨_, rfl⟩
    have hg2 : W2.heap[w.heap.size]? = some (.cells (Lib.byteCells s.data.toList).toArray 5 (0, 0)) := by
      rw [hW2, setRow_heap _ _ M _ 5 (0, 0) hg]
      simp only [List.take_zero, List.nil_append]
      rw [List.drop_eq_nil_of_le (by rw [Array.length_toList]; omega), List.append_nil]
    have hb2 : Below w.heap.size w W2 := by
      rw [hW2]
      exact ((Below.refl _ w).alloc (Nat.le_refl _) _).trans ⟨rfl, rfl, rfl, by simp, fun k hk => setRow_other _ _ _ _ (by omega)⟩
    rw [← hW2] at hcp
    clear hW2 hg
    have hl := byte_len' s
    have hus := Lib.run_unsafeString_row (P := Try.prog) W2 104 3 9 5 Try.underlying104 (by kernel_rfl) w.heap.size s.size (by unfold World.shape?; rw [hg2]; simp [Lib.byteCells]) s.data.toList (by intro e; rw [e] at hl; simp at hl; omega) (by omega) (by omega)
      (fun j x hx => by
        have e : (⟨w.heap.size, 0, none⟩ : Addr).add j = ⟨w.heap.size, j, none⟩ := by unfold Addr.add; split <;> simp_all
        rw [e, World.cell?, hg2]
        simp [Lib.byteCells, hx])
    rw [hl] at hus
    have HB2 := Lib.hid hb2
    clear hb2 hg2 hl
    go_enter Try.func76, Try.ntmps76
    go_wp2
    go_ret
    exact ⟨rfl, Lib.below_freeze HB2.out (p := ⟨w.heap.size, 0, none⟩) (Nat.le_refl _) _⟩

set_option maxHeartbeats 800000 in
set_option maxRecDepth 100000 in
theorem clone_any (s : ByteArray) (w : World) (hlim : s.size ≤ 1099511627776) :
    Calls Try.prog 74 #[.string s] w fun e w' => e = .returned (.string s) ∧ Below w.heap.size w w' := by
  go_enter Try.func74, Try.ntmps74
  go_wp2_with fail
  refine (lite_any s w hlim).mono ?_
  rintro e w1 ⟨rfl, h1⟩
  go_wp2_with fail
  go_ret
  exact ⟨rfl, h1⟩
end Go.Proofs.Ytafcgknpehphlaa.Pk
