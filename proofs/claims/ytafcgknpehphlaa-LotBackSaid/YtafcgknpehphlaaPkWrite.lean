/- A writer's methods: what each lays behind what was written; of nil: nothing. -/
import Derived.Test.YtafcgknpehphlaaPkAdd
namespace Go.Proofs.Ytafcgknpehphlaa.Pk
open Go.RowKit
open Va (digs zig putD str)

set_option maxHeartbeats 800000 in
set_option maxRecDepth 100000 in
theorem add_nil (s : ByteArray) (w : World) :
    Calls Try.prog 34 #[.pointer none, .string s] w fun e w' => e = .returned (.tuple #[]) ∧ w = w' := by
  go_enter Try.func34, Try.ntmps34
  go_wp2
  go_end0
  exact ⟨rfl, rfl⟩

/-- what a call of a writer leaves: the part stands behind the others -/
def Left (B : Nat) (l : List ByteArray) (d : List UInt8) (w w' : World) : Prop := (∃ q l', Wr w' B q l' ∧ cat l' = cat l ++ d) ∧ But B w w'
theorem Left.of {B : Nat} {l : List ByteArray} {s : ByteArray} {d : List UInt8} {w w1 w2 : World} (h1 : Below w.heap.size w w1) (h2 : (∃ q, Wr w2 B q (s :: l)) ∧ But B w1 w2) (hd : s.data.toList = d) : Left B l d w w2 := by
  obtain ⟨⟨q, hq⟩, hb⟩ := h2
  exact ⟨⟨q, _, hq, by simp only [cat]; rw [hd]⟩, (But.of_below h1).trans hb⟩

theorem putD_len {n : Int} (h : n ≤ 9223372036854775807) : (putD n).length ≤ 10 := by
  unfold putD
  split
  · exact Va.digs_len10 (by omega)
  · simp

set_option maxHeartbeats 800000 in
set_option maxRecDepth 100000 in
theorem wnum_any (B : Nat) (p : Option Addr) (l : List ByteArray) (n : Int) (w : World) (hw : Wr w B p l) (hl : (cat l).length ≤ 1073741824) (hn : n ≤ 9223372036854775807) :
    Calls Try.prog 18 #[.pointer (some ⟨B, 0, none⟩), .int .i64 n] w fun e w' => e = .returned (.tuple #[]) ∧ Left B l (putD n) w w' := by
  have HW := Lib.hid hw
  have HL := Lib.hid (putD_len hn)
  clear hw
  go_enter Try.func18, Try.ntmps18
  go_wp2_with fail
  refine (Va.vput_any n hn w).mono ?_
  rintro e w1 ⟨rfl, hb1⟩
  go_wp2_with fail
  refine (add_any B p l _ w1 (HW.out.later hb1) (by have := HL.out; simp [ByteArray.size]; omega)).mono ?_
  rintro e w2 ⟨rfl, h2⟩
  go_wp2_with fail
  go_end0
  exact ⟨rfl, Left.of hb1 h2 (by simp)⟩

set_option maxHeartbeats 800000 in
set_option maxRecDepth 100000 in
theorem wnum_nil (n : Int) (w : World) (hn : n ≤ 9223372036854775807) :
    Calls Try.prog 18 #[.pointer none, .int .i64 n] w fun e w' => e = .returned (.tuple #[]) ∧ Below w.heap.size w w' := by
  go_enter Try.func18, Try.ntmps18
  go_wp2_with fail
  refine (Va.vput_any n hn w).mono ?_
  rintro e w1 ⟨rfl, hb1⟩
  go_wp2_with fail
  refine (add_nil _ w1).mono ?_
  rintro e w2 ⟨rfl, rfl⟩
  go_wp2_with fail
  go_end0
  exact ⟨rfl, hb1⟩

set_option maxHeartbeats 800000 in
set_option maxRecDepth 100000 in
theorem wsigned_any (B : Nat) (p : Option Addr) (l : List ByteArray) (n : Int) (w : World) (hw : Wr w B p l) (hl : (cat l).length ≤ 1073741824) (h0 : -9223372036854775808 ≤ n) (hn : n ≤ 9223372036854775807) :
    Calls Try.prog 37 #[.pointer (some ⟨B, 0, none⟩), .int .i64 n] w fun e w' => e = .returned (.tuple #[]) ∧ Left B l (digs (zig n)) w w' := by
  have HW := Lib.hid hw
  have HL := Lib.hid (Va.digs_len10 (Va.zig_lt h0 hn))
  clear hw
  go_enter Try.func37, Try.ntmps37
  go_wp2_with fail
  refine (Va.vputs_any n h0 hn w).mono ?_
  rintro e w1 ⟨rfl, hb1⟩
  go_wp2_with fail
  refine (add_any B p l _ w1 (HW.out.later hb1) (by have := HL.out; simp [ByteArray.size]; omega)).mono ?_
  rintro e w2 ⟨rfl, h2⟩
  go_wp2_with fail
  go_end0
  exact ⟨rfl, Left.of hb1 h2 (by simp)⟩

set_option maxHeartbeats 800000 in
set_option maxRecDepth 100000 in
theorem wsigned_nil (n : Int) (w : World) (h0 : -9223372036854775808 ≤ n) (hn : n ≤ 9223372036854775807) :
    Calls Try.prog 37 #[.pointer none, .int .i64 n] w fun e w' => e = .returned (.tuple #[]) ∧ Below w.heap.size w w' := by
  go_enter Try.func37, Try.ntmps37
  go_wp2_with fail
  refine (Va.vputs_any n h0 hn w).mono ?_
  rintro e w1 ⟨rfl, hb1⟩
  go_wp2_with fail
  refine (add_nil _ w1).mono ?_
  rintro e w2 ⟨rfl, rfl⟩
  go_wp2_with fail
  go_end0
  exact ⟨rfl, hb1⟩

set_option maxHeartbeats 800000 in
set_option maxRecDepth 100000 in
theorem wtext_any (B : Nat) (p : Option Addr) (l : List ByteArray) (s : ByteArray) (w : World) (hw : Wr w B p l) (hl : (cat l).length ≤ 1073741824) (hs : s.size ≤ 1073741824) :
    Calls Try.prog 36 #[.pointer (some ⟨B, 0, none⟩), .string s] w fun e w' => e = .returned (.tuple #[]) ∧ Left B l (putD (s.size : Nat) ++ s.data.toList) w w' := by
  have HW := Lib.hid hw
  have hlen := putD_len (n := ((s.size : Nat) : Int)) (by omega)
  clear hw
  go_enter Try.func36, Try.ntmps36
  go_wp2_with fail
  refine (Va.vput_any (s.size : Nat) (by omega) w).mono ?_
  rintro e w1 ⟨rfl, hb1⟩
  go_wp2_with fail
  refine (add_any B p l _ w1 (HW.out.later hb1) (by rw [ByteArray.size_append, show ByteArray.size ⟨(putD (s.size : Nat)).toArray⟩ = (putD (s.size : Nat)).length from List.size_toArray]; omega)).mono ?_
  rintro e w2 ⟨rfl, h2⟩
  go_wp2_with fail
  go_end0
  exact ⟨rfl, Left.of hb1 h2 (by simp [ByteArray.data_append])⟩

set_option maxHeartbeats 800000 in
set_option maxRecDepth 100000 in
theorem wtext_nil (s : ByteArray) (w : World) (hs : s.size ≤ 1073741824) :
    Calls Try.prog 36 #[.pointer none, .string s] w fun e w' => e = .returned (.tuple #[]) ∧ Below w.heap.size w w' := by
  have hlen := putD_len (n := ((s.size : Nat) : Int)) (by omega)
  go_enter Try.func36, Try.ntmps36
  go_wp2_with fail
  refine (Va.vput_any (s.size : Nat) (by omega) w).mono ?_
  rintro e w1 ⟨rfl, hb1⟩
  go_wp2_with fail
  refine (add_nil _ w1).mono ?_
  rintro e w2 ⟨rfl, rfl⟩
  go_wp2_with fail
  go_end0
  exact ⟨rfl, hb1⟩

set_option maxHeartbeats 800000 in
set_option maxRecDepth 100000 in
theorem wflag_true (B : Nat) (p : Option Addr) (l : List ByteArray)  (w : World) (hw : Wr w B p l) (hl : (cat l).length ≤ 1073741824) :
    Calls Try.prog 38 #[.pointer (some ⟨B, 0, none⟩), .bool true] w fun e w' => e = .returned (.tuple #[]) ∧ Left B l [1] w w' := by
  have HW := Lib.hid hw
  clear hw
  go_enter Try.func38, Try.ntmps38
  go_wp2_with fail
  refine (add_any B p l ⟨#[1]⟩ w HW.out (by have e : ByteArray.size ⟨#[1]⟩ = 1 := rfl; omega)).mono ?_
  rintro e w2 ⟨rfl, h2⟩
  go_wp2_with fail
  go_end0
  exact ⟨rfl, Left.of (Below.refl _ _) h2 rfl⟩

set_option maxHeartbeats 800000 in
set_option maxRecDepth 100000 in
theorem wflag_true_nil  (w : World) :
    Calls Try.prog 38 #[.pointer none, .bool true] w fun e w' => e = .returned (.tuple #[]) ∧ Below w.heap.size w w' := by
  go_enter Try.func38, Try.ntmps38
  go_wp2_with fail
  refine (add_nil _ w).mono ?_
  rintro e w2 ⟨rfl, rfl⟩
  go_wp2_with fail
  go_end0
  exact ⟨rfl, Below.refl _ _⟩

set_option maxHeartbeats 800000 in
set_option maxRecDepth 100000 in
theorem wflag_false (B : Nat) (p : Option Addr) (l : List ByteArray)  (w : World) (hw : Wr w B p l) (hl : (cat l).length ≤ 1073741824) :
    Calls Try.prog 38 #[.pointer (some ⟨B, 0, none⟩), .bool false] w fun e w' => e = .returned (.tuple #[]) ∧ Left B l [0] w w' := by
  have HW := Lib.hid hw
  clear hw
  go_enter Try.func38, Try.ntmps38
  go_wp2_with fail
  refine (add_any B p l ⟨#[0]⟩ w HW.out (by have e : ByteArray.size ⟨#[0]⟩ = 1 := rfl; omega)).mono ?_
  rintro e w2 ⟨rfl, h2⟩
  go_wp2_with fail
  go_end0
  exact ⟨rfl, Left.of (Below.refl _ _) h2 rfl⟩

set_option maxHeartbeats 800000 in
set_option maxRecDepth 100000 in
theorem wflag_false_nil  (w : World) :
    Calls Try.prog 38 #[.pointer none, .bool false] w fun e w' => e = .returned (.tuple #[]) ∧ Below w.heap.size w w' := by
  go_enter Try.func38, Try.ntmps38
  go_wp2_with fail
  refine (add_nil _ w).mono ?_
  rintro e w2 ⟨rfl, rfl⟩
  go_wp2_with fail
  go_end0
  exact ⟨rfl, Below.refl _ _⟩

/-- the bytes of a part -/
def putP (k n : Int) (s : ByteArray) : List UInt8 :=
  if k = 1 then putD n else if k = 2 then digs (zig n) else if k = 3 then putD (s.size : Nat) ++ s.data.toList else if k = 4 then [if n = 1 then 1 else 0] else []

/-- what a part of a list may be -/
structure Fits (n : Int) (s : ByteArray) : Prop where
  low : -9223372036854775808 ≤ n
  high : n ≤ 9223372036854775807
  size : s.size ≤ 1073741824
end Go.Proofs.Ytafcgknpehphlaa.Pk
