/- A writer: what it has written, and how a part is laid behind it. -/
import Derived.Test.YtafcgknpehphlaaPkKit
import Derived.Deep.RegionWith
namespace Go.Proofs.Ytafcgknpehphlaa.Pk
open Go.RowKit

set_option maxHeartbeats 800000 in
set_option maxRecDepth 100000 in
theorem size_any (B : Nat) (p : Option Addr) (l : List ByteArray) (w : World) (hw : Wr w B p l) :
    Calls Try.prog 39 #[.pointer (some ⟨B, 0, none⟩)] w fun e w' => e = .returned (.int .i64 ((cat l).length : Nat)) ∧ w = w' := by
  have c0 := hw.cl.c0
  have hch := hw.ch
  clear hw
  cases l with
  | nil =>
    obtain rfl : p = none := hch
    go_enter Try.func39, Try.ntmps39
    go_wp2
    go_ret
    exact ⟨rfl, rfl⟩
  | cons x r =>
    obtain ⟨b, q, rfl, _, hb, _, h1, _, _⟩ := hch
    generalize (cat (x :: r)).length = n at h1 ⊢
    go_enter Try.func39, Try.ntmps39
    go_wp2
    go_ret
    exact ⟨rfl, rfl⟩

theorem byte_len (s : ByteArray) : s.data.toList.length = s.size := by simp

theorem Wr.add {w : World} {B : Nat} {p : Option Addr} {l : List ByteArray} (h : Wr w B p l) (s : ByteArray) (ty : TypeId) :
    Wr ((w.alloc (.cells #[.string s, .int .i64 ((cat l).length + s.size : Nat), .pointer p] ty)).setCell ⟨B, 0, none⟩ (.pointer (some ⟨w.heap.size, 0, none⟩))) B (some ⟨w.heap.size, 0, none⟩) (s :: l) := by
  have hb : Below w.heap.size w (w.alloc (.cells #[.string s, .int .i64 ((cat l).length + s.size : Nat), .pointer p] ty)) := (Below.refl _ _).alloc (Nat.le_refl _) _
  have hlt := h.cl.lt
  have e0 := Below.heap_setCell (w.alloc (.cells #[.string s, .int .i64 ((cat l).length + s.size : Nat), .pointer p] ty)) ⟨B, 0, none⟩ (.pointer (some ⟨w.heap.size, 0, none⟩))
  refine ⟨(h.cl.later hb).set _, w.heap.size, p, rfl, hlt, by simp, ?_, ?_, ?_, (h.later hb).ch.later (fun k hk _ => e0 k (by show k ≠ B; omega)) (by simp)⟩
  · rw [World.cell?_setCell_other _ _ _ _ (by intro h; injection h with h; omega)]; simp
  · rw [World.cell?_setCell_other _ _ _ _ (by intro h; injection h with h; omega)]
    simp only [cat, List.length_append, byte_len]; simp
  · rw [World.cell?_setCell_other _ _ _ _ (by intro h; injection h with h; omega)]; simp

set_option maxHeartbeats 800000 in
set_option maxRecDepth 100000 in
theorem add_any (B : Nat) (p : Option Addr) (l : List ByteArray) (s : ByteArray) (w : World) (hw : Wr w B p l) (hl : (cat l).length + s.size ≤ 1099511627776) :
    Calls Try.prog 34 #[.pointer (some ⟨B, 0, none⟩), .string s] w fun e w' => e = .returned (.tuple #[]) ∧ (∃ q, Wr w' B q (s :: l)) ∧ But B w w' := by
  have HW := Lib.hid hw
  have HD := Lib.hid (hw.later ((Below.refl _ _).drew))
  have c0 := hw.cl.c0
  have c1 : ∀ o, (w.alloc o).cell? ⟨B, 0, none⟩ = some (.pointer p) := fun o => (World.cell?_alloc_lt w o _ hw.cl.lt).trans c0
  have c2 : ∀ o, (w.alloc o).frozen? ⟨B, 0, none⟩ = false := fun o => (World.frozen?_alloc_old w o _ (Nat.ne_of_lt hw.cl.lt)).trans hw.cl.f0
  have HL := Lib.hid (show IntKind.i64.wrap (((cat l).length : Int) + (s.size : Int)) = (((cat l).length + s.size : Nat) : Int) by simp [IntKind.wrap, IntKind.bits, IntKind.signed]; omega)
  clear hw
  go_enter Try.func34, Try.ntmps34
  go_wp2_with fail
  go_region_with (go_at_call 39; refine (size_any B p l _ HD.out).mono ?_; rintro e w1 ⟨rfl, rfl⟩)
  all_goals
    go_wp2_with fail
    go_end0
    rw [HL.out]
    exact ⟨rfl, ⟨_, (HW.out.add s _).later ((Below.refl _ _).drew)⟩, (((But.refl B w).alloc _).setCell rfl _).drew⟩
end Go.Proofs.Ytafcgknpehphlaa.Pk
