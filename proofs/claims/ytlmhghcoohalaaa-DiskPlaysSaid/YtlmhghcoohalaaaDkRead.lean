/- What is read of a disk: where a file stands, why nothing can be done with it, its bytes, all names, how many bytes all files have. -/
import Derived.Test.YtlmhghcoohalaaaDkFind
namespace Go.Proofs.Ytlmhghcoohalaaa.Dk
open Go.RowKit

theorem drewN_below {B : Nat} {a w : World} (h : Below B a w) (n : Nat) : Below B a (w.drewN n) := h.trans ⟨rfl, rfl, rfl, Nat.le_refl _, fun _ _ => rfl⟩

/-- two boxes for what the closure asks -/
theorem asks_boxes (base : Nat) (w : World) (n : ByteArray) (a : Option Addr) (len cap : Nat) (L : List En) (hl : L.length = len) (hrow : w.ownsRow base 64 1 (.slice a len cap) len (L.map ptr)) (hall : ∀ e ∈ L, Fl base w e) :
    Asks ((w.alloc (.cells #[.string n] 9)).alloc (.cells #[.slice a len cap] 29)) base w.heap.size (w.heap.size + 1) n (.slice a len cap) L := by
  subst hl
  have hb : Below w.heap.size w ((w.alloc (.cells #[.string n] 9)).alloc (.cells #[.slice a L.length cap] 29)) := ((Below.refl _ _).alloc (Nat.le_refl _) _).alloc (by simp) _
  refine ⟨by simp, by simp, row_at hrow fun k cs _ hc => (hb.block k (lt_of_block hc)).trans hc, fun e he => ?_⟩
  obtain ⟨h1, h2, h3⟩ := hall e he
  exact ⟨(hb.block _ (lt_of_block h1)).trans h1, h2, row_at h3 fun k cs _ hc => (hb.block k (lt_of_block hc)).trans hc⟩

set_option maxHeartbeats 800000 in
theorem find_at (base B : Nat) (s : St) (v : Value) (L : List En) (n : ByteArray) (w : World) (h : DkAt base w B s v L) (hs : Sorted s.fs) (hl : L.length ≤ 1000000) :
    Calls Try.prog 38 #[.pointer (some ⟨B, 0, none⟩), .string n] w fun e w' => e = .returned (.tuple #[.int .i64 (pos s.fs n : Nat), .bool (has s.fs n)]) ∧ Below w.heap.size w w' := by
  have hb1 : Below w.heap.size w (w.alloc (.cells #[.string n] 9)) := (Below.refl _ _).alloc (Nat.le_refl _) _
  obtain ⟨a, cap, rfl, _⟩ := row_slice h.row
  have HA := Lib.hid (all_any base B s _ L _ ((h.later hb1).later ((Below.refl _ (w.alloc (.cells #[.string n] 9))).alloc (Nat.le_refl _) (.cells #[.slice none 0 0] 29))))
  have HA1 := Lib.hid (all_any base B s _ L _ (h.later hb1))
  have hq := h.fs
  have hs2 : Sorted (L.map (·.f)) := by rw [← hq]; exact hs
  have HS := Lib.hid (search_any base w.heap.size (w.heap.size + 1) n (.slice a L.length cap) L _ (asks_boxes base w n a _ cap L rfl h.row h.all) hs2 hl)
  rw [hq]
  clear h hs hs2 hb1 hq
  generalize pos (L.map (·.f)) n = p at *
  generalize has (L.map (·.f)) n = b at *
  generalize L.length = len at *
  go_enter Try.func38, Try.ntmps38
  go_wp2_with fail
  refine HA1.out.mono ?_
  rintro e w1 ⟨rfl, rfl⟩
  go_wp2_with fail
  refine HS.out.mono ?_
  rintro e w1 ⟨rfl, q, rfl⟩
  go_wp2_with fail
  go_ret2
  exact ⟨rfl, drewN_below (((Below.refl _ _).alloc (Nat.le_refl _) _).alloc (by simp) _) q⟩
theorem find_any (base B : Nat) (s : St) (n : ByteArray) (w : World) (h : Dk base w B s) (ho : Ok s) :
    Calls Try.prog 38 #[.pointer (some ⟨B, 0, none⟩), .string n] w fun e w' => e = .returned (.tuple #[.int .i64 (pos s.fs n : Nat), .bool (has s.fs n)]) ∧ Below w.heap.size w w' := by
  obtain ⟨v, L, h⟩ := h
  exact find_at base B s v L n w h ho.sorted (by have := ho.few; have h2 := h.fs; rw [h2, List.length_map] at this; omega)
set_option maxHeartbeats 800000 in
theorem find_nil (n : ByteArray) (w : World) :
    Calls Try.prog 38 #[.pointer none, .string n] w fun e w' => e = .returned (.tuple #[.int .i64 0, .bool false]) ∧ Below w.heap.size w w' := by
  have HS := Lib.hid (search_any 0 w.heap.size (w.heap.size + 1) n (.slice none 0 0) [] _ (asks_boxes 0 w n none 0 0 [] rfl (World.ownsRow_nil _ _ _ _) (fun _ h => by cases h)) List.Pairwise.nil (by simp))
  go_enter Try.func38, Try.ntmps38
  go_wp2_with fail
  refine (all_nil _).mono ?_
  rintro e w1 ⟨rfl, rfl⟩
  go_wp2_with fail
  refine HS.out.mono ?_
  rintro e w1 ⟨rfl, q, rfl⟩
  go_wp2_with fail
  go_ret2
  exact ⟨rfl, drewN_below (((Below.refl _ _).alloc (Nat.le_refl _) _).alloc (by simp) _) q⟩

/-- where a file stands, if something can be done with it -/
def lookAt (s : St) (n : ByteArray) : Nat := if look s n = 0 then pos s.fs n else 0
theorem look_off {s : St} {n : ByteArray} (h : s.on = false) : look s n = 9 ∧ lookAt s n = 0 := by
  have : look s n = 9 := by simp [look, h]
  exact ⟨this, by simp [lookAt, this]⟩
theorem look_no {s : St} {n : ByteArray} (h : s.on = true) (k : has s.fs n = false) : look s n = 7 ∧ lookAt s n = 0 := by
  have : look s n = 7 := by simp [look, h, k]
  exact ⟨this, by simp [lookAt, this]⟩
theorem look_yes {s : St} {n : ByteArray} (h : s.on = true) (k : has s.fs n = true) : look s n = 0 ∧ lookAt s n = pos s.fs n := by
  have : look s n = 0 := by simp [look, h, k]
  exact ⟨this, by simp [lookAt, this]⟩
set_option maxHeartbeats 800000 in
theorem look_any (base B : Nat) (s : St) (n : ByteArray) (w : World) (h : Dk base w B s) (ho : Ok s) :
    Calls Try.prog 36 #[.pointer (some ⟨B, 0, none⟩), .string n] w fun e w' => e = .returned (.tuple #[(.int .i64 (lookAt s n : Int)), .int .i64 (look s n)]) ∧ Below w.heap.size w w' := by
  have HF := Lib.hid (find_any base B s n w h ho)
  have HD := Lib.hid h
  clear h ho
  go_enter Try.func36, Try.ntmps36
  go_wp2_with fail
  refine HF.out.mono ?_
  rintro e w1 ⟨rfl, hb⟩
  have HB := Lib.hid hb
  go_wp2_with fail
  refine (on_any base B s w1 (HD.out.later hb)).mono ?_
  rintro e w1 ⟨rfl, rfl⟩
  clear hb
  cases hon : s.on with
  | false =>
    have HL := Lib.hid (look_off (n := n) hon)
    go_wp2_with fail
    go_ret2
    exact ⟨by rw [HL.out.1, HL.out.2]; rfl, HB.out⟩
  | true =>
    cases hh : has s.fs n with
    | false =>
      have HL := Lib.hid (look_no hon hh)
      go_wp2_with fail
      go_ret2
      exact ⟨by rw [HL.out.1, HL.out.2]; rfl, HB.out⟩
    | true =>
      have HL := Lib.hid (look_yes hon hh)
      go_wp2_with fail
      go_ret2
      exact ⟨by rw [HL.out.1, HL.out.2]; rfl, HB.out⟩
theorem look_nil (n : ByteArray) (w : World) :
    Calls Try.prog 36 #[.pointer none, .string n] w fun e w' => e = .returned (.tuple #[.int .i64 0, .int .i64 9]) ∧ Below w.heap.size w w' := by
  go_enter Try.func36, Try.ntmps36
  go_wp2_with fail
  refine (find_nil n w).mono ?_
  rintro e w1 ⟨rfl, hb⟩
  go_wp2_with fail
  refine (on_nil _).mono ?_
  rintro e w1 ⟨rfl, rfl⟩
  go_wp2_with fail
  go_ret2
  exact ⟨rfl, hb⟩

/-- a file's cells, as the walk reads them -/
theorem En.reads {base B : Nat} {s : St} {v : Value} {L : List En} {w : World} (h : DkAt base w B s v L) {k : Nat} {e : En} (he : L[k]? = some e) :
    ∃ g cap, v = .slice (some ⟨g, 0, none⟩) L.length cap ∧ k < L.length ∧ w.cell? ⟨B, 3, none⟩ = some (.slice (some ⟨g, 0, none⟩) L.length cap) ∧ w.cell? ⟨g, k, none⟩ = some (.pointer (some ⟨e.b, 0, none⟩)) ∧
      w.cell? ⟨e.b, 0, none⟩ = some (.string e.f.nm) ∧ w.cell? ⟨e.b, 1, none⟩ = some e.v ∧ w.cell? ⟨e.b, 2, none⟩ = some (.int .i64 (e.f.su : Int)) := by
  obtain ⟨a, cap, rfl, _, _, hc⟩ := row_slice h.row
  have hlt : k < L.length := (List.getElem?_eq_some_iff.1 he).1
  obtain ⟨g, rfl, _, _, hg⟩ := hc (by omega)
  obtain ⟨h1, _, _⟩ := h.all e (List.mem_of_getElem? he)
  exact ⟨g, cap, rfl, hlt, blk_cell h.blk rfl, hg k (ptr e) (by rw [List.getElem?_map, he]; rfl), blk_cell h1 rfl, blk_cell h1 rfl, blk_cell h1 rfl⟩
theorem En.here {base B : Nat} {s : St} {v : Value} {L : List En} {w : World} (h : DkAt base w B s v L) (ho : Ok s) {n : ByteArray} (hh : has s.fs n = true) : ∃ e, L[pos s.fs n]? = some e ∧ e.f = at_ s.fs (pos s.fs n) ∧ e.f.nm = n := by
  obtain ⟨f, h1, h2⟩ := has_at ho.sorted hh
  have h3 := h1
  rw [h.fs, List.getElem?_map] at h3
  obtain ⟨e, he, rfl⟩ := Option.map_eq_some_iff.1 h3
  rw [← h.fs] at he
  exact ⟨e, he, (at_some h1).symm, h2⟩

def sureOf (s : St) (n : ByteArray) : Nat := if has s.fs n then (at_ s.fs (pos s.fs n)).su else 0
set_option maxHeartbeats 800000 in
theorem sure_any (base B : Nat) (s : St) (n : ByteArray) (w : World) (h : Dk base w B s) (ho : Ok s) :
    Calls Try.prog 21 #[.pointer (some ⟨B, 0, none⟩), .string n] w fun e w' => e = .returned ((.int .i64 (sureOf s n : Int))) ∧ Below w.heap.size w w' := by
  have HF := Lib.hid (find_any base B s n w h ho)
  have HD := Lib.hid h
  have HO := Lib.hid ho
  clear h ho
  go_enter Try.func21, Try.ntmps21
  go_wp2_with fail
  refine HF.out.mono ?_
  rintro e w1 ⟨rfl, hb⟩
  have HB := Lib.hid hb
  have H1 := Lib.hid (HD.out.later hb)
  clear hb
  cases hh : has s.fs n with
  | false =>
    have HL : Hid (sureOf s n = 0) := by show sureOf s n = 0; simp [sureOf, hh]
    go_wp2_with fail
    go_ret
    exact ⟨by rw [HL.out]; rfl, HB.out⟩
  | true =>
    have HL : Hid (sureOf s n = (at_ s.fs (pos s.fs n)).su) := by show sureOf s n = _; simp [sureOf, hh]
    obtain ⟨v, L, h1⟩ := H1.out
    obtain ⟨e, he, hef, _⟩ := En.here h1 HO.out hh
    obtain ⟨g, cap, rfl, hlt, c3, cg, _, _, c2⟩ := En.reads h1 he
    have hlt' : ((pos s.fs n : Nat) : Int) < (L.length : Int) := by omega
    rw [hef] at c2
    clear he h1 hef
    generalize at_ s.fs (pos s.fs n) = x at *
    generalize pos s.fs n = p at *
    generalize L.length = len at *
    go_wp2_with fail
    go_ret
    exact ⟨by rw [HL.out]; rfl, HB.out⟩
theorem sure_nil (n : ByteArray) (w : World) :
    Calls Try.prog 21 #[.pointer none, .string n] w fun e w' => e = .returned (.int .i64 0) ∧ Below w.heap.size w w' := by
  go_enter Try.func21, Try.ntmps21
  go_wp2_with fail
  refine (find_nil n w).mono ?_
  rintro e w1 ⟨rfl, hb⟩
  go_wp2_with fail
  go_ret
  exact ⟨rfl, hb⟩
end Go.Proofs.Ytlmhghcoohalaaa.Dk
