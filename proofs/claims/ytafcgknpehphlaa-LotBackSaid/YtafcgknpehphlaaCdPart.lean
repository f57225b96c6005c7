/- The bytes of parts, by the document: parts that stand in memory one behind the other. -/
import Derived.Test.YtafcgknpehphlaaPkWrite
import Derived.Deep.RegionWith
namespace Go.Proofs.Ytafcgknpehphlaa.Pk
open Go.RowKit
open Va (digs zig putD str)

/-- a part: its kind, its number, its text -/
abbrev P3 := Int × Int × ByteArray
def pd : P3 := (0, 0, ⟨#[]⟩)
/-- the part at a place -/
def at3 (ps : List P3) (j : Nat) : P3 := ps[j]?.getD pd

/-- parts that stand in memory one behind the other; or none -/
structure Pts (a : Option Addr) (len : Nat) (ps : List P3) (w : World) : Prop where
  len_is : ps.length = len
  at_ : 0 < len → ∃ b off, a = some ⟨b, off, none⟩ ∧ b < w.heap.size ∧ ∀ j, j < len → w.cell? ⟨b, off + j * 3, none⟩ = some (.int .i64 (at3 ps j).1) ∧ w.cell? ⟨b, off + j * 3 + 1, none⟩ = some (.int .i64 (at3 ps j).2.1) ∧ w.cell? ⟨b, off + j * 3 + 2, none⟩ = some (.string (at3 ps j).2.2)
  low : ∀ j, j < len → -9223372036854775808 ≤ (at3 ps j).2.1
  high : ∀ j, j < len → (at3 ps j).2.1 ≤ 9223372036854775807
theorem Pts.later {a : Option Addr} {len : Nat} {ps : List P3} {w w' : World} (h : Pts a len ps w) (hb : Below w.heap.size w w') : Pts a len ps w' :=
  ⟨h.len_is, fun hl => by
    obtain ⟨b, off, h1, h2, h3⟩ := h.at_ hl
    exact ⟨b, off, h1, Nat.lt_of_lt_of_le h2 hb.size, fun j hj => ⟨(hb.cell (p := ⟨b, off + j * 3, none⟩) h2).trans (h3 j hj).1, (hb.cell (p := ⟨b, off + j * 3 + 1, none⟩) h2).trans (h3 j hj).2.1, (hb.cell (p := ⟨b, off + j * 3 + 2, none⟩) h2).trans (h3 j hj).2.2⟩⟩, h.low, h.high⟩

set_option maxHeartbeats 1600000 in
set_option maxRecDepth 100000 in
theorem rput3_any (n : Int) (s : ByteArray) (w : World) (hs : s.size ≤ 1073741824) :
    Calls Try.prog 69 #[.agg #[.int .i64 3, .int .i64 n, .string s]] w fun e w' => e = .returned (.string ⟨(putD (s.size : Nat) ++ s.data.toList).toArray⟩) ∧ Below w.heap.size w w' := by
  have hlen := putD_len (n := ((s.size : Nat) : Int)) (by omega)
  have hap : Hid ((⟨(putD (s.size : Nat)).toArray⟩ : ByteArray) ++ s = ⟨(putD (s.size : Nat) ++ s.data.toList).toArray⟩) := by
    unfold Hid; apply ByteArray.ext; simp [ByteArray.data_append]
  have HB := Lib.hid ((Below.refl _ w).alloc (Nat.le_refl _) (.cells #[.int .i64 3, .int .i64 n, .string s] 87)).drew
  go_enter Try.func69, Try.ntmps69
  go_wp2_with fail
  go_region_with (go_at_call 21; refine (Va.rput_any (s.size : Nat) (by omega) _).mono ?_; rintro e w1 ⟨rfl, hb1⟩; have d2 : w1.cell? ⟨w.heap.size, 2, none⟩ = some (.string s) := (hb1.cell (p := ⟨w.heap.size, 2, none⟩) (by simp)).trans (by simp); have HB1 := Lib.hid (HB.out.trans (hb1.mono HB.out.size)); clear hb1)
  all_goals
    go_wp2_with fail
    go_ret
    exact ⟨congrArg (fun x => Ending.returned (.string x)) hap.out, HB1.out⟩

set_option maxHeartbeats 1600000 in
set_option maxRecDepth 100000 in
theorem rpart_any (k n : Int) (s : ByteArray) (w : World) (hf : Fits n s) :
    Calls Try.prog 69 #[.agg #[.int .i64 k, .int .i64 n, .string s]] w fun e w' => e = .returned (str (putP k n s)) ∧ Below w.heap.size w w' := by
  obtain ⟨h0, h1, h2⟩ := hf
  have HB := Lib.hid ((Below.refl _ w).alloc (Nat.le_refl _) (.cells #[.int .i64 k, .int .i64 n, .string s] 87))
  by_cases k1 : k = 1
  · subst k1
    go_enter Try.func69, Try.ntmps69
    go_wp2_with fail
    refine (Va.rput_any n h1 _).mono ?_
    rintro e w1 ⟨rfl, hb1⟩
    have HB1 := Lib.hid (HB.out.trans (hb1.mono HB.out.size))
    clear hb1
    go_wp2_with fail
    go_ret
    exact ⟨rfl, HB1.out⟩
  have q1 : (k == 1) = false := by simp [k1]
  by_cases k2 : k = 2
  · subst k2
    go_enter Try.func69, Try.ntmps69
    go_wp2_with fail
    refine (Va.rputs_any n h0 h1 _).mono ?_
    rintro e w1 ⟨rfl, hb1⟩
    have HB1 := Lib.hid (HB.out.trans (hb1.mono HB.out.size))
    clear hb1
    go_wp2_with fail
    go_ret
    exact ⟨rfl, HB1.out⟩
  have q2 : (k == 2) = false := by simp [k2]
  by_cases k3 : k = 3
  · subst k3
    exact rput3_any n s w h2
  have q3 : (k == 3) = false := by simp [k3]
  by_cases k4 : k = 4
  · subst k4
    by_cases n1 : n = 1
    · subst n1
      go_enter Try.func69, Try.ntmps69
      go_wp2_with fail
      go_ret
      exact ⟨rfl, HB.out⟩
    · have hr : putP 4 n s = [0] := by simp [putP, n1]
      rw [hr]
      have qn : (n == 1) = false := by simp [n1]
      go_enter Try.func69, Try.ntmps69
      go_wp2_with fail
      go_ret
      exact ⟨rfl, HB.out⟩
  have q4 : (k == 4) = false := by simp [k4]
  have hr : putP k n s = [] := by simp [putP, k1, k2, k3, k4]
  rw [hr]
  go_enter Try.func69, Try.ntmps69
  go_wp2_with fail
  go_ret
  exact ⟨rfl, HB.out⟩
/-- the bytes of parts -/
def putAll (ps : List P3) : List UInt8 := ps.flatMap fun p => putP p.1 p.2.1 p.2.2
theorem putAll_snoc (ps : List P3) (k : Nat) (h : k < ps.length) : putAll (ps.take (k + 1)) = putAll (ps.take k) ++ putP (at3 ps k).1 (at3 ps k).2.1 (at3 ps k).2.2 := by
  unfold putAll at3
  rw [List.take_succ_eq_append_getElem h, List.flatMap_append, List.getElem?_eq_getElem h]
  simp
theorem putP_len {k n : Int} {s : ByteArray} (h : Fits n s) : (putP k n s).length ≤ s.size + 10 := by
  obtain ⟨h0, h1, h2⟩ := h
  unfold putP
  split
  · have := putD_len h1; omega
  · split
    · have := Va.digs_len10 (Va.zig_lt h0 h1); omega
    · split
      · have := putD_len (n := ((s.size : Nat) : Int)) (by omega)
        rw [List.length_append, byte_len]; omega
      · split <;> simp

/-- the cells of the part at a place -/
theorem Pts.cells {a : Option Addr} {len : Nat} {ps : List P3} {w : World} (h : Pts a len ps w) {b off : Nat} (ha : a = some ⟨b, off, none⟩) {k : Nat} (hk : k < len) {K N : Int} {S : ByteArray} (e : at3 ps k = (K, N, S)) :
    w.cell? ⟨b, off + k * 3, none⟩ = some (.int .i64 K) ∧ w.cell? ⟨b, off + k * 3 + 1, none⟩ = some (.int .i64 N) ∧ w.cell? ⟨b, off + k * 3 + 2, none⟩ = some (.string S) := by
  obtain ⟨b', off', h1, _, h3⟩ := h.at_ (by omega)
  rw [ha] at h1
  injection h1 with h1; injection h1 with e1 e2
  subst e1; subst e2
  have := h3 k hk
  rw [e] at this
  exact this


set_option maxHeartbeats 3200000 in
set_option maxRecDepth 100000 in
theorem rbytes_any (a : Option Addr) (len cap : Nat) (ps : List P3) (w : World) (hp : Pts a len ps w) (hl : len ≤ 40) (hs : ∀ j, j < len → (at3 ps j).2.2.size ≤ 1000) :
    Calls Try.prog 58 #[.slice a len cap] w fun e w' => e = .returned (str (putAll ps)) ∧ Below w.heap.size w w' := by
  have HP := Lib.hid hp
  have HS := Lib.hid hs
  have HL := Lib.hid hl
  clear hp hs hl
  go_enter Try.func58, Try.ntmps58
  go_wp2_with fail
  go_loopw [3, 4] (fun v i wr => ∃ (k : Nat), k ≤ len ∧ i = .int .i64 k ∧ v = str (putAll (ps.take k)) ∧ Hid ((putAll (ps.take k)).length ≤ 1010 * k) ∧ Hid (Below w.heap.size w wr)) (fun _ i _ => len - (intOf i).toNat)
  case atStart => exact ⟨0, by omega, rfl, rfl, Nat.le_refl _, Below.refl _ _⟩
  case round =>
    obtain ⟨k, hk, rfl, rfl, HN, HB⟩ := hrel
    have hl40 := HL.out
    by_cases hkl : k < len
    · obtain ⟨b, off, rfl, hbs, _⟩ := HP.out.at_ (by omega)
      obtain ⟨⟨K, N, S⟩, hT⟩ : ∃ t, at3 ps k = t := ⟨_, rfl⟩
      have hlo := HP.out.low k hkl
      have hhi := HP.out.high k hkl
      have hsz := HS.out k hkl
      have hsn := putAll_snoc ps k (by rw [HP.out.len_is]; exact hkl)
      rw [hT] at hlo hhi hsz hsn
      simp only at hlo hhi hsz hsn
      have HSN := Lib.hid hsn
      have FT : Hid (Fits N S) := ⟨hlo, hhi, by omega⟩
      have HPL := Lib.hid (putP_len (k := K) FT.out)
      have HT := Lib.hid hT
      clear hsn hT hlo hhi
      obtain ⟨c0, c1, c2⟩ := (HP.out.later HB.out).cells rfl hkl HT.out
      go_wp2_with fail
      refine (rpart_any K N S wr FT.out).mono ?_
      rintro e w3 ⟨rfl, b3⟩
      have B3 : Hid (Below w.heap.size w w3) := HB.out.trans (b3.mono HB.out.size)
      clear b3 c0 c1 c2
      have hn1 := HN.out
      have hn2 := HPL.out
      have HN1 : Hid ((putAll (ps.take (k + 1))).length ≤ 1010 * (k + 1)) := by unfold Hid; rw [HSN.out, List.length_append]; omega
      go_wp2_with fail
      rw [Va.str_app, ← HSN.out]
      go_roundw
      case rel => exact ⟨k + 1, by omega, by go_num, rfl, HN1.out, B3.out⟩
      case measure => simp [intOf]; omega
    · obtain rfl : k = len := by omega
      go_wp2_with fail
      go_ret
      exact ⟨by rw [← HP.out.len_is, List.take_length]; rfl, HB.out⟩
end Go.Proofs.Ytafcgknpehphlaa.Pk
