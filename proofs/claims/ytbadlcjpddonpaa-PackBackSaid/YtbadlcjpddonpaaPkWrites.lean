/- The first law of layer 5: what is written of parts. -/
import Derived.Test.YtbadlcjpddonpaaPkPut
namespace Go.Proofs.Ytbadlcjpddonpaa.Pk
open Go.RowKit
open Va (digs zig putD str)

/-- the bytes of parts -/
def putAll (ps : List P3) : List UInt8 := ps.flatMap fun p => putP p.1 p.2.1 p.2.2
theorem putAll_snoc (ps : List P3) (k : Nat) (h : k < ps.length) : putAll (ps.take (k + 1)) = putAll (ps.take k) ++ putP (at3 ps k).1 (at3 ps k).2.1 (at3 ps k).2.2 := by
  unfold putAll at3
  rw [List.take_succ_eq_append_getElem h, List.flatMap_append, List.getElem?_eq_getElem h]
  simp
theorem putP_len {k n : Int} {s : ByteArray} (h : Fits n s) : (putP k n s).length ≤ s.size + 10 := by
  obtain ⟨h0, h1, h2⟩ := h
  unfold putP
  split
  · have := putD_len h1; omega
  · split
    · have := Va.digs_len10 (Va.zig_lt h0 h1); omega
    · split
      · have := putD_len (n := ((s.size : Nat) : Int)) (by omega)
        rw [List.length_append, byte_len]; omega
      · split <;> simp

/-- the cells of the part at a place -/
theorem Pts.cells {a : Option Addr} {len : Nat} {ps : List P3} {w : World} (h : Pts a len ps w) {b off : Nat} (ha : a = some ⟨b, off, none⟩) {k : Nat} (hk : k < len) {K N : Int} {S : ByteArray} (e : at3 ps k = (K, N, S)) :
    w.cell? ⟨b, off + k * 3, none⟩ = some (.int .i64 K) ∧ w.cell? ⟨b, off + k * 3 + 1, none⟩ = some (.int .i64 N) ∧ w.cell? ⟨b, off + k * 3 + 2, none⟩ = some (.string S) := by
  obtain ⟨b', off', h1, _, h3⟩ := h.at_ (by omega)
  rw [ha] at h1
  injection h1 with h1; injection h1 with e1 e2
  subst e1; subst e2
  have := h3 k hk
  rw [e] at this
  exact this

set_option maxHeartbeats 3200000 in
set_option maxRecDepth 100000 in
theorem writes_few (a : Option Addr) (len cap : Nat) (ps : List P3) (w : World) (hp : Pts a len ps w) :
    Calls Try.prog 3 #[.slice a len cap] w fun e w' => e = .returned (.bool true) ∧ Below w.heap.size w w' := by
  have HP := Lib.hid hp
  clear hp
  have H0 := Lib.hid (Wr.start w 27)
  have B0 := Lib.hid ((Below.refl _ w).alloc (Nat.le_refl _) (.cells #[.pointer none] 27))
  go_enter Try.func3, Try.ntmps3
  go_wp2_with fail
  refine (few_any a len cap ps w HP.out).mono ?_
  rintro e w1 ⟨⟨f, rfl, hf⟩, rfl⟩
  have HF := Lib.hid hf
  clear hf
  cases f
  · go_wp2_with fail
    refine (awake_any w).mono ?_
    rintro e w1 ⟨rfl, hb1⟩
    go_wp2_with fail
    go_ret
    exact ⟨rfl, hb1⟩
  obtain ⟨hl40, hsz⟩ := HF.out rfl
  have HS := Lib.hid hsz
  clear hsz HF
  go_wp2_with fail
  generalize World.alloc w _ = W at H0 B0 ⊢
  go_loopw [5, 6] (fun v i wr => ∃ (k : Nat) (q : Option Addr) (l : List ByteArray), k ≤ len ∧ i = .int .i64 k ∧ v = str (putAll (ps.take k)) ∧ Hid (Wr wr w.heap.size q l) ∧ Hid (cat l = putAll (ps.take k)) ∧ Hid ((putAll (ps.take k)).length ≤ 310 * k) ∧ Hid (Below w.heap.size w wr)) (fun _ i _ => len - (intOf i).toNat)
  case atStart => exact ⟨0, none, [], by omega, rfl, rfl, H0.out, rfl, Nat.le_refl _, B0.out⟩
  case round =>
    obtain ⟨k, q, l, hk, rfl, rfl, HW, HC, HN, HB⟩ := hrel
    by_cases hkl : k < len
    · obtain ⟨b, off, rfl, hbs, _⟩ := HP.out.at_ (by omega)
      obtain ⟨⟨K, N, S⟩, hT⟩ : ∃ t, at3 ps k = t := ⟨_, rfl⟩
      have hlo := HP.out.low k hkl
      have hhi := HP.out.high k hkl
      have hsz := HS.out k hkl
      have hsn := putAll_snoc ps k (by rw [HP.out.len_is]; exact hkl)
      rw [hT] at hlo hhi hsz hsn
      simp only at hlo hhi hsz hsn
      have HSN := Lib.hid hsn
      have FT : Hid (Fits N S) := ⟨hlo, hhi, by omega⟩
      have HPL := Lib.hid (putP_len (k := K) FT.out)
      have HT := Lib.hid hT
      clear hsn hT hlo hhi
      obtain ⟨c0, c1, c2⟩ := (HP.out.later HB.out).cells rfl hkl HT.out
      go_wp2_with fail
      refine (write_any w.heap.size q l K N S wr HW.out (by rw [HC.out]; have := HN.out; omega) FT.out).mono ?_
      rintro e w1 ⟨rfl, ⟨q1, l1, h1, e1⟩, b1⟩
      have H1 := Lib.hid h1
      have E1 := Lib.hid e1
      have B1 : Hid (Below w.heap.size w w1) := HB.out.trans (b1.below (Nat.le_refl _) HB.out.size)
      clear h1 e1 b1 c0 c1 c2
      obtain ⟨c0, c1, c2⟩ := (HP.out.later B1.out).cells rfl hkl HT.out
      go_wp2_with fail
      refine (write_nil K N S w1 FT.out).mono ?_
      rintro e w2 ⟨rfl, b2⟩
      have H2 := Lib.hid (H1.out.later b2)
      have B2 : Hid (Below w.heap.size w w2) := B1.out.trans (b2.mono B1.out.size)
      clear b2 c0 c1 c2
      obtain ⟨c0, c1, c2⟩ := (HP.out.later B2.out).cells rfl hkl HT.out
      go_wp2_with fail
      refine (rpart_any K N S w2 FT.out).mono ?_
      rintro e w3 ⟨rfl, b3⟩
      have H3 := Lib.hid (H2.out.later b3)
      have B3 : Hid (Below w.heap.size w w3) := B2.out.trans (b3.mono B2.out.size)
      clear b3 c0 c1 c2
      have hn1 := HN.out
      have hn2 := HPL.out
      go_wp2_with fail
      refine (bytes_any w.heap.size q1 l1 w3 H3.out (by rw [E1.out, HC.out, List.length_append]; omega)).mono ?_
      rintro e w4 ⟨rfl, b4⟩
      have H4 := Lib.hid (H3.out.later b4)
      have B4 : Hid (Below w.heap.size w w4) := B3.out.trans (b4.mono B3.out.size)
      clear b4
      rw [E1.out, HC.out, Va.str_app, ← HSN.out]
      have EC : Hid (cat l1 = putAll (ps.take (k + 1))) := E1.out.trans (by rw [HC.out, HSN.out])
      have HN1 : Hid ((putAll (ps.take (k + 1))).length ≤ 310 * (k + 1)) := by unfold Hid; rw [HSN.out, List.length_append]; omega
      go_wp2_with fail
      go_roundw
      case rel => exact ⟨k + 1, q1, l1, by omega, by go_num, rfl, H4.out, EC.out, HN1.out, B4.out⟩
      case measure => simp [intOf]; omega
    · obtain rfl : k = len := by omega
      go_wp2_with fail
      refine (bytes_nil wr).mono ?_
      rintro e w1 ⟨rfl, rfl⟩
      go_wp2_with fail
      refine (awake_any wr).mono ?_
      rintro e w1 ⟨rfl, b1⟩
      have B1 : Hid (Below w.heap.size w w1) := HB.out.trans (b1.mono HB.out.size)
      clear b1
      go_wp2_with fail
      go_ret
      exact ⟨rfl, B1.out⟩
end Go.Proofs.Ytbadlcjpddonpaa.Pk
