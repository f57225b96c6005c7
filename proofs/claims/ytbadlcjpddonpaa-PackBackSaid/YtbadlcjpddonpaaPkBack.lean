/- The walk of the third law of layer 5: what is written is read as it was; cut off anywhere it is too short. -/
import Derived.Test.YtbadlcjpddonpaaPkBackMath
import Derived.BigQuiet
import Derived.Deep.QuietTactic
namespace Go.Proofs.Ytbadlcjpddonpaa.Pk
open Go.RowKit
open Va (digs zig putD str)

theorem below_drewN {B : Nat} {a w : World} (h : Below B a w) (n : Nat) : Below B a (w.drewN n) := ⟨h.os, h.tape, h.output, h.size, h.block⟩

theorem putAll_split (ps : List P3) (k : Nat) : putAll ps = putAll (ps.take k) ++ putAll (ps.drop k) := by
  unfold putAll
  rw [← List.flatMap_append, List.take_append_drop]

theorem back1 (N : Int) (S : ByteArray) : ptV (back 1 N S) = .agg #[.int .i64 1, .int .i64 N, .string ⟨#[]⟩] := rfl
theorem back2 (N : Int) (S : ByteArray) : ptV (back 2 N S) = .agg #[.int .i64 2, .int .i64 N, .string ⟨#[]⟩] := rfl
theorem back3 (N : Int) (S : ByteArray) : ptV (back 3 N S) = .agg #[.int .i64 3, .int .i64 0, .string S] := rfl
theorem back4 (S : ByteArray) : ptV (back 4 1 S) = .agg #[.int .i64 4, .int .i64 1, .string ⟨#[]⟩] := rfl
theorem back5 {N : Int} (h : N ≠ 1) (S : ByteArray) : ptV (back 4 N S) = .agg #[.int .i64 4, .int .i64 0, .string ⟨#[]⟩] := by simp [ptV, back, h]

set_option maxHeartbeats 8000000 in
set_option maxRecDepth 100000 in
theorem back_any (a : Option Addr) (len cap : Nat) (ps : List P3) (cut : Int) (w : World) (hp : Pts a len ps w) (hc0 : 0 ≤ cut) (hc1 : cut ≤ 65535) :
    Calls Try.prog 5 #[.slice a len cap, .int .u16 cut] w fun e w' => e = .returned (.bool true) ∧ Below w.heap.size w w' := by
  have HP := Lib.hid hp
  clear hp
  have H0 := Lib.hid (Wr.start w 27)
  have B0 := Lib.hid ((Below.refl _ w).alloc (Nat.le_refl _) (.cells #[.pointer none] 27))
  go_enter Try.func5, Try.ntmps5
  go_wp2_with fail
  refine (few_any a len cap ps w HP.out).mono ?_
  rintro e w1 ⟨⟨f, rfl, hf⟩, rfl⟩
  have HF := Lib.hid hf
  clear hf
  cases f
  · go_wp2_with fail
    refine (awake_any w).mono ?_
    rintro e w1 ⟨rfl, hb1⟩
    go_wp2_with fail
    go_ret
    exact ⟨rfl, hb1⟩
  obtain ⟨hl40, hsz⟩ := HF.out rfl
  have HS := Lib.hid hsz
  clear hsz HF
  go_wp2_with fail
  generalize World.alloc w _ = W at H0 B0 ⊢
  go_loopw [6] (fun i wr => ∃ (k : Nat) (q : Option Addr) (l : List ByteArray), k ≤ len ∧ i = .int .i64 k ∧ Hid (Wr wr w.heap.size q l) ∧ Hid (cat l = putAll (ps.take k)) ∧ Hid ((putAll (ps.take k)).length ≤ 310 * k) ∧ Hid (Below w.heap.size w wr) ∧ Hid (∀ j, j < k → Ok3 (at3 ps j).1 (at3 ps j).2.1)) (fun i _ => len - (intOf i).toNat)
  case atStart => exact ⟨0, none, [], by omega, rfl, H0.out, rfl, Nat.le_refl _, B0.out, fun j hj => absurd hj (by omega)⟩
  case round =>
    obtain ⟨k, q, l, hk, rfl, HW, HC, HN, HB, HO⟩ := hrel
    by_cases hkl : k < len
    · obtain ⟨b, off, rfl, hbs, _⟩ := HP.out.at_ (by omega)
      obtain ⟨⟨K, N, S⟩, hT⟩ : ∃ t, at3 ps k = t := ⟨_, rfl⟩
      have hlo := HP.out.low k hkl
      have hhi := HP.out.high k hkl
      have hsz := HS.out k hkl
      have hsn := putAll_snoc ps k (by rw [HP.out.len_is]; exact hkl)
      rw [hT] at hlo hhi hsz hsn
      simp only at hlo hhi hsz hsn
      have HSN := Lib.hid hsn
      have FT : Hid (Fits N S) := ⟨hlo, hhi, by omega⟩
      have HPL := Lib.hid (putP_len (k := K) FT.out)
      have HT := Lib.hid hT
      clear hsn hT hlo hhi
      obtain ⟨c0, c1, c2⟩ := (HP.out.later HB.out).cells rfl hkl HT.out
      have bad : ∀ W', Below w.heap.size w W' → Calls Try.prog 7 #[] W' fun e w' => e = .returned (.bool true) ∧ Below w.heap.size w w' := fun W' hW => (awake_any W').mono fun e w' ⟨h1, h2⟩ => ⟨h1, hW.trans (h2.mono hW.size)⟩
      have BAD := Lib.hid (bad wr HB.out)
      clear bad
      by_cases k1 : K < 1
      · go_wp2_with fail
        refine (BAD.out).mono ?_
        rintro e w1 ⟨rfl, h1⟩
        go_wp2_with fail
        go_ret
        exact ⟨rfl, h1⟩
      by_cases k4 : K > 4
      · go_wp2_with fail
        refine (BAD.out).mono ?_
        rintro e w1 ⟨rfl, h1⟩
        go_wp2_with fail
        go_ret
        exact ⟨rfl, h1⟩
      by_cases kn : K = 1 ∧ N < 0
      · obtain ⟨rfl, n0⟩ := kn
        go_wp2_with fail
        refine (BAD.out).mono ?_
        rintro e w1 ⟨rfl, h1⟩
        go_wp2_with fail
        go_ret
        exact ⟨rfl, h1⟩
      have OK : Hid (Ok3 K N) := by unfold Hid Ok3; omega
      have HO1 : Hid (∀ j, j < k + 1 → Ok3 (at3 ps j).1 (at3 ps j).2.1) := fun j hj => by
        by_cases e : j = k
        · subst e; rw [HT.out]; exact OK.out
        · exact HO.out j (by omega)
      have hif : (K = 1 ∧ ¬ N < 0) ∨ ¬ K = 1 := by omega
      clear kn
      rcases hif with ⟨rfl, n0⟩ | hk1
      rotate_left
      · have q1 : (K == 1) = false := by simp [hk1]
        clear hk1
        go_wp2_with fail
        refine (write_any w.heap.size q l K N S wr HW.out (by rw [HC.out]; have := HN.out; omega) FT.out).mono ?_
        rintro e w1 ⟨rfl, ⟨q1', l1, h1, e1⟩, b1⟩
        have H1 := Lib.hid h1
        have E1 := Lib.hid e1
        have B1 : Hid (Below w.heap.size w w1) := HB.out.trans (b1.below (Nat.le_refl _) HB.out.size)
        clear h1 e1 b1 c0 c1 c2
        have EC : Hid (cat l1 = putAll (ps.take (k + 1))) := E1.out.trans (by rw [HC.out, HSN.out])
        have HN1 : Hid ((putAll (ps.take (k + 1))).length ≤ 310 * (k + 1)) := by unfold Hid; rw [HSN.out, List.length_append]; have := HN.out; have := HPL.out; omega
        go_wp2_with fail
        go_roundw
        case rel => exact ⟨k + 1, q1', l1, by omega, by go_num, H1.out, EC.out, HN1.out, B1.out, HO1.out⟩
        case measure => simp [intOf]; omega
      · go_wp2_with fail
        refine (write_any w.heap.size q l 1 N S wr HW.out (by rw [HC.out]; have := HN.out; omega) FT.out).mono ?_
        rintro e w1 ⟨rfl, ⟨q1', l1, h1, e1⟩, b1⟩
        have H1 := Lib.hid h1
        have E1 := Lib.hid e1
        have B1 : Hid (Below w.heap.size w w1) := HB.out.trans (b1.below (Nat.le_refl _) HB.out.size)
        clear h1 e1 b1 c0 c1 c2
        have EC : Hid (cat l1 = putAll (ps.take (k + 1))) := E1.out.trans (by rw [HC.out, HSN.out])
        have HN1 : Hid ((putAll (ps.take (k + 1))).length ≤ 310 * (k + 1)) := by unfold Hid; rw [HSN.out, List.length_append]; have := HN.out; have := HPL.out; omega
        go_wp2_with fail
        go_roundw
        case rel => exact ⟨k + 1, q1', l1, by omega, by go_num, H1.out, EC.out, HN1.out, B1.out, HO1.out⟩
        case measure => simp [intOf]; omega
    · obtain rfl : k = len := by omega
      have hall : ps.take k = ps := List.take_of_length_le (by rw [HP.out.len_is]; omega)
      rw [hall] at HC HN
      clear hall
      generalize wr = wo at *
      go_wp2_with fail
      refine (bytes_any w.heap.size q l wo HW.out (by rw [HC.out]; have := HN.out; omega)).mono ?_
      rintro e w2 ⟨rfl, b2⟩
      have B2 : Hid (Below w.heap.size w w2) := HB.out.trans (b2.mono HB.out.size)
      clear b2
      rw [HC.out]
      clear HW HC HB
      go_wp2_with fail
      refine (new_any _ w2).mono ?_
      rintro e w3 ⟨rfl, h3, b3, _⟩
      have R3 := Lib.hid h3
      have B3 : Hid (Below w.heap.size w w3) := B2.out.trans (b3.mono B2.out.size)
      have hR := B2.out.size
      clear h3 b3 B2
      generalize w2.heap.size = R at R3 hR ⊢
      have hlen : k ≤ (putAll ps).length := by
        have := putAll_len ps (fun j hj => HO.out j (by rw [HP.out.len_is] at hj; exact hj))
        rw [HP.out.len_is] at this; exact this
      have HLEN := Lib.hid hlen
      clear hlen H0 B0 hk hkl
      go_wp2_with fail
      go_loopw [9] (fun i wr => ∃ (j : Nat) (s : ByteArray), j ≤ k ∧ i = .int .i64 j ∧ Hid (Rd wr R s 0) ∧ Hid (s.data.toList = putAll (ps.drop j)) ∧ Hid (Below w.heap.size w wr)) (fun i _ => k - (intOf i).toNat)
      case atStart => exact ⟨0, ⟨(putAll ps).toArray⟩, by omega, rfl, R3.out, rfl, B3.out⟩
      case round =>
        obtain ⟨j, s, hj, rfl, HRD, HD, HB⟩ := hrel
        have hsz0 : s.size ≤ 12400 := by
          have e := congrArg List.length (putAll_split ps j)
          rw [List.length_append, ← HD.out, byte_len'] at e
          have := HN.out
          omega
        by_cases hjl : j < k
        · obtain ⟨b, off, rfl, hbs, _⟩ := HP.out.at_ (by omega)
          obtain ⟨⟨K, N, S⟩, hT⟩ : ∃ t, at3 ps j = t := ⟨_, rfl⟩
          have hlo := HP.out.low j hjl
          have hhi := HP.out.high j hjl
          have hsz := HS.out j hjl
          have hok := HO.out j hjl
          have hdr := putAll_drop ps j (by rw [HP.out.len_is]; exact hjl)
          rw [hT] at hlo hhi hsz hok hdr
          simp only at hlo hhi hsz hok hdr
          have FT : Hid (Fits N S) := ⟨hlo, hhi, by omega⟩
          obtain ⟨s', hrd, hs'⟩ := rd_put hok FT.out hsz (HD.out.trans hdr)
          have HD' : Hid (s'.data.toList = putAll (ps.drop (j + 1))) := hs'
          have hread := fun W (h : Rd W R s 0) => read_any R s 0 K 300 W h (by omega)
          rw [hrd] at hread
          have KR := Lib.hid hread
          have HT := Lib.hid hT
          have HC : Hid (∀ W, Below w.heap.size w W → W.cell? ⟨b, off + j * 3, none⟩ = some (.int .i64 K) ∧ W.cell? ⟨b, off + j * 3 + 1, none⟩ = some (.int .i64 N) ∧ W.cell? ⟨b, off + j * 3 + 2, none⟩ = some (.string S)) := fun W hW => (HP.out.later hW).cells rfl hjl HT.out
          obtain ⟨c0, c1, c2⟩ := HC.out _ HB.out
          clear hread hrd hs' hdr hT hlo hhi hsz
          rcases hok with ⟨rfl, _⟩ | rfl | rfl | rfl
          rotate_left 3
          · by_cases n1 : N = 1
            · subst n1
              rw [back4] at KR
              go_wp2_with fail
              refine (KR.out _ HRD.out).mono ?_
              rintro e w9 ⟨rfl, h9⟩
              have R9 : Hid (Rd w9 R s' 0) := h9.1
              have B9 : Hid (Below w.heap.size w w9) := HB.out.trans (h9.2.below hR HB.out.size)
              have B8 : Hid (∀ o, Below w.heap.size w (w9.alloc o)) := fun o => B9.out.alloc B9.out.size o
              have R8 : Hid (∀ o n, Rd ((w9.alloc o).drewN n) R s' 0) := fun o n => Bx.later R9.out (below_drewN ((Below.refl _ _).alloc (Nat.le_refl _) o) n)
              have d0 := fun o => (HC.out _ (B8.out o)).1
              have d1 := fun o => (HC.out _ (B8.out o)).2.1
              have d2 := fun o => (HC.out _ (B8.out o)).2.2
              clear h9 c0 c1 c2
              go_wp2_with fail
              go_quiet (fail)
              go_wp2_with fail
              go_roundw
              case rel => exact ⟨j + 1, s', by omega, by go_num, R8.out _ _, HD'.out, below_drewN (B8.out _) _⟩
              case measure => simp [intOf]; omega
            · have qn : (N == 1) = false := by simp [n1]
              rw [back5 n1] at KR
              clear n1
              go_wp2_with fail
              refine (KR.out _ HRD.out).mono ?_
              rintro e w9 ⟨rfl, h9⟩
              have R9 : Hid (Rd w9 R s' 0) := h9.1
              have B9 : Hid (Below w.heap.size w w9) := HB.out.trans (h9.2.below hR HB.out.size)
              have B8 : Hid (∀ o, Below w.heap.size w (w9.alloc o)) := fun o => B9.out.alloc B9.out.size o
              have R8 : Hid (∀ o n, Rd ((w9.alloc o).drewN n) R s' 0) := fun o n => Bx.later R9.out (below_drewN ((Below.refl _ _).alloc (Nat.le_refl _) o) n)
              have d0 := fun o => (HC.out _ (B8.out o)).1
              have d1 := fun o => (HC.out _ (B8.out o)).2.1
              have d2 := fun o => (HC.out _ (B8.out o)).2.2
              clear h9 c0 c1 c2
              go_wp2_with fail
              go_quiet (fail)
              go_wp2_with fail
              go_roundw
              case rel => exact ⟨j + 1, s', by omega, by go_num, R8.out _ _, HD'.out, below_drewN (B8.out _) _⟩
              case measure => simp [intOf]; omega
          · rw [back1] at KR
            go_wp2_with fail
            refine (KR.out _ HRD.out).mono ?_
            rintro e w9 ⟨rfl, h9⟩
            have R9 : Hid (Rd w9 R s' 0) := h9.1
            have B9 : Hid (Below w.heap.size w w9) := HB.out.trans (h9.2.below hR HB.out.size)
            have B8 : Hid (∀ o, Below w.heap.size w (w9.alloc o)) := fun o => B9.out.alloc B9.out.size o
            have R8 : Hid (∀ o n, Rd ((w9.alloc o).drewN n) R s' 0) := fun o n => Bx.later R9.out (below_drewN ((Below.refl _ _).alloc (Nat.le_refl _) o) n)
            have d0 := fun o => (HC.out _ (B8.out o)).1
            have d1 := fun o => (HC.out _ (B8.out o)).2.1
            have d2 := fun o => (HC.out _ (B8.out o)).2.2
            clear h9 c0 c1 c2
            go_wp2_with fail
            go_quiet (fail)
            go_wp2_with fail
            go_roundw
            case rel => exact ⟨j + 1, s', by omega, by go_num, R8.out _ _, HD'.out, below_drewN (B8.out _) _⟩
            case measure => simp [intOf]; omega
          · rw [back2] at KR
            go_wp2_with fail
            refine (KR.out _ HRD.out).mono ?_
            rintro e w9 ⟨rfl, h9⟩
            have R9 : Hid (Rd w9 R s' 0) := h9.1
            have B9 : Hid (Below w.heap.size w w9) := HB.out.trans (h9.2.below hR HB.out.size)
            have B8 : Hid (∀ o, Below w.heap.size w (w9.alloc o)) := fun o => B9.out.alloc B9.out.size o
            have R8 : Hid (∀ o n, Rd ((w9.alloc o).drewN n) R s' 0) := fun o n => Bx.later R9.out (below_drewN ((Below.refl _ _).alloc (Nat.le_refl _) o) n)
            have d0 := fun o => (HC.out _ (B8.out o)).1
            have d1 := fun o => (HC.out _ (B8.out o)).2.1
            have d2 := fun o => (HC.out _ (B8.out o)).2.2
            clear h9 c0 c1 c2
            go_wp2_with fail
            go_quiet (fail)
            go_wp2_with fail
            go_roundw
            case rel => exact ⟨j + 1, s', by omega, by go_num, R8.out _ _, HD'.out, below_drewN (B8.out _) _⟩
            case measure => simp [intOf]; omega
          · rw [back3] at KR
            go_wp2_with fail
            refine (KR.out _ HRD.out).mono ?_
            rintro e w9 ⟨rfl, h9⟩
            have R9 : Hid (Rd w9 R s' 0) := h9.1
            have B9 : Hid (Below w.heap.size w w9) := HB.out.trans (h9.2.below hR HB.out.size)
            have B8 : Hid (∀ o, Below w.heap.size w (w9.alloc o)) := fun o => B9.out.alloc B9.out.size o
            have R8 : Hid (∀ o n, Rd ((w9.alloc o).drewN n) R s' 0) := fun o n => Bx.later R9.out (below_drewN ((Below.refl _ _).alloc (Nat.le_refl _) o) n)
            have d0 := fun o => (HC.out _ (B8.out o)).1
            have d1 := fun o => (HC.out _ (B8.out o)).2.1
            have d2 := fun o => (HC.out _ (B8.out o)).2.2
            clear h9 c0 c1 c2
            go_wp2_with fail
            go_quiet (fail)
            go_wp2_with fail
            go_roundw
            case rel => exact ⟨j + 1, s', by omega, by go_num, R8.out _ _, HD'.out, below_drewN (B8.out _) _⟩
            case measure => simp [intOf]; omega
        · obtain rfl : j = k := by omega
          have hnil : s.data.toList = [] := by
            rw [HD.out, List.drop_eq_nil_of_le (by rw [HP.out.len_is]; omega)]; rfl
          have hs0 : s = ⟨#[]⟩ := of_list hnil
          subst hs0
          clear hnil HD hsz0
          have hlt : ¬ (((putAll ps).length : Int) < (j : Int)) := by have := HLEN.out; omega
          generalize wr = wp at *
          go_wp2_with fail
          refine (end_any R _ 0 wp HRD.out).mono ?_
          rintro e w4 ⟨rfl, rfl⟩
          rw [show endE ⟨#[]⟩ 0 = 0 from rfl]
          go_wp2_with fail
          refine (left_any R _ 0 wp HRD.out).mono ?_
          rintro e w4 ⟨rfl, rfl⟩
          by_cases hT : (putAll ps).length = 0
          · have hq : (((putAll ps).length : Int) == 0) = true := by simp [hT]
            clear hT
            go_wp2_with fail
            refine (awake_any wp).mono ?_
            rintro e w5 ⟨rfl, h5⟩
            have B5 : Hid (Below w.heap.size w w5) := HB.out.trans (h5.mono HB.out.size)
            clear h5
            go_wp2_with fail
            go_ret
            exact ⟨rfl, B5.out⟩
          · have hpos : 0 < (putAll ps).length := Nat.pos_of_ne_zero hT
            have hq : (((putAll ps).length : Int) == 0) = false := beq_eq_false_iff_ne.2 (by omega)
            have hmod : cut.tmod ((putAll ps).length : Int) = ((cut.toNat % (putAll ps).length : Nat) : Int) := by
              rw [Int.tmod_eq_emod_of_nonneg hc0, Int.natCast_emod, Int.toNat_of_nonneg hc0]
            have hi : cut.toNat % (putAll ps).length < (putAll ps).length := Nat.mod_lt _ hpos
            generalize cut.toNat % (putAll ps).length = i at *
            clear hT hpos
            go_wp2_with fail
            refine (new_any _ wp).mono ?_
            rintro e w5 ⟨rfl, h5, b5, _⟩
            have R5 := Lib.hid h5
            have B5 : Hid (Below w.heap.size w w5) := HB.out.trans (b5.mono HB.out.size)
            have hQ := HB.out.size
            have HI := Lib.hid hi
            clear h5 b5 HB HRD hmod hi hlt hq
            generalize wp.heap.size = Q at R5 hQ ⊢
            go_wp2_with fail
            go_loopw [12] (fun v wr => ∃ (m : Nat) (s : ByteArray) (er : Nat), m ≤ j ∧ v = .int .i64 m ∧ Hid (Rd wr Q s er) ∧ Hid (s.size ≤ 12400) ∧ Hid (er = 3 ∨ er = 0 ∧ ∃ t, t ≠ [] ∧ s.data.toList ++ t = putAll (ps.drop m)) ∧ Hid (Below w.heap.size w wr)) (fun v _ => j - (intOf v).toNat)
            case atStart =>
              refine ⟨0, _, 0, by omega, rfl, R5.out, ?_, Or.inr ⟨rfl, (putAll ps).drop i, ?_, ?_⟩, B5.out⟩
              · unfold Hid
                rw [ByteArray.size_extract, show ByteArray.size ⟨(putAll ps).toArray⟩ = (putAll ps).length from List.size_toArray]
                have := HN.out
                omega
              · intro e
                have := congrArg List.length e
                rw [List.length_drop] at this
                have := HI.out
                simp at *
                omega
              · rw [ext_upto]
                exact List.take_append_drop _ _
            case round =>
              obtain ⟨m, s, er, hm, rfl, HRD, HSZ, HD, HB⟩ := hrel
              by_cases hmj : m < j
              · obtain ⟨b, off, rfl, hbs, _⟩ := HP.out.at_ (by omega)
                obtain ⟨⟨K, N, S⟩, hT⟩ : ∃ t, at3 ps m = t := ⟨_, rfl⟩
                have hlo := HP.out.low m hmj
                have hhi := HP.out.high m hmj
                have hsz := HS.out m hmj
                have hok := HO.out m hmj
                have hdr := putAll_drop ps m (by rw [HP.out.len_is]; exact hmj)
                rw [hT] at hlo hhi hsz hok hdr
                simp only at hlo hhi hsz hok hdr
                have hD := HD.out
                rw [hdr] at hD
                have hst := cut_step hok ⟨hlo, hhi, by omega⟩ hsz hD
                have hss := rdPart_size K 300 s er
                have hread := read_any Q s er K 300 wr HRD.out (by have := HSZ.out; omega)
                generalize rdPart K 300 s er = x at hst hss hread
                obtain ⟨p, s', er'⟩ := x
                have HST := Lib.hid hst
                have KR := Lib.hid hread
                have HS' : Hid (s'.size ≤ 12400) := Nat.le_trans hss HSZ.out
                have HT := Lib.hid hT
                obtain ⟨c0, c1, c2⟩ := (HP.out.later HB.out).cells rfl hmj HT.out
                clear hread hst hss hdr hT hlo hhi hsz hD hok
                go_wp2_with fail
                refine (KR.out).mono ?_
                rintro e w9 ⟨rfl, h9⟩
                have R9 : Hid (Rd w9 Q s' er') := h9.1
                have B9 : Hid (Below w.heap.size w w9) := HB.out.trans (h9.2.below hQ HB.out.size)
                clear h9 c0 c1 c2
                go_wp2_with fail
                go_roundw
                case rel => exact ⟨m + 1, s', er', by omega, by go_num, R9.out, HS'.out, HST.out, B9.out⟩
                case measure => simp [intOf]; omega
              · obtain rfl : m = j := by omega
                obtain rfl : er = 3 := by
                  rcases HD.out with h | ⟨_, t, ht, h⟩
                  · exact h
                  · exfalso
                    rw [List.drop_eq_nil_of_le (by rw [HP.out.len_is]; omega)] at h
                    have h2 := (List.append_eq_nil_iff.1 h).2
                    exact ht h2
                clear HD
                generalize wr = wq at *
                go_wp2_with fail
                refine (err_any Q s 3 wq HRD.out).mono ?_
                rintro e w6 ⟨rfl, rfl⟩
                go_wp2_with fail
                refine (end_any Q s 3 wq HRD.out).mono ?_
                rintro e w6 ⟨rfl, rfl⟩
                rw [show endE s 3 = 3 from if_neg (fun h => by cases h.1)]
                go_wp2_with fail
                refine (awake_any wq).mono ?_
                rintro e w7 ⟨rfl, h7⟩
                have B7 : Hid (Below w.heap.size w w7) := HB.out.trans (h7.mono HB.out.size)
                clear h7
                go_wp2_with fail
                go_ret
                exact ⟨rfl, B7.out⟩
end Go.Proofs.Ytbadlcjpddonpaa.Pk
