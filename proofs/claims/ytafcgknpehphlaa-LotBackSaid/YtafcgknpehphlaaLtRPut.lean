/- Records in memory, held against one another; and a lot's bytes by the document. -/
import Derived.Test.YtafcgknpehphlaaLtWays
import Derived.Test.YtafcgknpehphlaaRcRow
namespace Go.Proofs.Ytafcgknpehphlaa.Lt
open Go.RowKit
open Cd (Rec Fit may putB recB zeroR recV recL Blk)
open Rk (At9 Recs)

theorem drewN_below {B : Nat} {a w : World} (h : Below B a w) (n : Nat) : Below B a (w.drewN n) := h.trans ⟨rfl, rfl, rfl, Nat.le_refl _, fun _ _ => rfl⟩

set_option maxHeartbeats 3200000 in
set_option maxRecDepth 100000 in
theorem same_recs (a1 a2 : Option Addr) (n c1 c2 : Nat) (zs : List Rec) (w : World) (h1 : Recs a1 n zs w) (h2 : Recs a2 n zs w) (hn : n ≤ 1000) :
    Calls Try.prog 14 #[.slice a1 n c1, .slice a2 n c2] w fun e w' => e = .returned (.bool true) ∧ Below w.heap.size w w' := by
  have H1 := Lib.hid h1
  have H2 := Lib.hid h2
  have HLEN := Lib.hid h1.len_is
  clear h1 h2
  go_enter Try.func14, Try.ntmps14
  go_wp2_with fail
  go_loopw [5] (fun iv wr => ∃ k : Nat, k ≤ n ∧ iv = .int .i64 k ∧ Hid (Below w.heap.size w wr)) (fun iv _ => n - (intOf iv).toNat)
  case atStart => exact ⟨0, Nat.zero_le _, rfl, Below.refl _ _⟩
  case round =>
    obtain ⟨k, hk, rfl, HB⟩ := hrel
    by_cases hkl : k < n
    · obtain ⟨y, hy⟩ : ∃ y, zs[k]? = some y := ⟨_, List.getElem?_eq_getElem (by have := HLEN.out; omega)⟩
      obtain ⟨b, off, rfl, hb, hc⟩ := (H1.out.later HB.out).at_ (by omega)
      obtain ⟨b2, off2, rfl, hb2, hc2⟩ := (H2.out.later HB.out).at_ (by omega)
      have cy := hc k y hy
      have dy := hc2 k y hy
      clear hc hc2 hy
      obtain ⟨y0, y1, y2, y3, y4, y5, y6, y7, y8⟩ := y
      obtain ⟨c0, c1, c2, c3, c4, c5, c6, c7, c8⟩ := cy
      obtain ⟨d0, d1, d2, d3, d4, d5, d6, d7, d8⟩ := dy
      simp only at c0 c1 c2 c3 c4 c5 c6 c7 c8 d0 d1 d2 d3 d4 d5 d6 d7 d8
      go_wp2_with fail
      go_quiet (fail)
      go_wp2_with fail
      go_roundw
      case rel => exact ⟨k + 1, by omega, by go_num, drewN_below HB.out _⟩
      case measure => simp [intOf]; omega
    · go_wp2_with fail
      go_ret
      exact ⟨rfl, HB.out⟩

theorem app_bytes (x y : List UInt8) : (⟨x.toArray⟩ : ByteArray) ++ (⟨y.toArray⟩ : ByteArray) = ⟨(x ++ y).toArray⟩ := by
  apply ByteArray.ext
  simp [ByteArray.data_append]

set_option maxHeartbeats 3200000 in
set_option maxRecDepth 100000 in
theorem rput_any (a : Option Addr) (len cap : Nat) (xs : List Rec) (w : World) (hr : Recs a len xs w) (hl : len ≤ 300) (hf : ∀ x ∈ xs, Fit x) (hlo : ∀ x ∈ xs, -9223372036854775808 ≤ x.tr ∧ -9223372036854775808 ≤ x.id ∧ -9223372036854775808 ≤ x.pa ∧ -9223372036854775808 ≤ x.rv) :
    Calls Try.prog 9 #[.slice a len cap] w fun e w' => e = .returned (.tuple #[Va.str (putL xs).1, .int .i64 ((putL xs).2 : Nat)]) ∧ Below w.heap.size w w' := by
  have HR := Lib.hid hr
  have HLEN := Lib.hid hr.len_is
  have HF := Lib.hid hf
  have HLO := Lib.hid hlo
  have HRET : Hid (∀ {l : List UInt8} {e : Nat}, putL xs = (l, e) → (Ending.returned (.tuple #[Va.str l, .int .i64 (e : Nat)]) : Ending) = .returned (.tuple #[Va.str (putL xs).1, .int .i64 ((putL xs).2 : Nat)])) := fun h => by rw [h]
  clear hr hf hlo
  by_cases hbig : 256 < len
  · have hg : ((len : Int) > 256) := by omega
    have HP := Lib.hid (putL_big (l := xs) (by have := HLEN.out; omega))
    go_enter Try.func9, Try.ntmps9
    go_wp2_with fail
    go_ret2
    exact ⟨HRET.out HP.out, Below.refl _ _⟩
  have hg : ¬ ((len : Int) > 256) := by omega
  go_enter Try.func9, Try.ntmps9
  go_wp2_with fail
  refine (Va.rput_any (len : Nat) (by omega) _).mono ?_
  rintro e w1 ⟨rfl, b1⟩
  have HB1 := Lib.hid b1
  have HL0 := Lib.hid (Pk.putD_len (n := ((len : Nat) : Int)) (by omega))
  clear b1
  go_wp2_with fail
  go_loopw [4, 5] (fun sv iv wr => ∃ k : Nat, k ≤ len ∧ sv = Va.str (Va.putD (len : Nat) ++ recsB (xs.take k)) ∧ iv = .int .i64 k ∧ Hid (∀ x ∈ xs.take k, may x = 0) ∧ Hid (Below w.heap.size w wr)) (fun _ iv _ => len - (intOf iv).toNat)
  case atStart => exact ⟨0, Nat.zero_le _, by rw [List.take_zero]; show _ = Va.str (_ ++ []); rw [List.append_nil], rfl, (fun x hx => by rw [List.take_zero] at hx; cases hx), HB1.out⟩
  case round =>
    obtain ⟨k, hk, rfl, rfl, HM, HB⟩ := hrel
    by_cases hkl : k < len
    · obtain ⟨y, hy⟩ : ∃ y, xs[k]? = some y := ⟨_, List.getElem?_eq_getElem (by have := HLEN.out; omega)⟩
      have hmem := List.mem_of_getElem? hy
      obtain ⟨b, off, rfl, hb, hc⟩ := (HR.out.later HB.out).at_ (by omega)
      have cy := hc k y hy
      have PA := fun w => Cd.rput_any y w (HF.out y hmem) (HLO.out y hmem)
      have HPB : Hid (may y = 0 → putB y = recB y) := Cd.putB_ok
      have HP1 : Hid (may y = 1 → putL xs = ([], 1)) := fun h => putL_bad (by have := HLEN.out; omega) hmem h
      have HNX : Hid (may y = 0 → ∀ x ∈ xs.take (k + 1), may x = 0) := by
        intro h x hx
        obtain ⟨hk', he⟩ := List.getElem?_eq_some_iff.1 hy
        rw [List.take_succ_eq_append_getElem hk', he, List.mem_append] at hx
        rcases hx with hx | hx
        · exact HM.out x hx
        · rw [List.mem_singleton.1 hx]; exact h
      have HTK : Hid (recsB (xs.take (k + 1)) = recsB (xs.take k) ++ recB y) := recsB_take hy
      have HZ1 := Lib.hid (Cd.recB_len (HF.out y hmem))
      have HZ2 := Lib.hid (recsB_len (l := xs.take k) (fun x hx => HF.out x (List.mem_of_mem_take hx)))
      have HM01 := Lib.hid (Cd.may_01 y)
      have hpb : may y = 1 → putB y = [] := Cd.putB_bad
      have HPB1 := Lib.hid hpb
      generalize recB y = rb at *
      generalize putB y = pb at *
      generalize may y = m at *
      clear hc hy hmem hpb
      obtain ⟨y0, y1, y2, y3, y4, y5, y6, y7, y8⟩ := y
      simp only [recV] at PA
      have PA := Lib.hid PA
      obtain ⟨c0, c1, c2, c3, c4, c5, c6, c7, c8⟩ := cy
      simp only at c0 c1 c2 c3 c4 c5 c6 c7 c8
      go_wp2_with fail
      refine (PA.out _).mono ?_
      rintro e w2 ⟨rfl, b2⟩
      have HB2 := Lib.hid (HB.out.trans (b2.mono HB.out.size))
      clear b2 c0 c1 c2 c3 c4 c5 c6 c7 c8
      rcases HM01.out with rfl | rfl
      · have hs0 : (Va.putD (len : Nat)).length + (recsB (xs.take k)).length + rb.length ≤ 1000000 := by
          have h1 := HL0.out
          have h2 := HZ2.out
          have h3 := HZ1.out
          rw [List.length_take] at h2
          have h4 := HLEN.out
          omega
        have hsz : ¬ (9223372036854775807 < (Va.putD (len : Nat)).length + (recsB (xs.take k)).length + rb.length) := by omega
        have hsz2 : ¬ (9223372036854775807 < (Va.putD (len : Nat) ++ recsB (xs.take k)).length + rb.length) := by rw [List.length_append]; omega
        have hpb : pb = rb := HPB.out (by trivial)
        subst hpb
        go_wp2_with fail
        go_roundw
        case rel => exact ⟨k + 1, by omega, by rw [app_bytes, List.append_assoc, HTK.out], by go_num, HNX.out (by trivial), HB2.out⟩
        case measure => simp [intOf]; omega
      · go_wp2_with fail
        go_ret2
        exact ⟨HRET.out (HP1.out (by trivial)), HB2.out⟩
    · have hkn : k = len := by omega
      subst hkn
      have HP : Hid (putL xs = (lotB xs, 0)) := putL_all (by have := HLEN.out; omega) (by have h := HM.out; rw [List.take_of_length_le (by have := HLEN.out; omega)] at h; exact h)
      have HE : Hid (Va.putD (k : Nat) ++ recsB (xs.take k) = lotB xs) := by
        show _ = _
        rw [List.take_of_length_le (by have := HLEN.out; omega)]
        unfold lotB
        rw [HLEN.out]
      rw [HE.out]
      go_wp2_with fail
      go_ret2
      exact ⟨HRET.out HP.out, HB.out⟩
end Go.Proofs.Ytafcgknpehphlaa.Lt
