/- A lot's bytes by the program. -/
import Derived.Test.YtafcgknpehphlaaLtMay
import Derived.Test.YtafcgknpehphlaaCdWrite
import Derived.Test.YtafcgknpehphlaaPkBytes
namespace Go.Proofs.Ytafcgknpehphlaa.Lt
open Go.RowKit
open Pk (But Wr cat)
open Cd (Rec Fit may putB recB zeroR recV recL Blk left_put)
open Rk (At9 Recs)

set_option maxHeartbeats 6400000 in
set_option maxRecDepth 100000 in
theorem put_any (a : Option Addr) (len cap : Nat) (xs : List Rec) (w : World) (hr : Recs a len xs w) (hl : len ≤ 300) (hf : ∀ x ∈ xs, Fit x) :
    Calls Try.prog 8 #[.slice a len cap] w fun e w' => e = .returned (.tuple #[Va.str (putL xs).1, .int .i64 ((putL xs).2 : Nat)]) ∧ Below w.heap.size w w' := by
  have HR := Lib.hid hr
  have HLEN := Lib.hid hr.len_is
  have HF := Lib.hid hf
  have HRET : Hid (∀ {l : List UInt8} {e : Nat}, putL xs = (l, e) → (Ending.returned (.tuple #[Va.str l, .int .i64 (e : Nat)]) : Ending) = .returned (.tuple #[Va.str (putL xs).1, .int .i64 ((putL xs).2 : Nat)])) := fun h => by rw [h]
  clear hr hf
  by_cases hbig : 256 < len
  · have hg : ((len : Int) > 256) := by omega
    have HP := Lib.hid (putL_big (l := xs) (by have := HLEN.out; omega))
    go_enter Try.func8, Try.ntmps8
    go_wp2_with fail
    go_ret2
    exact ⟨HRET.out HP.out, Below.refl _ _⟩
  have hg : ¬ ((len : Int) > 256) := by omega
  go_enter Try.func8, Try.ntmps8
  go_wp2_with fail
  refine (mayL_any a len cap xs _ HR.out (by omega)).mono ?_
  rcases mayL_01 xs with ⟨hm, hall⟩ | ⟨hm, hbad⟩
  case inr =>
    rw [hm]
    rintro e w0 ⟨rfl, b0⟩
    have B0 := Lib.hid b0
    have HP : Hid (putL xs = ([], 1)) := by
      obtain ⟨x, hx, h1⟩ := hbad
      exact putL_bad (by have := HLEN.out; omega) hx h1
    clear b0 hm hbad
    go_wp2_with fail
    go_ret2
    exact ⟨HRET.out HP.out, B0.out⟩
  rw [hm]
  rintro e w0 ⟨rfl, b0⟩
  have BW := Lib.hid b0
  have HALL := Lib.hid hall
  have HRW := Lib.hid (HR.out.later b0)
  clear b0 hm hall
  have H0 := Lib.hid (Wr.start w0 44)
  have B0 := Lib.hid ((Below.refl _ w0).alloc (Nat.le_refl _) (.cells #[.pointer none] 44))
  have HL0 := Lib.hid (Pk.putD_len (n := ((len : Nat) : Int)) (by omega))
  go_wp2_with fail
  refine (Pk.wnum_any w0.heap.size none [] (len : Nat) _ H0.out (by simp [cat]) (by omega)).mono ?_
  rintro e w1 ⟨rfl, h⟩
  obtain ⟨q1, l1, H1, E1, V1⟩ := left_put h
  have B1 := Lib.hid (B0.out.trans (V1.out.below (Nat.le_refl _) B0.out.size))
  have E1 : Hid (cat l1 = Va.putD (len : Nat) ++ recsB (xs.take 0)) := by show _ = _; rw [E1.out, List.take_zero]; show [] ++ _ = _ ++ []; rw [List.append_nil]; rfl
  clear h V1
  go_wp2_with fail
  go_loopw [21] (fun iv wr => ∃ k : Nat, k ≤ len ∧ iv = .int .i64 k ∧ ∃ q l', Hid (Wr wr w0.heap.size q l') ∧ Hid (cat l' = Va.putD (len : Nat) ++ recsB (xs.take k)) ∧ Hid (Below w0.heap.size w0 wr)) (fun iv _ => len - (intOf iv).toNat)
  case atStart => exact ⟨0, Nat.zero_le _, rfl, q1, l1, H1.out, E1.out, B1.out⟩
  case round =>
    obtain ⟨k, hk, rfl, q, l', HW, HE, HB⟩ := hrel
    by_cases hkl : k < len
    · obtain ⟨y, hy⟩ : ∃ y, xs[k]? = some y := ⟨_, List.getElem?_eq_getElem (by have := HLEN.out; omega)⟩
      have hmem := List.mem_of_getElem? hy
      obtain ⟨b, off, rfl, hb, hc⟩ := (HRW.out.later HB.out).at_ (by omega)
      have cy := hc k y hy
      have hfy := HF.out y hmem
      have HTK : Hid (recsB (xs.take (k + 1)) = recsB (xs.take k) ++ recB y) := recsB_take hy
      have HZ2 := recsB_len (l := xs.take k) (fun x hx => HF.out x (List.mem_of_mem_take hx))
      have HCL : Hid ((cat l').length ≤ 1000000) := by
        show _ ≤ _
        rw [HE.out, List.length_append]
        rw [List.length_take] at HZ2
        have h1 := HL0.out
        have h2 := HLEN.out
        omega
      have WA := fun W B q l h hl => Cd.write_any B q l y W h hl hfy
      have kb : Below wr.heap.size wr (wr.alloc (.cells ⟨recL y⟩ 39)) := (Below.refl _ _).alloc (Nat.le_refl _) _
      have HB1 := Lib.hid (HB.out.trans (kb.mono HB.out.size))
      have HW1 := Lib.hid (HW.out.later kb)
      generalize recB y = rb at *
      clear hc hy hmem hfy HZ2 kb
      obtain ⟨y0, y1, y2, y3, y4, y5, y6, y7, y8⟩ := y
      simp only [recV] at WA
      have WA := Lib.hid WA
      obtain ⟨c0, c1, c2, c3, c4, c5, c6, c7, c8⟩ := cy
      simp only at c0 c1 c2 c3 c4 c5 c6 c7 c8
      go_wp2_with fail
      refine (WA.out _ _ _ _ HW1.out HCL.out).mono ?_
      rintro e w3 ⟨rfl, h⟩
      obtain ⟨q3, l3, H3, E3, V3⟩ := left_put h
      have HB3 := Lib.hid (HB1.out.trans (V3.out.below (Nat.le_refl _) HB1.out.size))
      have E3 : Hid (cat l3 = Va.putD (len : Nat) ++ recsB (xs.take (k + 1))) := by
        show _ = _
        rw [E3.out, HE.out, List.append_assoc, HTK.out]
      clear h V3 c0 c1 c2 c3 c4 c5 c6 c7 c8
      go_wp2_with fail
      go_roundw
      case rel => exact ⟨k + 1, by omega, by go_num, q3, l3, H3.out, E3.out, HB3.out⟩
      case measure => simp [intOf]; omega
    · have hkn : k = len := by omega
      subst hkn
      have HP : Hid (putL xs = (lotB xs, 0)) := putL_all (by have := HLEN.out; omega) HALL.out
      have HEL : Hid (cat l' = lotB xs) := by
        show _ = _
        rw [HE.out, List.take_of_length_le (by have := HLEN.out; omega)]
        unfold lotB
        rw [HLEN.out]
      have HCL : (cat l').length ≤ 1000000 := by
        have h1 := recsB_len HF.out
        have h2 := HLEN.out
        have h3 := HL0.out
        rw [HE.out, List.take_of_length_le (by omega), List.length_append]
        omega
      go_wp2_with fail
      refine (Pk.bytes_any w0.heap.size q l' _ HW.out (by omega)).mono ?_
      rw [HEL.out]
      rintro e w3 ⟨rfl, b3⟩
      have HB3 := Lib.hid (BW.out.trans ((HB.out.trans (b3.mono HB.out.size)).mono BW.out.size))
      clear b3
      go_wp2_with fail
      go_ret2
      exact ⟨HRET.out HP.out, HB3.out⟩
end Go.Proofs.Ytafcgknpehphlaa.Lt
