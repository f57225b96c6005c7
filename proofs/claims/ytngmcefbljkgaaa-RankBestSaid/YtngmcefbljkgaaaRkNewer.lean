/- Records: what is kept of them, their bytes, and which text stands behind another one. -/
import Derived.Test.YtngmcefbljkgaaaRkMath
import Derived.Test.YtngmcefbljkgaaaCdRPut
import Derived.Test.YtngmcefbljkgaaaSaSpan
namespace Go.Proofs.Ytngmcefbljkgaaa.Rk
open Go.RowKit
open Cd (Rec Fit may putB recB zeroR recV recL Blk)
open Sa (drewN_below)

/-- numbers of 64 bits, and names that are short -/
structure Ok (x : Rec) : Prop where
  fit : Fit x
  lo : -9223372036854775808 ≤ x.tr ∧ -9223372036854775808 ≤ x.id ∧ -9223372036854775808 ≤ x.pa ∧ -9223372036854775808 ≤ x.rv
theorem Ok.kept {x : Rec} (h : Ok x) : Ok (kept x) := ⟨fit_kept h.fit, h.lo⟩
theorem kept_du (x : Rec) : Sa.cl x.du 0 4611686018427387904 = (kept x).du := by
  show (if x.du < 0 ∨ (4611686018427387904 : Int) < 0 then 0 else if 4611686018427387904 < x.du then 4611686018427387904 else x.du) = (if x.du < 0 then 0 else if 4611686018427387904 < x.du then 4611686018427387904 else x.du)
  by_cases h : x.du < 0
  · rw [if_pos h, if_pos (.inl h)]
  · rw [if_neg h, if_neg (fun g => g.elim h (by decide))]
theorem kept_c (x : Rec) (w : World) :
    Calls Try.prog 16 #[recV x] w fun e w' => e = .returned (recV (kept x)) ∧ Below w.heap.size w w' := by
  have h := Sa.kept_any x.tr x.id x.pa x.rv x.st x.du x.sv x.op x.gn w
  rw [kept_du] at h
  exact h
theorem rkept_c (x : Rec) (w : World) :
    Calls Try.prog 17 #[recV x] w fun e w' => e = .returned (recV (kept x)) ∧ Below w.heap.size w w' := by
  have h := Sa.rkept_any x.tr x.id x.pa x.rv x.st x.du x.sv x.op x.gn w
  rw [kept_du] at h
  exact h

set_option maxHeartbeats 1600000 in
set_option maxRecDepth 100000 in
theorem bytes_any (x : Rec) (w : World) (hf : Fit x) :
    Calls Try.prog 18 #[recV x] w fun e w' => e = .returned (Va.str (byt x)) ∧ Below w.heap.size w w' := by
  have B0 := Lib.hid ((Below.refl _ w).alloc (Nat.le_refl _) (.cells ⟨recL x⟩ 23))
  have KA := fun w => kept_c x w
  have PA := fun w => Cd.put_any (kept x) w (fit_kept hf)
  have hb : byt x = putB (kept x) := rfl
  rw [hb]
  generalize kept x = y at *
  generalize putB y = bs at *
  generalize may y = m at *
  have KA := Lib.hid KA
  have PA := Lib.hid PA
  clear hf hb
  obtain ⟨tr, id, pa, rv, sv, op, st, du, gn⟩ := x
  simp only [recV] at KA
  unfold recV
  go_enter Try.func18, Try.ntmps18
  go_wp2_with fail
  refine (KA.out _).mono ?_
  rintro e w1 ⟨rfl, b1⟩
  have B1 := Lib.hid (B0.out.trans (b1.mono B0.out.size))
  clear b1
  go_wp2_with fail
  refine (PA.out _).mono ?_
  rintro e w2 ⟨rfl, b2⟩
  have B2 := Lib.hid (B1.out.trans (b2.mono B1.out.size))
  clear b2
  go_wp2_with fail
  go_ret
  exact ⟨rfl, B2.out⟩

theorem bl_drop (a b : List UInt8) (k : Nat) (c d : UInt8) (ha : a[k]? = some c) (hb : b[k]? = some d) : Op.bytesLess (b.drop k) (a.drop k) = (decide (d < c) || (d == c && Op.bytesLess (b.drop (k + 1)) (a.drop (k + 1)))) := by
  obtain ⟨h1, h2⟩ := List.getElem?_eq_some_iff.1 ha
  obtain ⟨h3, h4⟩ := List.getElem?_eq_some_iff.1 hb
  rw [List.drop_eq_getElem_cons h1, List.drop_eq_getElem_cons h3, h2, h4]
  rfl

set_option maxHeartbeats 1600000 in
set_option maxRecDepth 100000 in
theorem behind_any (a b : ByteArray) (ha : a.size ≤ 1099511627776) (hb : b.size ≤ 1099511627776) (w : World) :
    Calls Try.prog 20 #[.string a, .string b] w fun e w' => e = .returned (.bool (Op.bytesLess b.data.toList a.data.toList)) ∧ Below w.heap.size w w' := by
  have HRET : Hid (∀ t f : Bool, t = f → Ending.returned (Value.bool t) = Ending.returned (Value.bool f)) := fun _ _ h => by rw [h]
  go_enter Try.func20, Try.ntmps20
  go_wp2_with fail
  go_loopw [5] (fun i wr => ∃ k : Nat, k ≤ a.size ∧ k ≤ b.size ∧ i = .int .i64 k ∧ Hid (Op.bytesLess b.data.toList a.data.toList = Op.bytesLess (b.data.toList.drop k) (a.data.toList.drop k)) ∧ Hid (Below w.heap.size w wr)) (fun i _ => a.size - (intOf i).toNat)
  case atStart => exact ⟨0, Nat.zero_le _, Nat.zero_le _, rfl, rfl, Below.refl _ _⟩
  case round =>
    obtain ⟨k, hka, hkb, rfl, HE, HB⟩ := hrel
    by_cases hlt : k < a.size
    · have qa : a.data.toList[k]? = some a[k] := by simp [hlt]; rfl
      by_cases hlb : k < b.size
      · have qb : b.data.toList[k]? = some b[k] := by simp [hlb]; rfl
        have hst := bl_drop _ _ k _ _ qa qb
        rcases Nat.lt_trichotomy a[k].toNat b[k].toNat with hc | hc | hc
        · have HR : Hid (Op.bytesLess b.data.toList a.data.toList = false) := by
            show _ = false
            rw [HE.out, hst]
            have h1 : ¬ b[k] < a[k] := by rw [UInt8.lt_iff_toNat_lt]; omega
            have h2 : (b[k] == a[k]) = false := by simp; intro h; rw [h] at hc; omega
            rw [h2]; simp [h1]
          clear hst qa qb
          go_wp2_with fail
          go_quiet (fail)
          go_wp2_with fail
          go_quiet (fail)
          go_wp2_with fail
          go_ret
          exact ⟨HRET.out _ _ HR.out.symm, drewN_below (drewN_below HB.out _) _⟩
        · have hq : b[k] = a[k] := UInt8.toNat_inj.1 hc.symm
          have HR : Hid (Op.bytesLess b.data.toList a.data.toList = Op.bytesLess (b.data.toList.drop (k + 1)) (a.data.toList.drop (k + 1))) := by
            show _ = _
            rw [HE.out, hst, hq]
            have h1 : ¬ a[k] < a[k] := by rw [UInt8.lt_iff_toNat_lt]; omega
            simp [h1]
          clear hst qa qb hq
          go_wp2_with fail
          go_quiet (fail)
          go_wp2_with fail
          go_quiet (fail)
          go_wp2_with fail
          go_roundw
          case rel => exact ⟨k + 1, by omega, by omega, by go_num, HR, drewN_below HB.out _⟩
          case measure => simp [intOf]; omega
        · have HR : Hid (Op.bytesLess b.data.toList a.data.toList = true) := by
            show _ = true
            rw [HE.out, hst]
            have h1 : b[k] < a[k] := by rw [UInt8.lt_iff_toNat_lt]; omega
            simp [h1]
          clear hst qa qb
          go_wp2_with fail
          go_quiet (fail)
          go_wp2_with fail
          go_ret
          exact ⟨HRET.out _ _ HR.out.symm, drewN_below HB.out _⟩
      · have HR : Hid (Op.bytesLess b.data.toList a.data.toList = true) := by
          show _ = true
          rw [HE.out, List.drop_eq_nil_of_le (by simp; omega)]
          have : a.data.toList.drop k = a.data.toList[k]'(by simpa using hlt) :: a.data.toList.drop (k + 1) := List.drop_eq_getElem_cons _
          rw [this]; rfl
        go_wp2_with fail
        go_quiet (fail)
        go_wp2_with fail
        go_ret
        exact ⟨HRET.out _ _ HR.out.symm, drewN_below HB.out _⟩
    · have HR : Hid (Op.bytesLess b.data.toList a.data.toList = false) := by
        show _ = false
        have hnil : a.data.toList.drop k = [] := List.drop_eq_nil_of_le (by simp; omega)
        rw [HE.out, hnil]
        cases b.data.toList.drop k <;> rfl
      go_wp2_with fail
      go_ret
      exact ⟨HRET.out _ _ HR.out.symm, HB.out⟩
end Go.Proofs.Ytngmcefbljkgaaa.Rk
