/- Which records may be: by the program and by the document. -/
import Derived.Test.YtafcgknpehphlaaCdKit
namespace Go.Proofs.Ytafcgknpehphlaa.Cd
open Go.RowKit
open Pk (But)

theorem may_bad {x : Rec} (h : x.tr ≤ 0 ∨ x.id ≤ 0 ∨ x.pa < 0 ∨ x.rv < 0 ∨ nameB x.sv = false ∨ nameB x.op = false ∨ x.st < -4611686018427387904 ∨ x.st > 4611686018427387903) : may x = 1 := by
  refine if_neg ?_
  rintro ⟨h0, h1, h2, h3, h4, h5, h6, h7⟩
  rcases h with h | h | h | h | h | h | h | h
  · omega
  · omega
  · omega
  · omega
  · rw [h4] at h; cases h
  · rw [h5] at h; cases h
  · omega
  · omega

set_option maxHeartbeats 1600000 in
set_option maxRecDepth 100000 in
theorem may_any (x : Rec) (w : World) :
    Calls Try.prog 33 #[recV x] w fun e w' => e = .returned (.int .i64 (may x : Nat)) ∧ Below w.heap.size w w' := by
  have H0 := Lib.hid (Blk.start w 39 (recL x))
  have B0 := Lib.hid ((Below.refl _ w).alloc (Nat.le_refl _) (.cells ⟨recL x⟩ 39))
  obtain ⟨tr, id, pa, rv, sv, op, st, du, gn⟩ := x
  by_cases k0 : tr ≤ 0
  · rw [may_bad (.inl k0)]
    unfold recV
    go_enter Try.func33, Try.ntmps33
    go_wp2_with fail
    go_ret
    exact ⟨rfl, B0.out⟩
  by_cases k1 : id ≤ 0
  · rw [may_bad (.inr (.inl k1))]
    unfold recV
    go_enter Try.func33, Try.ntmps33
    go_wp2_with fail
    go_ret
    exact ⟨rfl, B0.out⟩
  by_cases k2 : pa < 0
  · rw [may_bad (.inr (.inr (.inl k2)))]
    unfold recV
    go_enter Try.func33, Try.ntmps33
    go_wp2_with fail
    go_ret
    exact ⟨rfl, B0.out⟩
  by_cases k3 : rv < 0
  · rw [may_bad (.inr (.inr (.inr (.inl k3))))]
    unfold recV
    go_enter Try.func33, Try.ntmps33
    go_wp2_with fail
    go_ret
    exact ⟨rfl, B0.out⟩
  have C4 := Lib.hid (isname_any sv (w.alloc (.cells ⟨recL ⟨tr, id, pa, rv, sv, op, st, du, gn⟩⟩ 39)))
  obtain ⟨n4, h4⟩ : ∃ b, nameB sv = b := ⟨_, rfl⟩
  rw [h4] at C4
  cases n4
  · rw [may_bad (.inr (.inr (.inr (.inr (.inl h4)))))]
    clear h4
    unfold recV
    go_enter Try.func33, Try.ntmps33
    go_wp2_with fail
    refine (C4.out).mono ?_
    rintro e w1 ⟨rfl, b1⟩
    have B1 := Lib.hid (B0.out.trans (b1.mono B0.out.size))
    clear b1
    go_wp2_with fail
    go_ret
    exact ⟨rfl, B1.out⟩
  obtain ⟨n5, h5⟩ : ∃ b, nameB op = b := ⟨_, rfl⟩
  cases n5
  · rw [may_bad (.inr (.inr (.inr (.inr (.inr (.inl h5))))))]
    have h4 := Lib.hid h4
    have h5 := Lib.hid h5
    unfold recV
    go_enter Try.func33, Try.ntmps33
    go_wp2_with fail
    refine (C4.out).mono ?_
    rintro e w1 ⟨rfl, b1⟩
    have B1 := Lib.hid (B0.out.trans (b1.mono B0.out.size))
    obtain ⟨c0, c1, c2, c3, c4, c5, c6, c7, c8⟩ := (H0.out.later b1).nine
    clear b1
    go_wp2_with fail
    refine (isname_any op w1).mono ?_
    rw [h5.out]
    rintro e w2 ⟨rfl, b2⟩
    have B2 := Lib.hid (B1.out.trans (b2.mono B1.out.size))
    clear b2
    go_wp2_with fail
    go_ret
    exact ⟨rfl, B2.out⟩
  have go : ∀ (m : Nat), (st < -4611686018427387904 ∧ m = 1 ∨ st > 4611686018427387903 ∧ m = 1 ∨ ¬ (st < -4611686018427387904) ∧ ¬ (st > 4611686018427387903) ∧ m = 0) →
      Calls Try.prog 33 #[.agg #[.int .i64 tr, .int .i64 id, .int .i64 pa, .int .i64 rv, .string sv, .string op, .int .i64 st, .int .i64 du, .bool gn]] w fun e w' => e = .returned (.int .i64 (m : Nat)) ∧ Below w.heap.size w w' := by
    intro m hm
    have h4 := Lib.hid h4
    have h5 := Lib.hid h5
    have HM := Lib.hid hm
    clear hm
    go_enter Try.func33, Try.ntmps33
    go_wp2_with fail
    refine (C4.out).mono ?_
    rintro e w1 ⟨rfl, b1⟩
    have B1 := Lib.hid (B0.out.trans (b1.mono B0.out.size))
    have H1 := Lib.hid (H0.out.later b1)
    obtain ⟨c0, c1, c2, c3, c4, c5, c6, c7, c8⟩ := H1.out.nine
    clear b1
    go_wp2_with fail
    refine (isname_any op w1).mono ?_
    rw [h5.out]
    rintro e w2 ⟨rfl, b2⟩
    have B2 := Lib.hid (B1.out.trans (b2.mono B1.out.size))
    clear c0 c1 c2 c3 c4 c5 c6 c7 c8
    obtain ⟨c0, c1, c2, c3, c4, c5, c6, c7, c8⟩ := (H1.out.later b2).nine
    clear b2
    rcases HM.out with ⟨k6, rfl⟩ | ⟨k7, rfl⟩ | ⟨k6, k7, rfl⟩
    · go_wp2_with fail
      go_ret
      exact ⟨rfl, B2.out⟩
    · have k6 : ¬ (st < -4611686018427387904) := by omega
      go_wp2_with fail
      go_ret
      exact ⟨rfl, B2.out⟩
    · go_wp2_with fail
      go_ret
      exact ⟨rfl, B2.out⟩
  refine go _ ?_
  by_cases k6 : st < -4611686018427387904
  · exact .inl ⟨k6, may_bad (.inr (.inr (.inr (.inr (.inr (.inr (.inl k6)))))))⟩
  by_cases k7 : st > 4611686018427387903
  · exact .inr (.inl ⟨k7, may_bad (.inr (.inr (.inr (.inr (.inr (.inr (.inr k7))))))) ⟩)
  · refine .inr (.inr ⟨k6, k7, if_pos ⟨by simp only; omega, by simp only; omega, by simp only; omega, by simp only; omega, h4, h5, by simp only; omega, by simp only; omega⟩⟩)

set_option maxHeartbeats 1600000 in
set_option maxRecDepth 100000 in
theorem rmay_any (x : Rec) (w : World) (hs : x.sv.size ≤ 1000) (ho : x.op.size ≤ 1000) :
    Calls Try.prog 30 #[recV x] w fun e w' => e = .returned (.int .i64 (may x : Nat)) ∧ Below w.heap.size w w' := by
  have B0 := Lib.hid ((Below.refl _ w).alloc (Nat.le_refl _) (.cells ⟨recL x⟩ 39))
  obtain ⟨tr, id, pa, rv, sv, op, st, du, gn⟩ := x
  have C4 := Lib.hid (rname_any sv (w.alloc (.cells #[.int .i64 tr, .int .i64 id, .int .i64 pa, .int .i64 rv, .string sv, .string op, .int .i64 st, .int .i64 du, .bool gn] 39)) (by have : sv.size ≤ 1000 := hs; omega))
  have C5 := Lib.hid (rname_any op (w.alloc (.cells #[.int .i64 tr, .int .i64 id, .int .i64 pa, .int .i64 rv, .string sv, .string op, .int .i64 st, .int .i64 du, .bool gn] 39)) (by have : op.size ≤ 1000 := ho; omega))
  clear hs ho
  by_cases k0 : tr ≤ 0
  · rw [may_bad (.inl k0)]
    have k0 : tr < 1 := by have : tr ≤ 0 := k0; omega
    unfold recV
    go_enter Try.func30, Try.ntmps30
    go_wp2_with fail
    go_ret
    exact ⟨rfl, B0.out⟩
  have j0 : ¬ (tr < 1) := by omega
  by_cases k1 : id ≤ 0
  · rw [may_bad (.inr (.inl k1))]
    have k1 : id < 1 := by have : id ≤ 0 := k1; omega
    unfold recV
    go_enter Try.func30, Try.ntmps30
    go_wp2_with fail
    go_ret
    exact ⟨rfl, B0.out⟩
  have j1 : ¬ (id < 1) := by omega
  by_cases k2 : pa < 0
  · rw [may_bad (.inr (.inr (.inl k2)))]
    unfold recV
    go_enter Try.func30, Try.ntmps30
    go_wp2_with fail
    go_ret
    exact ⟨rfl, B0.out⟩
  by_cases k3 : rv < 0
  · rw [may_bad (.inr (.inr (.inr (.inl k3))))]
    unfold recV
    go_enter Try.func30, Try.ntmps30
    go_wp2_with fail
    go_ret
    exact ⟨rfl, B0.out⟩
  clear k0 k1
  obtain ⟨n4, h4⟩ : ∃ b, nameB sv = b := ⟨_, rfl⟩
  rw [h4] at C4
  cases n4
  · rw [may_bad (.inr (.inr (.inr (.inr (.inl h4)))))]
    clear h4
    unfold recV
    go_enter Try.func30, Try.ntmps30
    go_wp2_with fail
    refine (C4.out).mono ?_
    rintro e w1 ⟨rfl, rfl⟩
    go_wp2_with fail
    go_ret
    exact ⟨rfl, B0.out⟩
  obtain ⟨n5, h5⟩ : ∃ b, nameB op = b := ⟨_, rfl⟩
  rw [h5] at C5
  cases n5
  · rw [may_bad (.inr (.inr (.inr (.inr (.inr (.inl h5))))))]
    clear h4 h5
    unfold recV
    go_enter Try.func30, Try.ntmps30
    go_wp2_with fail
    refine (C4.out).mono ?_
    rintro e w1 ⟨rfl, rfl⟩
    go_wp2_with fail
    refine (C5.out).mono ?_
    rintro e w1 ⟨rfl, rfl⟩
    go_wp2_with fail
    go_ret
    exact ⟨rfl, B0.out⟩
  by_cases k6 : st < -4611686018427387904
  · rw [may_bad (.inr (.inr (.inr (.inr (.inr (.inr (.inl k6)))))))]
    clear h4 h5
    unfold recV
    go_enter Try.func30, Try.ntmps30
    go_wp2_with fail
    refine (C4.out).mono ?_
    rintro e w1 ⟨rfl, rfl⟩
    go_wp2_with fail
    refine (C5.out).mono ?_
    rintro e w1 ⟨rfl, rfl⟩
    go_wp2_with fail
    go_ret
    exact ⟨rfl, B0.out⟩
  by_cases k7 : st > 4611686018427387903
  · rw [may_bad (.inr (.inr (.inr (.inr (.inr (.inr (.inr k7)))))))]
    have k7 : st ≥ 4611686018427387904 := by have : st > 4611686018427387903 := k7; omega
    clear h4 h5
    unfold recV
    go_enter Try.func30, Try.ntmps30
    go_wp2_with fail
    refine (C4.out).mono ?_
    rintro e w1 ⟨rfl, rfl⟩
    go_wp2_with fail
    refine (C5.out).mono ?_
    rintro e w1 ⟨rfl, rfl⟩
    go_wp2_with fail
    go_ret
    exact ⟨rfl, B0.out⟩
  · rw [show may ⟨tr, id, pa, rv, sv, op, st, du, gn⟩ = 0 from if_pos ⟨by simp only; omega, by simp only; omega, by simp only; omega, by simp only; omega, h4, h5, by simp only; omega, by simp only; omega⟩]
    have k7 : ¬ (st ≥ 4611686018427387904) := by omega
    clear h4 h5
    unfold recV
    go_enter Try.func30, Try.ntmps30
    go_wp2_with fail
    refine (C4.out).mono ?_
    rintro e w1 ⟨rfl, rfl⟩
    go_wp2_with fail
    refine (C5.out).mono ?_
    rintro e w1 ⟨rfl, rfl⟩
    go_wp2_with fail
    go_ret
    exact ⟨rfl, B0.out⟩
end Go.Proofs.Ytafcgknpehphlaa.Cd
