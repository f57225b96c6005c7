/- The walk of the third law of layer 9: what is put is taken as it was, what was taken was put so, and no two records have the same bytes. -/
import Derived.Test.YtlcalemjhahdpaaCdParts
set_option linter.unusedSimpArgs false
namespace Go.Proofs.Ytlcalemjhahdpaa.Cd
open Go.RowKit
open Pk (But)

theorem bytes_ne {x y : Rec} (hx : Fit x) (hy : Fit y) (mx : may x = 0) (my : may y = 0) (h : x ≠ y) : (ByteArray.toList ⟨(recB x).toArray⟩ == ByteArray.toList ⟨(recB y).toArray⟩) = false := by
  rw [ByteArray.toList_eq, ByteArray.toList_eq, beq_eq_false_iff_ne]
  intro e
  exact h (recB_inj hx hy mx my e)
theorem bytes_eq {a b : ByteArray} (h : a.toList = b.toList) : a = b := by
  rw [ByteArray.toList_eq, ByteArray.toList_eq] at h
  exact ByteArray.ext (Array.toList_inj.1 h)
theorem str_of {s : ByteArray} {l : List UInt8} (h : s.data.toList = l) : Va.str l = .string s := by
  subst h
  rfl

set_option maxHeartbeats 12800000 in
set_option maxRecDepth 100000 in
theorem back_any (x y : Rec) (s : ByteArray) (w : World) (hx : W64 x) (hy : W64 y) :
    Calls Try.prog 5 #[recV x, recV y, .string s] w fun e w' => e = .returned (.bool true) ∧ Below w.heap.size w w' := by
  have k0 := Blk.start w 23 (recL x)
  have b0 : Below w.heap.size w (w.alloc (.cells ⟨recL x⟩ 23)) := (Below.refl _ w).alloc (Nat.le_refl _) _
  have k1 := Blk.start (w.alloc (.cells ⟨recL x⟩ 23)) 23 (recL y)
  have b1 : Below (w.alloc (.cells ⟨recL x⟩ 23)).heap.size (w.alloc (.cells ⟨recL x⟩ 23)) ((w.alloc (.cells ⟨recL x⟩ 23)).alloc (.cells ⟨recL y⟩ 23)) := (Below.refl _ _).alloc (Nat.le_refl _) _
  have hz : (w.alloc (.cells ⟨recL x⟩ 23)).heap.size = w.heap.size + 1 := by simp
  rw [hz] at k1
  have KX0 := Lib.hid (k0.later b1)
  have KY0 := Lib.hid k1
  have B0 := Lib.hid (b0.trans (b1.mono b0.size))
  have HX := Lib.hid hx
  have HY := Lib.hid hy
  have CS := Lib.hid (fun w => short_any x w)
  have CT := Lib.hid (fun w => short_any y w)
  have NE : Hid (Fit x → Fit y → may x = 0 → may y = 0 → x ≠ y → (ByteArray.toList ⟨(recB x).toArray⟩ == ByteArray.toList ⟨(recB y).toArray⟩) = false) := fun h1 h2 h3 h4 h5 => bytes_ne h1 h2 h3 h4 h5
  clear k0 b0 k1 b1 hz hx hy
  obtain ⟨tr, id, pa, rv, sv, op, st, du, gn⟩ := x
  obtain ⟨u0, u1, u2, u3, u4, u5, u6, u7, u8⟩ := y
  have CS : Hid (∀ w, Calls Try.prog 6 #[.agg #[.int .i64 tr, .int .i64 id, .int .i64 pa, .int .i64 rv, .string sv, .string op, .int .i64 st, .int .i64 du, .bool gn]] w fun e w' => e = .returned (.bool (decide (sv.size ≤ 100) && decide (op.size ≤ 100))) ∧ Below w.heap.size w w') := CS.out
  have CT : Hid (∀ w, Calls Try.prog 6 #[.agg #[.int .i64 u0, .int .i64 u1, .int .i64 u2, .int .i64 u3, .string u4, .string u5, .int .i64 u6, .int .i64 u7, .bool u8]] w fun e w' => e = .returned (.bool (decide (u4.size ≤ 100) && decide (u5.size ≤ 100))) ∧ Below w.heap.size w w') := CT.out
  unfold recL at KX0 KY0
  by_cases hsx : (decide (sv.size ≤ 100) && decide (op.size ≤ 100)) = false
  · rw [hsx] at CS
    clear hsx NE
    unfold recV
    go_enter Try.func5, Try.ntmps5
    go_wp2_with fail
    refine (CS.out _).mono ?_
    rintro e w1 ⟨rfl, b1⟩
    have B1 := Lib.hid (B0.out.trans (b1.mono B0.out.size))
    have KX1 := Lib.hid (KX0.out.later b1)
    have KY1 := Lib.hid (KY0.out.later b1)
    clear b1
    obtain ⟨d0, d1, d2, d3, d4, d5, d6, d7, d8⟩ := KY1.out.nine
    go_wp2_with fail
    go_wp2_with fail
    refine (awake_any _).mono ?_
    rintro e w9 ⟨rfl, b9⟩
    have B9 := Lib.hid (B1.out.trans (b9.mono B1.out.size))
    clear b9
    go_wp2_with fail
    go_ret
    exact ⟨rfl, B9.out⟩
  have hsx : (decide (sv.size ≤ 100) && decide (op.size ≤ 100)) = true := by simpa using hsx
  rw [hsx] at CS
  by_cases hsy : (decide (u4.size ≤ 100) && decide (u5.size ≤ 100)) = false
  · rw [hsy] at CT
    clear hsx hsy NE
    unfold recV
    go_enter Try.func5, Try.ntmps5
    go_wp2_with fail
    refine (CS.out _).mono ?_
    rintro e w1 ⟨rfl, b1⟩
    have B1 := Lib.hid (B0.out.trans (b1.mono B0.out.size))
    have KX1 := Lib.hid (KX0.out.later b1)
    have KY1 := Lib.hid (KY0.out.later b1)
    clear b1
    obtain ⟨d0, d1, d2, d3, d4, d5, d6, d7, d8⟩ := KY1.out.nine
    go_wp2_with fail
    refine (CT.out _).mono ?_
    rintro e w2 ⟨rfl, b2⟩
    have B2 := Lib.hid (B1.out.trans (b2.mono B1.out.size))
    have KX2 := Lib.hid (KX1.out.later b2)
    have KY2 := Lib.hid (KY1.out.later b2)
    clear b2 d0 d1 d2 d3 d4 d5 d6 d7 d8
    go_wp2_with fail
    refine (awake_any _).mono ?_
    rintro e w9 ⟨rfl, b9⟩
    have B9 := Lib.hid (B2.out.trans (b9.mono B2.out.size))
    clear b9
    go_wp2_with fail
    go_ret
    exact ⟨rfl, B9.out⟩
  have hsy : (decide (u4.size ≤ 100) && decide (u5.size ≤ 100)) = true := by simpa using hsy
  rw [hsy] at CT
  by_cases hs : s.size > 200
  · have hs' : ((s.size : Int) > 200) := by omega
    clear hsx hsy NE hs
    unfold recV
    go_enter Try.func5, Try.ntmps5
    go_wp2_with fail
    refine (CS.out _).mono ?_
    rintro e w1 ⟨rfl, b1⟩
    have B1 := Lib.hid (B0.out.trans (b1.mono B0.out.size))
    have KX1 := Lib.hid (KX0.out.later b1)
    have KY1 := Lib.hid (KY0.out.later b1)
    clear b1
    obtain ⟨d0, d1, d2, d3, d4, d5, d6, d7, d8⟩ := KY1.out.nine
    go_wp2_with fail
    refine (CT.out _).mono ?_
    rintro e w2 ⟨rfl, b2⟩
    have B2 := Lib.hid (B1.out.trans (b2.mono B1.out.size))
    have KX2 := Lib.hid (KX1.out.later b2)
    have KY2 := Lib.hid (KY1.out.later b2)
    clear b2 d0 d1 d2 d3 d4 d5 d6 d7 d8
    go_wp2_with fail
    refine (awake_any _).mono ?_
    rintro e w9 ⟨rfl, b9⟩
    have B9 := Lib.hid (B2.out.trans (b9.mono B2.out.size))
    clear b9
    go_wp2_with fail
    go_ret
    exact ⟨rfl, B9.out⟩
  have hs' : ¬ ((s.size : Int) > 200) := by omega
  have FX : Hid (Fit ⟨tr, id, pa, rv, sv, op, st, du, gn⟩) := by
    simp at hsx
    exact HX.out.fit hsx.1 hsx.2
  have FY : Hid (Fit ⟨u0, u1, u2, u3, u4, u5, u6, u7, u8⟩) := by
    simp at hsy
    exact HY.out.fit hsy.1 hsy.2
  have PX := fun w => put_any ⟨tr, id, pa, rv, sv, op, st, du, gn⟩ w FX.out
  have PY := fun w => put_any ⟨u0, u1, u2, u3, u4, u5, u6, u7, u8⟩ w FY.out
  have TS := fun w => take_any s w (by omega)
  have TA : Hid (∀ w, may ⟨tr, id, pa, rv, sv, op, st, du, gn⟩ = 0 → Calls Try.prog 10 #[.string ⟨(recB ⟨tr, id, pa, rv, sv, op, st, du, gn⟩).toArray⟩] w fun e w' => e = .returned (.tuple #[.agg #[.int .i64 tr, .int .i64 id, .int .i64 pa, .int .i64 rv, .string sv, .string op, .int .i64 st, .int .i64 du, .bool gn], .int .i64 0]) ∧ Below w.heap.size w w') := by
    intro w hm
    have h := take_any ⟨(recB ⟨tr, id, pa, rv, sv, op, st, du, gn⟩).toArray⟩ w (by
      have := recB_len FX.out
      show (recB ⟨tr, id, pa, rv, sv, op, st, du, gn⟩).toArray.size ≤ _
      simp
      omega)
    rw [take_put FX.out hm rfl] at h
    exact h
  simp only [recV] at PX PY
  clear hsx hsy hs HX HY
  -- what stands of the bytes that came in
  have TS2 : Hid ((∃ z : Rec, (∀ w, Calls Try.prog 10 #[.string s] w fun e w' => e = .returned (.tuple #[recV z, .int .i64 0]) ∧ Below w.heap.size w w') ∧ (∀ w, Calls Try.prog 8 #[recV z] w fun e w' => e = .returned (.tuple #[.string s, .int .i64 0]) ∧ Below w.heap.size w w')) ∨
      (∃ q : Nat, q ≠ 0 ∧ ∀ w, Calls Try.prog 10 #[.string s] w fun e w' => e = .returned (.tuple #[.agg #[.int .i64 0, .int .i64 0, .int .i64 0, .int .i64 0, .string ⟨#[]⟩, .string ⟨#[]⟩, .int .i64 0, .int .i64 0, .bool false], .int .i64 (q : Nat)]) ∧ Below w.heap.size w w')) := by
    rcases take_back s with ⟨z, h1, h2, h3, h4⟩ | ⟨q, h1, h2⟩
    · left
      refine ⟨z, fun w => ?_, fun w => ?_⟩
      · have h := TS w
        rw [h1] at h
        exact h
      · have h := put_any z w h3
        rw [putB_ok h2, h2, str_of h4] at h
        exact h
    · right
      refine ⟨q, h1, fun w => ?_⟩
      have h := TS w
      rw [h2] at h
      exact h
  clear TS
  rcases may_01 ⟨tr, id, pa, rv, sv, op, st, du, gn⟩ with mx | mx
  · rcases may_01 ⟨u0, u1, u2, u3, u4, u5, u6, u7, u8⟩ with my | my
    · by_cases hxy : (⟨tr, id, pa, rv, sv, op, st, du, gn⟩ : Rec) = ⟨u0, u1, u2, u3, u4, u5, u6, u7, u8⟩
      · injection hxy with i0 i1 i2 i3 i4 i5 i6 i7 i8
        subst i0 i1 i2 i3 i4 i5 i6 i7 i8
        have PX : Hid (∀ w, Calls Try.prog 8 #[.agg #[.int .i64 tr, .int .i64 id, .int .i64 pa, .int .i64 rv, .string sv, .string op, .int .i64 st, .int .i64 du, .bool gn]] w fun e w' => e = .returned (.tuple #[.string ⟨(recB ⟨tr, id, pa, rv, sv, op, st, du, gn⟩).toArray⟩, .int .i64 0]) ∧ Below w.heap.size w w') := fun w => by have h := PX w; rw [putB_ok mx, mx] at h; exact h
        have TA := Lib.hid (fun w => TA.out w mx)
        have PY := PX
        generalize (⟨(recB ⟨tr, id, pa, rv, sv, op, st, du, gn⟩).toArray⟩ : ByteArray) = RX at *
        clear mx my NE FX FY
        unfold recV
        go_enter Try.func5, Try.ntmps5
        go_wp2_with fail
        refine (CS.out _).mono ?_
        rintro e w1 ⟨rfl, b1⟩
        have B1 := Lib.hid (B0.out.trans (b1.mono B0.out.size))
        have KX1 := Lib.hid (KX0.out.later b1)
        have KY1 := Lib.hid (KY0.out.later b1)
        clear b1
        obtain ⟨d0, d1, d2, d3, d4, d5, d6, d7, d8⟩ := KY1.out.nine
        go_wp2_with fail
        refine (CT.out _).mono ?_
        rintro e w2 ⟨rfl, b2⟩
        have B2 := Lib.hid (B1.out.trans (b2.mono B1.out.size))
        have KX2 := Lib.hid (KX1.out.later b2)
        have KY2 := Lib.hid (KY1.out.later b2)
        clear b2 d0 d1 d2 d3 d4 d5 d6 d7 d8
        obtain ⟨c0, c1, c2, c3, c4, c5, c6, c7, c8⟩ := KX2.out.nine
        go_wp2_with fail
        refine (PX.out _).mono ?_
        rintro e w3 ⟨rfl, b3⟩
        have B3 := Lib.hid (B2.out.trans (b3.mono B2.out.size))
        have KX3 := Lib.hid (KX2.out.later b3)
        have KY3 := Lib.hid (KY2.out.later b3)
        clear b3 c0 c1 c2 c3 c4 c5 c6 c7 c8
        obtain ⟨d0, d1, d2, d3, d4, d5, d6, d7, d8⟩ := KY3.out.nine
        go_wp2_with fail
        refine (PY.out _).mono ?_
        rintro e w4 ⟨rfl, b4⟩
        have B4 := Lib.hid (B3.out.trans (b4.mono B3.out.size))
        have KX4 := Lib.hid (KX3.out.later b4)
        have KY4 := Lib.hid (KY3.out.later b4)
        clear b4 d0 d1 d2 d3 d4 d5 d6 d7 d8
        go_wp2_with fail
        refine (TA.out _).mono ?_
        rintro e w5 ⟨rfl, b5⟩
        have k5 : Below w5.heap.size w5 (w5.alloc (.cells #[.int .i64 tr, .int .i64 id, .int .i64 pa, .int .i64 rv, .string sv, .string op, .int .i64 st, .int .i64 du, .bool gn] 23)) := (Below.refl _ _).alloc (Nat.le_refl _) _
        have B5 := B4.out.trans (b5.mono B4.out.size)
        have B6 := Lib.hid (B5.trans (k5.mono B5.size))
        have BF : Hid (∀ o, Below w.heap.size w (w5.alloc o)) := fun o => B5.trans (((Below.refl _ w5).alloc (Nat.le_refl _) o).mono B5.size)
        have KX6 := Lib.hid ((KX4.out.later b5).later k5)
        have KY6 := Lib.hid ((KY4.out.later b5).later k5)
        have KA6 : Hid (Blk (w5.alloc (.cells #[.int .i64 tr, .int .i64 id, .int .i64 pa, .int .i64 rv, .string sv, .string op, .int .i64 st, .int .i64 du, .bool gn] 23)) w5.heap.size [.int .i64 tr, .int .i64 id, .int .i64 pa, .int .i64 rv, .string sv, .string op, .int .i64 st, .int .i64 du, .bool gn]) := Blk.start w5 23 _
        clear b5 k5 B5
        obtain ⟨c0, c1, c2, c3, c4, c5, c6, c7, c8⟩ := KX6.out.nine
        obtain ⟨d0, d1, d2, d3, d4, d5, d6, d7, d8⟩ := KY6.out.nine
        obtain ⟨a0, a1, a2, a3, a4, a5, a6, a7, a8⟩ := KA6.out.nine
        go_wp2_with fail
        clear c0 c1 c2 c3 c4 c5 c6 c7 c8 d0 d1 d2 d3 d4 d5 d6 d7 d8 a0 a1 a2 a3 a4 a5 a6 a7 a8
        clear BF
        generalize World.alloc w5 _ = x5 at B6 ⊢
        rcases TS2.out with ⟨⟨z0, z1, z2, z3, z4, z5, z6, z7, z8⟩, t1, t2⟩ | ⟨q, hq, t1⟩
        · simp only [recV] at t1 t2
          have T1 := Lib.hid t1
          have T2 := Lib.hid t2
          clear t1 t2
          refine (T1.out _).mono ?_
          rintro e w7 ⟨rfl, b7⟩
          have k7 : Below w7.heap.size w7 (w7.alloc (.cells #[.int .i64 z0, .int .i64 z1, .int .i64 z2, .int .i64 z3, .string z4, .string z5, .int .i64 z6, .int .i64 z7, .bool z8] 23)) := (Below.refl _ _).alloc (Nat.le_refl _) _
          have B7 := B6.out.trans (b7.mono B6.out.size)
          have B8 := Lib.hid (B7.trans (k7.mono B7.size))
          have KZ8 : Hid (Blk (w7.alloc (.cells #[.int .i64 z0, .int .i64 z1, .int .i64 z2, .int .i64 z3, .string z4, .string z5, .int .i64 z6, .int .i64 z7, .bool z8] 23)) w7.heap.size [.int .i64 z0, .int .i64 z1, .int .i64 z2, .int .i64 z3, .string z4, .string z5, .int .i64 z6, .int .i64 z7, .bool z8]) := Blk.start w7 23 _
          clear b7 k7 B7
          obtain ⟨c0, c1, c2, c3, c4, c5, c6, c7, c8⟩ := KZ8.out.nine
          go_wp2_with fail
          refine (T2.out _).mono ?_
          rintro e w8 ⟨rfl, b8⟩
          have B10 := Lib.hid (B8.out.trans (b8.mono B8.out.size))
          clear b8 c0 c1 c2 c3 c4 c5 c6 c7 c8
          go_wp2_with fail
          refine (awake_any _).mono ?_
          rintro e w9 ⟨rfl, b9⟩
          have B9 := Lib.hid (B10.out.trans (b9.mono B10.out.size))
          clear b9
          go_wp2_with fail
          go_ret
          exact ⟨rfl, B9.out⟩
        · have T1 := Lib.hid t1
          have hq' : ((q : Int) != 0) = true := by simp; omega
          clear t1
          refine (T1.out _).mono ?_
          rintro e w7 ⟨rfl, b7⟩
          have k7 : Below w7.heap.size w7 (w7.alloc (.cells #[.int .i64 0, .int .i64 0, .int .i64 0, .int .i64 0, .string ⟨#[]⟩, .string ⟨#[]⟩, .int .i64 0, .int .i64 0, .bool false] 23)) := (Below.refl _ _).alloc (Nat.le_refl _) _
          have B7 := B6.out.trans (b7.mono B6.out.size)
          have B8 := Lib.hid (B7.trans (k7.mono B7.size))
          have KZ8 : Hid (Blk (w7.alloc (.cells #[.int .i64 0, .int .i64 0, .int .i64 0, .int .i64 0, .string ⟨#[]⟩, .string ⟨#[]⟩, .int .i64 0, .int .i64 0, .bool false] 23)) w7.heap.size [.int .i64 0, .int .i64 0, .int .i64 0, .int .i64 0, .string ⟨#[]⟩, .string ⟨#[]⟩, .int .i64 0, .int .i64 0, .bool false]) := Blk.start w7 23 _
          clear b7 k7 B7
          obtain ⟨c0, c1, c2, c3, c4, c5, c6, c7, c8⟩ := KZ8.out.nine
          go_wp2_with fail
          refine (awake_any _).mono ?_
          rintro e w9 ⟨rfl, b9⟩
          have B9 := Lib.hid (B8.out.trans (b9.mono B8.out.size))
          clear b9
          go_wp2_with fail
          go_ret
          exact ⟨rfl, B9.out⟩
      · skip
        have PX : Hid (∀ w, Calls Try.prog 8 #[.agg #[.int .i64 tr, .int .i64 id, .int .i64 pa, .int .i64 rv, .string sv, .string op, .int .i64 st, .int .i64 du, .bool gn]] w fun e w' => e = .returned (.tuple #[.string ⟨(recB ⟨tr, id, pa, rv, sv, op, st, du, gn⟩).toArray⟩, .int .i64 0]) ∧ Below w.heap.size w w') := fun w => by have h := PX w; rw [putB_ok mx, mx] at h; exact h
        have TA := Lib.hid (fun w => TA.out w mx)
        have PY : Hid (∀ w, Calls Try.prog 8 #[.agg #[.int .i64 u0, .int .i64 u1, .int .i64 u2, .int .i64 u3, .string u4, .string u5, .int .i64 u6, .int .i64 u7, .bool u8]] w fun e w' => e = .returned (.tuple #[.string ⟨(recB ⟨u0, u1, u2, u3, u4, u5, u6, u7, u8⟩).toArray⟩, .int .i64 0]) ∧ Below w.heap.size w w') := fun w => by have h := PY w; rw [putB_ok my, my] at h; exact h
        have NE := NE.out FX.out FY.out mx my hxy
        generalize (⟨(recB ⟨tr, id, pa, rv, sv, op, st, du, gn⟩).toArray⟩ : ByteArray) = RX at *
        generalize (⟨(recB ⟨u0, u1, u2, u3, u4, u5, u6, u7, u8⟩).toArray⟩ : ByteArray) = RY at *
        clear mx my FX FY
        have hxy : Hid (tr = u0 → id = u1 → pa = u2 → rv = u3 → sv.toList = u4.toList → op.toList = u5.toList → st = u6 → du = u7 → gn = u8 → False) := fun h0 h1 h2 h3 h4 h5 h6 h7 h8 => hxy (by rw [h0, h1, h2, h3, bytes_eq h4, bytes_eq h5, h6, h7, h8])
        unfold recV
        go_enter Try.func5, Try.ntmps5
        go_wp2_with fail
        refine (CS.out _).mono ?_
        rintro e w1 ⟨rfl, b1⟩
        have B1 := Lib.hid (B0.out.trans (b1.mono B0.out.size))
        have KX1 := Lib.hid (KX0.out.later b1)
        have KY1 := Lib.hid (KY0.out.later b1)
        clear b1
        obtain ⟨d0, d1, d2, d3, d4, d5, d6, d7, d8⟩ := KY1.out.nine
        go_wp2_with fail
        refine (CT.out _).mono ?_
        rintro e w2 ⟨rfl, b2⟩
        have B2 := Lib.hid (B1.out.trans (b2.mono B1.out.size))
        have KX2 := Lib.hid (KX1.out.later b2)
        have KY2 := Lib.hid (KY1.out.later b2)
        clear b2 d0 d1 d2 d3 d4 d5 d6 d7 d8
        obtain ⟨c0, c1, c2, c3, c4, c5, c6, c7, c8⟩ := KX2.out.nine
        go_wp2_with fail
        refine (PX.out _).mono ?_
        rintro e w3 ⟨rfl, b3⟩
        have B3 := Lib.hid (B2.out.trans (b3.mono B2.out.size))
        have KX3 := Lib.hid (KX2.out.later b3)
        have KY3 := Lib.hid (KY2.out.later b3)
        clear b3 c0 c1 c2 c3 c4 c5 c6 c7 c8
        obtain ⟨d0, d1, d2, d3, d4, d5, d6, d7, d8⟩ := KY3.out.nine
        go_wp2_with fail
        refine (PY.out _).mono ?_
        rintro e w4 ⟨rfl, b4⟩
        have B4 := Lib.hid (B3.out.trans (b4.mono B3.out.size))
        have KX4 := Lib.hid (KX3.out.later b4)
        have KY4 := Lib.hid (KY3.out.later b4)
        clear b4 d0 d1 d2 d3 d4 d5 d6 d7 d8
        go_wp2_with fail
        refine (TA.out _).mono ?_
        rintro e w5 ⟨rfl, b5⟩
        have k5 : Below w5.heap.size w5 (w5.alloc (.cells #[.int .i64 tr, .int .i64 id, .int .i64 pa, .int .i64 rv, .string sv, .string op, .int .i64 st, .int .i64 du, .bool gn] 23)) := (Below.refl _ _).alloc (Nat.le_refl _) _
        have B5 := B4.out.trans (b5.mono B4.out.size)
        have B6 := Lib.hid (B5.trans (k5.mono B5.size))
        have BF : Hid (∀ o, Below w.heap.size w (w5.alloc o)) := fun o => B5.trans (((Below.refl _ w5).alloc (Nat.le_refl _) o).mono B5.size)
        have KX6 := Lib.hid ((KX4.out.later b5).later k5)
        have KY6 := Lib.hid ((KY4.out.later b5).later k5)
        have KA6 : Hid (Blk (w5.alloc (.cells #[.int .i64 tr, .int .i64 id, .int .i64 pa, .int .i64 rv, .string sv, .string op, .int .i64 st, .int .i64 du, .bool gn] 23)) w5.heap.size [.int .i64 tr, .int .i64 id, .int .i64 pa, .int .i64 rv, .string sv, .string op, .int .i64 st, .int .i64 du, .bool gn]) := Blk.start w5 23 _
        clear b5 k5 B5
        obtain ⟨c0, c1, c2, c3, c4, c5, c6, c7, c8⟩ := KX6.out.nine
        obtain ⟨d0, d1, d2, d3, d4, d5, d6, d7, d8⟩ := KY6.out.nine
        obtain ⟨a0, a1, a2, a3, a4, a5, a6, a7, a8⟩ := KA6.out.nine
        go_wp2_with fail
        all_goals first | (exact (hxy.out (by assumption) (by assumption) (by assumption) (by assumption) (by assumption) (by assumption) (by assumption) (by assumption) (by assumption)).elim) | skip
        all_goals
          clear c0 c1 c2 c3 c4 c5 c6 c7 c8 d0 d1 d2 d3 d4 d5 d6 d7 d8 a0 a1 a2 a3 a4 a5 a6 a7 a8
          rcases TS2.out with ⟨⟨z0, z1, z2, z3, z4, z5, z6, z7, z8⟩, t1, t2⟩ | ⟨q, hq, t1⟩
          · simp only [recV] at t1 t2
            have T1 := Lib.hid t1
            have T2 := Lib.hid t2
            clear t1 t2
            refine (T1.out _).mono ?_
            rintro e w7 ⟨rfl, b7⟩
            have k7 : Below w7.heap.size w7 (w7.alloc (.cells #[.int .i64 z0, .int .i64 z1, .int .i64 z2, .int .i64 z3, .string z4, .string z5, .int .i64 z6, .int .i64 z7, .bool z8] 23)) := (Below.refl _ _).alloc (Nat.le_refl _) _
            have B7 := (BF.out _).trans (b7.mono (BF.out _).size)
            have B8 := Lib.hid (B7.trans (k7.mono B7.size))
            have KZ8 : Hid (Blk (w7.alloc (.cells #[.int .i64 z0, .int .i64 z1, .int .i64 z2, .int .i64 z3, .string z4, .string z5, .int .i64 z6, .int .i64 z7, .bool z8] 23)) w7.heap.size [.int .i64 z0, .int .i64 z1, .int .i64 z2, .int .i64 z3, .string z4, .string z5, .int .i64 z6, .int .i64 z7, .bool z8]) := Blk.start w7 23 _
            clear b7 k7 B7
            obtain ⟨c0, c1, c2, c3, c4, c5, c6, c7, c8⟩ := KZ8.out.nine
            go_wp2_with fail
            refine (T2.out _).mono ?_
            rintro e w8 ⟨rfl, b8⟩
            have B10 := Lib.hid (B8.out.trans (b8.mono B8.out.size))
            clear b8 c0 c1 c2 c3 c4 c5 c6 c7 c8
            go_wp2_with fail
            refine (awake_any _).mono ?_
            rintro e w9 ⟨rfl, b9⟩
            have B9 := Lib.hid (B10.out.trans (b9.mono B10.out.size))
            clear b9
            go_wp2_with fail
            go_ret
            exact ⟨rfl, B9.out⟩
          · have T1 := Lib.hid t1
            have hq' : ((q : Int) != 0) = true := by simp; omega
            clear t1
            refine (T1.out _).mono ?_
            rintro e w7 ⟨rfl, b7⟩
            have k7 : Below w7.heap.size w7 (w7.alloc (.cells #[.int .i64 0, .int .i64 0, .int .i64 0, .int .i64 0, .string ⟨#[]⟩, .string ⟨#[]⟩, .int .i64 0, .int .i64 0, .bool false] 23)) := (Below.refl _ _).alloc (Nat.le_refl _) _
            have B7 := (BF.out _).trans (b7.mono (BF.out _).size)
            have B8 := Lib.hid (B7.trans (k7.mono B7.size))
            have KZ8 : Hid (Blk (w7.alloc (.cells #[.int .i64 0, .int .i64 0, .int .i64 0, .int .i64 0, .string ⟨#[]⟩, .string ⟨#[]⟩, .int .i64 0, .int .i64 0, .bool false] 23)) w7.heap.size [.int .i64 0, .int .i64 0, .int .i64 0, .int .i64 0, .string ⟨#[]⟩, .string ⟨#[]⟩, .int .i64 0, .int .i64 0, .bool false]) := Blk.start w7 23 _
            clear b7 k7 B7
            obtain ⟨c0, c1, c2, c3, c4, c5, c6, c7, c8⟩ := KZ8.out.nine
            go_wp2_with fail
            refine (awake_any _).mono ?_
            rintro e w9 ⟨rfl, b9⟩
            have B9 := Lib.hid (B8.out.trans (b9.mono B8.out.size))
            clear b9
            go_wp2_with fail
            go_ret
            exact ⟨rfl, B9.out⟩
    · skip
      have PX : Hid (∀ w, Calls Try.prog 8 #[.agg #[.int .i64 tr, .int .i64 id, .int .i64 pa, .int .i64 rv, .string sv, .string op, .int .i64 st, .int .i64 du, .bool gn]] w fun e w' => e = .returned (.tuple #[.string ⟨(recB ⟨tr, id, pa, rv, sv, op, st, du, gn⟩).toArray⟩, .int .i64 0]) ∧ Below w.heap.size w w') := fun w => by have h := PX w; rw [putB_ok mx, mx] at h; exact h
      have TA := Lib.hid (fun w => TA.out w mx)
      have PY : Hid (∀ w, Calls Try.prog 8 #[.agg #[.int .i64 u0, .int .i64 u1, .int .i64 u2, .int .i64 u3, .string u4, .string u5, .int .i64 u6, .int .i64 u7, .bool u8]] w fun e w' => e = .returned (.tuple #[.string ⟨#[]⟩, .int .i64 1]) ∧ Below w.heap.size w w') := fun w => by have h := PY w; rw [putB_bad my, my] at h; exact h
      generalize (⟨(recB ⟨tr, id, pa, rv, sv, op, st, du, gn⟩).toArray⟩ : ByteArray) = RX at *
      clear mx my NE FX FY
      unfold recV
      go_enter Try.func5, Try.ntmps5
      go_wp2_with fail
      refine (CS.out _).mono ?_
      rintro e w1 ⟨rfl, b1⟩
      have B1 := Lib.hid (B0.out.trans (b1.mono B0.out.size))
      have KX1 := Lib.hid (KX0.out.later b1)
      have KY1 := Lib.hid (KY0.out.later b1)
      clear b1
      obtain ⟨d0, d1, d2, d3, d4, d5, d6, d7, d8⟩ := KY1.out.nine
      go_wp2_with fail
      refine (CT.out _).mono ?_
      rintro e w2 ⟨rfl, b2⟩
      have B2 := Lib.hid (B1.out.trans (b2.mono B1.out.size))
      have KX2 := Lib.hid (KX1.out.later b2)
      have KY2 := Lib.hid (KY1.out.later b2)
      clear b2 d0 d1 d2 d3 d4 d5 d6 d7 d8
      obtain ⟨c0, c1, c2, c3, c4, c5, c6, c7, c8⟩ := KX2.out.nine
      go_wp2_with fail
      refine (PX.out _).mono ?_
      rintro e w3 ⟨rfl, b3⟩
      have B3 := Lib.hid (B2.out.trans (b3.mono B2.out.size))
      have KX3 := Lib.hid (KX2.out.later b3)
      have KY3 := Lib.hid (KY2.out.later b3)
      clear b3 c0 c1 c2 c3 c4 c5 c6 c7 c8
      obtain ⟨d0, d1, d2, d3, d4, d5, d6, d7, d8⟩ := KY3.out.nine
      go_wp2_with fail
      refine (PY.out _).mono ?_
      rintro e w4 ⟨rfl, b4⟩
      have B4 := Lib.hid (B3.out.trans (b4.mono B3.out.size))
      have KX4 := Lib.hid (KX3.out.later b4)
      have KY4 := Lib.hid (KY3.out.later b4)
      clear b4 d0 d1 d2 d3 d4 d5 d6 d7 d8
      go_wp2_with fail
      refine (TA.out _).mono ?_
      rintro e w5 ⟨rfl, b5⟩
      have k5 : Below w5.heap.size w5 (w5.alloc (.cells #[.int .i64 tr, .int .i64 id, .int .i64 pa, .int .i64 rv, .string sv, .string op, .int .i64 st, .int .i64 du, .bool gn] 23)) := (Below.refl _ _).alloc (Nat.le_refl _) _
      have B5 := B4.out.trans (b5.mono B4.out.size)
      have B6 := Lib.hid (B5.trans (k5.mono B5.size))
      have BF : Hid (∀ o, Below w.heap.size w (w5.alloc o)) := fun o => B5.trans (((Below.refl _ w5).alloc (Nat.le_refl _) o).mono B5.size)
      have KX6 := Lib.hid ((KX4.out.later b5).later k5)
      have KY6 := Lib.hid ((KY4.out.later b5).later k5)
      have KA6 : Hid (Blk (w5.alloc (.cells #[.int .i64 tr, .int .i64 id, .int .i64 pa, .int .i64 rv, .string sv, .string op, .int .i64 st, .int .i64 du, .bool gn] 23)) w5.heap.size [.int .i64 tr, .int .i64 id, .int .i64 pa, .int .i64 rv, .string sv, .string op, .int .i64 st, .int .i64 du, .bool gn]) := Blk.start w5 23 _
      clear b5 k5 B5
      obtain ⟨c0, c1, c2, c3, c4, c5, c6, c7, c8⟩ := KX6.out.nine
      obtain ⟨d0, d1, d2, d3, d4, d5, d6, d7, d8⟩ := KY6.out.nine
      obtain ⟨a0, a1, a2, a3, a4, a5, a6, a7, a8⟩ := KA6.out.nine
      go_wp2_with fail
      clear c0 c1 c2 c3 c4 c5 c6 c7 c8 d0 d1 d2 d3 d4 d5 d6 d7 d8 a0 a1 a2 a3 a4 a5 a6 a7 a8
      clear BF
      generalize World.alloc w5 _ = x5 at B6 ⊢
      rcases TS2.out with ⟨⟨z0, z1, z2, z3, z4, z5, z6, z7, z8⟩, t1, t2⟩ | ⟨q, hq, t1⟩
      · simp only [recV] at t1 t2
        have T1 := Lib.hid t1
        have T2 := Lib.hid t2
        clear t1 t2
        refine (T1.out _).mono ?_
        rintro e w7 ⟨rfl, b7⟩
        have k7 : Below w7.heap.size w7 (w7.alloc (.cells #[.int .i64 z0, .int .i64 z1, .int .i64 z2, .int .i64 z3, .string z4, .string z5, .int .i64 z6, .int .i64 z7, .bool z8] 23)) := (Below.refl _ _).alloc (Nat.le_refl _) _
        have B7 := B6.out.trans (b7.mono B6.out.size)
        have B8 := Lib.hid (B7.trans (k7.mono B7.size))
        have KZ8 : Hid (Blk (w7.alloc (.cells #[.int .i64 z0, .int .i64 z1, .int .i64 z2, .int .i64 z3, .string z4, .string z5, .int .i64 z6, .int .i64 z7, .bool z8] 23)) w7.heap.size [.int .i64 z0, .int .i64 z1, .int .i64 z2, .int .i64 z3, .string z4, .string z5, .int .i64 z6, .int .i64 z7, .bool z8]) := Blk.start w7 23 _
        clear b7 k7 B7
        obtain ⟨c0, c1, c2, c3, c4, c5, c6, c7, c8⟩ := KZ8.out.nine
        go_wp2_with fail
        refine (T2.out _).mono ?_
        rintro e w8 ⟨rfl, b8⟩
        have B10 := Lib.hid (B8.out.trans (b8.mono B8.out.size))
        clear b8 c0 c1 c2 c3 c4 c5 c6 c7 c8
        go_wp2_with fail
        refine (awake_any _).mono ?_
        rintro e w9 ⟨rfl, b9⟩
        have B9 := Lib.hid (B10.out.trans (b9.mono B10.out.size))
        clear b9
        go_wp2_with fail
        go_ret
        exact ⟨rfl, B9.out⟩
      · have T1 := Lib.hid t1
        have hq' : ((q : Int) != 0) = true := by simp; omega
        clear t1
        refine (T1.out _).mono ?_
        rintro e w7 ⟨rfl, b7⟩
        have k7 : Below w7.heap.size w7 (w7.alloc (.cells #[.int .i64 0, .int .i64 0, .int .i64 0, .int .i64 0, .string ⟨#[]⟩, .string ⟨#[]⟩, .int .i64 0, .int .i64 0, .bool false] 23)) := (Below.refl _ _).alloc (Nat.le_refl _) _
        have B7 := B6.out.trans (b7.mono B6.out.size)
        have B8 := Lib.hid (B7.trans (k7.mono B7.size))
        have KZ8 : Hid (Blk (w7.alloc (.cells #[.int .i64 0, .int .i64 0, .int .i64 0, .int .i64 0, .string ⟨#[]⟩, .string ⟨#[]⟩, .int .i64 0, .int .i64 0, .bool false] 23)) w7.heap.size [.int .i64 0, .int .i64 0, .int .i64 0, .int .i64 0, .string ⟨#[]⟩, .string ⟨#[]⟩, .int .i64 0, .int .i64 0, .bool false]) := Blk.start w7 23 _
        clear b7 k7 B7
        obtain ⟨c0, c1, c2, c3, c4, c5, c6, c7, c8⟩ := KZ8.out.nine
        go_wp2_with fail
        refine (awake_any _).mono ?_
        rintro e w9 ⟨rfl, b9⟩
        have B9 := Lib.hid (B8.out.trans (b9.mono B8.out.size))
        clear b9
        go_wp2_with fail
        go_ret
        exact ⟨rfl, B9.out⟩
  · skip
    have PX : Hid (∀ w, Calls Try.prog 8 #[.agg #[.int .i64 tr, .int .i64 id, .int .i64 pa, .int .i64 rv, .string sv, .string op, .int .i64 st, .int .i64 du, .bool gn]] w fun e w' => e = .returned (.tuple #[.string ⟨#[]⟩, .int .i64 1]) ∧ Below w.heap.size w w') := fun w => by have h := PX w; rw [putB_bad mx, mx] at h; exact h
    generalize putB ⟨u0, u1, u2, u3, u4, u5, u6, u7, u8⟩ = PB at PY
    generalize may ⟨u0, u1, u2, u3, u4, u5, u6, u7, u8⟩ = m at PY
    have PY := Lib.hid PY
    clear mx NE TA FX FY
    unfold recV
    go_enter Try.func5, Try.ntmps5
    go_wp2_with fail
    refine (CS.out _).mono ?_
    rintro e w1 ⟨rfl, b1⟩
    have B1 := Lib.hid (B0.out.trans (b1.mono B0.out.size))
    have KX1 := Lib.hid (KX0.out.later b1)
    have KY1 := Lib.hid (KY0.out.later b1)
    clear b1
    obtain ⟨d0, d1, d2, d3, d4, d5, d6, d7, d8⟩ := KY1.out.nine
    go_wp2_with fail
    refine (CT.out _).mono ?_
    rintro e w2 ⟨rfl, b2⟩
    have B2 := Lib.hid (B1.out.trans (b2.mono B1.out.size))
    have KX2 := Lib.hid (KX1.out.later b2)
    have KY2 := Lib.hid (KY1.out.later b2)
    clear b2 d0 d1 d2 d3 d4 d5 d6 d7 d8
    obtain ⟨c0, c1, c2, c3, c4, c5, c6, c7, c8⟩ := KX2.out.nine
    go_wp2_with fail
    refine (PX.out _).mono ?_
    rintro e w3 ⟨rfl, b3⟩
    have B3 := Lib.hid (B2.out.trans (b3.mono B2.out.size))
    have KX3 := Lib.hid (KX2.out.later b3)
    have KY3 := Lib.hid (KY2.out.later b3)
    clear b3 c0 c1 c2 c3 c4 c5 c6 c7 c8
    obtain ⟨d0, d1, d2, d3, d4, d5, d6, d7, d8⟩ := KY3.out.nine
    go_wp2_with fail
    refine (PY.out _).mono ?_
    rintro e w4 ⟨rfl, b4⟩
    have B4 := Lib.hid (B3.out.trans (b4.mono B3.out.size))
    have KX4 := Lib.hid (KX3.out.later b4)
    have KY4 := Lib.hid (KY3.out.later b4)
    clear b4 d0 d1 d2 d3 d4 d5 d6 d7 d8
    go_wp2_with fail
    rcases TS2.out with ⟨⟨z0, z1, z2, z3, z4, z5, z6, z7, z8⟩, t1, t2⟩ | ⟨q, hq, t1⟩
    · simp only [recV] at t1 t2
      have T1 := Lib.hid t1
      have T2 := Lib.hid t2
      clear t1 t2
      refine (T1.out _).mono ?_
      rintro e w7 ⟨rfl, b7⟩
      have k7 : Below w7.heap.size w7 (w7.alloc (.cells #[.int .i64 z0, .int .i64 z1, .int .i64 z2, .int .i64 z3, .string z4, .string z5, .int .i64 z6, .int .i64 z7, .bool z8] 23)) := (Below.refl _ _).alloc (Nat.le_refl _) _
      have B7 := B4.out.trans (b7.mono B4.out.size)
      have B8 := Lib.hid (B7.trans (k7.mono B7.size))
      have KZ8 : Hid (Blk (w7.alloc (.cells #[.int .i64 z0, .int .i64 z1, .int .i64 z2, .int .i64 z3, .string z4, .string z5, .int .i64 z6, .int .i64 z7, .bool z8] 23)) w7.heap.size [.int .i64 z0, .int .i64 z1, .int .i64 z2, .int .i64 z3, .string z4, .string z5, .int .i64 z6, .int .i64 z7, .bool z8]) := Blk.start w7 23 _
      clear b7 k7 B7
      obtain ⟨c0, c1, c2, c3, c4, c5, c6, c7, c8⟩ := KZ8.out.nine
      go_wp2_with fail
      refine (T2.out _).mono ?_
      rintro e w8 ⟨rfl, b8⟩
      have B10 := Lib.hid (B8.out.trans (b8.mono B8.out.size))
      clear b8 c0 c1 c2 c3 c4 c5 c6 c7 c8
      go_wp2_with fail
      refine (awake_any _).mono ?_
      rintro e w9 ⟨rfl, b9⟩
      have B9 := Lib.hid (B10.out.trans (b9.mono B10.out.size))
      clear b9
      go_wp2_with fail
      go_ret
      exact ⟨rfl, B9.out⟩
    · have T1 := Lib.hid t1
      have hq' : ((q : Int) != 0) = true := by simp; omega
      clear t1
      refine (T1.out _).mono ?_
      rintro e w7 ⟨rfl, b7⟩
      have k7 : Below w7.heap.size w7 (w7.alloc (.cells #[.int .i64 0, .int .i64 0, .int .i64 0, .int .i64 0, .string ⟨#[]⟩, .string ⟨#[]⟩, .int .i64 0, .int .i64 0, .bool false] 23)) := (Below.refl _ _).alloc (Nat.le_refl _) _
      have B7 := B4.out.trans (b7.mono B4.out.size)
      have B8 := Lib.hid (B7.trans (k7.mono B7.size))
      have KZ8 : Hid (Blk (w7.alloc (.cells #[.int .i64 0, .int .i64 0, .int .i64 0, .int .i64 0, .string ⟨#[]⟩, .string ⟨#[]⟩, .int .i64 0, .int .i64 0, .bool false] 23)) w7.heap.size [.int .i64 0, .int .i64 0, .int .i64 0, .int .i64 0, .string ⟨#[]⟩, .string ⟨#[]⟩, .int .i64 0, .int .i64 0, .bool false]) := Blk.start w7 23 _
      clear b7 k7 B7
      obtain ⟨c0, c1, c2, c3, c4, c5, c6, c7, c8⟩ := KZ8.out.nine
      go_wp2_with fail
      refine (awake_any _).mono ?_
      rintro e w9 ⟨rfl, b9⟩
      have B9 := Lib.hid (B8.out.trans (b9.mono B8.out.size))
      clear b9
      go_wp2_with fail
      go_ret
      exact ⟨rfl, B9.out⟩
end Go.Proofs.Ytlcalemjhahdpaa.Cd
