/- A part of some kind that is read: by the program and by the document. -/
import Derived.Test.YtbadlcjpddonpaaPkRef
namespace Go.Proofs.Ytbadlcjpddonpaa.Pk
open Go.RowKit
open Va (takeR takeS)

/-- a block of three cells that may be written -/
structure Tri (W : World) (B : Nat) (a b c : Value) : Prop where
  c0 : W.cell? ⟨B, 0, none⟩ = some a
  c1 : W.cell? ⟨B, 1, none⟩ = some b
  c2 : W.cell? ⟨B, 2, none⟩ = some c
  f0 : W.frozen? ⟨B, 0, none⟩ = false
  f1 : W.frozen? ⟨B, 1, none⟩ = false
  f2 : W.frozen? ⟨B, 2, none⟩ = false
  lt : B < W.heap.size
theorem Tri.start (w : World) (ty : TypeId) (a b c : Value) : Tri (w.alloc (.cells #[a, b, c] ty)) w.heap.size a b c := by
  refine ⟨?_, ?_, ?_, ?_, ?_, ?_, ?_⟩ <;> simp
theorem Tri.but {W W' : World} {B C : Nat} {a b c : Value} (h : Tri W B a b c) (hb : But C W W') (hn : B ≠ C) : Tri W' B a b c :=
  ⟨(hb.cell (p := ⟨B, 0, none⟩) h.lt hn).trans h.c0, (hb.cell (p := ⟨B, 1, none⟩) h.lt hn).trans h.c1, (hb.cell (p := ⟨B, 2, none⟩) h.lt hn).trans h.c2, (hb.frozen (p := ⟨B, 0, none⟩) h.lt hn).trans h.f0, (hb.frozen (p := ⟨B, 1, none⟩) h.lt hn).trans h.f1, (hb.frozen (p := ⟨B, 2, none⟩) h.lt hn).trans h.f2, Nat.lt_of_lt_of_le h.lt hb.size⟩
theorem Tri.later {W W' : World} {B : Nat} {a b c : Value} (h : Tri W B a b c) (hl : Below W.heap.size W W') : Tri W' B a b c :=
  ⟨(hl.cell (p := ⟨B, 0, none⟩) h.lt).trans h.c0, (hl.cell (p := ⟨B, 1, none⟩) h.lt).trans h.c1, (hl.cell (p := ⟨B, 2, none⟩) h.lt).trans h.c2, (hl.frozen (p := ⟨B, 0, none⟩) h.lt).trans h.f0, (hl.frozen (p := ⟨B, 1, none⟩) h.lt).trans h.f1, (hl.frozen (p := ⟨B, 2, none⟩) h.lt).trans h.f2, Nat.lt_of_lt_of_le h.lt hl.size⟩
/-- three stores into it -/
def three (W : World) (B : Nat) (a b c : Value) : World := ((W.setCell ⟨B, 0, none⟩ a).setCell ⟨B, 1, none⟩ b).setCell ⟨B, 2, none⟩ c
theorem ne_at {B i j : Nat} (h : i ≠ j) : (⟨B, i, none⟩ : Addr) ≠ ⟨B, j, none⟩ := by intro e; injection e with _ e; exact h e
theorem Tri.set {W : World} {B : Nat} {a b c : Value} (h : Tri W B a b c) (x y z : Value) : Tri (three W B x y z) B x y z := by
  unfold three
  have o : ∀ (W : World) (i j : Nat) (v : Value), i ≠ j → (W.setCell ⟨B, i, none⟩ v).cell? ⟨B, j, none⟩ = W.cell? ⟨B, j, none⟩ := fun W i j v hij => World.cell?_setCell_other W _ _ _ (fun e => ne_at hij e)
  have e1 : (W.setCell ⟨B, 0, none⟩ x).cell? ⟨B, 1, none⟩ = some b := (o _ 0 1 _ (by decide)).trans h.c1
  have e2 : ((W.setCell ⟨B, 0, none⟩ x).setCell ⟨B, 1, none⟩ y).cell? ⟨B, 2, none⟩ = some c := (o _ 1 2 _ (by decide)).trans ((o _ 0 2 _ (by decide)).trans h.c2)
  refine ⟨?_, ?_, World.cell?_setCell_same _ _ _ e2, ?_, ?_, ?_, by simpa using h.lt⟩
  · exact (o _ 2 0 _ (by decide)).trans ((o _ 1 0 _ (by decide)).trans (World.cell?_setCell_same W _ _ h.c0))
  · exact (o _ 2 1 _ (by decide)).trans (World.cell?_setCell_same _ _ _ e1)
  all_goals (rw [World.frozen?_setCell, World.frozen?_setCell, World.frozen?_setCell])
  · exact h.f0
  · exact h.f1
  · exact h.f2
theorem But.three {R B : Nat} {a w : World} (h : But R a w) (hB : a.heap.size ≤ B) (x y z : Value) : But R a (three w B x y z) :=
  ⟨h.os, h.tape, h.output, Nat.le_trans h.size (by simp [Pk.three]), fun k hk hn => by
    unfold Pk.three
    rw [Below.heap_setCell _ _ _ _ (by show k ≠ B; omega), Below.heap_setCell _ _ _ _ (by show k ≠ B; omega), Below.heap_setCell _ _ _ _ (by show k ≠ B; omega)]
    exact h.block k hk hn⟩
theorem Bx.three {W : World} {R B : Nat} {a b : Value} (h : Bx W R a b) (hn : R ≠ B) (x y z : Value) : Bx (three W B x y z) R a b :=
  h.but (C := B) ⟨rfl, rfl, rfl, by simp [Pk.three], fun k _ hk => by
    unfold Pk.three
    rw [Below.heap_setCell _ _ _ _ (by show k ≠ B; omega), Below.heap_setCell _ _ _ _ (by show k ≠ B; omega), Below.heap_setCell _ _ _ _ (by show k ≠ B; omega)]⟩ hn

/-- a part of a kind that is read; what is left, and the first error -/
def rdPart (k most : Int) (s : ByteArray) (e : Nat) : (Int × Int × ByteArray) × ByteArray × Nat :=
  if k = 1 then ((1, (rdNum (tkN s) s e).1, ⟨#[]⟩), (rdNum (tkN s) s e).2)
  else if k = 2 then ((2, (rdNum (tkS s) s e).1, ⟨#[]⟩), (rdNum (tkS s) s e).2)
  else if k = 3 then ((3, 0, (rdText most s e).1), (rdText most s e).2)
  else if k = 4 then ((4, if (rdFlag s e).1 then 1 else 0, ⟨#[]⟩), (rdFlag s e).2)
  else ((0, 0, ⟨#[]⟩), s, e)
/-- a part as a value -/
def ptV (p : Int × Int × ByteArray) : Value := .agg #[.int .i64 p.1, .int .i64 p.2.1, .string p.2.2]

/-- the end of a call that reads: its part stands in a block of its own -/
theorem read_end {w w1 : World} {R : Nat} {x : ByteArray × Nat} {ty : TypeId} (hR : R < w.heap.size) (h : Went R x (w.alloc (.cells #[.int .i64 0, .int .i64 0, .string ⟨#[]⟩] ty)) w1) (a b c : Value) :
    Tri w1 w.heap.size (.int .i64 0) (.int .i64 0) (.string ⟨#[]⟩) ∧ Tri (three w1 w.heap.size a b c) w.heap.size a b c ∧ Went R x w (three w1 w.heap.size a b c) := by
  have t := (Tri.start w ty (.int .i64 0) (.int .i64 0) (.string ⟨#[]⟩)).but h.2 (by omega)
  exact ⟨t, t.set a b c, h.1.three (by omega) a b c, (((But.refl R w).alloc _).trans h.2).three (Nat.le_refl _) a b c⟩

set_option maxHeartbeats 3200000 in
set_option maxRecDepth 100000 in
theorem read_any (R : Nat) (s : ByteArray) (e : Nat) (k most : Int) (w : World) (h : Rd w R s e) (hs : s.size ≤ 1099511627776) :
    Calls Try.prog 12 #[.pointer (some ⟨R, 0, none⟩), .int .i64 k, .int .i64 most] w fun en w' => en = .returned (ptV (rdPart k most s e).1) ∧ Went R (rdPart k most s e).2 w w' := by
  have hR := h.lt
  have H := Lib.hid (Bx.later h ((Below.refl _ w).alloc (Nat.le_refl _) (.cells #[.int .i64 0, .int .i64 0, .string ⟨#[]⟩] 31)))
  have H0 := Lib.hid h
  clear h
  have hRW := Lib.hid hR
  by_cases k1 : k = 1
  · subst k1
    have hr : rdPart 1 most s e = ((1, (rdNum (tkN s) s e).1, ⟨#[]⟩), (rdNum (tkN s) s e).2) := by unfold rdPart; rw [if_pos rfl]
    rw [hr]
    clear hr
    have hc := Lib.hid (rnum_any R s e _ H.out hs)
    generalize rdNum (tkN s) s e = x at *
    obtain ⟨v, s', er⟩ := x
    go_enter Try.func12, Try.ntmps12
    go_wp2_with fail
    refine (hc.out).mono ?_
    rintro en w1 ⟨rfl, h1⟩
    obtain ⟨T, T3, W3⟩ := read_end hRW.out h1 (.int .i64 1) (.int .i64 v) (.string ⟨#[]⟩)
    have c0 := T.c0
    have c1 := T.c1
    have c2 := T.c2
    have f0 := T.f0
    have f1 := T.f1
    have f2 := T.f2
    have W3 := Lib.hid W3
    have s0 := T3.c0
    have s1 := T3.c1
    have s2 := T3.c2
    unfold three at s0 s1 s2
    clear T T3 h1
    go_wp2_with fail
    refine bodyPost_ret (v := .agg #[.int .i64 1, .int .i64 v, .string ⟨#[]⟩]) ?_ rfl ⟨rfl, W3.out⟩
    simp [results, Try.results12, go_sem, s0, s1, s2]
  have q1 : (k == 1) = false := by simp [k1]
  by_cases k2 : k = 2
  · subst k2
    have hr : rdPart 2 most s e = ((2, (rdNum (tkS s) s e).1, ⟨#[]⟩), (rdNum (tkS s) s e).2) := by unfold rdPart; rw [if_neg (by decide), if_pos rfl]
    rw [hr]
    clear hr
    have hc := Lib.hid (rsigned_any R s e _ H.out hs)
    generalize rdNum (tkS s) s e = x at *
    obtain ⟨v, s', er⟩ := x
    go_enter Try.func12, Try.ntmps12
    go_wp2_with fail
    refine (hc.out).mono ?_
    rintro en w1 ⟨rfl, h1⟩
    obtain ⟨T, T3, W3⟩ := read_end hRW.out h1 (.int .i64 2) (.int .i64 v) (.string ⟨#[]⟩)
    have c0 := T.c0
    have c1 := T.c1
    have c2 := T.c2
    have f0 := T.f0
    have f1 := T.f1
    have f2 := T.f2
    have W3 := Lib.hid W3
    have s0 := T3.c0
    have s1 := T3.c1
    have s2 := T3.c2
    unfold three at s0 s1 s2
    clear T T3 h1
    go_wp2_with fail
    refine bodyPost_ret (v := .agg #[.int .i64 2, .int .i64 v, .string ⟨#[]⟩]) ?_ rfl ⟨rfl, W3.out⟩
    simp [results, Try.results12, go_sem, s0, s1, s2]
  have q2 : (k == 2) = false := by simp [k2]
  by_cases k3 : k = 3
  · subst k3
    have hr : rdPart 3 most s e = ((3, 0, (rdText most s e).1), (rdText most s e).2) := by unfold rdPart; rw [if_neg (by decide), if_neg (by decide), if_pos rfl]
    rw [hr]
    clear hr
    have hc := Lib.hid (rtext_any R s e most _ H.out hs)
    generalize rdText most s e = x at *
    obtain ⟨v, s', er⟩ := x
    go_enter Try.func12, Try.ntmps12
    go_wp2_with fail
    refine (hc.out).mono ?_
    rintro en w1 ⟨rfl, h1⟩
    obtain ⟨T, T3, W3⟩ := read_end hRW.out h1 (.int .i64 3) (.int .i64 0) (.string v)
    have c0 := T.c0
    have c1 := T.c1
    have c2 := T.c2
    have f0 := T.f0
    have f1 := T.f1
    have f2 := T.f2
    have W3 := Lib.hid W3
    have s0 := T3.c0
    have s1 := T3.c1
    have s2 := T3.c2
    unfold three at s0 s1 s2
    clear T T3 h1
    go_wp2_with fail
    refine bodyPost_ret (v := .agg #[.int .i64 3, .int .i64 0, .string v]) ?_ rfl ⟨rfl, W3.out⟩
    simp [results, Try.results12, go_sem, s0, s1, s2]
  have q3 : (k == 3) = false := by simp [k3]
  by_cases k4 : k = 4
  · subst k4
    have hr : rdPart 4 most s e = ((4, if (rdFlag s e).1 then 1 else 0, ⟨#[]⟩), (rdFlag s e).2) := by unfold rdPart; rw [if_neg (by decide), if_neg (by decide), if_neg (by decide), if_pos rfl]
    rw [hr]
    clear hr
    have hc := Lib.hid (rflag_any R s e _ H.out)
    generalize rdFlag s e = x at *
    obtain ⟨v, s', er⟩ := x
    cases v
    · show Calls _ _ _ _ fun en w' => en = .returned (ptV (4, 0, ⟨#[]⟩)) ∧ Went R (s', er) w w'
      go_enter Try.func12, Try.ntmps12
      go_wp2_with fail
      refine (hc.out).mono ?_
      rintro en w1 ⟨rfl, h1⟩
      obtain ⟨T, T3, W3⟩ := read_end hRW.out h1 (.int .i64 4) (.int .i64 0) (.string ⟨#[]⟩)
      have c0 := T.c0
      have c1 := T.c1
      have c2 := T.c2
      have f0 := T.f0
      have f1 := T.f1
      have f2 := T.f2
      have W3 := Lib.hid W3
      have s0 := T3.c0
      have s1 := T3.c1
      have s2 := T3.c2
      unfold three at s0 s1 s2
      clear T T3 h1
      go_wp2_with fail
      refine bodyPost_ret (v := .agg #[.int .i64 4, .int .i64 0, .string ⟨#[]⟩]) ?_ rfl ⟨rfl, W3.out⟩
      simp [results, Try.results12, go_sem, s0, s1, s2]
    · show Calls _ _ _ _ fun en w' => en = .returned (ptV (4, 1, ⟨#[]⟩)) ∧ Went R (s', er) w w'
      go_enter Try.func12, Try.ntmps12
      go_wp2_with fail
      refine (hc.out).mono ?_
      rintro en w1 ⟨rfl, h1⟩
      obtain ⟨T, T3, W3⟩ := read_end hRW.out h1 (.int .i64 4) (.int .i64 1) (.string ⟨#[]⟩)
      have c0 := T.c0
      have c1 := T.c1
      have c2 := T.c2
      have f0 := T.f0
      have f1 := T.f1
      have f2 := T.f2
      have W3 := Lib.hid W3
      have s0 := T3.c0
      have s1 := T3.c1
      have s2 := T3.c2
      unfold three at s0 s1 s2
      clear T T3 h1
      go_wp2_with fail
      refine bodyPost_ret (v := .agg #[.int .i64 4, .int .i64 1, .string ⟨#[]⟩]) ?_ rfl ⟨rfl, W3.out⟩
      simp [results, Try.results12, go_sem, s0, s1, s2]
  have q4 : (k == 4) = false := by simp [k4]
  have hr : rdPart k most s e = ((0, 0, ⟨#[]⟩), s, e) := by unfold rdPart; rw [if_neg k1, if_neg k2, if_neg k3, if_neg k4]
  rw [hr]
  clear hr
  go_enter Try.func12, Try.ntmps12
  go_wp2_with fail
  refine bodyPost_ret (v := .agg #[.int .i64 0, .int .i64 0, .string ⟨#[]⟩]) ?_ rfl ⟨rfl, H.out, (But.refl R w).alloc _⟩
  simp [results, Try.results12, go_sem]

set_option maxHeartbeats 3200000 in
set_option maxRecDepth 100000 in
theorem dread_any (R : Nat) (s : ByteArray) (e : Nat) (k most : Int) (w : World) (h : Rd w R s e) (hs : s.size ≤ 1099511627776) :
    Calls Try.prog 13 #[.pointer (some ⟨R, 0, none⟩), .int .i64 k, .int .i64 most] w fun en w' => en = .returned (ptV (rdPart k most s e).1) ∧ Went R (rdPart k most s e).2 w w' := by
  have hR := h.lt
  have H := Lib.hid (Bx.later h ((Below.refl _ w).alloc (Nat.le_refl _) (.cells #[.int .i64 0, .int .i64 0, .string ⟨#[]⟩] 31)))
  have H0 := Lib.hid h
  clear h
  have hRW := Lib.hid hR
  by_cases k1 : k = 1
  · subst k1
    have hr : rdPart 1 most s e = ((1, (rdNum (tkN s) s e).1, ⟨#[]⟩), (rdNum (tkN s) s e).2) := by unfold rdPart; rw [if_pos rfl]
    rw [hr]
    clear hr
    have hc := Lib.hid (dnum_any R s e _ H.out hs)
    generalize rdNum (tkN s) s e = x at *
    obtain ⟨v, s', er⟩ := x
    go_enter Try.func13, Try.ntmps13
    go_wp2_with fail
    refine (hc.out).mono ?_
    rintro en w1 ⟨rfl, h1⟩
    obtain ⟨T, T3, W3⟩ := read_end hRW.out h1 (.int .i64 1) (.int .i64 v) (.string ⟨#[]⟩)
    have c0 := T.c0
    have c1 := T.c1
    have c2 := T.c2
    have f0 := T.f0
    have f1 := T.f1
    have f2 := T.f2
    have W3 := Lib.hid W3
    have s0 := T3.c0
    have s1 := T3.c1
    have s2 := T3.c2
    unfold three at s0 s1 s2
    clear T T3 h1
    go_wp2_with fail
    refine bodyPost_ret (v := .agg #[.int .i64 1, .int .i64 v, .string ⟨#[]⟩]) ?_ rfl ⟨rfl, W3.out⟩
    simp [results, Try.results13, go_sem, s0, s1, s2]
  have q1 : (k == 1) = false := by simp [k1]
  by_cases k2 : k = 2
  · subst k2
    have hr : rdPart 2 most s e = ((2, (rdNum (tkS s) s e).1, ⟨#[]⟩), (rdNum (tkS s) s e).2) := by unfold rdPart; rw [if_neg (by decide), if_pos rfl]
    rw [hr]
    clear hr
    have hc := Lib.hid (dsigned_any R s e _ H.out hs)
    generalize rdNum (tkS s) s e = x at *
    obtain ⟨v, s', er⟩ := x
    go_enter Try.func13, Try.ntmps13
    go_wp2_with fail
    refine (hc.out).mono ?_
    rintro en w1 ⟨rfl, h1⟩
    obtain ⟨T, T3, W3⟩ := read_end hRW.out h1 (.int .i64 2) (.int .i64 v) (.string ⟨#[]⟩)
    have c0 := T.c0
    have c1 := T.c1
    have c2 := T.c2
    have f0 := T.f0
    have f1 := T.f1
    have f2 := T.f2
    have W3 := Lib.hid W3
    have s0 := T3.c0
    have s1 := T3.c1
    have s2 := T3.c2
    unfold three at s0 s1 s2
    clear T T3 h1
    go_wp2_with fail
    refine bodyPost_ret (v := .agg #[.int .i64 2, .int .i64 v, .string ⟨#[]⟩]) ?_ rfl ⟨rfl, W3.out⟩
    simp [results, Try.results13, go_sem, s0, s1, s2]
  have q2 : (k == 2) = false := by simp [k2]
  by_cases k3 : k = 3
  · subst k3
    have hr : rdPart 3 most s e = ((3, 0, (rdText most s e).1), (rdText most s e).2) := by unfold rdPart; rw [if_neg (by decide), if_neg (by decide), if_pos rfl]
    rw [hr]
    clear hr
    have hc := Lib.hid (dtext_any R s e most _ H.out hs)
    generalize rdText most s e = x at *
    obtain ⟨v, s', er⟩ := x
    go_enter Try.func13, Try.ntmps13
    go_wp2_with fail
    refine (hc.out).mono ?_
    rintro en w1 ⟨rfl, h1⟩
    obtain ⟨T, T3, W3⟩ := read_end hRW.out h1 (.int .i64 3) (.int .i64 0) (.string v)
    have c0 := T.c0
    have c1 := T.c1
    have c2 := T.c2
    have f0 := T.f0
    have f1 := T.f1
    have f2 := T.f2
    have W3 := Lib.hid W3
    have s0 := T3.c0
    have s1 := T3.c1
    have s2 := T3.c2
    unfold three at s0 s1 s2
    clear T T3 h1
    go_wp2_with fail
    refine bodyPost_ret (v := .agg #[.int .i64 3, .int .i64 0, .string v]) ?_ rfl ⟨rfl, W3.out⟩
    simp [results, Try.results13, go_sem, s0, s1, s2]
  have q3 : (k == 3) = false := by simp [k3]
  by_cases k4 : k = 4
  · subst k4
    have hr : rdPart 4 most s e = ((4, if (rdFlag s e).1 then 1 else 0, ⟨#[]⟩), (rdFlag s e).2) := by unfold rdPart; rw [if_neg (by decide), if_neg (by decide), if_neg (by decide), if_pos rfl]
    rw [hr]
    clear hr
    have hc := Lib.hid (dflag_any R s e _ H.out)
    generalize rdFlag s e = x at *
    obtain ⟨v, s', er⟩ := x
    cases v
    · show Calls _ _ _ _ fun en w' => en = .returned (ptV (4, 0, ⟨#[]⟩)) ∧ Went R (s', er) w w'
      go_enter Try.func13, Try.ntmps13
      go_wp2_with fail
      refine (hc.out).mono ?_
      rintro en w1 ⟨rfl, h1⟩
      obtain ⟨T, T3, W3⟩ := read_end hRW.out h1 (.int .i64 4) (.int .i64 0) (.string ⟨#[]⟩)
      have c0 := T.c0
      have c1 := T.c1
      have c2 := T.c2
      have f0 := T.f0
      have f1 := T.f1
      have f2 := T.f2
      have W3 := Lib.hid W3
      have s0 := T3.c0
      have s1 := T3.c1
      have s2 := T3.c2
      unfold three at s0 s1 s2
      clear T T3 h1
      go_wp2_with fail
      refine bodyPost_ret (v := .agg #[.int .i64 4, .int .i64 0, .string ⟨#[]⟩]) ?_ rfl ⟨rfl, W3.out⟩
      simp [results, Try.results13, go_sem, s0, s1, s2]
    · show Calls _ _ _ _ fun en w' => en = .returned (ptV (4, 1, ⟨#[]⟩)) ∧ Went R (s', er) w w'
      go_enter Try.func13, Try.ntmps13
      go_wp2_with fail
      refine (hc.out).mono ?_
      rintro en w1 ⟨rfl, h1⟩
      obtain ⟨T, T3, W3⟩ := read_end hRW.out h1 (.int .i64 4) (.int .i64 1) (.string ⟨#[]⟩)
      have c0 := T.c0
      have c1 := T.c1
      have c2 := T.c2
      have f0 := T.f0
      have f1 := T.f1
      have f2 := T.f2
      have W3 := Lib.hid W3
      have s0 := T3.c0
      have s1 := T3.c1
      have s2 := T3.c2
      unfold three at s0 s1 s2
      clear T T3 h1
      go_wp2_with fail
      refine bodyPost_ret (v := .agg #[.int .i64 4, .int .i64 1, .string ⟨#[]⟩]) ?_ rfl ⟨rfl, W3.out⟩
      simp [results, Try.results13, go_sem, s0, s1, s2]
  have q4 : (k == 4) = false := by simp [k4]
  have hr : rdPart k most s e = ((0, 0, ⟨#[]⟩), s, e) := by unfold rdPart; rw [if_neg k1, if_neg k2, if_neg k3, if_neg k4]
  rw [hr]
  clear hr
  go_enter Try.func13, Try.ntmps13
  go_wp2_with fail
  refine bodyPost_ret (v := .agg #[.int .i64 0, .int .i64 0, .string ⟨#[]⟩]) ?_ rfl ⟨rfl, H.out, (But.refl R w).alloc _⟩
  simp [results, Try.results13, go_sem]

set_option maxHeartbeats 3200000 in
set_option maxRecDepth 100000 in
theorem read_nil (k most : Int) (w : World) :
    Calls Try.prog 12 #[.pointer none, .int .i64 k, .int .i64 most] w fun en w' => (∃ j, en = .returned (ptV (j, 0, ⟨#[]⟩))) ∧ Below w.heap.size w w' := by
  by_cases k1 : k = 1
  · subst k1
    go_enter Try.func12, Try.ntmps12
    go_wp2_with fail
    refine (rnum_nil _).mono ?_
    rintro en w1 ⟨rfl, rfl⟩
    go_wp2_with fail
    refine bodyPost_ret (v := .agg #[.int .i64 1, .int .i64 0, .string ⟨#[]⟩]) ?_ rfl ⟨⟨1, rfl⟩, (Below.refl _ w).alloc (Nat.le_refl _) _⟩
    simp [results, Try.results12, go_sem]
  have q1 : (k == 1) = false := by simp [k1]
  by_cases k2 : k = 2
  · subst k2
    go_enter Try.func12, Try.ntmps12
    go_wp2_with fail
    refine (rsigned_nil _).mono ?_
    rintro en w1 ⟨rfl, rfl⟩
    go_wp2_with fail
    refine bodyPost_ret (v := .agg #[.int .i64 2, .int .i64 0, .string ⟨#[]⟩]) ?_ rfl ⟨⟨2, rfl⟩, (Below.refl _ w).alloc (Nat.le_refl _) _⟩
    simp [results, Try.results12, go_sem]
  have q2 : (k == 2) = false := by simp [k2]
  by_cases k3 : k = 3
  · subst k3
    go_enter Try.func12, Try.ntmps12
    go_wp2_with fail
    refine (rtext_nil most _).mono ?_
    rintro en w1 ⟨rfl, rfl⟩
    go_wp2_with fail
    refine bodyPost_ret (v := .agg #[.int .i64 3, .int .i64 0, .string ⟨#[]⟩]) ?_ rfl ⟨⟨3, rfl⟩, (Below.refl _ w).alloc (Nat.le_refl _) _⟩
    simp [results, Try.results12, go_sem]
  have q3 : (k == 3) = false := by simp [k3]
  by_cases k4 : k = 4
  · subst k4
    go_enter Try.func12, Try.ntmps12
    go_wp2_with fail
    refine (rflag_nil _).mono ?_
    rintro en w1 ⟨rfl, rfl⟩
    go_wp2_with fail
    refine bodyPost_ret (v := .agg #[.int .i64 4, .int .i64 0, .string ⟨#[]⟩]) ?_ rfl ⟨⟨4, rfl⟩, (Below.refl _ w).alloc (Nat.le_refl _) _⟩
    simp [results, Try.results12, go_sem]
  have q4 : (k == 4) = false := by simp [k4]
  go_enter Try.func12, Try.ntmps12
  go_wp2_with fail
  refine bodyPost_ret (v := .agg #[.int .i64 0, .int .i64 0, .string ⟨#[]⟩]) ?_ rfl ⟨⟨0, rfl⟩, (Below.refl _ w).alloc (Nat.le_refl _) _⟩
  simp [results, Try.results12, go_sem]
end Go.Proofs.Ytbadlcjpddonpaa.Pk
