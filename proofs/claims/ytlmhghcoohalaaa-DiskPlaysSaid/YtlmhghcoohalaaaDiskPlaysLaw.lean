/- DiskPlays holds: for every room and every list of acts. No condition. -/
import Derived.Test.YtlmhghcoohalaaaRows
import Derived.Test.YtlmhghcoohalaaaDkPl
import Derived.WalkKit
import Derived.ProofKit
import Derived.OpenShut
import Derived.ShutString
import Derived.ChangeOld
import Derived.Below
import Derived.Deep.Slices
namespace Go.Proofs.Ytlmhghcoohalaaa.diskPlays
open Go.ChangeShapes Go.WideShapes Go.ChangeAt Go.RowKit
open Go.ChangeMaps (open_string shut_string)
set_option linter.unusedVariables false

theorem own : ownKnob Try.prog.godebug = none := by kernel_rfl
theorem laidOut : laidOutB Try.prog = true := by kernel_rfl

/-- WHAT THE WALK IS TOLD OF A SLICE OF INTEGERS THAT CAME IN: it is nil; or it leads to a row of 'cap' cells, the numbers 'zs' (the first 'len' are its elements, the rest its spare room), each fitting its kind. -/
def IsRow (k : IntKind) (w : World) (a : Option Addr) (len cap : Nat) (zs : List Int) : Prop :=
  (a = none ∧ len = 0 ∧ cap = 0 ∧ zs = []) ∨
  ∃ x, a = some x ∧ len ≤ cap ∧ cap ≤ maxLen ∧ zs.length = cap ∧ (∀ i, i < zs.length → w.cell? (x.add i) = some (.int k (zs.getD i 0))) ∧ ∀ n ∈ zs, (Lit.int k n).wf = true

/-- numbers that came in within a struct: none; or a row of them -/
def IsRowN (k : IntKind) (w : World) (a : Option Addr) (len cap : Nat) (zs : List Int) : Prop :=
  (a = none ∧ len = 0 ∧ cap = 0 ∧ zs = []) ∨
  ∃ x, a = some x ∧ len ≤ cap ∧ cap ≤ maxLen ∧ zs.length = len ∧ (∀ i, i < len → w.cell? (x.add i) = some (.int k (zs.getD i 0))) ∧ ∀ n ∈ zs, (Lit.int k n).wf = true
/-- what came in as a slice of structs: none; or a row of their fields -/
def IsRowS (w : World) (a : Option Addr) (len cap : Nat) (zs : List (Int × ByteArray × ByteArray × ByteArray × Int × (Option Addr × Nat × Nat × List Int))) : Prop :=
  (a = none ∧ len = 0 ∧ cap = 0 ∧ zs = []) ∨
  ∃ x, a = some x ∧ len ≤ cap ∧ cap ≤ maxLen ∧ zs.length = len ∧ ∀ i, i < len → ∃ z : Int × ByteArray × ByteArray × ByteArray × Int × (Option Addr × Nat × Nat × List Int), zs[i]? = some z ∧ w.cell? (x.add (i * 6)) = some (.int .i64 z.1) ∧ w.cell? (x.add (i * 6 + 1)) = some (.string z.2.1) ∧ w.cell? (x.add (i * 6 + 2)) = some (.string z.2.2.1) ∧ w.cell? (x.add (i * 6 + 3)) = some (.string z.2.2.2.1) ∧ w.cell? (x.add (i * 6 + 4)) = some (.int .i64 z.2.2.2.2.1) ∧ w.cell? (x.add (i * 6 + 5)) = some (.slice z.2.2.2.2.2.1 z.2.2.2.2.2.2.1 z.2.2.2.2.2.2.2.1) ∧ (Lit.int .i64 z.1).wf = true ∧ z.2.1.size ≤ maxLen ∧ z.2.2.1.size ≤ maxLen ∧ z.2.2.2.1.size ≤ maxLen ∧ (Lit.int .i64 z.2.2.2.2.1).wf = true ∧ IsRowN .i64 w z.2.2.2.2.2.1 z.2.2.2.2.2.2.1 z.2.2.2.2.2.2.2.1 z.2.2.2.2.2.2.2.2 ∧ True
theorem IsRowS_of {H : Type} {enc : TypeId × Value → H} {W : World} {base : Nat} {spare : Nat → Bool} {held : Bool} {a : Option Addr} {len cap : Nat} {d : DataW H} {p : List MemPlace}
    (h : DataW.Trod enc Try.prog W base spare held 22 (.slice a len cap) d p) : ∃ zs, IsRowS W a len cap zs := by
  have C3 : Try.prog.cellsOf 3 = 1 := by kernel_rfl
  have C9 : Try.prog.cellsOf 9 = 1 := by kernel_rfl
  have C35 : Try.prog.cellsOf 35 = 1 := by kernel_rfl
  have CE : Try.prog.cellsOf 37 = 6 := by kernel_rfl
  obtain ⟨fuel, hf⟩ := h
  rcases Deep.open_slice Try.underlying22 hf with ⟨hcs, _⟩ | ⟨x, l, c, m, n, D, Pl, hcs, _, hl, hm, hmm, _, hi⟩
  · simp [Value.cells] at hcs
    obtain ⟨rfl, rfl, rfl⟩ := hcs
    exact ⟨[], .inl ⟨rfl, rfl, rfl, rfl⟩⟩
  · simp [Value.cells] at hcs
    obtain ⟨rfl, rfl, rfl⟩ := hcs
    have each : ∀ i, i < len → ∃ z : Int × ByteArray × ByteArray × ByteArray × Int × (Option Addr × Nat × Nat × List Int), W.cell? (x.add (i * 6)) = some (.int .i64 z.1) ∧ W.cell? (x.add (i * 6 + 1)) = some (.string z.2.1) ∧ W.cell? (x.add (i * 6 + 2)) = some (.string z.2.2.1) ∧ W.cell? (x.add (i * 6 + 3)) = some (.string z.2.2.2.1) ∧ W.cell? (x.add (i * 6 + 4)) = some (.int .i64 z.2.2.2.2.1) ∧ W.cell? (x.add (i * 6 + 5)) = some (.slice z.2.2.2.2.2.1 z.2.2.2.2.2.2.1 z.2.2.2.2.2.2.2.1) ∧ (Lit.int .i64 z.1).wf = true ∧ z.2.1.size ≤ maxLen ∧ z.2.2.1.size ≤ maxLen ∧ z.2.2.2.1.size ≤ maxLen ∧ (Lit.int .i64 z.2.2.2.2.1).wf = true ∧ IsRowN .i64 W z.2.2.2.2.2.1 z.2.2.2.2.2.2.1 z.2.2.2.2.2.2.2.1 z.2.2.2.2.2.2.2.2 ∧ True := by
      intro i hil
      obtain ⟨cs, h1, h2⟩ := hi i (by rw [hmm]; split <;> omega)
      rw [CE] at h1
      obtain ⟨_, hlen, hat⟩ := World.cells?_some h1
      obtain ⟨xs, k, _, _, _, hxl, hg⟩ := DataW.trod_struct Try.underlying37 h2
      match cs, hlen, xs, hxl with
      | [c0, c1, c2, c3, c4, c5], _, [y0, y1, y2, y3, y4, y5], _ =>
        have g0 := hg 0 _ rfl
        simp [C3] at g0
        obtain ⟨x0, e0, _, f0⟩ := DataW.trod_int Try.underlying3 g0
        obtain rfl : c0 = _ := List.head_eq_of_cons_eq e0
        have t0 := hat 0 (by omega)
        rw [Deep.add_add] at t0
        have g1 := hg 1 _ rfl
        simp [C9] at g1
        obtain ⟨x1, e1, _, f1⟩ := DataW.trod_string Try.underlying9 g1
        obtain rfl : c1 = _ := List.head_eq_of_cons_eq e1
        have t1 := hat 1 (by omega)
        rw [Deep.add_add] at t1
        have g2 := hg 2 _ rfl
        simp [C9] at g2
        obtain ⟨x2, e2, _, f2⟩ := DataW.trod_string Try.underlying9 g2
        obtain rfl : c2 = _ := List.head_eq_of_cons_eq e2
        have t2 := hat 2 (by omega)
        rw [Deep.add_add] at t2
        have g3 := hg 3 _ rfl
        simp [C9] at g3
        obtain ⟨x3, e3, _, f3⟩ := DataW.trod_string Try.underlying9 g3
        obtain rfl : c3 = _ := List.head_eq_of_cons_eq e3
        have t3 := hat 3 (by omega)
        rw [Deep.add_add] at t3
        have g4 := hg 4 _ rfl
        simp [C3] at g4
        obtain ⟨x4, e4, _, f4⟩ := DataW.trod_int Try.underlying3 g4
        obtain rfl : c4 = _ := List.head_eq_of_cons_eq e4
        have t4 := hat 4 (by omega)
        rw [Deep.add_add] at t4
        have g5 := hg 5 _ rfl
        simp [C35] at g5
        have s5 : ∃ z : Option Addr × Nat × Nat × List Int, [c5] = [Value.slice z.1 z.2.1 z.2.2.1] ∧ IsRowN .i64 W z.1 z.2.1 z.2.2.1 z.2.2.2 := by
          rcases Go.ChangeShapes.open_ints Try.underlying35 Try.underlying3 (by kernel_rfl) g5 with ⟨q1, _⟩ | ⟨x, l, c, zs, q1, _, ql, qm, qz, _, qc, qw⟩
          · exact ⟨(none, 0, 0, []), q1, .inl ⟨rfl, rfl, rfl, rfl⟩⟩
          · have ql2 : l ≤ zs.length := by rw [qz]; split <;> omega
            exact ⟨(some x, l, c, zs.take l), q1, .inr ⟨x, rfl, ql, qm, by show (zs.take l).length = l; rw [List.length_take]; omega, fun i hi => by have hi2 : i < l := hi; rw [qc i (by omega)]; simp [List.getD_eq_getElem?_getD, hi2], fun n hn => qw n (List.mem_of_mem_take hn)⟩⟩
        obtain ⟨x5, e5, f5⟩ := s5
        obtain rfl : c5 = _ := List.head_eq_of_cons_eq e5
        have t5 := hat 5 (by omega)
        rw [Deep.add_add] at t5
        exact ⟨(x0, x1, x2, x3, x4, x5), by simpa using t0, by simpa using t1, by simpa using t2, by simpa using t3, by simpa using t4, by simpa using t5, f0, f1, f2, f3, f4, f5, trivial⟩
    have : Inhabited (Int × ByteArray × ByteArray × ByteArray × Int × (Option Addr × Nat × Nat × List Int)) := ⟨(0, ⟨#[]⟩, ⟨#[]⟩, ⟨#[]⟩, 0, (none, 0, 0, []))⟩
    obtain ⟨Z, hZ⟩ := Deep.choose_lt each
    exact ⟨(List.range len).map Z, .inr ⟨x, rfl, hl, hm, by simp, fun i hi => ⟨Z i, by simp [hi], hZ i hi⟩⟩⟩

theorem add_none (b off i : Nat) : (⟨b, off, none⟩ : Addr).add i = ⟨b, off + i, none⟩ := by unfold Addr.add; split <;> simp_all
theorem spot_none {w : World} {x : Addr} {v : Value} (h : w.cell? (x.add 0) = some v) : ∃ b off, x = ⟨b, off, none⟩ ∧ b < w.heap.size := by
  obtain ⟨b, off, sp⟩ := x
  cases sp with
  | none => rw [add_none] at h; exact ⟨b, off, rfl, World.block_lt_of_cell? w _ h⟩
  | some q => simp only [World.cell?, Addr.add] at h; split at h <;> simp at h
theorem int_of {n : Int} (h : (Lit.int .i64 n).wf = true) : -9223372036854775808 ≤ n ∧ n ≤ 9223372036854775807 := by
  simp [Lit.wf, IntKind.min, IntKind.max, IntKind.signed, IntKind.bits] at h; omega
theorem kb_of {w : World} {a : Option Addr} {len cap : Nat} {zs : List Int} (h : IsRowN .i64 w a len cap zs) : Dk.KB w.heap.size w a len cap zs := by
  rcases h with ⟨rfl, rfl, rfl, rfl⟩ | ⟨x, rfl, hl, hm, hz, hc, hw⟩
  · exact ⟨rfl, Nat.le_refl _, (by omega), (fun _ hz => by cases hz), fun h => absurd h (by omega)⟩
  · refine ⟨hz, hl, by unfold maxLen at hm; omega, fun z hz => int_of (hw z hz), fun h0 => ?_⟩
    obtain ⟨b, off, rfl, hb⟩ := spot_none (hc 0 h0)
    refine ⟨b, off, w.heap[b], rfl, Array.getElem?_eq_getElem hb, hb, fun j z hj => ?_⟩
    have hjl : j < zs.length := (List.getElem?_eq_some_iff.1 hj).1
    have := hc j (by omega)
    rw [add_none] at this
    rw [this, List.getD_eq_getElem?_getD, hj]; rfl
def toAc (z : Int × ByteArray × ByteArray × ByteArray × Int × (Option Addr × Nat × Nat × List Int)) : Dk.Ac := ⟨⟨z.1, z.2.1, z.2.2.1, z.2.2.2.1, z.2.2.2.2.1, z.2.2.2.2.2.2.2.2⟩, z.2.2.2.2.2.1, z.2.2.2.2.2.2.1, z.2.2.2.2.2.2.2.1⟩
theorem acts_of {w : World} {a : Option Addr} {len cap : Nat} {zs : List (Int × ByteArray × ByteArray × ByteArray × Int × (Option Addr × Nat × Nat × List Int))} (h : IsRowS w a len cap zs) : Dk.Acts w.heap.size w a len (zs.map toAc) := by
  rcases h with ⟨rfl, rfl, rfl, rfl⟩ | ⟨x, rfl, hl, _, hz, hc⟩
  · exact ⟨rfl, fun h => absurd h (by omega), fun _ h => (by cases h), fun _ h => (by cases h)⟩
  · have hall : ∀ y ∈ zs.map toAc, (-9223372036854775808 ≤ y.a.n ∧ y.a.n ≤ 9223372036854775807) ∧ Dk.KB w.heap.size w y.ka y.kl y.kc y.a.keep := fun y hy => by
      obtain ⟨z, hzm, rfl⟩ := List.mem_map.1 hy
      obtain ⟨j, hj⟩ := List.getElem?_of_mem hzm
      obtain ⟨z', h0, _, _, _, _, _, _, _, _, _, _, g4, g5, _⟩ := hc j (by rw [← hz]; exact (List.getElem?_eq_some_iff.1 hj).1)
      rw [hj] at h0; cases h0
      exact ⟨int_of g4, kb_of g5⟩
    refine ⟨by rw [List.length_map]; exact hz, fun h0 => ?_, fun y hy => (hall y hy).1, fun y hy => (hall y hy).2⟩
    obtain ⟨_, _, q0, _⟩ := hc 0 h0
    rw [Nat.zero_mul] at q0
    obtain ⟨b, off, rfl, hb⟩ := spot_none q0
    refine ⟨b, off, rfl, hb, fun j y hy => ?_⟩
    rw [List.getElem?_map] at hy
    obtain ⟨z, hj, rfl⟩ := Option.map_eq_some_iff.1 hy
    obtain ⟨z', h0', e0, e1, e2, e3, e4, e5, _⟩ := hc j (by rw [← hz]; exact (List.getElem?_eq_some_iff.1 hj).1)
    rw [hj] at h0'; cases h0'
    rw [add_none] at e0 e1 e2 e3 e4 e5
    exact ⟨e0, e1, e2, e3, e4, e5⟩

theorem walk (a0 : Int) (a1 : Option Addr) (len1 cap1 : Nat) (z1 : List (Int × ByteArray × ByteArray × ByteArray × Int × (Option Addr × Nat × Nat × List Int))) (w : World) (w0 : (Lit.int .i64 a0).wf = true) (w1 : IsRowS w a1 len1 cap1 z1) :
    Calls Try.prog 3 #[.int .i64 a0, .slice a1 len1 cap1] w fun e w' => e = .returned (.bool true) ∧ Below w.heap.size w w' := by
  have hA := acts_of w1
  have hr := (int_of w0).2
  by_cases hf : len1 ≤ 40 ∧ ∀ x ∈ z1.map toAc, Dk.fewA x
  · refine Dk.plays_few a0 hr _ _ _ _ w hA hf.1 hf.2 fun e ⟨f, he, hff⟩ => ?_
    rw [he, hff.2 ⟨by omega, hf.2⟩]
  · exact Dk.plays_long a0 _ _ _ _ w hA fun e ⟨f, he, hff⟩ => by
      cases f with
      | false => exact he
      | true => exact absurd ⟨by have := (hff.1 rfl).1; omega, (hff.1 rfl).2⟩ hf

/-! ### THE ROW's STEP: WRITTEN OUT: LEAVE IT -/
set_option maxRecDepth 100000 in
theorem lifted (os : Os) (started : os.Started) (H : Type) (enc : TypeId × Value → H) :
    ReturnsInHanded {} Try.checked os 3 .any (Rows.diskPlaysSpec.pre6 enc Try.prog Try.f3 Rows.diskPlaysRow.domain false) (Rows.diskPlaysSpec.post enc Try.prog Try.f3 false true false false) := by
  refine returnsInHanded_of_change (C := Try.checked) own started (by kernel_rfl) Try.func3
    (ChangeSpec.witness6 (enc := enc) (C := Try.checked) false ⟨#[], #[.int .i64 0, .slice none 0 0], []⟩ 8 (by kernel_rfl) (by kernel_rfl) (by kernel_rfl) (by kernel_rfl)) ?_
  intro W base args ds gs before hval0 hW hcnd _
  have hval : ∀ (j : Nat) t v, Try.f3.params[j]? = some t → args[j]? = some v → Value.okWide Try.prog W .any base t v := hval0
  have hW' := hW
  obtain ⟨p, q, hA0, hV, rfl, hfz, hnd⟩ := hW
  have hA : DataW.TrodAll enc Try.prog W 0 (fun _ => true) true Try.f3.params.toList args.toList ds p := hA0
  rw [Try.params3] at hA hval
  obtain ⟨v0, vs0, d0, ds0, p0, q0, hargs, rfl, rfl, h0, r0⟩ := trodAll_cons hA
  obtain ⟨v1, vs1, d1, ds1, p1, q1, rfl, rfl, rfl, h1, r1⟩ := trodAll_cons r0
  obtain ⟨rfl, rfl, rfl⟩ := trodAll_nil r1
  obtain rfl : args = #[v0, v1] := by cases args; simp_all
  obtain ⟨rfl, rfl⟩ := trodVars_none hV
  obtain ⟨a0, rfl, rfl, rfl, w0⟩ := open_int Try.underlying3 (hval 0 3 v0 rfl rfl) h0
  obtain ⟨a1, len1, cap1, rfl⟩ := okWide_slice Try.underlying22 (hval 1 22 v1 rfl rfl)
  have k1 := h1
  have lt1 : ∀ x ∈ p1, x.block < W.heap.size := by obtain ⟨m, hm⟩ := k1; exact DataW.trod_lt m _ _ _ hm
  obtain ⟨z1, w1⟩ := IsRowS_of h1
  clear hA0 hval0
  refine (walk a0 a1 len1 cap1 z1 W w0 w1).mono fun e W' ⟨he, bel⟩ => ?_
  subst he
  exact ⟨_, rfl, _, _, _, [], _, [], hW', trodAll_mk1 (shut_bool Try.underlying4 _), (trodAll_cons_mk (shut_int Try.underlying3 w0) (trodAll_cons_mk (Below.trod laidOut (by kernel_rfl) (of_decide_eq_true (by kernel_rfl)) k1 bel lt1) trodAll_mk0)), rfl, bel.frame _, fun h => by cases h⟩

theorem over : Rows.diskPlaysRow.holds Try.pinned (OpenSpec.ofChange Rows.diskPlaysSpec) :=
  OpenClaim.holds_of_wide 3 Try.f3 rfl rfl rfl rfl rfl rfl rfl ⟨rfl, rfl, rfl, rfl, rfl⟩ rfl rfl rfl rfl rfl (by kernel_rfl) Try.func3 (by kernel_rfl)
    (of_decide_eq_true (by kernel_rfl)) (by unfold Func.isWrapper; first | (rw [if_pos (by decide +kernel)]; kernel_rfl) | (rw [if_neg (by decide +kernel)]; exact ⟨rfl, rfl⟩))
    (fun os started H enc _ => lifted os started H enc)

/-- ████ THE STATEMENT ████ -/
theorem proved : Rows.DiskPlaysSaid := over
#print axioms proved
end Go.Proofs.Ytlmhghcoohalaaa.diskPlays
