/- RankOrder holds: for every three records. No condition. -/
import Derived.Test.YtngmcefbljkgaaaRows
import Derived.Test.YtngmcefbljkgaaaRkOrder
import Derived.WalkKit
import Derived.ProofKit
import Derived.OpenShut
import Derived.ShutString
import Derived.ChangeOld
import Derived.Below
import Derived.Carry
namespace Go.Proofs.Ytngmcefbljkgaaa.rankOrder
open Go.ChangeShapes Go.WideShapes Go.ChangeAt Go.RowKit
open Go.ChangeMaps (open_string shut_string)
set_option linter.unusedVariables false

theorem own : ownKnob Try.prog.godebug = none := by kernel_rfl
theorem laidOut : laidOutB Try.prog = true := by kernel_rfl

/-- WHAT THE WALK IS TOLD OF A SLICE OF INTEGERS THAT CAME IN: it is nil; or it leads to a row of 'cap' cells, the numbers 'zs' (the first 'len' are its elements, the rest its spare room), each fitting its kind. -/
def IsRow (k : IntKind) (w : World) (a : Option Addr) (len cap : Nat) (zs : List Int) : Prop :=
  (a = none ∧ len = 0 ∧ cap = 0 ∧ zs = []) ∨
  ∃ x, a = some x ∧ len ≤ cap ∧ cap ≤ maxLen ∧ zs.length = cap ∧ (∀ i, i < zs.length → w.cell? (x.add i) = some (.int k (zs.getD i 0))) ∧ ∀ n ∈ zs, (Lit.int k n).wf = true

theorem w64_of {t i p r : Int} {s d : Int} {v o : ByteArray} {g : Bool} (h0 : (Lit.int .i64 t).wf = true) (h1 : (Lit.int .i64 i).wf = true) (h2 : (Lit.int .i64 p).wf = true) (h3 : (Lit.int .i64 r).wf = true) (h6 : (Lit.int .i64 s).wf = true) (h7 : (Lit.int .i64 d).wf = true) : Rk.W64 ⟨t, i, p, r, v, o, s, d, g⟩ := by
  simp [Lit.wf, IntKind.min, IntKind.max, IntKind.signed, IntKind.bits] at h0 h1 h2 h3 h6 h7
  exact ⟨by simp only; omega, by simp only; omega, by simp only; omega, by simp only; omega, by simp only; omega, by simp only; omega, by simp only; omega, by simp only; omega, by simp only; omega, by simp only; omega, by simp only; omega, by simp only; omega⟩
theorem opened0_23 {H : Type} {enc : TypeId × Value → H} {W : World} {base b0 : Nat} {spare : Nat → Bool} {held : Bool} {r : Reach} {v : Value} {d : DataW H} {p : List MemPlace}
    (hv : Value.okWide Try.prog W r b0 23 v) (h : DataW.Trod enc Try.prog W base spare held 23 v d p) :
    ∃ (x0_0 : Int) (x0_1 : Int) (x0_2 : Int) (x0_3 : Int) (x0_4 : ByteArray) (x0_5 : ByteArray) (x0_6 : Int) (x0_7 : Int) (x0_8 : Bool), v = .agg #[.int .i64 x0_0, .int .i64 x0_1, .int .i64 x0_2, .int .i64 x0_3, .string x0_4, .string x0_5, .int .i64 x0_6, .int .i64 x0_7, .bool x0_8] ∧ (Lit.int .i64 x0_0).wf = true ∧ (Lit.int .i64 x0_1).wf = true ∧ (Lit.int .i64 x0_2).wf = true ∧ (Lit.int .i64 x0_3).wf = true ∧ x0_4.size ≤ maxLen ∧ x0_5.size ≤ maxLen ∧ (Lit.int .i64 x0_6).wf = true ∧ (Lit.int .i64 x0_7).wf = true ∧ True := by
  have C3 : Try.prog.cellsOf 3 = 1 := by kernel_rfl
  have C4 : Try.prog.cellsOf 4 = 1 := by kernel_rfl
  have C9 : Try.prog.cellsOf 9 = 1 := by kernel_rfl
  obtain ⟨⟨l⟩, rfl, hsz⟩ := okWide_struct Try.underlying23 hv
  have hl : l.length = 9 := hsz.trans (by kernel_rfl)
  obtain ⟨fuel, hf⟩ := h
  obtain ⟨xs, n, _, _, _, hlen, hg⟩ := DataW.trod_struct Try.underlying23 hf
  match l, hl with
  | [c0, c1, c2, c3, c4, c5, c6, c7, c8], _ =>
    match xs, hlen with
    | [y0, y1, y2, y3, y4, y5, y6, y7, y8], _ =>
      have g0 := hg 0 _ rfl
      simp [Value.cells, C3] at g0
      obtain ⟨x0, e0, _, f0⟩ := DataW.trod_int Try.underlying3 g0
      obtain rfl : c0 = _ := List.head_eq_of_cons_eq e0
      have g1 := hg 1 _ rfl
      simp [Value.cells, C3] at g1
      obtain ⟨x1, e1, _, f1⟩ := DataW.trod_int Try.underlying3 g1
      obtain rfl : c1 = _ := List.head_eq_of_cons_eq e1
      have g2 := hg 2 _ rfl
      simp [Value.cells, C3] at g2
      obtain ⟨x2, e2, _, f2⟩ := DataW.trod_int Try.underlying3 g2
      obtain rfl : c2 = _ := List.head_eq_of_cons_eq e2
      have g3 := hg 3 _ rfl
      simp [Value.cells, C3] at g3
      obtain ⟨x3, e3, _, f3⟩ := DataW.trod_int Try.underlying3 g3
      obtain rfl : c3 = _ := List.head_eq_of_cons_eq e3
      have g4 := hg 4 _ rfl
      simp [Value.cells, C9] at g4
      obtain ⟨x4, e4, _, f4⟩ := DataW.trod_string Try.underlying9 g4
      obtain rfl : c4 = _ := List.head_eq_of_cons_eq e4
      have g5 := hg 5 _ rfl
      simp [Value.cells, C9] at g5
      obtain ⟨x5, e5, _, f5⟩ := DataW.trod_string Try.underlying9 g5
      obtain rfl : c5 = _ := List.head_eq_of_cons_eq e5
      have g6 := hg 6 _ rfl
      simp [Value.cells, C3] at g6
      obtain ⟨x6, e6, _, f6⟩ := DataW.trod_int Try.underlying3 g6
      obtain rfl : c6 = _ := List.head_eq_of_cons_eq e6
      have g7 := hg 7 _ rfl
      simp [Value.cells, C3] at g7
      obtain ⟨x7, e7, _, f7⟩ := DataW.trod_int Try.underlying3 g7
      obtain rfl : c7 = _ := List.head_eq_of_cons_eq e7
      have g8 := hg 8 _ rfl
      simp [Value.cells, C4] at g8
      obtain ⟨x8, e8, _⟩ := DataW.trod_bool Try.underlying4 g8
      obtain rfl : c8 = _ := List.head_eq_of_cons_eq e8
      exact ⟨x0, x1, x2, x3, x4, x5, x6, x7, x8, rfl, f0, f1, f2, f3, f4, f5, f6, f7, trivial⟩
theorem opened1_23 {H : Type} {enc : TypeId × Value → H} {W : World} {base b0 : Nat} {spare : Nat → Bool} {held : Bool} {r : Reach} {v : Value} {d : DataW H} {p : List MemPlace}
    (hv : Value.okWide Try.prog W r b0 23 v) (h : DataW.Trod enc Try.prog W base spare held 23 v d p) :
    ∃ (x1_0 : Int) (x1_1 : Int) (x1_2 : Int) (x1_3 : Int) (x1_4 : ByteArray) (x1_5 : ByteArray) (x1_6 : Int) (x1_7 : Int) (x1_8 : Bool), v = .agg #[.int .i64 x1_0, .int .i64 x1_1, .int .i64 x1_2, .int .i64 x1_3, .string x1_4, .string x1_5, .int .i64 x1_6, .int .i64 x1_7, .bool x1_8] ∧ (Lit.int .i64 x1_0).wf = true ∧ (Lit.int .i64 x1_1).wf = true ∧ (Lit.int .i64 x1_2).wf = true ∧ (Lit.int .i64 x1_3).wf = true ∧ x1_4.size ≤ maxLen ∧ x1_5.size ≤ maxLen ∧ (Lit.int .i64 x1_6).wf = true ∧ (Lit.int .i64 x1_7).wf = true ∧ True := by
  have C3 : Try.prog.cellsOf 3 = 1 := by kernel_rfl
  have C4 : Try.prog.cellsOf 4 = 1 := by kernel_rfl
  have C9 : Try.prog.cellsOf 9 = 1 := by kernel_rfl
  obtain ⟨⟨l⟩, rfl, hsz⟩ := okWide_struct Try.underlying23 hv
  have hl : l.length = 9 := hsz.trans (by kernel_rfl)
  obtain ⟨fuel, hf⟩ := h
  obtain ⟨xs, n, _, _, _, hlen, hg⟩ := DataW.trod_struct Try.underlying23 hf
  match l, hl with
  | [c0, c1, c2, c3, c4, c5, c6, c7, c8], _ =>
    match xs, hlen with
    | [y0, y1, y2, y3, y4, y5, y6, y7, y8], _ =>
      have g0 := hg 0 _ rfl
      simp [Value.cells, C3] at g0
      obtain ⟨x0, e0, _, f0⟩ := DataW.trod_int Try.underlying3 g0
      obtain rfl : c0 = _ := List.head_eq_of_cons_eq e0
      have g1 := hg 1 _ rfl
      simp [Value.cells, C3] at g1
      obtain ⟨x1, e1, _, f1⟩ := DataW.trod_int Try.underlying3 g1
      obtain rfl : c1 = _ := List.head_eq_of_cons_eq e1
      have g2 := hg 2 _ rfl
      simp [Value.cells, C3] at g2
      obtain ⟨x2, e2, _, f2⟩ := DataW.trod_int Try.underlying3 g2
      obtain rfl : c2 = _ := List.head_eq_of_cons_eq e2
      have g3 := hg 3 _ rfl
      simp [Value.cells, C3] at g3
      obtain ⟨x3, e3, _, f3⟩ := DataW.trod_int Try.underlying3 g3
      obtain rfl : c3 = _ := List.head_eq_of_cons_eq e3
      have g4 := hg 4 _ rfl
      simp [Value.cells, C9] at g4
      obtain ⟨x4, e4, _, f4⟩ := DataW.trod_string Try.underlying9 g4
      obtain rfl : c4 = _ := List.head_eq_of_cons_eq e4
      have g5 := hg 5 _ rfl
      simp [Value.cells, C9] at g5
      obtain ⟨x5, e5, _, f5⟩ := DataW.trod_string Try.underlying9 g5
      obtain rfl : c5 = _ := List.head_eq_of_cons_eq e5
      have g6 := hg 6 _ rfl
      simp [Value.cells, C3] at g6
      obtain ⟨x6, e6, _, f6⟩ := DataW.trod_int Try.underlying3 g6
      obtain rfl : c6 = _ := List.head_eq_of_cons_eq e6
      have g7 := hg 7 _ rfl
      simp [Value.cells, C3] at g7
      obtain ⟨x7, e7, _, f7⟩ := DataW.trod_int Try.underlying3 g7
      obtain rfl : c7 = _ := List.head_eq_of_cons_eq e7
      have g8 := hg 8 _ rfl
      simp [Value.cells, C4] at g8
      obtain ⟨x8, e8, _⟩ := DataW.trod_bool Try.underlying4 g8
      obtain rfl : c8 = _ := List.head_eq_of_cons_eq e8
      exact ⟨x0, x1, x2, x3, x4, x5, x6, x7, x8, rfl, f0, f1, f2, f3, f4, f5, f6, f7, trivial⟩
theorem opened2_23 {H : Type} {enc : TypeId × Value → H} {W : World} {base b0 : Nat} {spare : Nat → Bool} {held : Bool} {r : Reach} {v : Value} {d : DataW H} {p : List MemPlace}
    (hv : Value.okWide Try.prog W r b0 23 v) (h : DataW.Trod enc Try.prog W base spare held 23 v d p) :
    ∃ (x2_0 : Int) (x2_1 : Int) (x2_2 : Int) (x2_3 : Int) (x2_4 : ByteArray) (x2_5 : ByteArray) (x2_6 : Int) (x2_7 : Int) (x2_8 : Bool), v = .agg #[.int .i64 x2_0, .int .i64 x2_1, .int .i64 x2_2, .int .i64 x2_3, .string x2_4, .string x2_5, .int .i64 x2_6, .int .i64 x2_7, .bool x2_8] ∧ (Lit.int .i64 x2_0).wf = true ∧ (Lit.int .i64 x2_1).wf = true ∧ (Lit.int .i64 x2_2).wf = true ∧ (Lit.int .i64 x2_3).wf = true ∧ x2_4.size ≤ maxLen ∧ x2_5.size ≤ maxLen ∧ (Lit.int .i64 x2_6).wf = true ∧ (Lit.int .i64 x2_7).wf = true ∧ True := by
  have C3 : Try.prog.cellsOf 3 = 1 := by kernel_rfl
  have C4 : Try.prog.cellsOf 4 = 1 := by kernel_rfl
  have C9 : Try.prog.cellsOf 9 = 1 := by kernel_rfl
  obtain ⟨⟨l⟩, rfl, hsz⟩ := okWide_struct Try.underlying23 hv
  have hl : l.length = 9 := hsz.trans (by kernel_rfl)
  obtain ⟨fuel, hf⟩ := h
  obtain ⟨xs, n, _, _, _, hlen, hg⟩ := DataW.trod_struct Try.underlying23 hf
  match l, hl with
  | [c0, c1, c2, c3, c4, c5, c6, c7, c8], _ =>
    match xs, hlen with
    | [y0, y1, y2, y3, y4, y5, y6, y7, y8], _ =>
      have g0 := hg 0 _ rfl
      simp [Value.cells, C3] at g0
      obtain ⟨x0, e0, _, f0⟩ := DataW.trod_int Try.underlying3 g0
      obtain rfl : c0 = _ := List.head_eq_of_cons_eq e0
      have g1 := hg 1 _ rfl
      simp [Value.cells, C3] at g1
      obtain ⟨x1, e1, _, f1⟩ := DataW.trod_int Try.underlying3 g1
      obtain rfl : c1 = _ := List.head_eq_of_cons_eq e1
      have g2 := hg 2 _ rfl
      simp [Value.cells, C3] at g2
      obtain ⟨x2, e2, _, f2⟩ := DataW.trod_int Try.underlying3 g2
      obtain rfl : c2 = _ := List.head_eq_of_cons_eq e2
      have g3 := hg 3 _ rfl
      simp [Value.cells, C3] at g3
      obtain ⟨x3, e3, _, f3⟩ := DataW.trod_int Try.underlying3 g3
      obtain rfl : c3 = _ := List.head_eq_of_cons_eq e3
      have g4 := hg 4 _ rfl
      simp [Value.cells, C9] at g4
      obtain ⟨x4, e4, _, f4⟩ := DataW.trod_string Try.underlying9 g4
      obtain rfl : c4 = _ := List.head_eq_of_cons_eq e4
      have g5 := hg 5 _ rfl
      simp [Value.cells, C9] at g5
      obtain ⟨x5, e5, _, f5⟩ := DataW.trod_string Try.underlying9 g5
      obtain rfl : c5 = _ := List.head_eq_of_cons_eq e5
      have g6 := hg 6 _ rfl
      simp [Value.cells, C3] at g6
      obtain ⟨x6, e6, _, f6⟩ := DataW.trod_int Try.underlying3 g6
      obtain rfl : c6 = _ := List.head_eq_of_cons_eq e6
      have g7 := hg 7 _ rfl
      simp [Value.cells, C3] at g7
      obtain ⟨x7, e7, _, f7⟩ := DataW.trod_int Try.underlying3 g7
      obtain rfl : c7 = _ := List.head_eq_of_cons_eq e7
      have g8 := hg 8 _ rfl
      simp [Value.cells, C4] at g8
      obtain ⟨x8, e8, _⟩ := DataW.trod_bool Try.underlying4 g8
      obtain rfl : c8 = _ := List.head_eq_of_cons_eq e8
      exact ⟨x0, x1, x2, x3, x4, x5, x6, x7, x8, rfl, f0, f1, f2, f3, f4, f5, f6, f7, trivial⟩

theorem walk (x0_0 : Int) (x0_1 : Int) (x0_2 : Int) (x0_3 : Int) (x0_4 : ByteArray) (x0_5 : ByteArray) (x0_6 : Int) (x0_7 : Int) (x0_8 : Bool) (x1_0 : Int) (x1_1 : Int) (x1_2 : Int) (x1_3 : Int) (x1_4 : ByteArray) (x1_5 : ByteArray) (x1_6 : Int) (x1_7 : Int) (x1_8 : Bool) (x2_0 : Int) (x2_1 : Int) (x2_2 : Int) (x2_3 : Int) (x2_4 : ByteArray) (x2_5 : ByteArray) (x2_6 : Int) (x2_7 : Int) (x2_8 : Bool) (w : World) (w0 : (Lit.int .i64 x0_0).wf = true ∧ (Lit.int .i64 x0_1).wf = true ∧ (Lit.int .i64 x0_2).wf = true ∧ (Lit.int .i64 x0_3).wf = true ∧ x0_4.size ≤ maxLen ∧ x0_5.size ≤ maxLen ∧ (Lit.int .i64 x0_6).wf = true ∧ (Lit.int .i64 x0_7).wf = true ∧ True) (w1 : (Lit.int .i64 x1_0).wf = true ∧ (Lit.int .i64 x1_1).wf = true ∧ (Lit.int .i64 x1_2).wf = true ∧ (Lit.int .i64 x1_3).wf = true ∧ x1_4.size ≤ maxLen ∧ x1_5.size ≤ maxLen ∧ (Lit.int .i64 x1_6).wf = true ∧ (Lit.int .i64 x1_7).wf = true ∧ True) (w2 : (Lit.int .i64 x2_0).wf = true ∧ (Lit.int .i64 x2_1).wf = true ∧ (Lit.int .i64 x2_2).wf = true ∧ (Lit.int .i64 x2_3).wf = true ∧ x2_4.size ≤ maxLen ∧ x2_5.size ≤ maxLen ∧ (Lit.int .i64 x2_6).wf = true ∧ (Lit.int .i64 x2_7).wf = true ∧ True) :
    Calls Try.prog 4 #[.agg #[.int .i64 x0_0, .int .i64 x0_1, .int .i64 x0_2, .int .i64 x0_3, .string x0_4, .string x0_5, .int .i64 x0_6, .int .i64 x0_7, .bool x0_8], .agg #[.int .i64 x1_0, .int .i64 x1_1, .int .i64 x1_2, .int .i64 x1_3, .string x1_4, .string x1_5, .int .i64 x1_6, .int .i64 x1_7, .bool x1_8], .agg #[.int .i64 x2_0, .int .i64 x2_1, .int .i64 x2_2, .int .i64 x2_3, .string x2_4, .string x2_5, .int .i64 x2_6, .int .i64 x2_7, .bool x2_8]] w fun e w' => e = .returned (.bool true) ∧ Below w.heap.size w w' := by
  obtain ⟨h0, h1, h2, h3, -, -, h6, h7, -⟩ := w0
  obtain ⟨g0, g1, g2, g3, -, -, g6, g7, -⟩ := w1
  obtain ⟨k0, k1, k2, k3, -, -, k6, k7, -⟩ := w2
  exact Rk.order_any ⟨_, _, _, _, _, _, _, _, _⟩ ⟨_, _, _, _, _, _, _, _, _⟩ ⟨_, _, _, _, _, _, _, _, _⟩ w (w64_of h0 h1 h2 h3 h6 h7) (w64_of g0 g1 g2 g3 g6 g7) (w64_of k0 k1 k2 k3 k6 k7)

/-! ### THE ROW's STEP: WRITTEN OUT: LEAVE IT -/
set_option maxRecDepth 100000 in
theorem lifted (os : Os) (started : os.Started) (H : Type) (enc : TypeId × Value → H) :
    ReturnsInHanded {} Try.checked os 4 .any (Rows.rankOrderSpec.pre6 enc Try.prog Try.f4 Rows.rankOrderRow.domain false) (Rows.rankOrderSpec.post enc Try.prog Try.f4 false true false false) := by
  refine returnsInHanded_of_change (C := Try.checked) own started (by kernel_rfl) Try.func4
    (ChangeSpec.witness6 (enc := enc) (C := Try.checked) false ⟨#[], #[.agg #[.int .i64 0, .int .i64 0, .int .i64 0, .int .i64 0, .string ByteArray.empty, .string ByteArray.empty, .int .i64 0, .int .i64 0, .bool false], .agg #[.int .i64 0, .int .i64 0, .int .i64 0, .int .i64 0, .string ByteArray.empty, .string ByteArray.empty, .int .i64 0, .int .i64 0, .bool false], .agg #[.int .i64 0, .int .i64 0, .int .i64 0, .int .i64 0, .string ByteArray.empty, .string ByteArray.empty, .int .i64 0, .int .i64 0, .bool false]], []⟩ 8 (by kernel_rfl) (by kernel_rfl) (by kernel_rfl) (by kernel_rfl)) ?_
  intro W base args ds gs before hval0 hW hcnd _
  have hval : ∀ (j : Nat) t v, Try.f4.params[j]? = some t → args[j]? = some v → Value.okWide Try.prog W .any base t v := hval0
  have hW' := hW
  obtain ⟨p, q, hA0, hV, rfl, hfz, hnd⟩ := hW
  have hA : DataW.TrodAll enc Try.prog W 0 (fun _ => true) true Try.f4.params.toList args.toList ds p := hA0
  rw [Try.params4] at hA hval
  obtain ⟨v0, vs0, d0, ds0, p0, q0, hargs, rfl, rfl, h0, r0⟩ := trodAll_cons hA
  obtain ⟨v1, vs1, d1, ds1, p1, q1, rfl, rfl, rfl, h1, r1⟩ := trodAll_cons r0
  obtain ⟨v2, vs2, d2, ds2, p2, q2, rfl, rfl, rfl, h2, r2⟩ := trodAll_cons r1
  obtain ⟨rfl, rfl, rfl⟩ := trodAll_nil r2
  obtain rfl : args = #[v0, v1, v2] := by cases args; simp_all
  obtain ⟨rfl, rfl⟩ := trodVars_none hV
  have k0 := h0
  have lt0 : ∀ x ∈ p0, x.block < W.heap.size := by obtain ⟨m, hm⟩ := k0; exact DataW.trod_lt m _ _ _ hm
  obtain ⟨x0_0, x0_1, x0_2, x0_3, x0_4, x0_5, x0_6, x0_7, x0_8, rfl, w0⟩ := opened0_23 (hval 0 23 v0 rfl rfl) h0
  have k1 := h1
  have lt1 : ∀ x ∈ p1, x.block < W.heap.size := by obtain ⟨m, hm⟩ := k1; exact DataW.trod_lt m _ _ _ hm
  obtain ⟨x1_0, x1_1, x1_2, x1_3, x1_4, x1_5, x1_6, x1_7, x1_8, rfl, w1⟩ := opened1_23 (hval 1 23 v1 rfl rfl) h1
  have k2 := h2
  have lt2 : ∀ x ∈ p2, x.block < W.heap.size := by obtain ⟨m, hm⟩ := k2; exact DataW.trod_lt m _ _ _ hm
  obtain ⟨x2_0, x2_1, x2_2, x2_3, x2_4, x2_5, x2_6, x2_7, x2_8, rfl, w2⟩ := opened2_23 (hval 2 23 v2 rfl rfl) h2
  clear hA0 hval0
  refine (walk x0_0 x0_1 x0_2 x0_3 x0_4 x0_5 x0_6 x0_7 x0_8 x1_0 x1_1 x1_2 x1_3 x1_4 x1_5 x1_6 x1_7 x1_8 x2_0 x2_1 x2_2 x2_3 x2_4 x2_5 x2_6 x2_7 x2_8 W w0 w1 w2).mono fun e W' ⟨he, bel⟩ => ?_
  subst he
  exact ⟨_, rfl, _, _, _, [], _, [], hW', trodAll_mk1 (shut_bool Try.underlying4 _), (trodAll_cons_mk (Below.trod laidOut (by kernel_rfl) (of_decide_eq_true (by kernel_rfl)) k0 bel lt0) (trodAll_cons_mk (Below.trod laidOut (by kernel_rfl) (of_decide_eq_true (by kernel_rfl)) k1 bel lt1) (trodAll_cons_mk (Below.trod laidOut (by kernel_rfl) (of_decide_eq_true (by kernel_rfl)) k2 bel lt2) trodAll_mk0))), rfl, bel.frame _, fun h => by cases h⟩

theorem over : Rows.rankOrderRow.holds Try.pinned (OpenSpec.ofChange Rows.rankOrderSpec) :=
  OpenClaim.holds_of_wide 4 Try.f4 rfl rfl rfl rfl rfl rfl rfl ⟨rfl, rfl, rfl, rfl, rfl⟩ rfl rfl rfl rfl rfl (by kernel_rfl) Try.func4 (by kernel_rfl)
    (of_decide_eq_true (by kernel_rfl)) (by unfold Func.isWrapper; first | (rw [if_pos (by decide +kernel)]; kernel_rfl) | (rw [if_neg (by decide +kernel)]; exact ⟨rfl, rfl⟩))
    (fun os started H enc _ => lifted os started H enc)

/-- ████ THE STATEMENT ████ -/
theorem proved : Rows.RankOrderSaid := over
#print axioms proved
end Go.Proofs.Ytngmcefbljkgaaa.rankOrder
