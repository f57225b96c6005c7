/- AvlPlays holds: for every list of acts. No condition. -/
import Derived.Test.YthcofcpnhopnnaaRows
import Derived.Test.YthcofcpnhopnnaaAvPlays
import Derived.Test.YthcofcpnhopnnaaAvAwake
import Derived.WalkKit
import Derived.ProofKit
import Derived.OpenShut
import Derived.ShutString
import Derived.ChangeOld
import Derived.Below
import Derived.Deep.Slices
namespace Go.Proofs.Ythcofcpnhopnnaa.avlPlays
open Go.ChangeShapes Go.WideShapes Go.ChangeAt Go.RowKit
open Go.ChangeMaps (open_string shut_string)
set_option linter.unusedVariables false

theorem own : ownKnob Try.prog.godebug = none := by kernel_rfl
theorem laidOut : laidOutB Try.prog = true := by kernel_rfl

/-- WHAT THE WALK IS TOLD OF A SLICE OF INTEGERS THAT CAME IN: it is nil; or it leads to a row of 'cap' cells, the numbers 'zs' (the first 'len' are its elements, the rest its spare room), each fitting its kind. -/
def IsRow (k : IntKind) (w : World) (a : Option Addr) (len cap : Nat) (zs : List Int) : Prop :=
  (a = none ∧ len = 0 ∧ cap = 0 ∧ zs = []) ∨
  ∃ x, a = some x ∧ len ≤ cap ∧ cap ≤ maxLen ∧ zs.length = cap ∧ (∀ i, i < zs.length → w.cell? (x.add i) = some (.int k (zs.getD i 0))) ∧ ∀ n ∈ zs, (Lit.int k n).wf = true

/-- what came in as a slice of structs: none; or a row of their fields -/
def IsRowS (w : World) (a : Option Addr) (len cap : Nat) (zs : List (Int × Int × Int)) : Prop :=
  (a = none ∧ len = 0 ∧ cap = 0 ∧ zs = []) ∨
  ∃ x, a = some x ∧ len ≤ cap ∧ cap ≤ maxLen ∧ zs.length = len ∧ ∀ i, i < len → ∃ z : Int × Int × Int, zs[i]? = some z ∧ w.cell? (x.add (i * 3)) = some (.int .i64 z.1) ∧ w.cell? (x.add (i * 3 + 1)) = some (.int .i64 z.2.1) ∧ w.cell? (x.add (i * 3 + 2)) = some (.int .i64 z.2.2) ∧ (Lit.int .i64 z.1).wf = true ∧ (Lit.int .i64 z.2.1).wf = true ∧ (Lit.int .i64 z.2.2).wf = true ∧ True
set_option maxRecDepth 100000 in
theorem IsRowS_of {H : Type} {enc : TypeId × Value → H} {W : World} {base : Nat} {spare : Nat → Bool} {held : Bool} {a : Option Addr} {len cap : Nat} {d : DataW H} {p : List MemPlace}
    (h : DataW.Trod enc Try.prog W base spare held 22 (.slice a len cap) d p) : ∃ zs, IsRowS W a len cap zs := by
  have C3 : Try.prog.cellsOf 3 = 1 := by kernel_rfl
  have CE : Try.prog.cellsOf 33 = 3 := by kernel_rfl
  obtain ⟨fuel, hf⟩ := h
  rcases Deep.open_slice Try.underlying22 hf with ⟨hcs, _⟩ | ⟨x, l, c, m, n, D, Pl, hcs, _, hl, hm, hmm, _, hi⟩
  · simp [Value.cells] at hcs
    obtain ⟨rfl, rfl, rfl⟩ := hcs
    exact ⟨[], .inl ⟨rfl, rfl, rfl, rfl⟩⟩
  · simp [Value.cells] at hcs
    obtain ⟨rfl, rfl, rfl⟩ := hcs
    have each : ∀ i, i < len → ∃ z : Int × Int × Int, W.cell? (x.add (i * 3)) = some (.int .i64 z.1) ∧ W.cell? (x.add (i * 3 + 1)) = some (.int .i64 z.2.1) ∧ W.cell? (x.add (i * 3 + 2)) = some (.int .i64 z.2.2) ∧ (Lit.int .i64 z.1).wf = true ∧ (Lit.int .i64 z.2.1).wf = true ∧ (Lit.int .i64 z.2.2).wf = true ∧ True := by
      intro i hil
      obtain ⟨cs, h1, h2⟩ := hi i (by rw [hmm]; split <;> omega)
      rw [CE] at h1
      obtain ⟨_, hlen, hat⟩ := World.cells?_some h1
      obtain ⟨xs, k, _, _, _, hxl, hg⟩ := DataW.trod_struct Try.underlying33 h2
      match cs, hlen, xs, hxl with
      | [c0, c1, c2], _, [y0, y1, y2], _ =>
        have g0 := hg 0 _ rfl
        simp [C3] at g0
        obtain ⟨x0, e0, _, f0⟩ := DataW.trod_int Try.underlying3 g0
        obtain rfl : c0 = _ := List.head_eq_of_cons_eq e0
        have t0 := hat 0 (by omega)
        rw [Deep.add_add] at t0
        have g1 := hg 1 _ rfl
        simp [C3] at g1
        obtain ⟨x1, e1, _, f1⟩ := DataW.trod_int Try.underlying3 g1
        obtain rfl : c1 = _ := List.head_eq_of_cons_eq e1
        have t1 := hat 1 (by omega)
        rw [Deep.add_add] at t1
        have g2 := hg 2 _ rfl
        simp [C3] at g2
        obtain ⟨x2, e2, _, f2⟩ := DataW.trod_int Try.underlying3 g2
        obtain rfl : c2 = _ := List.head_eq_of_cons_eq e2
        have t2 := hat 2 (by omega)
        rw [Deep.add_add] at t2
        exact ⟨(x0, x1, x2), by simpa using t0, by simpa using t1, by simpa using t2, f0, f1, f2, trivial⟩
    have : Inhabited (Int × Int × Int) := ⟨(0, 0, 0)⟩
    obtain ⟨Z, hZ⟩ := Deep.choose_lt each
    exact ⟨(List.range len).map Z, .inr ⟨x, rfl, hl, hm, by simp, fun i hi => ⟨Z i, by simp [hi], hZ i hi⟩⟩⟩

theorem add_none (b off i : Nat) : (⟨b, off, none⟩ : Addr).add i = ⟨b, off + i, none⟩ := by unfold Addr.add; split <;> simp_all
theorem spot_none {w : World} {x : Addr} {v : Value} (h : w.cell? (x.add 0) = some v) : ∃ b off, x = ⟨b, off, none⟩ ∧ b < w.heap.size := by
  obtain ⟨b, off, sp⟩ := x
  cases sp with
  | none => rw [add_none] at h; exact ⟨b, off, rfl, World.block_lt_of_cell? w _ h⟩
  | some q => simp only [World.cell?, Addr.add] at h; split at h <;> simp at h
theorem acts_row {w : World} {a : Option Addr} {len cap : Nat} {zs : List (Int × Int × Int)} (h : IsRowS w a len cap zs) : Av.Acts a len zs w ∧ len ≤ cap := by
  rcases h with ⟨rfl, rfl, rfl, rfl⟩ | ⟨x, rfl, hl, _, hz, hc⟩
  · exact ⟨⟨rfl, fun h => by omega⟩, Nat.le_refl _⟩
  · refine ⟨⟨hz, fun h0 => ?_⟩, hl⟩
    obtain ⟨_, _, q0, _⟩ := hc 0 h0
    rw [Nat.zero_mul] at q0
    obtain ⟨b, off, rfl, hb⟩ := spot_none q0
    refine ⟨b, off, rfl, hb, fun j y hy => ?_⟩
    obtain ⟨z', h0', e0, e1, e2, _⟩ := hc j (by rw [← hz]; exact (List.getElem?_eq_some_iff.1 hy).1)
    rw [hy] at h0'; cases h0'
    rw [add_none] at e0 e1 e2
    exact ⟨e0, by rw [Nat.add_assoc]; exact e1, by rw [Nat.add_assoc]; exact e2⟩
theorem walk (a0 : Option Addr) (len0 cap0 : Nat) (z0 : List (Int × Int × Int)) (w : World) (w0 : IsRowS w a0 len0 cap0 z0) :
    Calls Try.prog 3 #[.slice a0 len0 cap0] w fun e w' => e = .returned (.bool true) ∧ Below w.heap.size w w' := by
  obtain ⟨hr, hc⟩ := acts_row w0
  exact Av.plays_any Av.theCode Av.mp_new Av.awake_any _ _ _ _ w hr hc

/-! ### THE ROW's STEP: WRITTEN OUT: LEAVE IT -/
set_option maxRecDepth 100000 in
theorem lifted (os : Os) (started : os.Started) (H : Type) (enc : TypeId × Value → H) :
    ReturnsInHanded {} Try.checked os 3 .any (Rows.avlPlaysSpec.pre6 enc Try.prog Try.f3 Rows.avlPlaysRow.domain false) (Rows.avlPlaysSpec.post enc Try.prog Try.f3 false true false false) := by
  refine returnsInHanded_of_change (C := Try.checked) own started (by kernel_rfl) Try.func3
    (ChangeSpec.witness6 (enc := enc) (C := Try.checked) false ⟨#[], #[.slice none 0 0], []⟩ 8 (by kernel_rfl) (by kernel_rfl) (by kernel_rfl) (by kernel_rfl)) ?_
  intro W base args ds gs before hval0 hW hcnd _
  have hval : ∀ (j : Nat) t v, Try.f3.params[j]? = some t → args[j]? = some v → Value.okWide Try.prog W .any base t v := hval0
  have hW' := hW
  obtain ⟨p, q, hA0, hV, rfl, hfz, hnd⟩ := hW
  have hA : DataW.TrodAll enc Try.prog W 0 (fun _ => true) true Try.f3.params.toList args.toList ds p := hA0
  rw [Try.params3] at hA hval
  obtain ⟨v0, vs0, d0, ds0, p0, q0, hargs, rfl, rfl, h0, r0⟩ := trodAll_cons hA
  obtain ⟨rfl, rfl, rfl⟩ := trodAll_nil r0
  obtain rfl : args = #[v0] := by cases args; simp_all
  obtain ⟨rfl, rfl⟩ := trodVars_none hV
  obtain ⟨a0, len0, cap0, rfl⟩ := okWide_slice Try.underlying22 (hval 0 22 v0 rfl rfl)
  have k0 := h0
  have lt0 : ∀ x ∈ p0, x.block < W.heap.size := by obtain ⟨m, hm⟩ := k0; exact DataW.trod_lt m _ _ _ hm
  obtain ⟨z0, w0⟩ := IsRowS_of h0
  clear hA0 hval0
  refine (walk a0 len0 cap0 z0 W w0).mono fun e W' ⟨he, bel⟩ => ?_
  subst he
  exact ⟨_, rfl, _, _, _, [], _, [], hW', trodAll_mk1 (shut_bool Try.underlying4 _), (trodAll_cons_mk (Below.trod laidOut (by kernel_rfl) (of_decide_eq_true (by kernel_rfl)) k0 bel lt0) trodAll_mk0), rfl, bel.frame _, fun h => by cases h⟩

theorem over : Rows.avlPlaysRow.holds Try.pinned (OpenSpec.ofChange Rows.avlPlaysSpec) :=
  OpenClaim.holds_of_wide 3 Try.f3 rfl rfl rfl rfl rfl rfl rfl ⟨rfl, rfl, rfl, rfl, rfl⟩ rfl rfl rfl rfl rfl (by kernel_rfl) Try.func3 (by kernel_rfl)
    (of_decide_eq_true (by kernel_rfl)) (by unfold Func.isWrapper; first | (rw [if_pos (by decide +kernel)]; kernel_rfl) | (rw [if_neg (by decide +kernel)]; exact ⟨rfl, rfl⟩))
    (fun os started H enc _ => lifted os started H enc)

/-- ████ THE STATEMENT ████ -/
theorem proved : Rows.AvlPlaysSaid := over
#print axioms proved
end Go.Proofs.Ythcofcpnhopnnaa.avlPlays
