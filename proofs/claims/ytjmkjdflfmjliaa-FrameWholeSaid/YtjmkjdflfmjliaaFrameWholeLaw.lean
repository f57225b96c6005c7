/- FrameWhole holds: for every list of frames and every place where their bytes are cut off. No condition. -/
import Derived.Test.YtjmkjdflfmjliaaRows
import Derived.Test.YtjmkjdflfmjliaaFrWhole2
import Derived.WalkKit
import Derived.ProofKit
import Derived.OpenShut
import Derived.ShutString
import Derived.ChangeOld
import Derived.Below
import Derived.Deep.Slices
namespace Go.Proofs.Ytjmkjdflfmjliaa.frameWhole
open Go.ChangeShapes Go.WideShapes Go.ChangeAt Go.RowKit
open Go.ChangeMaps (open_string shut_string)
set_option linter.unusedVariables false

theorem own : ownKnob Try.prog.godebug = none := by kernel_rfl
theorem laidOut : laidOutB Try.prog = true := by kernel_rfl

/-- WHAT THE WALK IS TOLD OF A SLICE OF INTEGERS THAT CAME IN: it is nil; or it leads to a row of 'cap' cells, the numbers 'zs' (the first 'len' are its elements, the rest its spare room), each fitting its kind. -/
def IsRow (k : IntKind) (w : World) (a : Option Addr) (len cap : Nat) (zs : List Int) : Prop :=
  (a = none ∧ len = 0 ∧ cap = 0 ∧ zs = []) ∨
  ∃ x, a = some x ∧ len ≤ cap ∧ cap ≤ maxLen ∧ zs.length = cap ∧ (∀ i, i < zs.length → w.cell? (x.add i) = some (.int k (zs.getD i 0))) ∧ ∀ n ∈ zs, (Lit.int k n).wf = true

/-- what came in as a slice of structs: none; or a row of their fields -/
def IsRowS (w : World) (a : Option Addr) (len cap : Nat) (zs : List (Int × ByteArray)) : Prop :=
  (a = none ∧ len = 0 ∧ cap = 0 ∧ zs = []) ∨
  ∃ x, a = some x ∧ len ≤ cap ∧ cap ≤ maxLen ∧ zs.length = len ∧ ∀ i, i < len → ∃ z : Int × ByteArray, zs[i]? = some z ∧ w.cell? (x.add (i * 2)) = some (.int .i64 z.1) ∧ w.cell? (x.add (i * 2 + 1)) = some (.string z.2) ∧ (Lit.int .i64 z.1).wf = true ∧ z.2.size ≤ maxLen ∧ True
theorem IsRowS_of {H : Type} {enc : TypeId × Value → H} {W : World} {base : Nat} {spare : Nat → Bool} {held : Bool} {a : Option Addr} {len cap : Nat} {d : DataW H} {p : List MemPlace}
    (h : DataW.Trod enc Try.prog W base spare held 30 (.slice a len cap) d p) : ∃ zs, IsRowS W a len cap zs := by
  have C3 : Try.prog.cellsOf 3 = 1 := by kernel_rfl
  have C9 : Try.prog.cellsOf 9 = 1 := by kernel_rfl
  have CE : Try.prog.cellsOf 27 = 2 := by kernel_rfl
  obtain ⟨fuel, hf⟩ := h
  rcases Deep.open_slice Try.underlying30 hf with ⟨hcs, _⟩ | ⟨x, l, c, m, n, D, Pl, hcs, _, hl, hm, hmm, _, hi⟩
  · simp [Value.cells] at hcs
    obtain ⟨rfl, rfl, rfl⟩ := hcs
    exact ⟨[], .inl ⟨rfl, rfl, rfl, rfl⟩⟩
  · simp [Value.cells] at hcs
    obtain ⟨rfl, rfl, rfl⟩ := hcs
    have each : ∀ i, i < len → ∃ z : Int × ByteArray, W.cell? (x.add (i * 2)) = some (.int .i64 z.1) ∧ W.cell? (x.add (i * 2 + 1)) = some (.string z.2) ∧ (Lit.int .i64 z.1).wf = true ∧ z.2.size ≤ maxLen ∧ True := by
      intro i hil
      obtain ⟨cs, h1, h2⟩ := hi i (by rw [hmm]; split <;> omega)
      rw [CE] at h1
      obtain ⟨_, hlen, hat⟩ := World.cells?_some h1
      obtain ⟨xs, k, _, _, _, hxl, hg⟩ := DataW.trod_struct Try.underlying27 h2
      match cs, hlen, xs, hxl with
      | [c0, c1], _, [y0, y1], _ =>
        have g0 := hg 0 _ rfl
        simp [C3] at g0
        obtain ⟨x0, e0, _, f0⟩ := DataW.trod_int Try.underlying3 g0
        obtain rfl : c0 = _ := List.head_eq_of_cons_eq e0
        have t0 := hat 0 (by omega)
        rw [Deep.add_add] at t0
        have g1 := hg 1 _ rfl
        simp [C9] at g1
        obtain ⟨x1, e1, _, f1⟩ := DataW.trod_string Try.underlying9 g1
        obtain rfl : c1 = _ := List.head_eq_of_cons_eq e1
        have t1 := hat 1 (by omega)
        rw [Deep.add_add] at t1
        exact ⟨(x0, x1), by simpa using t0, by simpa using t1, f0, f1, trivial⟩
    have : Inhabited (Int × ByteArray) := ⟨(0, ⟨#[]⟩)⟩
    obtain ⟨Z, hZ⟩ := Deep.choose_lt each
    exact ⟨(List.range len).map Z, .inr ⟨x, rfl, hl, hm, by simp, fun i hi => ⟨Z i, by simp [hi], hZ i hi⟩⟩⟩

theorem in_of {w : World} {a : Option Addr} {len cap : Nat} {zs : List Fr.Fm} (h : IsRowS w a len cap zs) : len = 0 ∨ ∃ b o, a = some ⟨b, o, none⟩ ∧ Fr.In a len cap zs w := by
  rcases h with ⟨rfl, rfl, rfl, rfl⟩ | ⟨x, rfl, hl, _, hz, hc⟩
  · exact .inl rfl
  · have e : ∀ j, j < len → ∃ z : Fr.Fm, Fr.atF zs j = z ∧ w.cell? (x.add (j * 2)) = some (.int .i64 z.1) ∧ w.cell? (x.add (j * 2 + 1)) = some (.string z.2) ∧ (Lit.int .i64 z.1).wf = true := fun j hj => by
      obtain ⟨z, h0, h1, h2, h3, _⟩ := hc j hj
      exact ⟨z, by unfold Fr.atF; rw [h0]; rfl, h1, h2, h3⟩
    by_cases h0 : 0 < len
    · obtain ⟨b, off, sp⟩ := x
      have hs : sp = none := by
        obtain ⟨z, _, h1, _⟩ := e 0 h0
        cases sp with
        | none => rfl
        | some q => rw [Nat.zero_mul] at h1; simp only [World.cell?, Addr.add] at h1; split at h1 <;> simp at h1
      subst hs
      have ap : ∀ i, (⟨b, off, none⟩ : Addr).add i = ⟨b, off + i, none⟩ := fun i => by unfold Addr.add; split <;> simp_all
      refine .inr ⟨b, off, rfl, hz, ⟨fun _ => ⟨b, off, rfl, ?_, fun j hj => ?_⟩⟩, fun j hj => ?_, hl⟩
      · obtain ⟨z, _, h1, _⟩ := e 0 h0
        rw [ap] at h1
        exact World.block_lt_of_cell? w _ h1
      · obtain ⟨z, h0, h1, h2, _⟩ := e j (by omega)
        rw [ap] at h1 h2
        rw [h0]
        exact ⟨h1, h2⟩
      · obtain ⟨z, h0, _, _, h4⟩ := e j hj
        rw [h0]
        have := (Fr.wf64 h4).2
        omega
    · exact .inl (by omega)

theorem walk (a0 : Option Addr) (len0 cap0 : Nat) (z0 : List (Int × ByteArray)) (a1 : Int) (w : World) (w0 : IsRowS w a0 len0 cap0 z0) (w1 : (Lit.int .u16 a1).wf = true) :
    Calls Try.prog 7 #[.slice a0 len0 cap0, .int .u16 a1] w fun e w' => e = .returned (.bool true) ∧ Below w.heap.size w w' := by
  have hc : 0 ≤ a1 ∧ a1 < 65536 := by
    simp [Lit.wf, IntKind.min, IntKind.max, IntKind.signed, IntKind.bits] at w1
    omega
  exact Fr.whole_all _ _ _ _ _ hc w (in_of w0)

/-! ### THE ROW's STEP: WRITTEN OUT: LEAVE IT -/
set_option maxRecDepth 100000 in
theorem lifted (os : Os) (started : os.Started) (H : Type) (enc : TypeId × Value → H) :
    ReturnsInHanded {} Try.checked os 7 .any (Rows.frameWholeSpec.pre6 enc Try.prog Try.f7 Rows.frameWholeRow.domain false) (Rows.frameWholeSpec.post enc Try.prog Try.f7 false true false false) := by
  refine returnsInHanded_of_change (C := Try.checked) own started (by kernel_rfl) Try.func7
    (ChangeSpec.witness6 (enc := enc) (C := Try.checked) false ⟨#[], #[.slice none 0 0, .int .u16 0], []⟩ 8 (by kernel_rfl) (by kernel_rfl) (by kernel_rfl) (by kernel_rfl)) ?_
  intro W base args ds gs before hval0 hW hcnd _
  have hval : ∀ (j : Nat) t v, Try.f7.params[j]? = some t → args[j]? = some v → Value.okWide Try.prog W .any base t v := hval0
  have hW' := hW
  obtain ⟨p, q, hA0, hV, rfl, hfz, hnd⟩ := hW
  have hA : DataW.TrodAll enc Try.prog W 0 (fun _ => true) true Try.f7.params.toList args.toList ds p := hA0
  rw [Try.params7] at hA hval
  obtain ⟨v0, vs0, d0, ds0, p0, q0, hargs, rfl, rfl, h0, r0⟩ := trodAll_cons hA
  obtain ⟨v1, vs1, d1, ds1, p1, q1, rfl, rfl, rfl, h1, r1⟩ := trodAll_cons r0
  obtain ⟨rfl, rfl, rfl⟩ := trodAll_nil r1
  obtain rfl : args = #[v0, v1] := by cases args; simp_all
  obtain ⟨rfl, rfl⟩ := trodVars_none hV
  obtain ⟨a0, len0, cap0, rfl⟩ := okWide_slice Try.underlying30 (hval 0 30 v0 rfl rfl)
  have k0 := h0
  have lt0 : ∀ x ∈ p0, x.block < W.heap.size := by obtain ⟨m, hm⟩ := k0; exact DataW.trod_lt m _ _ _ hm
  obtain ⟨z0, w0⟩ := IsRowS_of h0
  obtain ⟨a1, rfl, rfl, rfl, w1⟩ := open_int Try.underlying39 (hval 1 39 v1 rfl rfl) h1
  clear hA0 hval0
  refine (walk a0 len0 cap0 z0 a1 W w0 w1).mono fun e W' ⟨he, bel⟩ => ?_
  subst he
  exact ⟨_, rfl, _, _, _, [], _, [], hW', trodAll_mk1 (shut_bool Try.underlying4 _), (trodAll_cons_mk (Below.trod laidOut (by kernel_rfl) (of_decide_eq_true (by kernel_rfl)) k0 bel lt0) (trodAll_cons_mk (shut_int Try.underlying39 w1) trodAll_mk0)), rfl, bel.frame _, fun h => by cases h⟩

theorem over : Rows.frameWholeRow.holds Try.pinned (OpenSpec.ofChange Rows.frameWholeSpec) :=
  OpenClaim.holds_of_wide 7 Try.f7 rfl rfl rfl rfl rfl rfl rfl ⟨rfl, rfl, rfl, rfl, rfl⟩ rfl rfl rfl rfl rfl (by kernel_rfl) Try.func7 (by kernel_rfl)
    (of_decide_eq_true (by kernel_rfl)) (by unfold Func.isWrapper; first | (rw [if_pos (by decide +kernel)]; kernel_rfl) | (rw [if_neg (by decide +kernel)]; exact ⟨rfl, rfl⟩))
    (fun os started H enc _ => lifted os started H enc)

/-- ████ THE STATEMENT ████ -/
theorem proved : Rows.FrameWholeSaid := over
#print axioms proved
end Go.Proofs.Ytjmkjdflfmjliaa.frameWhole
