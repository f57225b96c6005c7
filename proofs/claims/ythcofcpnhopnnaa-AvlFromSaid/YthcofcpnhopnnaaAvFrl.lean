/- The walk of the second law of layer 12: the keys that are not below one are given rising, as long as more are wanted. -/
import Derived.Test.YthcofcpnhopnnaaAvAll
import Derived.Deep.CutBlock
import Derived.Sort.QuietIn
set_option linter.unusedSimpArgs false
set_option linter.unusedVariables false
namespace Go.Proofs.Ythcofcpnhopnnaa.Av
open Go.RowKit Go.Shelf

attribute [local go_sem] Oper.semAt_some

/-- what an act comes to, for both maps -/
def actF (l : List Pr) (x : Ac) : List Pr := if x.1 = 2 then dropM l x.2.1 else putM l x.2.1 x.2.2
theorem actF_len (l : List Pr) (x : Ac) : (actF l x).length ≤ l.length + 1 := by
  unfold actF
  split
  · have : (dropM l x.2.1).length ≤ l.length := List.length_filter_le _ _
    omega
  · rw [putM_len]; split <;> omega
theorem rm_kp {base M X : Nat} {W W' : World} {l : List Pr} (h : Rm W X l) (hk : Kp base M [] W W') (hX : M < X) : Rm W' X l := by
  obtain ⟨v, h1, h2⟩ := h.at_
  exact ⟨v, hk.at_ h1 (by omega) (by simp), row_kp h2 hk (by omega) (by simp)⟩
/-- both maps, and what else stands in memory -/
structure Fs (w W : World) (want : Nat) (l : List Pr) : Prop where
  mp : Mp (w.heap.size + 1 + 1) W (w.heap.size + 1 + 1) l
  rm : Rm W (w.heap.size + 1 + 1 + 1) l
  b0 : Boxed W w.heap.size 5 (.int .u8 want)
  b1 : Boxed W (w.heap.size + 1) 4 (.bool false)
  b4 : Boxed W (w.heap.size + 1 + 1 + 1 + 1) 28 (.pointer (some ⟨w.heap.size + 1 + 1 + 1, 0, none⟩))
  below : Below w.heap.size w W
theorem boxed_later {W W' : World} {B : Nat} {t : TypeId} {v : Value} (h : Boxed W B t v) (hb : Below W.heap.size W W') : Boxed W' B t v := (hb.block B h.lt).trans h
theorem Fs.later {w W W' : World} {want : Nat} {l : List Pr} (h : Fs w W want l) (hb : Below W.heap.size W W') : Fs w W' want l :=
  ⟨mp_later h.mp hb, h.rm.later hb, boxed_later h.b0 hb, boxed_later h.b1 hb, boxed_later h.b4 hb, h.below.trans (hb.mono h.below.size)⟩
/-- the program's map changed, the document's not yet -/
structure Fh (w W : World) (want : Nat) (l l' : List Pr) : Prop where
  mp : Mp (w.heap.size + 1 + 1) W (w.heap.size + 1 + 1) l'
  rm : Rm W (w.heap.size + 1 + 1 + 1) l
  b0 : Boxed W w.heap.size 5 (.int .u8 want)
  b1 : Boxed W (w.heap.size + 1) 4 (.bool false)
  b4 : Boxed W (w.heap.size + 1 + 1 + 1 + 1) 28 (.pointer (some ⟨w.heap.size + 1 + 1 + 1, 0, none⟩))
  below : Below w.heap.size w W
theorem Fs.half {w W W' : World} {want : Nat} {l l' : List Pr} (h : Fs w W want l) (hm : Mp (w.heap.size + 1 + 1) W' (w.heap.size + 1 + 1) l') (hk : Kp (w.heap.size + 1 + 1) (w.heap.size + 1 + 1) [] W W') : Fh w W' want l l' := by
  have hall : ∀ k o, W.heap[k]? = some o → k ≠ w.heap.size + 1 + 1 → W'.heap[k]? = some o := fun k o ho hn => hk.block k o ho (.inr ⟨hn, fun t ht => nomatch ht⟩)
  have hlt := mp_lt h.mp
  exact ⟨hm, rm_kp h.rm hk (by omega), hall _ _ h.b0 (by omega), hall _ _ h.b1 (by omega), hall _ _ h.b4 (by omega), h.below.trans (below_low (hk.below (by omega)) (by omega))⟩
theorem Fh.whole {w W W' : World} {want : Nat} {l l' : List Pr} (h : Fh w W want l l') (hr : Rm W' (w.heap.size + 1 + 1 + 1) l') (hb : But (w.heap.size + 1 + 1 + 1) W W') : Fs w W' want l' := by
  obtain ⟨v, h1, _⟩ := h.rm.at_
  have hs := h.below.size
  exact ⟨mp_but h.mp hb (by omega) h1 (by decide), hr, (hb.block _ h.b0.lt (by omega)).trans h.b0, (hb.block _ h.b1.lt (by omega)).trans h.b1, (hb.block _ h.b4.lt (by omega)).trans h.b4, h.below.trans (hb.below (by omega) hs)⟩
theorem Fh.later {w W W' : World} {want : Nat} {l l' : List Pr} (h : Fh w W want l l') (hb : Below W.heap.size W W') : Fh w W' want l l' :=
  ⟨mp_later h.mp hb, h.rm.later hb, boxed_later h.b0 hb, boxed_later h.b1 hb, boxed_later h.b4 hb, h.below.trans (hb.mono h.below.size)⟩
theorem pre_snoc {L pre : List Pr} {x : Pr} (h : pre <+: L) : pre ++ [x] <+: L ↔ L[pre.length]? = some x := by
  obtain ⟨r, rfl⟩ := h
  rw [List.getElem?_append_right (Nat.le_refl _), Nat.sub_self, List.prefix_append_right_inj]
  cases r with
  | nil => simp
  | cons y r => simp [List.cons_prefix_cons, eq_comm]
theorem ownFrom_or {β : Type} {B : Nat} {I I' : β → World → Prop} (h : OwnFrom B I) (h' : OwnFrom B I') : OwnFrom B (fun s W => I s W ∨ I' s W) :=
  fun s X Y row hs hg hr => hs.elim (fun k => .inl (h s X Y row k hg hr)) (fun k => .inr (h' s X Y row k hg hr))
/-! A region without a deferred call, within a round of a range over a function: what holds out of a round holds in it. -/
def noDef (ops : Array Oper) : Bool := ops.toList.all fun o => match o.op with | .defer _ => false | _ => true
theorem noDef_spec {ops : Array Oper} (h : noDef ops = true) (i : Nat) (o : Oper) (c : _) (hi : ops[i]? = some o) : o.op ≠ .defer c := by
  intro e
  have h1 := List.all_eq_true.1 h o (List.mem_of_getElem? (by rw [Array.getElem?_toList]; exact hi))
  rw [e] at h1
  cases h1
theorem opIn_round {F : Fence} {l n : Nat} {P : Program} {o : Oper} {a : Go.Act} {w : World} {K : Go.Act → World → Prop} {Q : Exit → Go.Act → World → Prop} (hnd : ∀ c, o.op ≠ .defer c) (h : Oper.wpIn F n P o a w K Q) : Oper.wpIn (F.inRound l) n P o a w K Q := by
  unfold Oper.wpIn at h ⊢
  rw [Oper.semAt_plain F _ _ hnd] at h
  rw [Oper.semAt_plain (F.inRound l) _ _ hnd]
  exact h
theorem anyIn_round {F : Fence} {l n : Nat} {P : Program} {md : Region.Mode} {ops : Array Oper} {Q : Exit → Go.Act → World → Prop} (hnd : ∀ (i : Nat) (o : Oper) c, ops[i]? = some o → o.op ≠ .defer c) :
    ∀ (fuel : Nat) (listed : Array Bool) (a : Go.Act) (w : World), wpAnyIn F n P md ops Q fuel listed a w → wpAnyIn (F.inRound l) n P md ops Q fuel listed a w
  | 0, _, _, _, h => h
  | fuel + 1, listed, a, w, h => ⟨h.1, fun i hi => by
    have h1 := wpOpIn_mono (fun a' w' h3 => anyIn_round (l := l) hnd fuel _ a' w' h3) (h.2 i hi)
    unfold wpOpIn at h1 ⊢
    cases ho : ops[i]? with
    | none => rw [ho] at h1; exact h1
    | some o =>
      rw [ho] at h1
      simp only at h1 ⊢
      split
      · rename_i hw
        rw [if_pos hw] at h1
        exact opIn_round (fun c => hnd i o c ho) h1
      · rename_i hw
        rw [if_neg hw] at h1
        exact h1⟩
/-- a region that only reads, within a round: one walk of its lexical order -/
theorem region_quiet_round {n l₀ : Nat} {P : Program} {id : Nat} {Q : Exit → Go.Act → World → Prop} {a : Go.Act} {w : World} {l : List Oper} (hnd : noDef l.toArray = true) (hm : P.follows .mixedOrders = true) (hB : Region.lexB .any l.toArray = true)
    (h : wpQuietIn Fence.wide n P l.toArray (fun w' => ∃ n, w' = w.drewN n) (fun a' => ∀ w', (∃ n, w' = w.drewN n) → Q .normal a' w') l a) : (Code.region id l.toArray true).wpIn (Fence.wide.inRound l₀) n P Q a w := by
  simp only [Region.lexB, Bool.and_eq_true] at hB
  refine wpIn_region_any hm (anyIn_round (F := Fence.wide) (noDef_spec hnd) _ _ _ _ (wpAnyIn_of_quiet (C := fun w' => ∃ n, w' = w.drewN n) (Q := fun a' => ∀ w', (∃ n, w' = w.drewN n) → Q .normal a' w') rfl (fun _ w' hw' h => h w' hw') _ _ _ _ ⟨1, rfl⟩ ?_))
  have := wpAnyQIn_lex (F := Fence.wide) (n := n) (C := fun w' => ∃ n, w' = w.drewN n) (md := .any) hB.1 l 0 (Array.replicate l.length false) a (by simp) (by simpa using hB.2) h
  simpa using this
/-- how many are wanted, at least one -/
def limW (want : Nat) : Nat := if want < 1 then 1 else want

set_option maxHeartbeats 12800000 in
set_option maxRecDepth 100000 in
theorem froml_any (a : Option Addr) (len cap : Nat) (acts : List Ac) (key : Int) (want : Nat) (hwant : want < 256) (w : World) (hr : ActsIn a len acts w) (hc : len ≤ cap) :
    Calls Try.prog 4 #[.slice a len cap, .int .i64 key, .int .u8 want] w fun e w' => e = .returned (.bool true) ∧ Below w.heap.size w w' := by
  have HR := Lib.hid hr
  have HLEN := Lib.hid hr.len_is
  clear hr
  refine (callsIn_wide (n := 4)).1 ?_
  refine callsIn_of_wp_marks Try.func4 rfl trivial ?_ rfl
  simp only [Try.ntmps4, List.size_toArray, List.length_cons, List.length_nil, Nat.reduceAdd, Nat.reduceSub, Array.replicate_succ, Array.replicate_zero, List.push_toArray, List.append_toArray, List.nil_append, List.cons_append]
  refine wpIn_wide.2 (wp_mono (Q := NP (bodyPostM Fence.wide 4 Try.prog Try.f4 (fun e w' => e = .returned (.bool true) ∧ Below w.heap.size w w'))) ?_ np_le)
  have b1 := Boxed.new w 5 (.int .u8 want)
  have b2 := Boxed.new (w.alloc (.cells #[.int .u8 want] 5)) 4 (.bool false)
  rw [World.size_alloc] at b2
  have b1' := b1.alloc (.cells #[.bool false] 4)
  have bb : Below w.heap.size w ((w.alloc (.cells #[.int .u8 want] 5)).alloc (.cells #[.bool false] 4)) := ((Below.refl _ w).alloc (Nat.le_refl _) _).alloc (by simp) _
  by_cases hs : len > 120
  · have hs' : ((len : Int) > 120) := by omega
    go_wp2_with fail
    refine (awake_any _).mono ?_
    rintro e w1 ⟨rfl, hb1⟩
    have hr1 := (show Boxed w1 (w.heap.size + 1) 4 (.bool false) from (hb1.block _ b2.lt).trans b2)
    have cr := hr1.cell
    have fr := hr1.frozen
    have HR2 := Lib.hid (hr1.set (.bool true))
    have HB2 := Lib.hid ((bb.trans (hb1.mono bb.size)).setCell (p := ⟨w.heap.size + 1, 0, none⟩) (by show w.heap.size ≤ w.heap.size + 1; omega) (.bool true))
    clear hb1 hr1
    go_wp2_with fail
    have hc2 := HR2.out.cell
    refine ⟨_, ?_, rfl, HB2.out⟩
    simp [results, Try.f4, go_sem, hc2]
  have hs' : ¬ ((len : Int) > 120) := by omega
  have SZ : ((w.alloc (.cells #[.int .u8 want] 5)).alloc (.cells #[.bool false] 4)).heap.size = w.heap.size + 1 + 1 := by simp
  have hm0 := mp_new ((w.alloc (.cells #[.int .u8 want] 5)).alloc (.cells #[.bool false] 4))
  rw [SZ] at hm0
  have hF0 : Fs w (((((w.alloc (.cells #[.int .u8 want] 5)).alloc (.cells #[.bool false] 4)).alloc (.cells #[.pointer none, .int .i64 0] 26)).alloc (.cells #[.slice none 0 0] 31)).alloc (.cells #[.pointer (some ⟨w.heap.size + 1 + 1 + 1, 0, none⟩)] 28)) want [] := by
    have hb3 : Below (((w.alloc (.cells #[.int .u8 want] 5)).alloc (.cells #[.bool false] 4)).alloc (.cells #[.pointer none, .int .i64 0] 26)).heap.size (((w.alloc (.cells #[.int .u8 want] 5)).alloc (.cells #[.bool false] 4)).alloc (.cells #[.pointer none, .int .i64 0] 26)) (((((w.alloc (.cells #[.int .u8 want] 5)).alloc (.cells #[.bool false] 4)).alloc (.cells #[.pointer none, .int .i64 0] 26)).alloc (.cells #[.slice none 0 0] 31)).alloc (.cells #[.pointer (some ⟨w.heap.size + 1 + 1 + 1, 0, none⟩)] 28)) := ((Below.refl _ _).alloc (Nat.le_refl _) _).alloc (by first | (simp; done) | (simp; omega)) _
    have hb2 : Below ((w.alloc (.cells #[.int .u8 want] 5)).alloc (.cells #[.bool false] 4)).heap.size ((w.alloc (.cells #[.int .u8 want] 5)).alloc (.cells #[.bool false] 4)) (((((w.alloc (.cells #[.int .u8 want] 5)).alloc (.cells #[.bool false] 4)).alloc (.cells #[.pointer none, .int .i64 0] 26)).alloc (.cells #[.slice none 0 0] 31)).alloc (.cells #[.pointer (some ⟨w.heap.size + 1 + 1 + 1, 0, none⟩)] 28)) := (((Below.refl _ _).alloc (Nat.le_refl _) _).alloc (by first | (simp; done) | (simp; omega)) _).alloc (by first | (simp; done) | (simp; omega)) _
    have b4 := Boxed.new ((((w.alloc (.cells #[.int .u8 want] 5)).alloc (.cells #[.bool false] 4)).alloc (.cells #[.pointer none, .int .i64 0] 26)).alloc (.cells #[.slice none 0 0] 31)) 28 (.pointer (some ⟨w.heap.size + 1 + 1 + 1, 0, none⟩))
    have hX := alloc_new (((w.alloc (.cells #[.int .u8 want] 5)).alloc (.cells #[.bool false] 4)).alloc (.cells #[.pointer none, .int .i64 0] 26)) (.cells #[.slice none 0 0] 31)
    have e1 : (((w.alloc (.cells #[.int .u8 want] 5)).alloc (.cells #[.bool false] 4)).alloc (.cells #[.pointer none, .int .i64 0] 26)).heap.size = w.heap.size + 1 + 1 + 1 := by simp
    have e2 : ((((w.alloc (.cells #[.int .u8 want] 5)).alloc (.cells #[.bool false] 4)).alloc (.cells #[.pointer none, .int .i64 0] 26)).alloc (.cells #[.slice none 0 0] 31)).heap.size = w.heap.size + 1 + 1 + 1 + 1 := by simp
    rw [e2] at b4
    rw [e1] at hX
    refine ⟨mp_later hm0 hb3, ⟨_, ?_, World.ownsRow_nil _ _ _ _⟩, boxed_later b1' hb2, boxed_later b2 hb2, b4, bb.trans (hb2.mono bb.size)⟩
    exact (Below.block ((Below.refl _ _).alloc (Nat.le_refl _) _) _ (by rw [e2]; omega)).trans hX
  have HF0 := Lib.hid hF0
  clear hm0 b1 b2 b1' bb hF0
  go_wp2_with fail
  go_loopw [9] (fun iv wr => ∃ k : Nat, k ≤ len ∧ iv = .int .i64 (k : Int) ∧ ∃ ps : List Pr, ps.length ≤ k ∧ Hid (Fs w wr want ps)) (fun iv _ => (len - intOf iv).toNat)
  case atStart => exact ⟨0, Nat.zero_le _, rfl, [], Nat.le_refl _, HF0.out⟩
  case round =>
    obtain ⟨k, hk, rfl, ps, hps, HF⟩ := hrel
    clear HF0
    by_cases hkl : k < len
    · have hkl' : ((k : Int) < len) := by omega
      obtain ⟨x, hx⟩ : ∃ x, acts[k]? = some x := ⟨_, List.getElem?_eq_getElem (by have := HLEN.out; omega)⟩
      have hal := actF_len ps x
      obtain ⟨b, off, rfl, hb, hcell⟩ := HR.out.at_ (by omega)
      obtain ⟨d0, d1, d2⟩ := hcell k x hx
      have hd0 := (HF.out.below.cell (p := ⟨b, off + k * 3, none⟩) hb).trans d0
      have hd1 := (HF.out.below.cell (p := ⟨b, off + k * 3 + 1, none⟩) hb).trans d1
      obtain ⟨k0, k1, k2⟩ := x
      simp only at d0 d1 d2 hal hd0 hd1
      have KQ : Hid (∀ W' : World, Below w.heap.size w W' → Boxed W' (w.heap.size + 1 + 1 + 1 + 1) 28 (.pointer (some ⟨w.heap.size + 1 + 1 + 1, 0, none⟩)) → W'.cell? ⟨w.heap.size + 1 + 1 + 1 + 1, 0, none⟩ = some (.pointer (some ⟨w.heap.size + 1 + 1 + 1, 0, none⟩)) ∧ W'.cell? ⟨b, off + k * 3 + 1, none⟩ = some (.int .i64 k1) ∧ W'.cell? ⟨b, off + k * 3 + 2, none⟩ = some (.int .i64 k2)) := fun W' hbb hbx =>
        ⟨hbx.cell, (hbb.cell (p := ⟨b, off + k * 3 + 1, none⟩) hb).trans d1, (hbb.cell (p := ⟨b, off + k * 3 + 2, none⟩) hb).trans d2⟩
      clear hcell d0 d1 d2 hx
      by_cases hk2 : k0 = 2
      · have hk2' : (k0 == 2) = true := by simp [hk2]
        have hact : actF ps (k0, k1, k2) = dropM ps k1 := by unfold actF; rw [if_pos hk2]
        rw [hact] at hal
        clear hk2 hact
        have HP := Lib.hid (mdrop_any k1 HF.out.mp (by omega))
        go_wp2_with fail
        refine HP.out.mono ?_
        rintro e w7 ⟨rfl, hm7, hk7⟩
        have FH0 := HF.out.half hm7 hk7
        have FH := Lib.hid (FH0.later (below_d (w := w7)))
        have hStart := KQ.out w7.drew FH.out.below FH.out.b4
        clear hm7 hk7 FH0 hd0 hd1
        go_upto_region 10 with fail
        refine wp_region_held_drew (S := fun w' => w'.cell? ⟨w.heap.size + 1 + 1 + 1 + 1, 0, none⟩ = some (.pointer (some ⟨w.heap.size + 1 + 1 + 1, 0, none⟩)) ∧ w'.cell? ⟨b, off + k * 3 + 1, none⟩ = some (.int .i64 k1) ∧ w'.cell? ⟨b, off + k * 3 + 2, none⟩ = some (.int .i64 k2)) (by kernel_rfl) (hStart) (fun hHeld => ?_)
        refine wpAnyH_take (i := 0) (oi := { dst := some 39, op := Op.load 28 (Operand.tmp 8), type := 28, pos := "law.go:64", after := #[], guard := none }) (v := ?_) rfl (by kernel_rfl) (by kernel_rfl) (by kernel_rfl) (fun _ _ _ h => h) (Or.inl ⟨by kernel_rfl, ?_⟩) (by assumption) ?_; rotate_left; (focus (intro w hSw; (try dsimp only at hSw); go_simp; all_goals (with_reducible rfl)))
        try simp only [Act.put, List.setIfInBounds_toArray, List.set_cons_zero, List.set_cons_succ]
        refine wpAnyH_take (i := 1) (oi := { dst := some 40, op := Op.move (Operand.tmp 0), type := 22, pos := "law.go:64", after := #[], guard := none }) (v := ?_) rfl (by kernel_rfl) (by kernel_rfl) (by kernel_rfl) (fun _ _ _ h => h) (Or.inl ⟨by kernel_rfl, ?_⟩) (by assumption) ?_; rotate_left; (focus (intro w hSw; (try dsimp only at hSw); go_simp; all_goals (with_reducible rfl)))
        try simp only [Act.put, List.setIfInBounds_toArray, List.set_cons_zero, List.set_cons_succ]
        refine wpAnyH_take (i := 2) (oi := { dst := some 41, op := Op.move (Operand.tmp 9), type := 3, pos := "law.go:64", after := #[], guard := none }) (v := ?_) rfl (by kernel_rfl) (by kernel_rfl) (by kernel_rfl) (fun _ _ _ h => h) (Or.inl ⟨by kernel_rfl, ?_⟩) (by assumption) ?_; rotate_left; (focus (intro w hSw; (try dsimp only at hSw); go_simp; all_goals (with_reducible rfl)))
        try simp only [Act.put, List.setIfInBounds_toArray, List.set_cons_zero, List.set_cons_succ]
        refine wpAnyH_take (i := 3) (oi := { dst := some 42, op := Op.indexAddr 22 (Operand.tmp 40) (Operand.tmp 41), type := 0, pos := "law.go:64", after := #[{ on := 1, ground := Ground.data }, { on := 2, ground := Ground.data }], guard := none }) (v := ?_) rfl (by kernel_rfl) (by kernel_rfl) (by kernel_rfl) (fun _ _ _ h => h) (Or.inl ⟨by kernel_rfl, ?_⟩) (by assumption) ?_; rotate_left; (focus (intro w hSw; (try dsimp only at hSw); go_simp; all_goals (with_reducible rfl)))
        try simp only [Act.put, List.setIfInBounds_toArray, List.set_cons_zero, List.set_cons_succ]
        refine wpAnyH_take (i := 4) (oi := { dst := some 43, op := Op.fieldAddr 33 (Operand.tmp 42) 1, type := 0, pos := "law.go:64", after := #[{ on := 3, ground := Ground.data }], guard := none }) (v := ?_) rfl (by kernel_rfl) (by kernel_rfl) (by kernel_rfl) (fun _ _ _ h => h) (Or.inl ⟨by kernel_rfl, ?_⟩) (by assumption) ?_; rotate_left; (focus (intro w hSw; (try dsimp only at hSw); go_simp; all_goals (with_reducible rfl)))
        try simp only [Act.put, List.setIfInBounds_toArray, List.set_cons_zero, List.set_cons_succ]
        refine wpAnyH_take (i := 5) (oi := { dst := some 44, op := Op.load 3 (Operand.tmp 43), type := 3, pos := "law.go:64", after := #[{ on := 4, ground := Ground.data }], guard := none }) (v := ?_) rfl (by kernel_rfl) (by kernel_rfl) (by kernel_rfl) (fun _ _ _ h => h) (Or.inl ⟨by kernel_rfl, ?_⟩) (by assumption) ?_; rotate_left; (focus (intro w hSw; (try dsimp only at hSw); go_simp; all_goals (with_reducible rfl)))
        try simp only [Act.put, List.setIfInBounds_toArray, List.set_cons_zero, List.set_cons_succ]
        refine wpAnyH_ready (rs := [6]) (by kernel_rfl) (by simp) ?_
        refine AllReadyH.cons (o := { dst := some 45, op := Op.call { callee := Callee.value (Operand.func 10), args := #[Operand.tmp 39, Operand.tmp 44], argTypes := #[28, 3] }, type := 4, pos := "law.go:64", after := #[{ on := 0, ground := Ground.data }, { on := 5, ground := Ground.data }], guard := none }) rfl (fun K hK => ?_) AllReadyH.nil
        go_simp
        refine (rdrop_any _ _ k1 _ FH.out.rm (by omega)).mono ?_
        rintro e w8 ⟨rfl, hr8, hb8⟩
        have FS := Lib.hid (FH.out.whole hr8 hb8)
        have hKeep := KQ.out w8 FS.out.below FS.out.b4
        clear hr8 hb8
        go_wp2_with fail
        refine hK.out _ _ ?_ (fun hHeld => ?_)
        · exact hKeep
        clear hK K
        try simp only [Act.put, List.setIfInBounds_toArray, List.set_cons_zero, List.set_cons_succ]
        refine wpAnyH_done (by kernel_rfl) ?_ _
        go_wp2_with fail
        go_roundw
        case rel => exact ⟨k + 1, by omega, by go_num, dropM ps k1, by omega, FS.out⟩
        case measure => simp [intOf]; omega
      · have hk2' : (k0 == 2) = false := by simp [hk2]
        have hact : actF ps (k0, k1, k2) = putM ps k1 k2 := by unfold actF; rw [if_neg hk2]
        rw [hact] at hal
        clear hk2 hact hd1
        have hFd := HF.out.later (below_d (w := wr))
        have FD := Lib.hid hFd
        have hStart := KQ.out wr.drew hFd.below hFd.b4
        have HP := Lib.hid (mput_any k1 k2 hFd.mp (by omega))
        clear hFd
        go_upto_region 11 with fail
        refine wp_region_held_drew (S := fun w' => w'.cell? ⟨w.heap.size + 1 + 1 + 1 + 1, 0, none⟩ = some (.pointer (some ⟨w.heap.size + 1 + 1 + 1, 0, none⟩)) ∧ w'.cell? ⟨b, off + k * 3 + 1, none⟩ = some (.int .i64 k1) ∧ w'.cell? ⟨b, off + k * 3 + 2, none⟩ = some (.int .i64 k2)) (by kernel_rfl) (hStart) (fun hHeld => ?_)
        refine wpAnyH_take (i := 0) (oi := { dst := some 46, op := Op.move (Operand.tmp 0), type := 22, pos := "law.go:66", after := #[], guard := none }) (v := ?_) rfl (by kernel_rfl) (by kernel_rfl) (by kernel_rfl) (fun _ _ _ h => h) (Or.inl ⟨by kernel_rfl, ?_⟩) (by assumption) ?_; rotate_left; (focus (intro w hSw; (try dsimp only at hSw); go_simp; all_goals (with_reducible rfl)))
        try simp only [Act.put, List.setIfInBounds_toArray, List.set_cons_zero, List.set_cons_succ]
        refine wpAnyH_take (i := 1) (oi := { dst := some 47, op := Op.move (Operand.tmp 9), type := 3, pos := "law.go:66", after := #[], guard := none }) (v := ?_) rfl (by kernel_rfl) (by kernel_rfl) (by kernel_rfl) (fun _ _ _ h => h) (Or.inl ⟨by kernel_rfl, ?_⟩) (by assumption) ?_; rotate_left; (focus (intro w hSw; (try dsimp only at hSw); go_simp; all_goals (with_reducible rfl)))
        try simp only [Act.put, List.setIfInBounds_toArray, List.set_cons_zero, List.set_cons_succ]
        refine wpAnyH_take (i := 2) (oi := { dst := some 48, op := Op.indexAddr 22 (Operand.tmp 46) (Operand.tmp 47), type := 0, pos := "law.go:66", after := #[{ on := 0, ground := Ground.data }, { on := 1, ground := Ground.data }], guard := none }) (v := ?_) rfl (by kernel_rfl) (by kernel_rfl) (by kernel_rfl) (fun _ _ _ h => h) (Or.inl ⟨by kernel_rfl, ?_⟩) (by assumption) ?_; rotate_left; (focus (intro w hSw; (try dsimp only at hSw); go_simp; all_goals (with_reducible rfl)))
        try simp only [Act.put, List.setIfInBounds_toArray, List.set_cons_zero, List.set_cons_succ]
        refine wpAnyH_take (i := 3) (oi := { dst := some 49, op := Op.fieldAddr 33 (Operand.tmp 48) 1, type := 0, pos := "law.go:66", after := #[{ on := 2, ground := Ground.data }], guard := none }) (v := ?_) rfl (by kernel_rfl) (by kernel_rfl) (by kernel_rfl) (fun _ _ _ h => h) (Or.inl ⟨by kernel_rfl, ?_⟩) (by assumption) ?_; rotate_left; (focus (intro w hSw; (try dsimp only at hSw); go_simp; all_goals (with_reducible rfl)))
        try simp only [Act.put, List.setIfInBounds_toArray, List.set_cons_zero, List.set_cons_succ]
        refine wpAnyH_take (i := 4) (oi := { dst := some 50, op := Op.load 3 (Operand.tmp 49), type := 3, pos := "law.go:66", after := #[{ on := 3, ground := Ground.data }], guard := none }) (v := ?_) rfl (by kernel_rfl) (by kernel_rfl) (by kernel_rfl) (fun _ _ _ h => h) (Or.inl ⟨by kernel_rfl, ?_⟩) (by assumption) ?_; rotate_left; (focus (intro w hSw; (try dsimp only at hSw); go_simp; all_goals (with_reducible rfl)))
        try simp only [Act.put, List.setIfInBounds_toArray, List.set_cons_zero, List.set_cons_succ]
        refine wpAnyH_take (i := 5) (oi := { dst := some 51, op := Op.move (Operand.tmp 0), type := 22, pos := "law.go:66", after := #[], guard := none }) (v := ?_) rfl (by kernel_rfl) (by kernel_rfl) (by kernel_rfl) (fun _ _ _ h => h) (Or.inl ⟨by kernel_rfl, ?_⟩) (by assumption) ?_; rotate_left; (focus (intro w hSw; (try dsimp only at hSw); go_simp; all_goals (with_reducible rfl)))
        try simp only [Act.put, List.setIfInBounds_toArray, List.set_cons_zero, List.set_cons_succ]
        refine wpAnyH_take (i := 6) (oi := { dst := some 52, op := Op.move (Operand.tmp 9), type := 3, pos := "law.go:66", after := #[], guard := none }) (v := ?_) rfl (by kernel_rfl) (by kernel_rfl) (by kernel_rfl) (fun _ _ _ h => h) (Or.inl ⟨by kernel_rfl, ?_⟩) (by assumption) ?_; rotate_left; (focus (intro w hSw; (try dsimp only at hSw); go_simp; all_goals (with_reducible rfl)))
        try simp only [Act.put, List.setIfInBounds_toArray, List.set_cons_zero, List.set_cons_succ]
        refine wpAnyH_take (i := 7) (oi := { dst := some 53, op := Op.indexAddr 22 (Operand.tmp 51) (Operand.tmp 52), type := 0, pos := "law.go:66", after := #[{ on := 5, ground := Ground.data }, { on := 6, ground := Ground.data }], guard := none }) (v := ?_) rfl (by kernel_rfl) (by kernel_rfl) (by kernel_rfl) (fun _ _ _ h => h) (Or.inl ⟨by kernel_rfl, ?_⟩) (by assumption) ?_; rotate_left; (focus (intro w hSw; (try dsimp only at hSw); go_simp; all_goals (with_reducible rfl)))
        try simp only [Act.put, List.setIfInBounds_toArray, List.set_cons_zero, List.set_cons_succ]
        refine wpAnyH_take (i := 8) (oi := { dst := some 54, op := Op.fieldAddr 33 (Operand.tmp 53) 2, type := 0, pos := "law.go:66", after := #[{ on := 7, ground := Ground.data }], guard := none }) (v := ?_) rfl (by kernel_rfl) (by kernel_rfl) (by kernel_rfl) (fun _ _ _ h => h) (Or.inl ⟨by kernel_rfl, ?_⟩) (by assumption) ?_; rotate_left; (focus (intro w hSw; (try dsimp only at hSw); go_simp; all_goals (with_reducible rfl)))
        try simp only [Act.put, List.setIfInBounds_toArray, List.set_cons_zero, List.set_cons_succ]
        refine wpAnyH_take (i := 9) (oi := { dst := some 55, op := Op.load 3 (Operand.tmp 54), type := 3, pos := "law.go:66", after := #[{ on := 8, ground := Ground.data }], guard := none }) (v := ?_) rfl (by kernel_rfl) (by kernel_rfl) (by kernel_rfl) (fun _ _ _ h => h) (Or.inl ⟨by kernel_rfl, ?_⟩) (by assumption) ?_; rotate_left; (focus (intro w hSw; (try dsimp only at hSw); go_simp; all_goals (with_reducible rfl)))
        try simp only [Act.put, List.setIfInBounds_toArray, List.set_cons_zero, List.set_cons_succ]
        refine wpAnyH_ready (rs := [10]) (by kernel_rfl) (by simp) ?_
        refine AllReadyH.cons (o := { dst := some 56, op := Op.call { callee := Callee.value (Operand.func 7), args := #[Operand.tmp 7, Operand.tmp 50, Operand.tmp 55], argTypes := #[26, 3, 3] }, type := 4, pos := "law.go:66", after := #[{ on := 4, ground := Ground.data }, { on := 9, ground := Ground.data }], guard := none }) rfl (fun K hK => ?_) AllReadyH.nil
        go_simp
        refine HP.out.mono ?_
        rintro e w7 ⟨rfl, hm7, hk7⟩
        have FH1 := Lib.hid (FD.out.half hm7 hk7)
        have hKeep := KQ.out w7 FH1.out.below FH1.out.b4
        clear hm7 hk7
        go_wp2_with fail
        refine hK.out _ _ ?_ (fun hHeld => ?_)
        · exact hKeep
        clear hK K
        try simp only [Act.put, List.setIfInBounds_toArray, List.set_cons_zero, List.set_cons_succ]
        refine wpAnyH_done (by kernel_rfl) ?_ _
        go_upto_region 12 with fail
        clear hd0
        have FH := Lib.hid (FH1.out.later (below_d (w := w7)))
        have hStart := KQ.out w7.drew FH.out.below FH.out.b4
        clear FH1
        refine wp_region_held_drew (S := fun w' => w'.cell? ⟨w.heap.size + 1 + 1 + 1 + 1, 0, none⟩ = some (.pointer (some ⟨w.heap.size + 1 + 1 + 1, 0, none⟩)) ∧ w'.cell? ⟨b, off + k * 3 + 1, none⟩ = some (.int .i64 k1) ∧ w'.cell? ⟨b, off + k * 3 + 2, none⟩ = some (.int .i64 k2)) (by kernel_rfl) (hStart) (fun hHeld => ?_)
        refine wpAnyH_take (i := 0) (oi := { dst := some 57, op := Op.load 28 (Operand.tmp 8), type := 28, pos := "law.go:67", after := #[], guard := none }) (v := ?_) rfl (by kernel_rfl) (by kernel_rfl) (by kernel_rfl) (fun _ _ _ h => h) (Or.inl ⟨by kernel_rfl, ?_⟩) (by assumption) ?_; rotate_left; (focus (intro w hSw; (try dsimp only at hSw); go_simp; all_goals (with_reducible rfl)))
        try simp only [Act.put, List.setIfInBounds_toArray, List.set_cons_zero, List.set_cons_succ]
        refine wpAnyH_take (i := 1) (oi := { dst := some 58, op := Op.move (Operand.tmp 0), type := 22, pos := "law.go:67", after := #[], guard := none }) (v := ?_) rfl (by kernel_rfl) (by kernel_rfl) (by kernel_rfl) (fun _ _ _ h => h) (Or.inl ⟨by kernel_rfl, ?_⟩) (by assumption) ?_; rotate_left; (focus (intro w hSw; (try dsimp only at hSw); go_simp; all_goals (with_reducible rfl)))
        try simp only [Act.put, List.setIfInBounds_toArray, List.set_cons_zero, List.set_cons_succ]
        refine wpAnyH_take (i := 2) (oi := { dst := some 59, op := Op.move (Operand.tmp 9), type := 3, pos := "law.go:67", after := #[], guard := none }) (v := ?_) rfl (by kernel_rfl) (by kernel_rfl) (by kernel_rfl) (fun _ _ _ h => h) (Or.inl ⟨by kernel_rfl, ?_⟩) (by assumption) ?_; rotate_left; (focus (intro w hSw; (try dsimp only at hSw); go_simp; all_goals (with_reducible rfl)))
        try simp only [Act.put, List.setIfInBounds_toArray, List.set_cons_zero, List.set_cons_succ]
        refine wpAnyH_take (i := 3) (oi := { dst := some 60, op := Op.indexAddr 22 (Operand.tmp 58) (Operand.tmp 59), type := 0, pos := "law.go:67", after := #[{ on := 1, ground := Ground.data }, { on := 2, ground := Ground.data }], guard := none }) (v := ?_) rfl (by kernel_rfl) (by kernel_rfl) (by kernel_rfl) (fun _ _ _ h => h) (Or.inl ⟨by kernel_rfl, ?_⟩) (by assumption) ?_; rotate_left; (focus (intro w hSw; (try dsimp only at hSw); go_simp; all_goals (with_reducible rfl)))
        try simp only [Act.put, List.setIfInBounds_toArray, List.set_cons_zero, List.set_cons_succ]
        refine wpAnyH_take (i := 4) (oi := { dst := some 61, op := Op.fieldAddr 33 (Operand.tmp 60) 1, type := 0, pos := "law.go:67", after := #[{ on := 3, ground := Ground.data }], guard := none }) (v := ?_) rfl (by kernel_rfl) (by kernel_rfl) (by kernel_rfl) (fun _ _ _ h => h) (Or.inl ⟨by kernel_rfl, ?_⟩) (by assumption) ?_; rotate_left; (focus (intro w hSw; (try dsimp only at hSw); go_simp; all_goals (with_reducible rfl)))
        try simp only [Act.put, List.setIfInBounds_toArray, List.set_cons_zero, List.set_cons_succ]
        refine wpAnyH_take (i := 5) (oi := { dst := some 62, op := Op.load 3 (Operand.tmp 61), type := 3, pos := "law.go:67", after := #[{ on := 4, ground := Ground.data }], guard := none }) (v := ?_) rfl (by kernel_rfl) (by kernel_rfl) (by kernel_rfl) (fun _ _ _ h => h) (Or.inl ⟨by kernel_rfl, ?_⟩) (by assumption) ?_; rotate_left; (focus (intro w hSw; (try dsimp only at hSw); go_simp; all_goals (with_reducible rfl)))
        try simp only [Act.put, List.setIfInBounds_toArray, List.set_cons_zero, List.set_cons_succ]
        refine wpAnyH_take (i := 6) (oi := { dst := some 63, op := Op.move (Operand.tmp 0), type := 22, pos := "law.go:67", after := #[], guard := none }) (v := ?_) rfl (by kernel_rfl) (by kernel_rfl) (by kernel_rfl) (fun _ _ _ h => h) (Or.inl ⟨by kernel_rfl, ?_⟩) (by assumption) ?_; rotate_left; (focus (intro w hSw; (try dsimp only at hSw); go_simp; all_goals (with_reducible rfl)))
        try simp only [Act.put, List.setIfInBounds_toArray, List.set_cons_zero, List.set_cons_succ]
        refine wpAnyH_take (i := 7) (oi := { dst := some 64, op := Op.move (Operand.tmp 9), type := 3, pos := "law.go:67", after := #[], guard := none }) (v := ?_) rfl (by kernel_rfl) (by kernel_rfl) (by kernel_rfl) (fun _ _ _ h => h) (Or.inl ⟨by kernel_rfl, ?_⟩) (by assumption) ?_; rotate_left; (focus (intro w hSw; (try dsimp only at hSw); go_simp; all_goals (with_reducible rfl)))
        try simp only [Act.put, List.setIfInBounds_toArray, List.set_cons_zero, List.set_cons_succ]
        refine wpAnyH_take (i := 8) (oi := { dst := some 65, op := Op.indexAddr 22 (Operand.tmp 63) (Operand.tmp 64), type := 0, pos := "law.go:67", after := #[{ on := 6, ground := Ground.data }, { on := 7, ground := Ground.data }], guard := none }) (v := ?_) rfl (by kernel_rfl) (by kernel_rfl) (by kernel_rfl) (fun _ _ _ h => h) (Or.inl ⟨by kernel_rfl, ?_⟩) (by assumption) ?_; rotate_left; (focus (intro w hSw; (try dsimp only at hSw); go_simp; all_goals (with_reducible rfl)))
        try simp only [Act.put, List.setIfInBounds_toArray, List.set_cons_zero, List.set_cons_succ]
        refine wpAnyH_take (i := 9) (oi := { dst := some 66, op := Op.fieldAddr 33 (Operand.tmp 65) 2, type := 0, pos := "law.go:67", after := #[{ on := 8, ground := Ground.data }], guard := none }) (v := ?_) rfl (by kernel_rfl) (by kernel_rfl) (by kernel_rfl) (fun _ _ _ h => h) (Or.inl ⟨by kernel_rfl, ?_⟩) (by assumption) ?_; rotate_left; (focus (intro w hSw; (try dsimp only at hSw); go_simp; all_goals (with_reducible rfl)))
        try simp only [Act.put, List.setIfInBounds_toArray, List.set_cons_zero, List.set_cons_succ]
        refine wpAnyH_take (i := 10) (oi := { dst := some 67, op := Op.load 3 (Operand.tmp 66), type := 3, pos := "law.go:67", after := #[{ on := 9, ground := Ground.data }], guard := none }) (v := ?_) rfl (by kernel_rfl) (by kernel_rfl) (by kernel_rfl) (fun _ _ _ h => h) (Or.inl ⟨by kernel_rfl, ?_⟩) (by assumption) ?_; rotate_left; (focus (intro w hSw; (try dsimp only at hSw); go_simp; all_goals (with_reducible rfl)))
        try simp only [Act.put, List.setIfInBounds_toArray, List.set_cons_zero, List.set_cons_succ]
        refine wpAnyH_ready (rs := [11]) (by kernel_rfl) (by simp) ?_
        refine AllReadyH.cons (o := { dst := some 68, op := Op.call { callee := Callee.value (Operand.func 8), args := #[Operand.tmp 57, Operand.tmp 62, Operand.tmp 67], argTypes := #[28, 3, 3] }, type := 4, pos := "law.go:67", after := #[{ on := 0, ground := Ground.data }, { on := 5, ground := Ground.data }, { on := 10, ground := Ground.data }], guard := none }) rfl (fun K hK => ?_) AllReadyH.nil
        go_simp
        refine (rput_any _ _ k1 k2 _ FH.out.rm (by omega)).mono ?_
        rintro e w8 ⟨rfl, hr8, hb8⟩
        have FS := Lib.hid (FH.out.whole hr8 hb8)
        have hKeep := KQ.out w8 FS.out.below FS.out.b4
        clear hr8 hb8
        go_wp2_with fail
        refine hK.out _ _ ?_ (fun hHeld => ?_)
        · exact hKeep
        clear hK K
        try simp only [Act.put, List.setIfInBounds_toArray, List.set_cons_zero, List.set_cons_succ]
        refine wpAnyH_done (by kernel_rfl) ?_ _
        go_wp2_with fail
        go_roundw
        case rel => exact ⟨k + 1, by omega, by go_num, putM ps k1 k2, by omega, FS.out⟩
        case measure => simp [intOf]; omega
    · have hkl' : ¬ ((k : Int) < len) := by omega
      obtain rfl : k = len := by omega
      obtain ⟨wq, hwq⟩ : ∃ wq, wq = wr := ⟨_, rfl⟩
      subst hwq
      have hso := HF.out.mp.2.1
      have hmap := Hd.map HF.out.mp
      obtain ⟨t, hd, htl, hts⟩ := hmap
      have HD := Lib.hid hd
      have HTS := Lib.hid hts
      obtain ⟨ar, cr, hcX, _, hpr, hcr, hkd⟩ := HF.out.rm.read
      have HPR := Lib.hid hpr
      have hXlt := HF.out.rm.lt
      have hMX : w.heap.size + 1 + 1 + 1 < wq.heap.size := hXlt
      have h4lt := HF.out.b4.lt
      have hps2 : ps.length ≤ 120 := by omega
      have HTL := Lib.hid htl
      have HKD := Lib.hid hkd
      have HRD : Hid (∀ W', Below wq.heap.size wq W' → W'.cell? ⟨w.heap.size + 1 + 1 + 1 + 1, 0, none⟩ = some (.pointer (some ⟨w.heap.size + 1 + 1 + 1, 0, none⟩)) ∧ W'.cell? ⟨w.heap.size + 1 + 1 + 1, 0, none⟩ = some (.slice ar ps.length cr)) := fun W' hb =>
        ⟨(hb.cell (p := ⟨w.heap.size + 1 + 1 + 1 + 1, 0, none⟩) h4lt).trans HF.out.b4.cell, (hb.cell (p := ⟨w.heap.size + 1 + 1 + 1, 0, none⟩) hXlt).trans hcX⟩
      have HRW : Hid (∀ j p, ps[j]? = some p → ∃ br, ar = some ⟨br, 0, none⟩ ∧ ∀ W', Below wq.heap.size wq W' → W'.cell? ⟨br, j * 2, none⟩ = some (.int .i64 p.1) ∧ W'.cell? ⟨br, j * 2 + 1, none⟩ = some (.int .i64 p.2)) := by
        intro j p hj
        have hjl := (List.getElem?_eq_some_iff.1 hj).1
        rcases hkd with ⟨rfl, _⟩ | ⟨br, rfl⟩
        · obtain ⟨b, off, h1, _⟩ := hpr.at_ (by omega); cases h1
        · have h2 := hpr.two hj
          have hbl : br < wq.heap.size := by
            obtain ⟨b', _, hpe, hbl, _⟩ := hpr.at_ (by omega)
            injection hpe with hpe
            injection hpe with hpe _
            rw [hpe]; exact hbl
          rw [Nat.zero_add] at h2
          exact ⟨br, rfl, fun W' hb => ⟨(hb.cell (p := ⟨br, j * 2, none⟩) hbl).trans h2.1, (hb.cell (p := ⟨br, j * 2 + 1, none⟩) hbl).trans h2.2⟩⟩
      have ba := Boxed.new wq 3 (.int .i64 0)
      have BA := Lib.hid ba
      have HB1 := Lib.hid ((Below.refl wq.heap.size wq).alloc (Nat.le_refl _) (.cells #[.int .i64 0] 3))
      clear hd htl hts hpr hkd hcX hXlt h4lt ba HR HLEN hso hcr
      go_upto_block 2 with fail
      generalize World.alloc wq _ = W1 at *
      go_cut [] from 69 to 89 (fun wc => Hid (Boxed wc wq.heap.size 3 (.int .i64 (pos ps key : Nat))) ∧ Hid (Below wq.heap.size wq wc))
      case first =>
        have hpl := pos_le ps key
        go_wp2_with fail
        go_loopg [] (pos ps key) (fun n wr => ∃ j, j + n = pos ps key ∧ Hid (Boxed wr wq.heap.size 3 (.int .i64 (j : Nat))) ∧ Hid (Below wq.heap.size wq wr))
        case atStart => exact ⟨0, by omega, BA.out, HB1.out⟩
        case round =>
          obtain ⟨j, hj, BJ, HBJ⟩ := hrel
          have hbd : Below wq.heap.size wq wr.drew := HBJ.out.trans (below_d.mono HBJ.out.size)
          have HBD := Lib.hid hbd
          have hBd : Boxed wr.drew wq.heap.size 3 (.int .i64 (j : Nat)) := BJ.out
          obtain ⟨x1, x2⟩ := HRD.out _ hbd
          have cA := hBd.cell
          have fA := hBd.frozen
          by_cases hn : gk = 0
          · subst hn
            obtain rfl : j = pos ps key := by omega
            by_cases hlt : pos ps key < ps.length
            · obtain ⟨⟨pk, pv⟩, hp⟩ : ∃ p, ps[pos ps key]? = some p := ⟨_, List.getElem?_eq_getElem hlt⟩
              have hge := pos_ge hp
              obtain ⟨br, rfl, hrow⟩ := HRW.out _ _ hp
              have x3 := (hrow _ hbd).1
              simp only at hge x3
              have HLK := Lib.hid hge
              have hStart := And.intro cA (And.intro x1 (And.intro x2 x3))
              clear hp hrow hpl
              generalize pos ps key = pj at *
              have hlt' : (pj : Int) < (ps.length : Int) := by omega
              go_upto_region 14 with fail
              clear cA x1 x2 x3 fA hbd hBd
              refine wp_region_held_drew (S := fun w' => w'.cell? ⟨wq.heap.size, 0, none⟩ = some (.int .i64 (pj : Nat)) ∧ w'.cell? ⟨w.heap.size + 1 + 1 + 1 + 1, 0, none⟩ = some (.pointer (some ⟨w.heap.size + 1 + 1 + 1, 0, none⟩)) ∧ w'.cell? ⟨w.heap.size + 1 + 1 + 1, 0, none⟩ = some (.slice (some ⟨br, 0, none⟩) ps.length cr) ∧ w'.cell? ⟨br, pj * 2, none⟩ = some (.int .i64 pk)) (by kernel_rfl) (hStart) (fun hHeld => ?_)
              refine wpAnyH_take (i := 0) (oi := { dst := some 69, op := Op.load 3 (Operand.tmp 10), type := 3, pos := "law.go:71", after := #[], guard := none }) (v := ?_) rfl (by kernel_rfl) (by kernel_rfl) (by kernel_rfl) (fun _ _ _ h => h) (Or.inl ⟨by kernel_rfl, ?_⟩) (by assumption) ?_; rotate_left; (focus (intro w hSw; (try dsimp only at hSw); go_simp; all_goals (with_reducible rfl)))
              try simp only [Act.put, List.setIfInBounds_toArray, List.set_cons_zero, List.set_cons_succ]
              refine wpAnyH_take (i := 1) (oi := { dst := some 70, op := Op.load 28 (Operand.tmp 8), type := 28, pos := "law.go:71", after := #[], guard := none }) (v := ?_) rfl (by kernel_rfl) (by kernel_rfl) (by kernel_rfl) (fun _ _ _ h => h) (Or.inl ⟨by kernel_rfl, ?_⟩) (by assumption) ?_; rotate_left; (focus (intro w hSw; (try dsimp only at hSw); go_simp; all_goals (with_reducible rfl)))
              try simp only [Act.put, List.setIfInBounds_toArray, List.set_cons_zero, List.set_cons_succ]
              refine wpAnyH_take (i := 2) (oi := { dst := some 71, op := Op.nilCheck (Operand.tmp 70), type := 0, pos := "law.go:71", after := #[{ on := 1, ground := Ground.data }], guard := none }) (v := ?_) rfl (by kernel_rfl) (by kernel_rfl) (by kernel_rfl) (fun _ _ _ h => h) (Or.inl ⟨by kernel_rfl, ?_⟩) (by assumption) ?_; rotate_left; (focus (intro w hSw; (try dsimp only at hSw); go_simp; all_goals (with_reducible rfl)))
              try simp only [Act.put, List.setIfInBounds_toArray, List.set_cons_zero, List.set_cons_succ]
              refine wpAnyH_take (i := 3) (oi := { dst := some 72, op := Op.fieldAddr 31 (Operand.tmp 71) 0, type := 0, pos := "law.go:71", after := #[{ on := 2, ground := Ground.data }], guard := none }) (v := ?_) rfl (by kernel_rfl) (by kernel_rfl) (by kernel_rfl) (fun _ _ _ h => h) (Or.inl ⟨by kernel_rfl, ?_⟩) (by assumption) ?_; rotate_left; (focus (intro w hSw; (try dsimp only at hSw); go_simp; all_goals (with_reducible rfl)))
              try simp only [Act.put, List.setIfInBounds_toArray, List.set_cons_zero, List.set_cons_succ]
              refine wpAnyH_take (i := 4) (oi := { dst := some 73, op := Op.load 29 (Operand.tmp 72), type := 29, pos := "law.go:71", after := #[{ on := 3, ground := Ground.data }], guard := none }) (v := ?_) rfl (by kernel_rfl) (by kernel_rfl) (by kernel_rfl) (fun _ _ _ h => h) (Or.inl ⟨by kernel_rfl, ?_⟩) (by assumption) ?_; rotate_left; (focus (intro w hSw; (try dsimp only at hSw); go_simp; all_goals (with_reducible rfl)))
              try simp only [Act.put, List.setIfInBounds_toArray, List.set_cons_zero, List.set_cons_succ]
              refine wpAnyH_take (i := 5) (oi := { dst := some 74, op := Op.call { callee := Callee.builtin Builtin.len, args := #[Operand.tmp 73], argTypes := #[29] }, type := 3, pos := "law.go:71", after := #[{ on := 4, ground := Ground.data }], guard := none }) (v := ?_) rfl (by kernel_rfl) (by kernel_rfl) (by kernel_rfl) (fun _ _ _ h => h) (Or.inl ⟨by kernel_rfl, ?_⟩) (by assumption) ?_; rotate_left; (focus (intro w hSw; (try dsimp only at hSw); go_simp; all_goals (with_reducible rfl)))
              try simp only [Act.put, List.setIfInBounds_toArray, List.set_cons_zero, List.set_cons_succ]
              refine wpAnyH_take (i := 6) (oi := { dst := some 75, op := Op.binOp BinOp.lss 3 (Operand.tmp 69) (Operand.tmp 74) 3, type := 4, pos := "law.go:71", after := #[{ on := 0, ground := Ground.data }, { on := 5, ground := Ground.data }], guard := none }) (v := .bool true) rfl (by kernel_rfl) (by kernel_rfl) (by kernel_rfl) (fun _ _ _ h => h) (Or.inl ⟨by kernel_rfl, ?_⟩) (by assumption) ?_; focus (intro w hSw; (try dsimp only at hSw); go_simp; first | done | omega | (have := HLK.out; omega) | (have := HLK.out; simp; omega))
              try simp only [Act.put, List.setIfInBounds_toArray, List.set_cons_zero, List.set_cons_succ]
              refine wpAnyH_take (i := 7) (oi := { dst := some 76, op := Op.move (Operand.tmp 75), type := 4, pos := "law.go:71", after := #[{ on := 6, ground := Ground.data }], guard := none }) (v := ?_) rfl (by kernel_rfl) (by kernel_rfl) (by kernel_rfl) (fun _ _ _ h => h) (Or.inl ⟨by kernel_rfl, ?_⟩) (by assumption) ?_; rotate_left; (focus (intro w hSw; (try dsimp only at hSw); go_simp; all_goals (with_reducible rfl)))
              try simp only [Act.put, List.setIfInBounds_toArray, List.set_cons_zero, List.set_cons_succ]
              refine wpAnyH_take (i := 8) (oi := { dst := some 77, op := Op.load 28 (Operand.tmp 8), type := 28, pos := "law.go:71", after := #[{ on := 7, ground := Ground.guard }], guard := some (7, true) }) (v := ?_) rfl (by kernel_rfl) (by kernel_rfl) (by kernel_rfl) (fun _ _ _ h => h) (Or.inl ⟨by kernel_rfl, ?_⟩) (by assumption) ?_; rotate_left; (focus (intro w hSw; (try dsimp only at hSw); go_simp; all_goals (with_reducible rfl)))
              try simp only [Act.put, List.setIfInBounds_toArray, List.set_cons_zero, List.set_cons_succ]
              refine wpAnyH_take (i := 9) (oi := { dst := some 78, op := Op.nilCheck (Operand.tmp 77), type := 0, pos := "law.go:71", after := #[{ on := 8, ground := Ground.data }, { on := 7, ground := Ground.guard }], guard := some (7, true) }) (v := ?_) rfl (by kernel_rfl) (by kernel_rfl) (by kernel_rfl) (fun _ _ _ h => h) (Or.inl ⟨by kernel_rfl, ?_⟩) (by assumption) ?_; rotate_left; (focus (intro w hSw; (try dsimp only at hSw); go_simp; all_goals (with_reducible rfl)))
              try simp only [Act.put, List.setIfInBounds_toArray, List.set_cons_zero, List.set_cons_succ]
              refine wpAnyH_take (i := 10) (oi := { dst := some 79, op := Op.fieldAddr 31 (Operand.tmp 78) 0, type := 0, pos := "law.go:71", after := #[{ on := 9, ground := Ground.data }, { on := 7, ground := Ground.guard }], guard := some (7, true) }) (v := ?_) rfl (by kernel_rfl) (by kernel_rfl) (by kernel_rfl) (fun _ _ _ h => h) (Or.inl ⟨by kernel_rfl, ?_⟩) (by assumption) ?_; rotate_left; (focus (intro w hSw; (try dsimp only at hSw); go_simp; all_goals (with_reducible rfl)))
              try simp only [Act.put, List.setIfInBounds_toArray, List.set_cons_zero, List.set_cons_succ]
              refine wpAnyH_take (i := 11) (oi := { dst := some 80, op := Op.load 29 (Operand.tmp 79), type := 29, pos := "law.go:71", after := #[{ on := 10, ground := Ground.data }, { on := 7, ground := Ground.guard }], guard := some (7, true) }) (v := ?_) rfl (by kernel_rfl) (by kernel_rfl) (by kernel_rfl) (fun _ _ _ h => h) (Or.inl ⟨by kernel_rfl, ?_⟩) (by assumption) ?_; rotate_left; (focus (intro w hSw; (try dsimp only at hSw); go_simp; all_goals (with_reducible rfl)))
              try simp only [Act.put, List.setIfInBounds_toArray, List.set_cons_zero, List.set_cons_succ]
              refine wpAnyH_take (i := 12) (oi := { dst := some 81, op := Op.load 3 (Operand.tmp 10), type := 3, pos := "law.go:71", after := #[{ on := 7, ground := Ground.guard }], guard := some (7, true) }) (v := ?_) rfl (by kernel_rfl) (by kernel_rfl) (by kernel_rfl) (fun _ _ _ h => h) (Or.inl ⟨by kernel_rfl, ?_⟩) (by assumption) ?_; rotate_left; (focus (intro w hSw; (try dsimp only at hSw); go_simp; all_goals (with_reducible rfl)))
              try simp only [Act.put, List.setIfInBounds_toArray, List.set_cons_zero, List.set_cons_succ]
              refine wpAnyH_take (i := 13) (oi := { dst := some 82, op := Op.indexAddr 29 (Operand.tmp 80) (Operand.tmp 81), type := 0, pos := "law.go:71", after := #[{ on := 11, ground := Ground.data }, { on := 12, ground := Ground.data }, { on := 7, ground := Ground.guard }], guard := some (7, true) }) (v := ?_) rfl (by kernel_rfl) (by kernel_rfl) (by kernel_rfl) (fun _ _ _ h => h) (Or.inl ⟨by kernel_rfl, ?_⟩) (by assumption) ?_; rotate_left; (focus (intro w hSw; (try dsimp only at hSw); go_simp; all_goals (with_reducible rfl)))
              try simp only [Act.put, List.setIfInBounds_toArray, List.set_cons_zero, List.set_cons_succ]
              refine wpAnyH_take (i := 14) (oi := { dst := some 83, op := Op.fieldAddr 44 (Operand.tmp 82) 0, type := 0, pos := "law.go:71", after := #[{ on := 13, ground := Ground.data }, { on := 7, ground := Ground.guard }], guard := some (7, true) }) (v := ?_) rfl (by kernel_rfl) (by kernel_rfl) (by kernel_rfl) (fun _ _ _ h => h) (Or.inl ⟨by kernel_rfl, ?_⟩) (by assumption) ?_; rotate_left; (focus (intro w hSw; (try dsimp only at hSw); go_simp; all_goals (with_reducible rfl)))
              try simp only [Act.put, List.setIfInBounds_toArray, List.set_cons_zero, List.set_cons_succ]
              refine wpAnyH_take (i := 15) (oi := { dst := some 84, op := Op.load 3 (Operand.tmp 83), type := 3, pos := "law.go:71", after := #[{ on := 14, ground := Ground.data }, { on := 7, ground := Ground.guard }], guard := some (7, true) }) (v := ?_) rfl (by kernel_rfl) (by kernel_rfl) (by kernel_rfl) (fun _ _ _ h => h) (Or.inl ⟨by kernel_rfl, ?_⟩) (by assumption) ?_; rotate_left; (focus (intro w hSw; (try dsimp only at hSw); go_simp; all_goals (with_reducible rfl)))
              try simp only [Act.put, List.setIfInBounds_toArray, List.set_cons_zero, List.set_cons_succ]
              refine wpAnyH_take (i := 16) (oi := { dst := some 85, op := Op.move (Operand.tmp 1), type := 3, pos := "law.go:71", after := #[{ on := 7, ground := Ground.guard }], guard := some (7, true) }) (v := ?_) rfl (by kernel_rfl) (by kernel_rfl) (by kernel_rfl) (fun _ _ _ h => h) (Or.inl ⟨by kernel_rfl, ?_⟩) (by assumption) ?_; rotate_left; (focus (intro w hSw; (try dsimp only at hSw); go_simp; all_goals (with_reducible rfl)))
              try simp only [Act.put, List.setIfInBounds_toArray, List.set_cons_zero, List.set_cons_succ]
              refine wpAnyH_take (i := 17) (oi := { dst := some 86, op := Op.binOp BinOp.lss 3 (Operand.tmp 84) (Operand.tmp 85) 3, type := 4, pos := "law.go:71", after := #[{ on := 15, ground := Ground.data }, { on := 16, ground := Ground.data }, { on := 7, ground := Ground.guard }], guard := some (7, true) }) (v := .bool false) rfl (by kernel_rfl) (by kernel_rfl) (by kernel_rfl) (fun _ _ _ h => h) (Or.inl ⟨by kernel_rfl, ?_⟩) (by assumption) ?_; focus (intro w hSw; (try dsimp only at hSw); go_simp; first | done | omega | (have := HLK.out; omega) | (have := HLK.out; simp; omega))
              try simp only [Act.put, List.setIfInBounds_toArray, List.set_cons_zero, List.set_cons_succ]
              refine wpAnyH_take (i := 18) (oi := { dst := some 87, op := Op.pick (Operand.tmp 76) (Operand.tmp 86) (Operand.const (Value.bool false)), type := 4, pos := "law.go:71", after := #[{ on := 7, ground := Ground.data }, { on := 17, ground := Ground.data }], guard := none }) (v := ?_) rfl (by kernel_rfl) (by kernel_rfl) (by kernel_rfl) (fun _ _ _ h => h) (Or.inl ⟨by kernel_rfl, ?_⟩) (by assumption) ?_; rotate_left; (focus (intro w hSw; (try dsimp only at hSw); go_simp; all_goals (with_reducible rfl)))
              try simp only [Act.put, List.setIfInBounds_toArray, List.set_cons_zero, List.set_cons_succ]
              refine wpAnyH_done (by kernel_rfl) ?_ _
              go_wp2_with fail
              go_meet
              exact ⟨BJ.out, HBD.out⟩
            · have hge : ¬ ((pos ps key : Int) < (ps.length : Int)) := by omega
              have HLK := Lib.hid hge
              have hStart := And.intro cA (And.intro x1 x2)
              clear hpl
              generalize pos ps key = pj at *
              go_upto_region 14 with fail
              clear cA x1 x2 fA hbd hBd
              refine wp_region_held_drew (S := fun w' => w'.cell? ⟨wq.heap.size, 0, none⟩ = some (.int .i64 (pj : Nat)) ∧ w'.cell? ⟨w.heap.size + 1 + 1 + 1 + 1, 0, none⟩ = some (.pointer (some ⟨w.heap.size + 1 + 1 + 1, 0, none⟩)) ∧ w'.cell? ⟨w.heap.size + 1 + 1 + 1, 0, none⟩ = some (.slice ar ps.length cr)) (by kernel_rfl) (hStart) (fun hHeld => ?_)
              refine wpAnyH_take (i := 0) (oi := { dst := some 69, op := Op.load 3 (Operand.tmp 10), type := 3, pos := "law.go:71", after := #[], guard := none }) (v := ?_) rfl (by kernel_rfl) (by kernel_rfl) (by kernel_rfl) (fun _ _ _ h => h) (Or.inl ⟨by kernel_rfl, ?_⟩) (by assumption) ?_; rotate_left; (focus (intro w hSw; (try dsimp only at hSw); go_simp; all_goals (with_reducible rfl)))
              try simp only [Act.put, List.setIfInBounds_toArray, List.set_cons_zero, List.set_cons_succ]
              refine wpAnyH_take (i := 1) (oi := { dst := some 70, op := Op.load 28 (Operand.tmp 8), type := 28, pos := "law.go:71", after := #[], guard := none }) (v := ?_) rfl (by kernel_rfl) (by kernel_rfl) (by kernel_rfl) (fun _ _ _ h => h) (Or.inl ⟨by kernel_rfl, ?_⟩) (by assumption) ?_; rotate_left; (focus (intro w hSw; (try dsimp only at hSw); go_simp; all_goals (with_reducible rfl)))
              try simp only [Act.put, List.setIfInBounds_toArray, List.set_cons_zero, List.set_cons_succ]
              refine wpAnyH_take (i := 2) (oi := { dst := some 71, op := Op.nilCheck (Operand.tmp 70), type := 0, pos := "law.go:71", after := #[{ on := 1, ground := Ground.data }], guard := none }) (v := ?_) rfl (by kernel_rfl) (by kernel_rfl) (by kernel_rfl) (fun _ _ _ h => h) (Or.inl ⟨by kernel_rfl, ?_⟩) (by assumption) ?_; rotate_left; (focus (intro w hSw; (try dsimp only at hSw); go_simp; all_goals (with_reducible rfl)))
              try simp only [Act.put, List.setIfInBounds_toArray, List.set_cons_zero, List.set_cons_succ]
              refine wpAnyH_take (i := 3) (oi := { dst := some 72, op := Op.fieldAddr 31 (Operand.tmp 71) 0, type := 0, pos := "law.go:71", after := #[{ on := 2, ground := Ground.data }], guard := none }) (v := ?_) rfl (by kernel_rfl) (by kernel_rfl) (by kernel_rfl) (fun _ _ _ h => h) (Or.inl ⟨by kernel_rfl, ?_⟩) (by assumption) ?_; rotate_left; (focus (intro w hSw; (try dsimp only at hSw); go_simp; all_goals (with_reducible rfl)))
              try simp only [Act.put, List.setIfInBounds_toArray, List.set_cons_zero, List.set_cons_succ]
              refine wpAnyH_take (i := 4) (oi := { dst := some 73, op := Op.load 29 (Operand.tmp 72), type := 29, pos := "law.go:71", after := #[{ on := 3, ground := Ground.data }], guard := none }) (v := ?_) rfl (by kernel_rfl) (by kernel_rfl) (by kernel_rfl) (fun _ _ _ h => h) (Or.inl ⟨by kernel_rfl, ?_⟩) (by assumption) ?_; rotate_left; (focus (intro w hSw; (try dsimp only at hSw); go_simp; all_goals (with_reducible rfl)))
              try simp only [Act.put, List.setIfInBounds_toArray, List.set_cons_zero, List.set_cons_succ]
              refine wpAnyH_take (i := 5) (oi := { dst := some 74, op := Op.call { callee := Callee.builtin Builtin.len, args := #[Operand.tmp 73], argTypes := #[29] }, type := 3, pos := "law.go:71", after := #[{ on := 4, ground := Ground.data }], guard := none }) (v := ?_) rfl (by kernel_rfl) (by kernel_rfl) (by kernel_rfl) (fun _ _ _ h => h) (Or.inl ⟨by kernel_rfl, ?_⟩) (by assumption) ?_; rotate_left; (focus (intro w hSw; (try dsimp only at hSw); go_simp; all_goals (with_reducible rfl)))
              try simp only [Act.put, List.setIfInBounds_toArray, List.set_cons_zero, List.set_cons_succ]
              refine wpAnyH_take (i := 6) (oi := { dst := some 75, op := Op.binOp BinOp.lss 3 (Operand.tmp 69) (Operand.tmp 74) 3, type := 4, pos := "law.go:71", after := #[{ on := 0, ground := Ground.data }, { on := 5, ground := Ground.data }], guard := none }) (v := .bool false) rfl (by kernel_rfl) (by kernel_rfl) (by kernel_rfl) (fun _ _ _ h => h) (Or.inl ⟨by kernel_rfl, ?_⟩) (by assumption) ?_; focus (intro w hSw; (try dsimp only at hSw); go_simp; first | done | omega | (have := HLK.out; omega) | (have := HLK.out; simp; omega))
              try simp only [Act.put, List.setIfInBounds_toArray, List.set_cons_zero, List.set_cons_succ]
              refine wpAnyH_take (i := 7) (oi := { dst := some 76, op := Op.move (Operand.tmp 75), type := 4, pos := "law.go:71", after := #[{ on := 6, ground := Ground.data }], guard := none }) (v := ?_) rfl (by kernel_rfl) (by kernel_rfl) (by kernel_rfl) (fun _ _ _ h => h) (Or.inl ⟨by kernel_rfl, ?_⟩) (by assumption) ?_; rotate_left; (focus (intro w hSw; (try dsimp only at hSw); go_simp; all_goals (with_reducible rfl)))
              try simp only [Act.put, List.setIfInBounds_toArray, List.set_cons_zero, List.set_cons_succ]
              refine wpAnyH_take (i := 8) (oi := { dst := some 77, op := Op.load 28 (Operand.tmp 8), type := 28, pos := "law.go:71", after := #[{ on := 7, ground := Ground.guard }], guard := some (7, true) }) (v := undef) rfl (by kernel_rfl) (by kernel_rfl) (by kernel_rfl) (fun _ _ _ h => h) (Or.inr ⟨by kernel_rfl, rfl⟩) (by assumption) ?_
              try simp only [Act.put, List.setIfInBounds_toArray, List.set_cons_zero, List.set_cons_succ]
              refine wpAnyH_take (i := 9) (oi := { dst := some 78, op := Op.nilCheck (Operand.tmp 77), type := 0, pos := "law.go:71", after := #[{ on := 8, ground := Ground.data }, { on := 7, ground := Ground.guard }], guard := some (7, true) }) (v := undef) rfl (by kernel_rfl) (by kernel_rfl) (by kernel_rfl) (fun _ _ _ h => h) (Or.inr ⟨by kernel_rfl, rfl⟩) (by assumption) ?_
              try simp only [Act.put, List.setIfInBounds_toArray, List.set_cons_zero, List.set_cons_succ]
              refine wpAnyH_take (i := 10) (oi := { dst := some 79, op := Op.fieldAddr 31 (Operand.tmp 78) 0, type := 0, pos := "law.go:71", after := #[{ on := 9, ground := Ground.data }, { on := 7, ground := Ground.guard }], guard := some (7, true) }) (v := undef) rfl (by kernel_rfl) (by kernel_rfl) (by kernel_rfl) (fun _ _ _ h => h) (Or.inr ⟨by kernel_rfl, rfl⟩) (by assumption) ?_
              try simp only [Act.put, List.setIfInBounds_toArray, List.set_cons_zero, List.set_cons_succ]
              refine wpAnyH_take (i := 11) (oi := { dst := some 80, op := Op.load 29 (Operand.tmp 79), type := 29, pos := "law.go:71", after := #[{ on := 10, ground := Ground.data }, { on := 7, ground := Ground.guard }], guard := some (7, true) }) (v := undef) rfl (by kernel_rfl) (by kernel_rfl) (by kernel_rfl) (fun _ _ _ h => h) (Or.inr ⟨by kernel_rfl, rfl⟩) (by assumption) ?_
              try simp only [Act.put, List.setIfInBounds_toArray, List.set_cons_zero, List.set_cons_succ]
              refine wpAnyH_take (i := 12) (oi := { dst := some 81, op := Op.load 3 (Operand.tmp 10), type := 3, pos := "law.go:71", after := #[{ on := 7, ground := Ground.guard }], guard := some (7, true) }) (v := undef) rfl (by kernel_rfl) (by kernel_rfl) (by kernel_rfl) (fun _ _ _ h => h) (Or.inr ⟨by kernel_rfl, rfl⟩) (by assumption) ?_
              try simp only [Act.put, List.setIfInBounds_toArray, List.set_cons_zero, List.set_cons_succ]
              refine wpAnyH_take (i := 13) (oi := { dst := some 82, op := Op.indexAddr 29 (Operand.tmp 80) (Operand.tmp 81), type := 0, pos := "law.go:71", after := #[{ on := 11, ground := Ground.data }, { on := 12, ground := Ground.data }, { on := 7, ground := Ground.guard }], guard := some (7, true) }) (v := undef) rfl (by kernel_rfl) (by kernel_rfl) (by kernel_rfl) (fun _ _ _ h => h) (Or.inr ⟨by kernel_rfl, rfl⟩) (by assumption) ?_
              try simp only [Act.put, List.setIfInBounds_toArray, List.set_cons_zero, List.set_cons_succ]
              refine wpAnyH_take (i := 14) (oi := { dst := some 83, op := Op.fieldAddr 44 (Operand.tmp 82) 0, type := 0, pos := "law.go:71", after := #[{ on := 13, ground := Ground.data }, { on := 7, ground := Ground.guard }], guard := some (7, true) }) (v := undef) rfl (by kernel_rfl) (by kernel_rfl) (by kernel_rfl) (fun _ _ _ h => h) (Or.inr ⟨by kernel_rfl, rfl⟩) (by assumption) ?_
              try simp only [Act.put, List.setIfInBounds_toArray, List.set_cons_zero, List.set_cons_succ]
              refine wpAnyH_take (i := 15) (oi := { dst := some 84, op := Op.load 3 (Operand.tmp 83), type := 3, pos := "law.go:71", after := #[{ on := 14, ground := Ground.data }, { on := 7, ground := Ground.guard }], guard := some (7, true) }) (v := undef) rfl (by kernel_rfl) (by kernel_rfl) (by kernel_rfl) (fun _ _ _ h => h) (Or.inr ⟨by kernel_rfl, rfl⟩) (by assumption) ?_
              try simp only [Act.put, List.setIfInBounds_toArray, List.set_cons_zero, List.set_cons_succ]
              refine wpAnyH_take (i := 16) (oi := { dst := some 85, op := Op.move (Operand.tmp 1), type := 3, pos := "law.go:71", after := #[{ on := 7, ground := Ground.guard }], guard := some (7, true) }) (v := undef) rfl (by kernel_rfl) (by kernel_rfl) (by kernel_rfl) (fun _ _ _ h => h) (Or.inr ⟨by kernel_rfl, rfl⟩) (by assumption) ?_
              try simp only [Act.put, List.setIfInBounds_toArray, List.set_cons_zero, List.set_cons_succ]
              refine wpAnyH_take (i := 17) (oi := { dst := some 86, op := Op.binOp BinOp.lss 3 (Operand.tmp 84) (Operand.tmp 85) 3, type := 4, pos := "law.go:71", after := #[{ on := 15, ground := Ground.data }, { on := 16, ground := Ground.data }, { on := 7, ground := Ground.guard }], guard := some (7, true) }) (v := undef) rfl (by kernel_rfl) (by kernel_rfl) (by kernel_rfl) (fun _ _ _ h => h) (Or.inr ⟨by kernel_rfl, rfl⟩) (by assumption) ?_
              try simp only [Act.put, List.setIfInBounds_toArray, List.set_cons_zero, List.set_cons_succ]
              refine wpAnyH_take (i := 18) (oi := { dst := some 87, op := Op.pick (Operand.tmp 76) (Operand.tmp 86) (Operand.const (Value.bool false)), type := 4, pos := "law.go:71", after := #[{ on := 7, ground := Ground.data }, { on := 17, ground := Ground.data }], guard := none }) (v := ?_) rfl (by kernel_rfl) (by kernel_rfl) (by kernel_rfl) (fun _ _ _ h => h) (Or.inl ⟨by kernel_rfl, ?_⟩) (by assumption) ?_; rotate_left; (focus (intro w hSw; (try dsimp only at hSw); go_simp; all_goals (with_reducible rfl)))
              try simp only [Act.put, List.setIfInBounds_toArray, List.set_cons_zero, List.set_cons_succ]
              refine wpAnyH_done (by kernel_rfl) ?_ _
              go_wp2_with fail
              go_meet
              exact ⟨BJ.out, HBD.out⟩
          · have hlt : j < ps.length := by omega
            obtain ⟨⟨pk, pv⟩, hp⟩ : ∃ p, ps[j]? = some p := ⟨_, List.getElem?_eq_getElem hlt⟩
            have hlk := pos_lt (key := key) (by omega) hp
            obtain ⟨br, rfl, hrow⟩ := HRW.out _ _ hp
            have x3 := (hrow _ hbd).1
            simp only at hlk x3
            have HLK := Lib.hid hlk
            have hStart := And.intro cA (And.intro x1 (And.intro x2 x3))
            have hlt' : (j : Int) < (ps.length : Int) := by omega
            have HJN := Lib.hid (And.intro hj hn)
            have hwr : IntKind.i64.wrap ((j : Int) + 1) = (j : Int) + 1 := by rw [IntKind.wrap_i64]; omega
            have HST : Hid (Boxed (wr.drew.setCell ⟨wq.heap.size, 0, none⟩ (.int .i64 ((j : Int) + 1))) wq.heap.size 3 (.int .i64 ((j + 1 : Nat) : Int))) := hBd.set _
            have HBS : Hid (Below wq.heap.size wq (wr.drew.setCell ⟨wq.heap.size, 0, none⟩ (.int .i64 ((j : Int) + 1)))) := hbd.setCell (p := ⟨wq.heap.size, 0, none⟩) (Nat.le_refl _) _
            clear hp hrow hpl
            generalize pos ps key = pj at *
            go_upto_region 14 with fail
            clear x1 x2 x3 hbd hBd
            refine wp_region_held_drew (S := fun w' => w'.cell? ⟨wq.heap.size, 0, none⟩ = some (.int .i64 (j : Nat)) ∧ w'.cell? ⟨w.heap.size + 1 + 1 + 1 + 1, 0, none⟩ = some (.pointer (some ⟨w.heap.size + 1 + 1 + 1, 0, none⟩)) ∧ w'.cell? ⟨w.heap.size + 1 + 1 + 1, 0, none⟩ = some (.slice (some ⟨br, 0, none⟩) ps.length cr) ∧ w'.cell? ⟨br, j * 2, none⟩ = some (.int .i64 pk)) (by kernel_rfl) (hStart) (fun hHeld => ?_)
            refine wpAnyH_take (i := 0) (oi := { dst := some 69, op := Op.load 3 (Operand.tmp 10), type := 3, pos := "law.go:71", after := #[], guard := none }) (v := ?_) rfl (by kernel_rfl) (by kernel_rfl) (by kernel_rfl) (fun _ _ _ h => h) (Or.inl ⟨by kernel_rfl, ?_⟩) (by assumption) ?_; rotate_left; (focus (intro w hSw; (try dsimp only at hSw); go_simp; all_goals (with_reducible rfl)))
            try simp only [Act.put, List.setIfInBounds_toArray, List.set_cons_zero, List.set_cons_succ]
            refine wpAnyH_take (i := 1) (oi := { dst := some 70, op := Op.load 28 (Operand.tmp 8), type := 28, pos := "law.go:71", after := #[], guard := none }) (v := ?_) rfl (by kernel_rfl) (by kernel_rfl) (by kernel_rfl) (fun _ _ _ h => h) (Or.inl ⟨by kernel_rfl, ?_⟩) (by assumption) ?_; rotate_left; (focus (intro w hSw; (try dsimp only at hSw); go_simp; all_goals (with_reducible rfl)))
            try simp only [Act.put, List.setIfInBounds_toArray, List.set_cons_zero, List.set_cons_succ]
            refine wpAnyH_take (i := 2) (oi := { dst := some 71, op := Op.nilCheck (Operand.tmp 70), type := 0, pos := "law.go:71", after := #[{ on := 1, ground := Ground.data }], guard := none }) (v := ?_) rfl (by kernel_rfl) (by kernel_rfl) (by kernel_rfl) (fun _ _ _ h => h) (Or.inl ⟨by kernel_rfl, ?_⟩) (by assumption) ?_; rotate_left; (focus (intro w hSw; (try dsimp only at hSw); go_simp; all_goals (with_reducible rfl)))
            try simp only [Act.put, List.setIfInBounds_toArray, List.set_cons_zero, List.set_cons_succ]
            refine wpAnyH_take (i := 3) (oi := { dst := some 72, op := Op.fieldAddr 31 (Operand.tmp 71) 0, type := 0, pos := "law.go:71", after := #[{ on := 2, ground := Ground.data }], guard := none }) (v := ?_) rfl (by kernel_rfl) (by kernel_rfl) (by kernel_rfl) (fun _ _ _ h => h) (Or.inl ⟨by kernel_rfl, ?_⟩) (by assumption) ?_; rotate_left; (focus (intro w hSw; (try dsimp only at hSw); go_simp; all_goals (with_reducible rfl)))
            try simp only [Act.put, List.setIfInBounds_toArray, List.set_cons_zero, List.set_cons_succ]
            refine wpAnyH_take (i := 4) (oi := { dst := some 73, op := Op.load 29 (Operand.tmp 72), type := 29, pos := "law.go:71", after := #[{ on := 3, ground := Ground.data }], guard := none }) (v := ?_) rfl (by kernel_rfl) (by kernel_rfl) (by kernel_rfl) (fun _ _ _ h => h) (Or.inl ⟨by kernel_rfl, ?_⟩) (by assumption) ?_; rotate_left; (focus (intro w hSw; (try dsimp only at hSw); go_simp; all_goals (with_reducible rfl)))
            try simp only [Act.put, List.setIfInBounds_toArray, List.set_cons_zero, List.set_cons_succ]
            refine wpAnyH_take (i := 5) (oi := { dst := some 74, op := Op.call { callee := Callee.builtin Builtin.len, args := #[Operand.tmp 73], argTypes := #[29] }, type := 3, pos := "law.go:71", after := #[{ on := 4, ground := Ground.data }], guard := none }) (v := ?_) rfl (by kernel_rfl) (by kernel_rfl) (by kernel_rfl) (fun _ _ _ h => h) (Or.inl ⟨by kernel_rfl, ?_⟩) (by assumption) ?_; rotate_left; (focus (intro w hSw; (try dsimp only at hSw); go_simp; all_goals (with_reducible rfl)))
            try simp only [Act.put, List.setIfInBounds_toArray, List.set_cons_zero, List.set_cons_succ]
            refine wpAnyH_take (i := 6) (oi := { dst := some 75, op := Op.binOp BinOp.lss 3 (Operand.tmp 69) (Operand.tmp 74) 3, type := 4, pos := "law.go:71", after := #[{ on := 0, ground := Ground.data }, { on := 5, ground := Ground.data }], guard := none }) (v := .bool true) rfl (by kernel_rfl) (by kernel_rfl) (by kernel_rfl) (fun _ _ _ h => h) (Or.inl ⟨by kernel_rfl, ?_⟩) (by assumption) ?_; focus (intro w hSw; (try dsimp only at hSw); go_simp; first | done | omega | (have := HLK.out; omega) | (have := HLK.out; simp; omega))
            try simp only [Act.put, List.setIfInBounds_toArray, List.set_cons_zero, List.set_cons_succ]
            refine wpAnyH_take (i := 7) (oi := { dst := some 76, op := Op.move (Operand.tmp 75), type := 4, pos := "law.go:71", after := #[{ on := 6, ground := Ground.data }], guard := none }) (v := ?_) rfl (by kernel_rfl) (by kernel_rfl) (by kernel_rfl) (fun _ _ _ h => h) (Or.inl ⟨by kernel_rfl, ?_⟩) (by assumption) ?_; rotate_left; (focus (intro w hSw; (try dsimp only at hSw); go_simp; all_goals (with_reducible rfl)))
            try simp only [Act.put, List.setIfInBounds_toArray, List.set_cons_zero, List.set_cons_succ]
            refine wpAnyH_take (i := 8) (oi := { dst := some 77, op := Op.load 28 (Operand.tmp 8), type := 28, pos := "law.go:71", after := #[{ on := 7, ground := Ground.guard }], guard := some (7, true) }) (v := ?_) rfl (by kernel_rfl) (by kernel_rfl) (by kernel_rfl) (fun _ _ _ h => h) (Or.inl ⟨by kernel_rfl, ?_⟩) (by assumption) ?_; rotate_left; (focus (intro w hSw; (try dsimp only at hSw); go_simp; all_goals (with_reducible rfl)))
            try simp only [Act.put, List.setIfInBounds_toArray, List.set_cons_zero, List.set_cons_succ]
            refine wpAnyH_take (i := 9) (oi := { dst := some 78, op := Op.nilCheck (Operand.tmp 77), type := 0, pos := "law.go:71", after := #[{ on := 8, ground := Ground.data }, { on := 7, ground := Ground.guard }], guard := some (7, true) }) (v := ?_) rfl (by kernel_rfl) (by kernel_rfl) (by kernel_rfl) (fun _ _ _ h => h) (Or.inl ⟨by kernel_rfl, ?_⟩) (by assumption) ?_; rotate_left; (focus (intro w hSw; (try dsimp only at hSw); go_simp; all_goals (with_reducible rfl)))
            try simp only [Act.put, List.setIfInBounds_toArray, List.set_cons_zero, List.set_cons_succ]
            refine wpAnyH_take (i := 10) (oi := { dst := some 79, op := Op.fieldAddr 31 (Operand.tmp 78) 0, type := 0, pos := "law.go:71", after := #[{ on := 9, ground := Ground.data }, { on := 7, ground := Ground.guard }], guard := some (7, true) }) (v := ?_) rfl (by kernel_rfl) (by kernel_rfl) (by kernel_rfl) (fun _ _ _ h => h) (Or.inl ⟨by kernel_rfl, ?_⟩) (by assumption) ?_; rotate_left; (focus (intro w hSw; (try dsimp only at hSw); go_simp; all_goals (with_reducible rfl)))
            try simp only [Act.put, List.setIfInBounds_toArray, List.set_cons_zero, List.set_cons_succ]
            refine wpAnyH_take (i := 11) (oi := { dst := some 80, op := Op.load 29 (Operand.tmp 79), type := 29, pos := "law.go:71", after := #[{ on := 10, ground := Ground.data }, { on := 7, ground := Ground.guard }], guard := some (7, true) }) (v := ?_) rfl (by kernel_rfl) (by kernel_rfl) (by kernel_rfl) (fun _ _ _ h => h) (Or.inl ⟨by kernel_rfl, ?_⟩) (by assumption) ?_; rotate_left; (focus (intro w hSw; (try dsimp only at hSw); go_simp; all_goals (with_reducible rfl)))
            try simp only [Act.put, List.setIfInBounds_toArray, List.set_cons_zero, List.set_cons_succ]
            refine wpAnyH_take (i := 12) (oi := { dst := some 81, op := Op.load 3 (Operand.tmp 10), type := 3, pos := "law.go:71", after := #[{ on := 7, ground := Ground.guard }], guard := some (7, true) }) (v := ?_) rfl (by kernel_rfl) (by kernel_rfl) (by kernel_rfl) (fun _ _ _ h => h) (Or.inl ⟨by kernel_rfl, ?_⟩) (by assumption) ?_; rotate_left; (focus (intro w hSw; (try dsimp only at hSw); go_simp; all_goals (with_reducible rfl)))
            try simp only [Act.put, List.setIfInBounds_toArray, List.set_cons_zero, List.set_cons_succ]
            refine wpAnyH_take (i := 13) (oi := { dst := some 82, op := Op.indexAddr 29 (Operand.tmp 80) (Operand.tmp 81), type := 0, pos := "law.go:71", after := #[{ on := 11, ground := Ground.data }, { on := 12, ground := Ground.data }, { on := 7, ground := Ground.guard }], guard := some (7, true) }) (v := ?_) rfl (by kernel_rfl) (by kernel_rfl) (by kernel_rfl) (fun _ _ _ h => h) (Or.inl ⟨by kernel_rfl, ?_⟩) (by assumption) ?_; rotate_left; (focus (intro w hSw; (try dsimp only at hSw); go_simp; all_goals (with_reducible rfl)))
            try simp only [Act.put, List.setIfInBounds_toArray, List.set_cons_zero, List.set_cons_succ]
            refine wpAnyH_take (i := 14) (oi := { dst := some 83, op := Op.fieldAddr 44 (Operand.tmp 82) 0, type := 0, pos := "law.go:71", after := #[{ on := 13, ground := Ground.data }, { on := 7, ground := Ground.guard }], guard := some (7, true) }) (v := ?_) rfl (by kernel_rfl) (by kernel_rfl) (by kernel_rfl) (fun _ _ _ h => h) (Or.inl ⟨by kernel_rfl, ?_⟩) (by assumption) ?_; rotate_left; (focus (intro w hSw; (try dsimp only at hSw); go_simp; all_goals (with_reducible rfl)))
            try simp only [Act.put, List.setIfInBounds_toArray, List.set_cons_zero, List.set_cons_succ]
            refine wpAnyH_take (i := 15) (oi := { dst := some 84, op := Op.load 3 (Operand.tmp 83), type := 3, pos := "law.go:71", after := #[{ on := 14, ground := Ground.data }, { on := 7, ground := Ground.guard }], guard := some (7, true) }) (v := ?_) rfl (by kernel_rfl) (by kernel_rfl) (by kernel_rfl) (fun _ _ _ h => h) (Or.inl ⟨by kernel_rfl, ?_⟩) (by assumption) ?_; rotate_left; (focus (intro w hSw; (try dsimp only at hSw); go_simp; all_goals (with_reducible rfl)))
            try simp only [Act.put, List.setIfInBounds_toArray, List.set_cons_zero, List.set_cons_succ]
            refine wpAnyH_take (i := 16) (oi := { dst := some 85, op := Op.move (Operand.tmp 1), type := 3, pos := "law.go:71", after := #[{ on := 7, ground := Ground.guard }], guard := some (7, true) }) (v := ?_) rfl (by kernel_rfl) (by kernel_rfl) (by kernel_rfl) (fun _ _ _ h => h) (Or.inl ⟨by kernel_rfl, ?_⟩) (by assumption) ?_; rotate_left; (focus (intro w hSw; (try dsimp only at hSw); go_simp; all_goals (with_reducible rfl)))
            try simp only [Act.put, List.setIfInBounds_toArray, List.set_cons_zero, List.set_cons_succ]
            refine wpAnyH_take (i := 17) (oi := { dst := some 86, op := Op.binOp BinOp.lss 3 (Operand.tmp 84) (Operand.tmp 85) 3, type := 4, pos := "law.go:71", after := #[{ on := 15, ground := Ground.data }, { on := 16, ground := Ground.data }, { on := 7, ground := Ground.guard }], guard := some (7, true) }) (v := .bool true) rfl (by kernel_rfl) (by kernel_rfl) (by kernel_rfl) (fun _ _ _ h => h) (Or.inl ⟨by kernel_rfl, ?_⟩) (by assumption) ?_; focus (intro w hSw; (try dsimp only at hSw); go_simp; first | done | omega | (have := HLK.out; omega) | (have := HLK.out; simp; omega))
            try simp only [Act.put, List.setIfInBounds_toArray, List.set_cons_zero, List.set_cons_succ]
            refine wpAnyH_take (i := 18) (oi := { dst := some 87, op := Op.pick (Operand.tmp 76) (Operand.tmp 86) (Operand.const (Value.bool false)), type := 4, pos := "law.go:71", after := #[{ on := 7, ground := Ground.data }, { on := 17, ground := Ground.data }], guard := none }) (v := ?_) rfl (by kernel_rfl) (by kernel_rfl) (by kernel_rfl) (fun _ _ _ h => h) (Or.inl ⟨by kernel_rfl, ?_⟩) (by assumption) ?_; rotate_left; (focus (intro w hSw; (try dsimp only at hSw); go_simp; all_goals (with_reducible rfl)))
            try simp only [Act.put, List.setIfInBounds_toArray, List.set_cons_zero, List.set_cons_succ]
            refine wpAnyH_done (by kernel_rfl) ?_ _
            go_wp2_with fail
            go_roundg (gk - 1)
            case rel => exact ⟨j + 1, by have := HJN.out; omega, HST.out, HBS.out⟩
            case measure => have := HJN.out; omega
      case rest =>
        obtain ⟨BP, HBP⟩ := hcut
        clear HB1 BA
        go_wp2_with fail
        refine (from_any _ _ _).mono ?_
        rintro e w' ⟨rfl, rfl⟩
        have hfn := func_nil2 (.func 27) #[] #[.pointer (some ⟨wc.heap.size, 0, none⟩), .pointer (some ⟨wc.heap.size + 1, 0, none⟩)] ((wc.alloc (.cells #[.pointer (some ⟨w.heap.size + 1 + 1, 0, none⟩)] 27)).alloc (.cells #[.int .i64 key] 3))
        go_wp2_with fail
        have bp := ((Boxed.new wc 27 (.pointer (some ⟨w.heap.size + 1 + 1, 0, none⟩))).alloc (.cells #[.int .i64 key] 3)).alloc (.cells #[.int .i64 0] 3)
        have bk := (Boxed.new (wc.alloc (.cells #[.pointer (some ⟨w.heap.size + 1 + 1, 0, none⟩)] 27)) 3 (.int .i64 key)).alloc (.cells #[.int .i64 0] 3)
        have bm := Boxed.new ((wc.alloc (.cells #[.pointer (some ⟨w.heap.size + 1 + 1, 0, none⟩)] 27)).alloc (.cells #[.int .i64 key] 3)) 3 (.int .i64 0)
        have ba := ((BP.out.alloc (.cells #[.pointer (some ⟨w.heap.size + 1 + 1, 0, none⟩)] 27)).alloc (.cells #[.int .i64 key] 3)).alloc (.cells #[.int .i64 0] 3)
        simp only [World.size_alloc] at bk bm
        have hW : Below wq.heap.size wq (((wc.alloc (.cells #[.pointer (some ⟨w.heap.size + 1 + 1, 0, none⟩)] 27)).alloc (.cells #[.int .i64 key] 3)).alloc (.cells #[.int .i64 0] 3)) := ((HBP.out.alloc HBP.out.size _).alloc (by have := HBP.out.size; simp; omega) _).alloc (by have := HBP.out.size; simp; omega) _
        have hsz : (((wc.alloc (.cells #[.pointer (some ⟨w.heap.size + 1 + 1, 0, none⟩)] 27)).alloc (.cells #[.int .i64 key] 3)).alloc (.cells #[.int .i64 0] 3)).heap.size = wc.heap.size + 1 + 1 + 1 := by simp
        have hqc := HBP.out.size
        have HQC : wq.heap.size < wc.heap.size := BP.out.lt
        have HFL : Hid (fromL t key = ps.drop (pos ps key)) := by
          have := fromL_is t key HTS.out
          rw [HTL.out] at this
          exact this
        have hpl := pos_le ps key
        have hfl : (fromL t key).length ≤ 120 := by rw [HFL.out, List.length_drop]; omega
        have hlim : 0 < limW want := by unfold limW; split <;> omega
        generalize (((wc.alloc (.cells #[.pointer (some ⟨w.heap.size + 1 + 1, 0, none⟩)] 27)).alloc (.cells #[.int .i64 key] 3)).alloc (.cells #[.int .i64 0] 3)) = W0 at *
        clear hfn
        refine (wpIn_wide (n := 4)).1 ?_
        refine wpIn_rangeFunc_ownG rfl (by omega) (gf := 27) (lb := #[.pointer (some ⟨wc.heap.size, 0, none⟩), .pointer (some ⟨wc.heap.size + 1, 0, none⟩)]) rfl trivial (enters_of Try.func27 (by kernel_rfl) rfl)
          (from_stops _ wc.heap.size (wc.heap.size + 1) key wq _ t HD.out W0 hW bp bk) belowK_t (belowK_b (by omega)) (Below.refl _ _) (fun _ => rfl)
          (fun pre W => (pre <+: ps.drop (pos ps key) ∧ pre.length < limW want) ∧ Boxed W wq.heap.size 3 (.int .i64 ((pos ps key + pre.length : Nat) : Int)) ∧ Boxed W (wc.heap.size + 1 + 1) 3 (.int .i64 (pre.length : Nat)) ∧ Below wq.heap.size wq W)
          (fun c pre W => (c = .exit 4 ∧ (pre <+: ps.drop (pos ps key) ∧ pre.length = limW want) ∧ Boxed W wq.heap.size 3 (.int .i64 ((pos ps key + pre.length : Nat) : Int)) ∧ Boxed W (wc.heap.size + 1 + 1) 3 (.int .i64 (pre.length : Nat)) ∧ Below wq.heap.size wq W) ∨ ¬ pre <+: ps.drop (pos ps key))
          (OwnFrom.and (ownFrom_pure _ (fun (pre : List Pr) => pre <+: ps.drop (pos ps key) ∧ pre.length < limW want)) (OwnFrom.and (Own.from (boxed_own _ _ (fun (pre : List Pr) => .int .i64 ((pos ps key + pre.length : Nat) : Int))) _) (OwnFrom.and (Own.from (boxed_own _ _ (fun (pre : List Pr) => .int .i64 (pre.length : Nat))) _) (ownFrom_below (Nat.le_refl _) (by omega)))))
          (fun c => ownFrom_or (OwnFrom.and (ownFrom_pure _ (fun (_ : List Pr) => c = .exit 4)) (OwnFrom.and (ownFrom_pure _ (fun (pre : List Pr) => pre <+: ps.drop (pos ps key) ∧ pre.length = limW want)) (OwnFrom.and (Own.from (boxed_own _ _ (fun (pre : List Pr) => .int .i64 ((pos ps key + pre.length : Nat) : Int))) _) (OwnFrom.and (Own.from (boxed_own _ _ (fun (pre : List Pr) => .int .i64 (pre.length : Nat))) _) (ownFrom_below (Nat.le_refl _) (by omega)))))) (ownFrom_pure _ (fun (pre : List Pr) => ¬ pre <+: ps.drop (pos ps key))))
          ⟨⟨List.nil_prefix, hlim⟩, ba, bm, hW⟩
          (fun x => { tmps := #[.slice a k cap, .int .i64 key, .int .u8 want, undef, undef, .pointer (some ⟨w.heap.size, 0, none⟩), .pointer (some ⟨w.heap.size + 1, 0, none⟩), .pointer (some ⟨w.heap.size + 1 + 1, 0, none⟩), .pointer (some ⟨w.heap.size + 1 + 1 + 1 + 1, 0, none⟩), .int .i64 (k : Int), .pointer (some ⟨wq.heap.size, 0, none⟩), .func (.func 27) #[] #[.pointer (some ⟨wc.heap.size, 0, none⟩), .pointer (some ⟨wc.heap.size + 1, 0, none⟩)], .pointer (some ⟨wc.heap.size + 1 + 1, 0, none⟩), .int .i64 x.1, .int .i64 x.2, .slice a k cap, .int .i64 (k : Int), .bool false, undef, .agg #[.slice none 0 0], .pointer (some ⟨w.heap.size + 1 + 1 + 1, 0, none⟩), .int .i64 (k : Int), .slice a k cap, .int .i64 (k : Int), .bool false, u25, u26, u27, u28, u29, u30, u31, u32, u33, u34, u35, u36, u37, u38, u39, u40, u41, u42, u43, u44, u45, u46, u47, u48, u49, u50, u51, u52, u53, u54, u55, u56, u57, u58, u59, u60, u61, u62, u63, u64, u65, u66, u67, u68, u69, u70, u71, u72, u73, u74, u75, u76, u77, u78, u79, u80, u81, u82, u83, u84, u85, u86, u87, u88, u89, .int .i64 key, .func (.func 27) #[] #[.pointer (some ⟨wc.heap.size, 0, none⟩), .pointer (some ⟨wc.heap.size + 1, 0, none⟩)], .func (.func 27) #[] #[.pointer (some ⟨wc.heap.size, 0, none⟩), .pointer (some ⟨wc.heap.size + 1, 0, none⟩)], .bool false, .func (.func 27) #[] #[.pointer (some ⟨wc.heap.size, 0, none⟩), .pointer (some ⟨wc.heap.size + 1, 0, none⟩)], .int .i64 x.1, .int .i64 x.2, undef, undef, undef, undef, undef, undef, undef, undef, undef, undef, undef, undef, undef, undef, undef, undef, undef, undef, undef, undef, undef, undef, undef, undef, undef, undef, undef, undef, undef, undef, undef, undef, undef, undef, undef, undef, undef, undef, undef, undef, undef, undef, undef, undef, undef], defers := [] }) ?assign ?body ?done ?stop
        case assign =>
          intro l x W K hK
          gi_wp2
          exact hK
        case body =>
          clear ba bm bp bk hW
          rintro l pre ⟨xk, xv⟩ W ⟨⟨hpre, hlm⟩, hat, hmn, hB⟩ hlt
          obtain ⟨e1, e2⟩ := HRD.out _ hB
          have hrd : Boxed W (w.heap.size + 1) 4 (.bool false) := boxed_later HF.out.b1 hB
          have h0d : Boxed W w.heap.size 5 (.int .u8 want) := boxed_later HF.out.b0 hB
          have cm := hmn.cell
          have fm := hmn.frozen
          have cr' := hrd.cell
          have fr' := hrd.frozen
          have hln : pre.length ≤ 120 := by omega
          have hl1 := HF.out.b1.lt
          have n1 : wq.heap.size ≠ wc.heap.size + 1 + 1 := by omega
          have n2 : wc.heap.size + 1 + 1 ≠ wq.heap.size := by omega
          have n3 : w.heap.size ≠ wq.heap.size := by omega
          have n4 : w.heap.size ≠ wc.heap.size + 1 + 1 := by omega
          have HSN := Lib.hid (pre_snoc (x := (xk, xv)) hpre)
          have HGD : Hid ((ps.drop (pos ps key))[pre.length]? = ps[pos ps key + pre.length]?) := List.getElem?_drop
          obtain ⟨q, hq⟩ : ∃ q, pos ps key + pre.length = q := ⟨_, rfl⟩
          rw [hq] at hat HGD
          have ca := hat.cell
          have fa := hat.frozen
          have hq120 : q ≤ 240 := by omega
          have hwq1 : IntKind.i64.wrap ((q : Int) + 1) = (q : Int) + 1 := by rw [IntKind.wrap_i64]; omega
          have hwm1 : IntKind.i64.wrap ((pre.length : Int) + 1) = (pre.length : Int) + 1 := by rw [IntKind.wrap_i64]; omega
          have hww : IntKind.i64.wrap (want : Int) = (want : Int) := by rw [IntKind.wrap_i64]; omega
          have hko : ∀ nq, KeepsOthers W (W.drewN nq) := fun nq => ⟨(KeepsOthers.refl W).size, (KeepsOthers.refl W).same⟩
          have HKF : Hid (∀ nq, KeepsFrom (wc.heap.size + 1 + 1 + 1) W ((W.drewN nq).setCell ⟨w.heap.size + 1, 0, none⟩ (.bool false))) := fun nq => ((hko nq).trans (KeepsOthers.setCell _ _ _)).from _
          have HFIN : Hid (∀ nq, KeepsFrom (wc.heap.size + 1 + 1 + 1) W (((W.drewN nq).setCell ⟨wq.heap.size, 0, none⟩ (.int .i64 ((q : Int) + 1))).setCell ⟨wc.heap.size + 1 + 1, 0, none⟩ (.int .i64 ((pre.length : Int) + 1))) ∧ Below wq.heap.size W (((W.drewN nq).setCell ⟨wq.heap.size, 0, none⟩ (.int .i64 ((q : Int) + 1))).setCell ⟨wc.heap.size + 1 + 1, 0, none⟩ (.int .i64 ((pre.length : Int) + 1))) ∧
              Boxed (((W.drewN nq).setCell ⟨wq.heap.size, 0, none⟩ (.int .i64 ((q : Int) + 1))).setCell ⟨wc.heap.size + 1 + 1, 0, none⟩ (.int .i64 ((pre.length : Int) + 1))) wq.heap.size 3 (.int .i64 ((pos ps key + (pre ++ [(xk, xv)]).length : Nat) : Int)) ∧ Boxed (((W.drewN nq).setCell ⟨wq.heap.size, 0, none⟩ (.int .i64 ((q : Int) + 1))).setCell ⟨wc.heap.size + 1 + 1, 0, none⟩ (.int .i64 ((pre.length : Int) + 1))) (wc.heap.size + 1 + 1) 3 (.int .i64 ((pre ++ [(xk, xv)]).length : Nat)) ∧ Below wq.heap.size wq (((W.drewN nq).setCell ⟨wq.heap.size, 0, none⟩ (.int .i64 ((q : Int) + 1))).setCell ⟨wc.heap.size + 1 + 1, 0, none⟩ (.int .i64 ((pre.length : Int) + 1)))) := by
            intro nq
            have hbel : Below wq.heap.size W (((W.drewN nq).setCell ⟨wq.heap.size, 0, none⟩ (.int .i64 ((q : Int) + 1))).setCell ⟨wc.heap.size + 1 + 1, 0, none⟩ (.int .i64 ((pre.length : Int) + 1))) := ((drewN_below (Below.refl wq.heap.size W) nq).setCell (p := ⟨wq.heap.size, 0, none⟩) (Nat.le_refl _) _).setCell (p := ⟨wc.heap.size + 1 + 1, 0, none⟩) (by show wq.heap.size ≤ wc.heap.size + 1 + 1; omega) _
            have hatd : Boxed (W.drewN nq) wq.heap.size 3 (.int .i64 (q : Nat)) := hat
            have hmnd : Boxed (W.drewN nq) (wc.heap.size + 1 + 1) 3 (.int .i64 (pre.length : Nat)) := hmn
            refine ⟨((hko nq).trans ((KeepsOthers.setCell _ _ _).trans (KeepsOthers.setCell _ _ _))).from _, hbel, ?_, ?_, hB.trans hbel⟩
            · rw [List.length_append, ← Nat.add_assoc, hq]
              exact (hatd.set (.int .i64 ((q : Int) + 1))).other n1 _
            · rw [List.length_append]
              exact (hmnd.other n2 (.int .i64 ((q : Int) + 1))).set (.int .i64 ((pre.length : Int) + 1))
          have cw2 : ((W.setCell ⟨wq.heap.size, 0, none⟩ (.int .i64 ((q : Int) + 1))).setCell ⟨wc.heap.size + 1 + 1, 0, none⟩ (.int .i64 ((pre.length : Int) + 1))).cell? ⟨w.heap.size, 0, none⟩ = some (.int .u8 want) := ((h0d.other n3 _).other n4 _).cell
          have cm2 := (hmn.other n2 (.int .i64 ((q : Int) + 1))).cell
          have fm2 := (hmn.other n2 (.int .i64 ((q : Int) + 1))).frozen
          have cm4 : ((W.setCell ⟨wq.heap.size, 0, none⟩ (.int .i64 ((q : Int) + 1))).setCell ⟨wc.heap.size + 1 + 1, 0, none⟩ (.int .i64 ((pre.length : Int) + 1))).cell? ⟨wc.heap.size + 1 + 1, 0, none⟩ = some (.int .i64 ((pre.length : Int) + 1)) := ((hmn.other n2 (.int .i64 ((q : Int) + 1))).set (.int .i64 ((pre.length : Int) + 1))).cell
          have cw5 : ∀ nq, (((W.drewN nq).setCell ⟨wq.heap.size, 0, none⟩ (.int .i64 ((q : Int) + 1))).setCell ⟨wc.heap.size + 1 + 1, 0, none⟩ (.int .i64 ((pre.length : Int) + 1))).cell? ⟨w.heap.size, 0, none⟩ = some (.int .u8 want) := fun nq => (((show Boxed (W.drewN nq) w.heap.size 5 (.int .u8 want) from h0d).other n3 _).other n4 _).cell
          have cm5 : ∀ nq, (((W.drewN nq).setCell ⟨wq.heap.size, 0, none⟩ (.int .i64 ((q : Int) + 1))).setCell ⟨wc.heap.size + 1 + 1, 0, none⟩ (.int .i64 ((pre.length : Int) + 1))).cell? ⟨wc.heap.size + 1 + 1, 0, none⟩ = some (.int .i64 ((pre.length : Int) + 1)) := fun nq => cm4
          have HBDR := Lib.hid hB
          have HLM := Lib.hid hlm
          have HPRE := Lib.hid hpre
          clear hat hmn hB hrd h0d hpre hlm hq hko
          by_cases hql : q < ps.length
          · obtain ⟨⟨yk, yv⟩, hy⟩ : ∃ y, ps[q]? = some y := ⟨_, List.getElem?_eq_getElem hql⟩
            obtain ⟨br, rfl, hrow⟩ := HRW.out _ _ hy
            obtain ⟨r1, r2⟩ := hrow _ HBDR.out
            simp only at r1 r2
            rw [HGD.out, hy] at HSN
            have hql' : ¬ ((q : Int) ≥ (ps.length : Int)) := by omega
            have hql2 : (q : Int) < (ps.length : Int) := by omega
            have hdd1 : decide (ps.length ≤ q) = false := by simp; omega
            have hdd2 : decide ((ps.length : Int) ≤ (q : Int)) = false := by simp; omega
            have hdd3 : decide ((q : Int) ≥ (ps.length : Int)) = false := by simp; omega
            clear hrow hy
            by_cases heq : xk = yk ∧ xv = yv
            · obtain ⟨rfl, rfl⟩ := heq
              have HOK := Lib.hid (HSN.out.2 rfl)
              have HEND := HFIN
              clear HSN
              by_cases hlast : want ≤ pre.length + 1
              · have hge : ((pre.length : Int) + 1 ≥ (want : Int)) := by omega
                have HLL : Hid ((pre ++ [(xk, xv)]).length = limW want) := by
                  have h1 := HLM.out
                  show (pre ++ [(xk, xv)]).length = limW want
                  rw [List.length_append]
                  show pre.length + 1 = limW want
                  unfold limW at h1 ⊢
                  split at h1 <;> rename_i h2
                  · rw [if_pos h2]; omega
                  · rw [if_neg h2]; omega
                gi_wp2_with fail
                refine region_quiet_round (by kernel_rfl) (by kernel_rfl) (by kernel_rfl) ?_
                repeat (gi_big_quiet_step (fail))
                refine wpQuietIn_nil ?_
                intro _ hw'
                obtain ⟨nq, hw''⟩ := hw'
                subst hw''
                gi_wp2_with fail
                first | exact ⟨(HEND.out nq).1, .inl ⟨rfl, ⟨HOK.out, HLL.out⟩, (HEND.out nq).2.2⟩⟩ | exact ⟨by rw [hsz]; exact (HEND.out nq).1, .inl ⟨rfl, ⟨HOK.out, HLL.out⟩, (HEND.out nq).2.2⟩⟩
              · have hge : ¬ ((pre.length : Int) + 1 ≥ (want : Int)) := by omega
                have HLL : Hid ((pre ++ [(xk, xv)]).length < limW want) := by
                  show (pre ++ [(xk, xv)]).length < limW want
                  rw [List.length_append]
                  show pre.length + 1 < limW want
                  unfold limW; split <;> omega
                gi_wp2_with fail
                refine region_quiet_round (by kernel_rfl) (by kernel_rfl) (by kernel_rfl) ?_
                repeat (gi_big_quiet_step (fail))
                refine wpQuietIn_nil ?_
                intro _ hw'
                obtain ⟨nq, hw''⟩ := hw'
                subst hw''
                gi_wp2_with fail
                first | exact ⟨(HEND.out nq).1, (HEND.out nq).2.1, ⟨HOK.out, HLL.out⟩, (HEND.out nq).2.2⟩ | exact ⟨by rw [hsz]; exact (HEND.out nq).1, (HEND.out nq).2.1, ⟨HOK.out, HLL.out⟩, (HEND.out nq).2.2⟩
            · have HBAD : Hid (¬ pre ++ [(xk, xv)] <+: ps.drop (pos ps key)) := fun h => heq (by
                have := HSN.out.1 h
                injection this with this
                injection this with h1 h2
                exact ⟨h1.symm, h2.symm⟩)
              clear HSN
              have h12 : xk ≠ yk ∨ (xk = yk ∧ xv ≠ yv) := by
                by_cases h1 : xk = yk
                · exact .inr ⟨h1, fun h2 => heq ⟨h1, h2⟩⟩
                · exact .inl h1
              clear heq
              rcases h12 with h1 | ⟨rfl, h1⟩
              · have h1' : decide (xk = yk) = false := by simp [h1]
                gi_wp2_with fail
                refine region_quiet_round (by kernel_rfl) (by kernel_rfl) (by kernel_rfl) ?_
                repeat (gi_big_quiet_step (fail))
                refine wpQuietIn_nil ?_
                intro _ hw'
                obtain ⟨nq, hw''⟩ := hw'
                subst hw''
                gi_wp2_with fail
                first | exact ⟨HKF.out nq, .inr HBAD.out⟩ | exact ⟨by rw [hsz]; exact HKF.out nq, .inr HBAD.out⟩
              · have h1' : decide (xv = yv) = false := by simp [h1]
                gi_wp2_with fail
                refine region_quiet_round (by kernel_rfl) (by kernel_rfl) (by kernel_rfl) ?_
                repeat (gi_big_quiet_step (fail))
                refine wpQuietIn_nil ?_
                intro _ hw'
                obtain ⟨nq, hw''⟩ := hw'
                subst hw''
                gi_wp2_with fail
                first | exact ⟨HKF.out nq, .inr HBAD.out⟩ | exact ⟨by rw [hsz]; exact HKF.out nq, .inr HBAD.out⟩
          · have HBAD : Hid (¬ pre ++ [(xk, xv)] <+: ps.drop (pos ps key)) := fun h => by
              have h1 := HSN.out.1 h
              rw [HGD.out, List.getElem?_eq_none (by omega)] at h1
              cases h1
            have hql' : ((q : Int) ≥ (ps.length : Int)) := by omega
            clear HSN
            gi_wp2_with fail
            refine region_quiet_round (by kernel_rfl) (by kernel_rfl) (by kernel_rfl) ?_
            repeat (gi_big_quiet_step (fail))
            refine wpQuietIn_nil ?_
            intro _ hw'
            obtain ⟨nq, hw''⟩ := hw'
            subst hw''
            gi_wp2_with fail
            first | exact ⟨HKF.out nq, .inr HBAD.out⟩ | exact ⟨by rw [hsz]; exact HKF.out nq, .inr HBAD.out⟩
        case done =>
          clear ba bm bp bk hW
          rintro D ys W hD rfl ⟨-, hat, hmn, hB⟩ hK
          have hlast : pos ps key + (fromL t key).length = ps.length := by rw [HFL.out, List.length_drop]; omega
          rw [hlast] at hat
          generalize (fromL t key).length = m at *
          have hbd : Below wq.heap.size wq W.drew := hB.trans (below_d.mono hB.size)
          obtain ⟨e1, e2⟩ := HRD.out _ hbd
          have HMD := Lib.hid (show Boxed W.drew (wc.heap.size + 1 + 1) 3 (.int .i64 (m : Nat)) from hmn)
          have HAD := Lib.hid (show Boxed W.drew wq.heap.size 3 (.int .i64 (ps.length : Nat)) from hat)
          have HRB := Lib.hid (boxed_later HF.out.b1 hbd)
          have HWB := Lib.hid (boxed_later HF.out.b0 hbd)
          have HKD := Lib.hid (show W.drew.heap[D]? = some (.deferred (some [])) from hK)
          have HBW := Lib.hid hbd
          have hl1 := HF.out.b1.lt
          have hq1 : w.heap.size + 1 ≠ wq.heap.size := by omega
          have hStart := And.intro HAD.out.cell (And.intro e1 e2)
          clear hat hmn hB hK hbd
          go_upto_region 28 with fail
          refine wp_region_held_drew (S := fun w' => w'.cell? ⟨wq.heap.size, 0, none⟩ = some (.int .i64 (ps.length : Nat)) ∧ w'.cell? ⟨w.heap.size + 1 + 1 + 1 + 1, 0, none⟩ = some (.pointer (some ⟨w.heap.size + 1 + 1 + 1, 0, none⟩)) ∧ w'.cell? ⟨w.heap.size + 1 + 1 + 1, 0, none⟩ = some (.slice ar ps.length cr)) (by kernel_rfl) (hStart) (fun hHeld => ?_)
          refine wpAnyH_take (i := 0) (oi := { dst := some 125, op := Op.load 3 (Operand.tmp 10), type := 3, pos := "law.go:89", after := #[], guard := none }) (v := ?_) rfl (by kernel_rfl) (by kernel_rfl) (by kernel_rfl) (fun _ _ _ h => h) (Or.inl ⟨by kernel_rfl, ?_⟩) (by assumption) ?_; rotate_left; (focus (intro w hSw; (try dsimp only at hSw); go_simp; all_goals (with_reducible rfl)))
          try simp only [Act.put, List.setIfInBounds_toArray, List.set_cons_zero, List.set_cons_succ]
          refine wpAnyH_take (i := 1) (oi := { dst := some 126, op := Op.load 28 (Operand.tmp 8), type := 28, pos := "law.go:89", after := #[], guard := none }) (v := ?_) rfl (by kernel_rfl) (by kernel_rfl) (by kernel_rfl) (fun _ _ _ h => h) (Or.inl ⟨by kernel_rfl, ?_⟩) (by assumption) ?_; rotate_left; (focus (intro w hSw; (try dsimp only at hSw); go_simp; all_goals (with_reducible rfl)))
          try simp only [Act.put, List.setIfInBounds_toArray, List.set_cons_zero, List.set_cons_succ]
          refine wpAnyH_take (i := 2) (oi := { dst := some 127, op := Op.nilCheck (Operand.tmp 126), type := 0, pos := "law.go:89", after := #[{ on := 1, ground := Ground.data }], guard := none }) (v := ?_) rfl (by kernel_rfl) (by kernel_rfl) (by kernel_rfl) (fun _ _ _ h => h) (Or.inl ⟨by kernel_rfl, ?_⟩) (by assumption) ?_; rotate_left; (focus (intro w hSw; (try dsimp only at hSw); go_simp; all_goals (with_reducible rfl)))
          try simp only [Act.put, List.setIfInBounds_toArray, List.set_cons_zero, List.set_cons_succ]
          refine wpAnyH_take (i := 3) (oi := { dst := some 128, op := Op.fieldAddr 31 (Operand.tmp 127) 0, type := 0, pos := "law.go:89", after := #[{ on := 2, ground := Ground.data }], guard := none }) (v := ?_) rfl (by kernel_rfl) (by kernel_rfl) (by kernel_rfl) (fun _ _ _ h => h) (Or.inl ⟨by kernel_rfl, ?_⟩) (by assumption) ?_; rotate_left; (focus (intro w hSw; (try dsimp only at hSw); go_simp; all_goals (with_reducible rfl)))
          try simp only [Act.put, List.setIfInBounds_toArray, List.set_cons_zero, List.set_cons_succ]
          refine wpAnyH_take (i := 4) (oi := { dst := some 129, op := Op.load 29 (Operand.tmp 128), type := 29, pos := "law.go:89", after := #[{ on := 3, ground := Ground.data }], guard := none }) (v := ?_) rfl (by kernel_rfl) (by kernel_rfl) (by kernel_rfl) (fun _ _ _ h => h) (Or.inl ⟨by kernel_rfl, ?_⟩) (by assumption) ?_; rotate_left; (focus (intro w hSw; (try dsimp only at hSw); go_simp; all_goals (with_reducible rfl)))
          try simp only [Act.put, List.setIfInBounds_toArray, List.set_cons_zero, List.set_cons_succ]
          refine wpAnyH_take (i := 5) (oi := { dst := some 130, op := Op.call { callee := Callee.builtin Builtin.len, args := #[Operand.tmp 129], argTypes := #[29] }, type := 3, pos := "law.go:89", after := #[{ on := 4, ground := Ground.data }], guard := none }) (v := ?_) rfl (by kernel_rfl) (by kernel_rfl) (by kernel_rfl) (fun _ _ _ h => h) (Or.inl ⟨by kernel_rfl, ?_⟩) (by assumption) ?_; rotate_left; (focus (intro w hSw; (try dsimp only at hSw); go_simp; all_goals (with_reducible rfl)))
          try simp only [Act.put, List.setIfInBounds_toArray, List.set_cons_zero, List.set_cons_succ]
          refine wpAnyH_take (i := 6) (oi := { dst := some 131, op := Op.binOp BinOp.eql 3 (Operand.tmp 125) (Operand.tmp 130) 3, type := 4, pos := "law.go:89", after := #[{ on := 0, ground := Ground.data }, { on := 5, ground := Ground.data }], guard := none }) (v := .bool true) rfl (by kernel_rfl) (by kernel_rfl) (by kernel_rfl) (fun _ _ _ h => h) (Or.inl ⟨by kernel_rfl, ?_⟩) (by assumption) ?_; focus (intro w hSw; (try dsimp only at hSw); go_simp; first | done | omega | (simp; omega))
          try simp only [Act.put, List.setIfInBounds_toArray, List.set_cons_zero, List.set_cons_succ]
          refine wpAnyH_take (i := 7) (oi := { dst := some 132, op := Op.move (Operand.tmp 131), type := 4, pos := "law.go:89", after := #[{ on := 6, ground := Ground.data }], guard := none }) (v := ?_) rfl (by kernel_rfl) (by kernel_rfl) (by kernel_rfl) (fun _ _ _ h => h) (Or.inl ⟨by kernel_rfl, ?_⟩) (by assumption) ?_; rotate_left; (focus (intro w hSw; (try dsimp only at hSw); go_simp; all_goals (with_reducible rfl)))
          try simp only [Act.put, List.setIfInBounds_toArray, List.set_cons_zero, List.set_cons_succ]
          refine wpAnyH_take (i := 8) (oi := { dst := some 133, op := Op.load 3 (Operand.tmp 12), type := 3, pos := "law.go:89", after := #[{ on := 7, ground := Ground.guard }], guard := some (7, false) }) (v := undef) rfl (by kernel_rfl) (by kernel_rfl) (by kernel_rfl) (fun _ _ _ h => h) (Or.inr ⟨by kernel_rfl, rfl⟩) (by assumption) ?_
          try simp only [Act.put, List.setIfInBounds_toArray, List.set_cons_zero, List.set_cons_succ]
          refine wpAnyH_take (i := 9) (oi := { dst := some 134, op := Op.load 5 (Operand.tmp 5), type := 5, pos := "law.go:89", after := #[{ on := 7, ground := Ground.guard }], guard := some (7, false) }) (v := undef) rfl (by kernel_rfl) (by kernel_rfl) (by kernel_rfl) (fun _ _ _ h => h) (Or.inr ⟨by kernel_rfl, rfl⟩) (by assumption) ?_
          try simp only [Act.put, List.setIfInBounds_toArray, List.set_cons_zero, List.set_cons_succ]
          refine wpAnyH_take (i := 10) (oi := { dst := some 135, op := Op.convert 5 3 (Operand.tmp 134), type := 3, pos := "law.go:89", after := #[{ on := 9, ground := Ground.data }, { on := 7, ground := Ground.guard }], guard := some (7, false) }) (v := undef) rfl (by kernel_rfl) (by kernel_rfl) (by kernel_rfl) (fun _ _ _ h => h) (Or.inr ⟨by kernel_rfl, rfl⟩) (by assumption) ?_
          try simp only [Act.put, List.setIfInBounds_toArray, List.set_cons_zero, List.set_cons_succ]
          refine wpAnyH_take (i := 11) (oi := { dst := some 136, op := Op.call { callee := Callee.builtin Builtin.max, args := #[Operand.const (Value.int IntKind.i64 1), Operand.tmp 135], argTypes := #[3, 3] }, type := 3, pos := "law.go:89", after := #[{ on := 10, ground := Ground.data }, { on := 7, ground := Ground.guard }], guard := some (7, false) }) (v := undef) rfl (by kernel_rfl) (by kernel_rfl) (by kernel_rfl) (fun _ _ _ h => h) (Or.inr ⟨by kernel_rfl, rfl⟩) (by assumption) ?_
          try simp only [Act.put, List.setIfInBounds_toArray, List.set_cons_zero, List.set_cons_succ]
          refine wpAnyH_take (i := 12) (oi := { dst := some 137, op := Op.binOp BinOp.eql 3 (Operand.tmp 133) (Operand.tmp 136) 3, type := 4, pos := "law.go:89", after := #[{ on := 8, ground := Ground.data }, { on := 11, ground := Ground.data }, { on := 7, ground := Ground.guard }], guard := some (7, false) }) (v := undef) rfl (by kernel_rfl) (by kernel_rfl) (by kernel_rfl) (fun _ _ _ h => h) (Or.inr ⟨by kernel_rfl, rfl⟩) (by assumption) ?_
          try simp only [Act.put, List.setIfInBounds_toArray, List.set_cons_zero, List.set_cons_succ]
          refine wpAnyH_take (i := 13) (oi := { dst := some 138, op := Op.pick (Operand.tmp 132) (Operand.const (Value.bool true)) (Operand.tmp 137), type := 4, pos := "law.go:89", after := #[{ on := 7, ground := Ground.data }, { on := 12, ground := Ground.data }], guard := none }) (v := ?_) rfl (by kernel_rfl) (by kernel_rfl) (by kernel_rfl) (fun _ _ _ h => h) (Or.inl ⟨by kernel_rfl, ?_⟩) (by assumption) ?_; rotate_left; (focus (intro w hSw; (try dsimp only at hSw); go_simp; all_goals (with_reducible rfl)))
          try simp only [Act.put, List.setIfInBounds_toArray, List.set_cons_zero, List.set_cons_succ]
          refine wpAnyH_take (i := 14) (oi := { dst := some 139, op := Op.move (Operand.tmp 138), type := 4, pos := "law.go:89", after := #[{ on := 13, ground := Ground.data }, { on := 7, ground := Ground.chain }], guard := none }) (v := ?_) rfl (by kernel_rfl) (by kernel_rfl) (by kernel_rfl) (fun _ _ _ h => h) (Or.inl ⟨by kernel_rfl, ?_⟩) (by assumption) ?_; rotate_left; (focus (intro w hSw; (try dsimp only at hSw); go_simp; all_goals (with_reducible rfl)))
          try simp only [Act.put, List.setIfInBounds_toArray, List.set_cons_zero, List.set_cons_succ]
          refine wpAnyH_ready (rs := [15]) (by kernel_rfl) (by simp) ?_
          refine AllReadyH.cons (o := { dst := some 140, op := Op.call { callee := Callee.value (Operand.func 6), args := #[], argTypes := #[] }, type := 4, pos := "law.go:89", after := #[{ on := 14, ground := Ground.chain }, { on := 14, ground := Ground.guard }], guard := some (14, true) }) rfl (fun K hK => ?_) AllReadyH.nil
          go_simp
          refine (awake_any _).mono ?_
          rintro e w9 ⟨rfl, hb9⟩
          have hbw9 : Below wq.heap.size wq w9 := HBW.out.trans (hb9.mono HBW.out.size)
          have kx9 := HRD.out w9 hbw9
          have HA9 := Lib.hid (boxed_later HAD.out hb9)
          have HM9 := Lib.hid (boxed_later HMD.out hb9)
          have HW9 := Lib.hid (boxed_later HWB.out hb9)
          have hr9 := boxed_later HRB.out hb9
          have crr := hr9.cell
          have frr := hr9.frozen
          have HR9 := Lib.hid (hr9.set (.bool true))
          have HK9 := Lib.hid ((Below.heap_setCell w9 ⟨w.heap.size + 1, 0, none⟩ (.bool true) D (by show D ≠ w.heap.size + 1; omega)).trans ((hb9.block D (Array.getElem?_eq_some_iff.1 HKD.out).1).trans HKD.out))
          have HB9 := Lib.hid ((HF.out.below.trans (hbw9.mono HF.out.below.size)).setCell (p := ⟨w.heap.size + 1, 0, none⟩) (by show w.heap.size ≤ w.heap.size + 1; omega) (.bool true))
          have HX9 := Lib.hid (And.intro HF.out.b4.lt HF.out.rm.lt)
          have HXK := Lib.hid hbw9
          have hKeep := And.intro HA9.out.cell (And.intro kx9.1 kx9.2)
          clear hb9 hr9 hbw9
          go_wp2_with fail
          refine hK.out _ _ ?_ (fun hHeld => ?_)
          · exact hKeep
          clear hK K
          try simp only [Act.put, List.setIfInBounds_toArray, List.set_cons_zero, List.set_cons_succ]
          refine wpAnyH_take (i := 16) (oi := { dst := some 141, op := Op.pick (Operand.tmp 139) (Operand.tmp 140) (Operand.const (Value.bool false)), type := 4, pos := "law.go:89", after := #[{ on := 14, ground := Ground.data }, { on := 15, ground := Ground.data }], guard := none }) (v := ?_) rfl (by kernel_rfl) (by kernel_rfl) (by kernel_rfl) (fun _ _ _ h => h) (Or.inl ⟨by kernel_rfl, ?_⟩) (by assumption) ?_; rotate_left; (focus (intro w hSw; (try dsimp only at hSw); go_simp; all_goals (with_reducible rfl)))
          try simp only [Act.put, List.setIfInBounds_toArray, List.set_cons_zero, List.set_cons_succ]
          refine wpAnyH_ready (rs := [17]) (by kernel_rfl) (by simp) ?_
          refine AllReadyH.cons (o := { dst := none, op := Op.store 4 (Operand.tmp 6) (Operand.tmp 141), type := 0, pos := "law.go:89", after := #[{ on := 16, ground := Ground.data }, { on := 15, ground := Ground.chain }, { on := 0, ground := Ground.phase }, { on := 1, ground := Ground.phase }, { on := 2, ground := Ground.phase }, { on := 3, ground := Ground.phase }, { on := 4, ground := Ground.phase }, { on := 5, ground := Ground.phase }, { on := 6, ground := Ground.phase }, { on := 7, ground := Ground.phase }, { on := 8, ground := Ground.phase }, { on := 9, ground := Ground.phase }, { on := 10, ground := Ground.phase }, { on := 11, ground := Ground.phase }, { on := 12, ground := Ground.phase }, { on := 13, ground := Ground.phase }, { on := 14, ground := Ground.phase }, { on := 15, ground := Ground.phase }, { on := 16, ground := Ground.phase }], guard := none }) rfl (fun K hK => ?_) AllReadyH.nil
          go_simp
          have HA8 := Lib.hid (HA9.out.other hq1.symm (.bool true))
          have HM8 := Lib.hid (HM9.out.other (by omega) (.bool true) : Boxed (w9.setCell ⟨w.heap.size + 1, 0, none⟩ (.bool true)) (wc.heap.size + 1 + 1) _ _)
          have HW8 := Lib.hid (HW9.out.other (by omega) (.bool true) : Boxed (w9.setCell ⟨w.heap.size + 1, 0, none⟩ (.bool true)) w.heap.size _ _)
          have kx8 : (w9.setCell ⟨w.heap.size + 1, 0, none⟩ (.bool true)).cell? ⟨w.heap.size + 1 + 1 + 1 + 1, 0, none⟩ = some (.pointer (some ⟨w.heap.size + 1 + 1 + 1, 0, none⟩)) ∧ (w9.setCell ⟨w.heap.size + 1, 0, none⟩ (.bool true)).cell? ⟨w.heap.size + 1 + 1 + 1, 0, none⟩ = some (.slice ar ps.length cr) := ⟨(World.cell?_of_block (Below.heap_setCell w9 ⟨w.heap.size + 1, 0, none⟩ (.bool true) (w.heap.size + 1 + 1 + 1 + 1) (by show _ ≠ w.heap.size + 1; omega))).trans (HRD.out w9 HXK.out).1, (World.cell?_of_block (Below.heap_setCell w9 ⟨w.heap.size + 1, 0, none⟩ (.bool true) (w.heap.size + 1 + 1 + 1) (by show _ ≠ w.heap.size + 1; omega))).trans (HRD.out w9 HXK.out).2⟩
          have hKeep := And.intro HA8.out.cell (And.intro kx8.1 kx8.2)
          refine hK.out _ _ ?_ (fun hHeld => ?_)
          · exact hKeep
          clear hK K
          try simp only [Act.put, List.setIfInBounds_toArray, List.set_cons_zero, List.set_cons_succ]
          refine wpAnyH_done (by kernel_rfl) ?_ _
          go_wp2_with fail
          have hK9 := HK9.out
          refine ⟨by simp, .inl ⟨_, _, rfl, run_takeDeferred hK9, ?_⟩⟩
          have hc9 : (((w9.setCell ⟨w.heap.size + 1, 0, none⟩ (.bool true)).putObj D (.deferred none)).cell? ⟨w.heap.size + 1, 0, none⟩) = some (.bool true) :=
            (World.cell?_of_block (World.putObj_heap_other (k := w.heap.size + 1) (by omega))).trans HR9.out.cell
          refine ⟨.bool true, ?_, rfl, ?_⟩
          · simp [results, Try.f4, go_sem, hc9]
          · exact HB9.out.trans (belowK_b (w := w) (Nat.le_refl _) _ D _ _ (by omega) hK9 rfl rfl)
        case stop =>
          clear ba bm bp bk hW
          rintro D c pre W hD hpre hix hK
          rw [HFL.out] at hpre
          rcases hix with ⟨rfl, ⟨hpre, hlm⟩, hat, hmn, hB⟩ | hbad
          case inr => exact absurd hpre hbad
          have hqle : pos ps key + pre.length ≤ ps.length := by
            have := hpre.length_le
            rw [List.length_drop] at this
            omega
          obtain ⟨q, hq⟩ : ∃ q, pos ps key + pre.length = q := ⟨_, rfl⟩
          rw [hq] at hat hqle
          rw [hlm] at hmn
          refine wpIn_wide.2 ?_
          have hbd : Below wq.heap.size wq W.drew := hB.trans (below_d.mono hB.size)
          obtain ⟨e1, e2⟩ := HRD.out _ hbd
          have HMD := Lib.hid (show Boxed W.drew (wc.heap.size + 1 + 1) 3 (.int .i64 (limW want : Nat)) from hmn)
          have HAD := Lib.hid (show Boxed W.drew wq.heap.size 3 (.int .i64 (q : Nat)) from hat)
          have HRB := Lib.hid (boxed_later HF.out.b1 hbd)
          have HWB := Lib.hid (boxed_later HF.out.b0 hbd)
          have HKD := Lib.hid (show W.drew.heap[D]? = some (.deferred (some [])) from hK)
          have HBW := Lib.hid hbd
          have hl1 := HF.out.b1.lt
          have hq1 : w.heap.size + 1 ≠ wq.heap.size := by omega
          clear hat hmn hB hK hbd hpre
          have hww : IntKind.i64.wrap (want : Int) = (want : Int) := by rw [IntKind.wrap_i64]; omega
          have HWW := Lib.hid hww
          have HMAX : Hid ((if (1 : Int) < (want : Int) then (want : Int) else 1) = (limW want : Int)) := by show (if (1 : Int) < (want : Int) then (want : Int) else 1) = (limW want : Int); unfold limW; split <;> split <;> omega
          clear hww
          generalize limW want = lw at *
          by_cases hqe : q = ps.length
          · subst hqe
            have hStart := And.intro HAD.out.cell (And.intro e1 e2)
            go_upto_region 28 with fail
            refine wp_region_held_drew (S := fun w' => w'.cell? ⟨wq.heap.size, 0, none⟩ = some (.int .i64 (ps.length : Nat)) ∧ w'.cell? ⟨w.heap.size + 1 + 1 + 1 + 1, 0, none⟩ = some (.pointer (some ⟨w.heap.size + 1 + 1 + 1, 0, none⟩)) ∧ w'.cell? ⟨w.heap.size + 1 + 1 + 1, 0, none⟩ = some (.slice ar ps.length cr)) (by kernel_rfl) (hStart) (fun hHeld => ?_)
            refine wpAnyH_take (i := 0) (oi := { dst := some 125, op := Op.load 3 (Operand.tmp 10), type := 3, pos := "law.go:89", after := #[], guard := none }) (v := ?_) rfl (by kernel_rfl) (by kernel_rfl) (by kernel_rfl) (fun _ _ _ h => h) (Or.inl ⟨by kernel_rfl, ?_⟩) (by assumption) ?_; rotate_left; (focus (intro w hSw; (try dsimp only at hSw); go_simp; all_goals (with_reducible rfl)))
            try simp only [Act.put, List.setIfInBounds_toArray, List.set_cons_zero, List.set_cons_succ]
            refine wpAnyH_take (i := 1) (oi := { dst := some 126, op := Op.load 28 (Operand.tmp 8), type := 28, pos := "law.go:89", after := #[], guard := none }) (v := ?_) rfl (by kernel_rfl) (by kernel_rfl) (by kernel_rfl) (fun _ _ _ h => h) (Or.inl ⟨by kernel_rfl, ?_⟩) (by assumption) ?_; rotate_left; (focus (intro w hSw; (try dsimp only at hSw); go_simp; all_goals (with_reducible rfl)))
            try simp only [Act.put, List.setIfInBounds_toArray, List.set_cons_zero, List.set_cons_succ]
            refine wpAnyH_take (i := 2) (oi := { dst := some 127, op := Op.nilCheck (Operand.tmp 126), type := 0, pos := "law.go:89", after := #[{ on := 1, ground := Ground.data }], guard := none }) (v := ?_) rfl (by kernel_rfl) (by kernel_rfl) (by kernel_rfl) (fun _ _ _ h => h) (Or.inl ⟨by kernel_rfl, ?_⟩) (by assumption) ?_; rotate_left; (focus (intro w hSw; (try dsimp only at hSw); go_simp; all_goals (with_reducible rfl)))
            try simp only [Act.put, List.setIfInBounds_toArray, List.set_cons_zero, List.set_cons_succ]
            refine wpAnyH_take (i := 3) (oi := { dst := some 128, op := Op.fieldAddr 31 (Operand.tmp 127) 0, type := 0, pos := "law.go:89", after := #[{ on := 2, ground := Ground.data }], guard := none }) (v := ?_) rfl (by kernel_rfl) (by kernel_rfl) (by kernel_rfl) (fun _ _ _ h => h) (Or.inl ⟨by kernel_rfl, ?_⟩) (by assumption) ?_; rotate_left; (focus (intro w hSw; (try dsimp only at hSw); go_simp; all_goals (with_reducible rfl)))
            try simp only [Act.put, List.setIfInBounds_toArray, List.set_cons_zero, List.set_cons_succ]
            refine wpAnyH_take (i := 4) (oi := { dst := some 129, op := Op.load 29 (Operand.tmp 128), type := 29, pos := "law.go:89", after := #[{ on := 3, ground := Ground.data }], guard := none }) (v := ?_) rfl (by kernel_rfl) (by kernel_rfl) (by kernel_rfl) (fun _ _ _ h => h) (Or.inl ⟨by kernel_rfl, ?_⟩) (by assumption) ?_; rotate_left; (focus (intro w hSw; (try dsimp only at hSw); go_simp; all_goals (with_reducible rfl)))
            try simp only [Act.put, List.setIfInBounds_toArray, List.set_cons_zero, List.set_cons_succ]
            refine wpAnyH_take (i := 5) (oi := { dst := some 130, op := Op.call { callee := Callee.builtin Builtin.len, args := #[Operand.tmp 129], argTypes := #[29] }, type := 3, pos := "law.go:89", after := #[{ on := 4, ground := Ground.data }], guard := none }) (v := ?_) rfl (by kernel_rfl) (by kernel_rfl) (by kernel_rfl) (fun _ _ _ h => h) (Or.inl ⟨by kernel_rfl, ?_⟩) (by assumption) ?_; rotate_left; (focus (intro w hSw; (try dsimp only at hSw); go_simp; all_goals (with_reducible rfl)))
            try simp only [Act.put, List.setIfInBounds_toArray, List.set_cons_zero, List.set_cons_succ]
            refine wpAnyH_take (i := 6) (oi := { dst := some 131, op := Op.binOp BinOp.eql 3 (Operand.tmp 125) (Operand.tmp 130) 3, type := 4, pos := "law.go:89", after := #[{ on := 0, ground := Ground.data }, { on := 5, ground := Ground.data }], guard := none }) (v := .bool true) rfl (by kernel_rfl) (by kernel_rfl) (by kernel_rfl) (fun _ _ _ h => h) (Or.inl ⟨by kernel_rfl, ?_⟩) (by assumption) ?_; focus (intro w hSw; (try dsimp only at hSw); go_simp; first | done | omega | (simp; omega))
            try simp only [Act.put, List.setIfInBounds_toArray, List.set_cons_zero, List.set_cons_succ]
            refine wpAnyH_take (i := 7) (oi := { dst := some 132, op := Op.move (Operand.tmp 131), type := 4, pos := "law.go:89", after := #[{ on := 6, ground := Ground.data }], guard := none }) (v := ?_) rfl (by kernel_rfl) (by kernel_rfl) (by kernel_rfl) (fun _ _ _ h => h) (Or.inl ⟨by kernel_rfl, ?_⟩) (by assumption) ?_; rotate_left; (focus (intro w hSw; (try dsimp only at hSw); go_simp; all_goals (with_reducible rfl)))
            try simp only [Act.put, List.setIfInBounds_toArray, List.set_cons_zero, List.set_cons_succ]
            refine wpAnyH_take (i := 8) (oi := { dst := some 133, op := Op.load 3 (Operand.tmp 12), type := 3, pos := "law.go:89", after := #[{ on := 7, ground := Ground.guard }], guard := some (7, false) }) (v := undef) rfl (by kernel_rfl) (by kernel_rfl) (by kernel_rfl) (fun _ _ _ h => h) (Or.inr ⟨by kernel_rfl, rfl⟩) (by assumption) ?_
            try simp only [Act.put, List.setIfInBounds_toArray, List.set_cons_zero, List.set_cons_succ]
            refine wpAnyH_take (i := 9) (oi := { dst := some 134, op := Op.load 5 (Operand.tmp 5), type := 5, pos := "law.go:89", after := #[{ on := 7, ground := Ground.guard }], guard := some (7, false) }) (v := undef) rfl (by kernel_rfl) (by kernel_rfl) (by kernel_rfl) (fun _ _ _ h => h) (Or.inr ⟨by kernel_rfl, rfl⟩) (by assumption) ?_
            try simp only [Act.put, List.setIfInBounds_toArray, List.set_cons_zero, List.set_cons_succ]
            refine wpAnyH_take (i := 10) (oi := { dst := some 135, op := Op.convert 5 3 (Operand.tmp 134), type := 3, pos := "law.go:89", after := #[{ on := 9, ground := Ground.data }, { on := 7, ground := Ground.guard }], guard := some (7, false) }) (v := undef) rfl (by kernel_rfl) (by kernel_rfl) (by kernel_rfl) (fun _ _ _ h => h) (Or.inr ⟨by kernel_rfl, rfl⟩) (by assumption) ?_
            try simp only [Act.put, List.setIfInBounds_toArray, List.set_cons_zero, List.set_cons_succ]
            refine wpAnyH_take (i := 11) (oi := { dst := some 136, op := Op.call { callee := Callee.builtin Builtin.max, args := #[Operand.const (Value.int IntKind.i64 1), Operand.tmp 135], argTypes := #[3, 3] }, type := 3, pos := "law.go:89", after := #[{ on := 10, ground := Ground.data }, { on := 7, ground := Ground.guard }], guard := some (7, false) }) (v := undef) rfl (by kernel_rfl) (by kernel_rfl) (by kernel_rfl) (fun _ _ _ h => h) (Or.inr ⟨by kernel_rfl, rfl⟩) (by assumption) ?_
            try simp only [Act.put, List.setIfInBounds_toArray, List.set_cons_zero, List.set_cons_succ]
            refine wpAnyH_take (i := 12) (oi := { dst := some 137, op := Op.binOp BinOp.eql 3 (Operand.tmp 133) (Operand.tmp 136) 3, type := 4, pos := "law.go:89", after := #[{ on := 8, ground := Ground.data }, { on := 11, ground := Ground.data }, { on := 7, ground := Ground.guard }], guard := some (7, false) }) (v := undef) rfl (by kernel_rfl) (by kernel_rfl) (by kernel_rfl) (fun _ _ _ h => h) (Or.inr ⟨by kernel_rfl, rfl⟩) (by assumption) ?_
            try simp only [Act.put, List.setIfInBounds_toArray, List.set_cons_zero, List.set_cons_succ]
            refine wpAnyH_take (i := 13) (oi := { dst := some 138, op := Op.pick (Operand.tmp 132) (Operand.const (Value.bool true)) (Operand.tmp 137), type := 4, pos := "law.go:89", after := #[{ on := 7, ground := Ground.data }, { on := 12, ground := Ground.data }], guard := none }) (v := ?_) rfl (by kernel_rfl) (by kernel_rfl) (by kernel_rfl) (fun _ _ _ h => h) (Or.inl ⟨by kernel_rfl, ?_⟩) (by assumption) ?_; rotate_left; (focus (intro w hSw; (try dsimp only at hSw); go_simp; all_goals (with_reducible rfl)))
            try simp only [Act.put, List.setIfInBounds_toArray, List.set_cons_zero, List.set_cons_succ]
            refine wpAnyH_take (i := 14) (oi := { dst := some 139, op := Op.move (Operand.tmp 138), type := 4, pos := "law.go:89", after := #[{ on := 13, ground := Ground.data }, { on := 7, ground := Ground.chain }], guard := none }) (v := ?_) rfl (by kernel_rfl) (by kernel_rfl) (by kernel_rfl) (fun _ _ _ h => h) (Or.inl ⟨by kernel_rfl, ?_⟩) (by assumption) ?_; rotate_left; (focus (intro w hSw; (try dsimp only at hSw); go_simp; all_goals (with_reducible rfl)))
            try simp only [Act.put, List.setIfInBounds_toArray, List.set_cons_zero, List.set_cons_succ]
            refine wpAnyH_ready (rs := [15]) (by kernel_rfl) (by simp) ?_
            refine AllReadyH.cons (o := { dst := some 140, op := Op.call { callee := Callee.value (Operand.func 6), args := #[], argTypes := #[] }, type := 4, pos := "law.go:89", after := #[{ on := 14, ground := Ground.chain }, { on := 14, ground := Ground.guard }], guard := some (14, true) }) rfl (fun K hK => ?_) AllReadyH.nil
            go_simp
            refine (awake_any _).mono ?_
            rintro e w9 ⟨rfl, hb9⟩
            have hbw9 : Below wq.heap.size wq w9 := HBW.out.trans (hb9.mono HBW.out.size)
            have kx9 := HRD.out w9 hbw9
            have HA9 := Lib.hid (boxed_later HAD.out hb9)
            have HM9 := Lib.hid (boxed_later HMD.out hb9)
            have HW9 := Lib.hid (boxed_later HWB.out hb9)
            have hr9 := boxed_later HRB.out hb9
            have crr := hr9.cell
            have frr := hr9.frozen
            have HR9 := Lib.hid (hr9.set (.bool true))
            have HK9 := Lib.hid ((Below.heap_setCell w9 ⟨w.heap.size + 1, 0, none⟩ (.bool true) D (by show D ≠ w.heap.size + 1; omega)).trans ((hb9.block D (Array.getElem?_eq_some_iff.1 HKD.out).1).trans HKD.out))
            have HB9 := Lib.hid ((HF.out.below.trans (hbw9.mono HF.out.below.size)).setCell (p := ⟨w.heap.size + 1, 0, none⟩) (by show w.heap.size ≤ w.heap.size + 1; omega) (.bool true))
            have HX9 := Lib.hid (And.intro HF.out.b4.lt HF.out.rm.lt)
            have HXK := Lib.hid hbw9
            have hKeep := And.intro HA9.out.cell (And.intro kx9.1 kx9.2)
            clear hb9 hr9 hbw9
            go_wp2_with fail
            refine hK.out _ _ ?_ (fun hHeld => ?_)
            · exact hKeep
            clear hK K
            try simp only [Act.put, List.setIfInBounds_toArray, List.set_cons_zero, List.set_cons_succ]
            refine wpAnyH_take (i := 16) (oi := { dst := some 141, op := Op.pick (Operand.tmp 139) (Operand.tmp 140) (Operand.const (Value.bool false)), type := 4, pos := "law.go:89", after := #[{ on := 14, ground := Ground.data }, { on := 15, ground := Ground.data }], guard := none }) (v := ?_) rfl (by kernel_rfl) (by kernel_rfl) (by kernel_rfl) (fun _ _ _ h => h) (Or.inl ⟨by kernel_rfl, ?_⟩) (by assumption) ?_; rotate_left; (focus (intro w hSw; (try dsimp only at hSw); go_simp; all_goals (with_reducible rfl)))
            try simp only [Act.put, List.setIfInBounds_toArray, List.set_cons_zero, List.set_cons_succ]
            refine wpAnyH_ready (rs := [17]) (by kernel_rfl) (by simp) ?_
            refine AllReadyH.cons (o := { dst := none, op := Op.store 4 (Operand.tmp 6) (Operand.tmp 141), type := 0, pos := "law.go:89", after := #[{ on := 16, ground := Ground.data }, { on := 15, ground := Ground.chain }, { on := 0, ground := Ground.phase }, { on := 1, ground := Ground.phase }, { on := 2, ground := Ground.phase }, { on := 3, ground := Ground.phase }, { on := 4, ground := Ground.phase }, { on := 5, ground := Ground.phase }, { on := 6, ground := Ground.phase }, { on := 7, ground := Ground.phase }, { on := 8, ground := Ground.phase }, { on := 9, ground := Ground.phase }, { on := 10, ground := Ground.phase }, { on := 11, ground := Ground.phase }, { on := 12, ground := Ground.phase }, { on := 13, ground := Ground.phase }, { on := 14, ground := Ground.phase }, { on := 15, ground := Ground.phase }, { on := 16, ground := Ground.phase }], guard := none }) rfl (fun K hK => ?_) AllReadyH.nil
            go_simp
            have HA8 := Lib.hid (HA9.out.other hq1.symm (.bool true))
            have HM8 := Lib.hid (HM9.out.other (by omega) (.bool true) : Boxed (w9.setCell ⟨w.heap.size + 1, 0, none⟩ (.bool true)) (wc.heap.size + 1 + 1) _ _)
            have HW8 := Lib.hid (HW9.out.other (by omega) (.bool true) : Boxed (w9.setCell ⟨w.heap.size + 1, 0, none⟩ (.bool true)) w.heap.size _ _)
            have kx8 : (w9.setCell ⟨w.heap.size + 1, 0, none⟩ (.bool true)).cell? ⟨w.heap.size + 1 + 1 + 1 + 1, 0, none⟩ = some (.pointer (some ⟨w.heap.size + 1 + 1 + 1, 0, none⟩)) ∧ (w9.setCell ⟨w.heap.size + 1, 0, none⟩ (.bool true)).cell? ⟨w.heap.size + 1 + 1 + 1, 0, none⟩ = some (.slice ar ps.length cr) := ⟨(World.cell?_of_block (Below.heap_setCell w9 ⟨w.heap.size + 1, 0, none⟩ (.bool true) (w.heap.size + 1 + 1 + 1 + 1) (by show _ ≠ w.heap.size + 1; omega))).trans (HRD.out w9 HXK.out).1, (World.cell?_of_block (Below.heap_setCell w9 ⟨w.heap.size + 1, 0, none⟩ (.bool true) (w.heap.size + 1 + 1 + 1) (by show _ ≠ w.heap.size + 1; omega))).trans (HRD.out w9 HXK.out).2⟩
            have hKeep := And.intro HA8.out.cell (And.intro kx8.1 kx8.2)
            refine hK.out _ _ ?_ (fun hHeld => ?_)
            · exact hKeep
            clear hK K
            try simp only [Act.put, List.setIfInBounds_toArray, List.set_cons_zero, List.set_cons_succ]
            refine wpAnyH_done (by kernel_rfl) ?_ _
            go_wp2_with fail
            have hK9 := HK9.out
            refine ⟨by simp, .inl ⟨_, _, rfl, run_takeDeferred hK9, ?_⟩⟩
            have hc9 : (((w9.setCell ⟨w.heap.size + 1, 0, none⟩ (.bool true)).putObj D (.deferred none)).cell? ⟨w.heap.size + 1, 0, none⟩) = some (.bool true) :=
              (World.cell?_of_block (World.putObj_heap_other (k := w.heap.size + 1) (by omega))).trans HR9.out.cell
            refine ⟨.bool true, ?_, rfl, ?_⟩
            · simp [results, Try.f4, go_sem, hc9]
            · exact HB9.out.trans (belowK_b (w := w) (Nat.le_refl _) _ D _ _ (by omega) hK9 rfl rfl)
          · have hqn : ¬ ((q : Int) = (ps.length : Int)) := by omega
            have hStart := And.intro HAD.out.cell (And.intro e1 (And.intro e2 (And.intro HMD.out.cell HWB.out.cell)))
            go_upto_region 28 with fail
            refine wp_region_held_drew (S := fun w' => w'.cell? ⟨wq.heap.size, 0, none⟩ = some (.int .i64 (q : Nat)) ∧ w'.cell? ⟨w.heap.size + 1 + 1 + 1 + 1, 0, none⟩ = some (.pointer (some ⟨w.heap.size + 1 + 1 + 1, 0, none⟩)) ∧ w'.cell? ⟨w.heap.size + 1 + 1 + 1, 0, none⟩ = some (.slice ar ps.length cr) ∧ w'.cell? ⟨wc.heap.size + 1 + 1, 0, none⟩ = some (.int .i64 (lw : Nat)) ∧ w'.cell? ⟨w.heap.size, 0, none⟩ = some (.int .u8 want)) (by kernel_rfl) (hStart) (fun hHeld => ?_)
            refine wpAnyH_take (i := 0) (oi := { dst := some 125, op := Op.load 3 (Operand.tmp 10), type := 3, pos := "law.go:89", after := #[], guard := none }) (v := ?_) rfl (by kernel_rfl) (by kernel_rfl) (by kernel_rfl) (fun _ _ _ h => h) (Or.inl ⟨by kernel_rfl, ?_⟩) (by assumption) ?_; rotate_left; (focus (intro w hSw; (try dsimp only at hSw); go_simp; all_goals (with_reducible rfl)))
            try simp only [Act.put, List.setIfInBounds_toArray, List.set_cons_zero, List.set_cons_succ]
            refine wpAnyH_take (i := 1) (oi := { dst := some 126, op := Op.load 28 (Operand.tmp 8), type := 28, pos := "law.go:89", after := #[], guard := none }) (v := ?_) rfl (by kernel_rfl) (by kernel_rfl) (by kernel_rfl) (fun _ _ _ h => h) (Or.inl ⟨by kernel_rfl, ?_⟩) (by assumption) ?_; rotate_left; (focus (intro w hSw; (try dsimp only at hSw); go_simp; all_goals (with_reducible rfl)))
            try simp only [Act.put, List.setIfInBounds_toArray, List.set_cons_zero, List.set_cons_succ]
            refine wpAnyH_take (i := 2) (oi := { dst := some 127, op := Op.nilCheck (Operand.tmp 126), type := 0, pos := "law.go:89", after := #[{ on := 1, ground := Ground.data }], guard := none }) (v := ?_) rfl (by kernel_rfl) (by kernel_rfl) (by kernel_rfl) (fun _ _ _ h => h) (Or.inl ⟨by kernel_rfl, ?_⟩) (by assumption) ?_; rotate_left; (focus (intro w hSw; (try dsimp only at hSw); go_simp; all_goals (with_reducible rfl)))
            try simp only [Act.put, List.setIfInBounds_toArray, List.set_cons_zero, List.set_cons_succ]
            refine wpAnyH_take (i := 3) (oi := { dst := some 128, op := Op.fieldAddr 31 (Operand.tmp 127) 0, type := 0, pos := "law.go:89", after := #[{ on := 2, ground := Ground.data }], guard := none }) (v := ?_) rfl (by kernel_rfl) (by kernel_rfl) (by kernel_rfl) (fun _ _ _ h => h) (Or.inl ⟨by kernel_rfl, ?_⟩) (by assumption) ?_; rotate_left; (focus (intro w hSw; (try dsimp only at hSw); go_simp; all_goals (with_reducible rfl)))
            try simp only [Act.put, List.setIfInBounds_toArray, List.set_cons_zero, List.set_cons_succ]
            refine wpAnyH_take (i := 4) (oi := { dst := some 129, op := Op.load 29 (Operand.tmp 128), type := 29, pos := "law.go:89", after := #[{ on := 3, ground := Ground.data }], guard := none }) (v := ?_) rfl (by kernel_rfl) (by kernel_rfl) (by kernel_rfl) (fun _ _ _ h => h) (Or.inl ⟨by kernel_rfl, ?_⟩) (by assumption) ?_; rotate_left; (focus (intro w hSw; (try dsimp only at hSw); go_simp; all_goals (with_reducible rfl)))
            try simp only [Act.put, List.setIfInBounds_toArray, List.set_cons_zero, List.set_cons_succ]
            refine wpAnyH_take (i := 5) (oi := { dst := some 130, op := Op.call { callee := Callee.builtin Builtin.len, args := #[Operand.tmp 129], argTypes := #[29] }, type := 3, pos := "law.go:89", after := #[{ on := 4, ground := Ground.data }], guard := none }) (v := ?_) rfl (by kernel_rfl) (by kernel_rfl) (by kernel_rfl) (fun _ _ _ h => h) (Or.inl ⟨by kernel_rfl, ?_⟩) (by assumption) ?_; rotate_left; (focus (intro w hSw; (try dsimp only at hSw); go_simp; all_goals (with_reducible rfl)))
            try simp only [Act.put, List.setIfInBounds_toArray, List.set_cons_zero, List.set_cons_succ]
            refine wpAnyH_take (i := 6) (oi := { dst := some 131, op := Op.binOp BinOp.eql 3 (Operand.tmp 125) (Operand.tmp 130) 3, type := 4, pos := "law.go:89", after := #[{ on := 0, ground := Ground.data }, { on := 5, ground := Ground.data }], guard := none }) (v := .bool false) rfl (by kernel_rfl) (by kernel_rfl) (by kernel_rfl) (fun _ _ _ h => h) (Or.inl ⟨by kernel_rfl, ?_⟩) (by assumption) ?_; focus (intro w hSw; (try dsimp only at hSw); go_simp; first | done | omega | (simp; omega))
            try simp only [Act.put, List.setIfInBounds_toArray, List.set_cons_zero, List.set_cons_succ]
            refine wpAnyH_take (i := 7) (oi := { dst := some 132, op := Op.move (Operand.tmp 131), type := 4, pos := "law.go:89", after := #[{ on := 6, ground := Ground.data }], guard := none }) (v := ?_) rfl (by kernel_rfl) (by kernel_rfl) (by kernel_rfl) (fun _ _ _ h => h) (Or.inl ⟨by kernel_rfl, ?_⟩) (by assumption) ?_; rotate_left; (focus (intro w hSw; (try dsimp only at hSw); go_simp; all_goals (with_reducible rfl)))
            try simp only [Act.put, List.setIfInBounds_toArray, List.set_cons_zero, List.set_cons_succ]
            refine wpAnyH_take (i := 8) (oi := { dst := some 133, op := Op.load 3 (Operand.tmp 12), type := 3, pos := "law.go:89", after := #[{ on := 7, ground := Ground.guard }], guard := some (7, false) }) (v := ?_) rfl (by kernel_rfl) (by kernel_rfl) (by kernel_rfl) (fun _ _ _ h => h) (Or.inl ⟨by kernel_rfl, ?_⟩) (by assumption) ?_; rotate_left; (focus (intro w hSw; (try dsimp only at hSw); go_simp; all_goals (with_reducible rfl)))
            try simp only [Act.put, List.setIfInBounds_toArray, List.set_cons_zero, List.set_cons_succ]
            refine wpAnyH_take (i := 9) (oi := { dst := some 134, op := Op.load 5 (Operand.tmp 5), type := 5, pos := "law.go:89", after := #[{ on := 7, ground := Ground.guard }], guard := some (7, false) }) (v := ?_) rfl (by kernel_rfl) (by kernel_rfl) (by kernel_rfl) (fun _ _ _ h => h) (Or.inl ⟨by kernel_rfl, ?_⟩) (by assumption) ?_; rotate_left; (focus (intro w hSw; (try dsimp only at hSw); go_simp; all_goals (with_reducible rfl)))
            try simp only [Act.put, List.setIfInBounds_toArray, List.set_cons_zero, List.set_cons_succ]
            refine wpAnyH_take (i := 10) (oi := { dst := some 135, op := Op.convert 5 3 (Operand.tmp 134), type := 3, pos := "law.go:89", after := #[{ on := 9, ground := Ground.data }, { on := 7, ground := Ground.guard }], guard := some (7, false) }) (v := .int .i64 (want : Int)) rfl (by kernel_rfl) (by kernel_rfl) (by kernel_rfl) (fun _ _ _ h => h) (Or.inl ⟨by kernel_rfl, ?_⟩) (by assumption) ?_; focus (intro w hSw; (try dsimp only at hSw); go_simp; rw [HWW.out])
            try simp only [Act.put, List.setIfInBounds_toArray, List.set_cons_zero, List.set_cons_succ]
            refine wpAnyH_take (i := 11) (oi := { dst := some 136, op := Op.call { callee := Callee.builtin Builtin.max, args := #[Operand.const (Value.int IntKind.i64 1), Operand.tmp 135], argTypes := #[3, 3] }, type := 3, pos := "law.go:89", after := #[{ on := 10, ground := Ground.data }, { on := 7, ground := Ground.guard }], guard := some (7, false) }) (v := .int .i64 (lw : Int)) rfl (by kernel_rfl) (by kernel_rfl) (by kernel_rfl) (fun _ _ _ h => h) (Or.inl ⟨by kernel_rfl, ?_⟩) (by assumption) ?_; focus (intro w hSw; (try dsimp only at hSw); go_simp; rw [HMAX.out])
            try simp only [Act.put, List.setIfInBounds_toArray, List.set_cons_zero, List.set_cons_succ]
            refine wpAnyH_take (i := 12) (oi := { dst := some 137, op := Op.binOp BinOp.eql 3 (Operand.tmp 133) (Operand.tmp 136) 3, type := 4, pos := "law.go:89", after := #[{ on := 8, ground := Ground.data }, { on := 11, ground := Ground.data }, { on := 7, ground := Ground.guard }], guard := some (7, false) }) (v := .bool true) rfl (by kernel_rfl) (by kernel_rfl) (by kernel_rfl) (fun _ _ _ h => h) (Or.inl ⟨by kernel_rfl, ?_⟩) (by assumption) ?_; focus (intro w hSw; (try dsimp only at hSw); go_simp; first | done | omega | (simp; omega))
            try simp only [Act.put, List.setIfInBounds_toArray, List.set_cons_zero, List.set_cons_succ]
            refine wpAnyH_take (i := 13) (oi := { dst := some 138, op := Op.pick (Operand.tmp 132) (Operand.const (Value.bool true)) (Operand.tmp 137), type := 4, pos := "law.go:89", after := #[{ on := 7, ground := Ground.data }, { on := 12, ground := Ground.data }], guard := none }) (v := ?_) rfl (by kernel_rfl) (by kernel_rfl) (by kernel_rfl) (fun _ _ _ h => h) (Or.inl ⟨by kernel_rfl, ?_⟩) (by assumption) ?_; rotate_left; (focus (intro w hSw; (try dsimp only at hSw); go_simp; all_goals (with_reducible rfl)))
            try simp only [Act.put, List.setIfInBounds_toArray, List.set_cons_zero, List.set_cons_succ]
            refine wpAnyH_take (i := 14) (oi := { dst := some 139, op := Op.move (Operand.tmp 138), type := 4, pos := "law.go:89", after := #[{ on := 13, ground := Ground.data }, { on := 7, ground := Ground.chain }], guard := none }) (v := ?_) rfl (by kernel_rfl) (by kernel_rfl) (by kernel_rfl) (fun _ _ _ h => h) (Or.inl ⟨by kernel_rfl, ?_⟩) (by assumption) ?_; rotate_left; (focus (intro w hSw; (try dsimp only at hSw); go_simp; all_goals (with_reducible rfl)))
            try simp only [Act.put, List.setIfInBounds_toArray, List.set_cons_zero, List.set_cons_succ]
            refine wpAnyH_ready (rs := [15]) (by kernel_rfl) (by simp) ?_
            refine AllReadyH.cons (o := { dst := some 140, op := Op.call { callee := Callee.value (Operand.func 6), args := #[], argTypes := #[] }, type := 4, pos := "law.go:89", after := #[{ on := 14, ground := Ground.chain }, { on := 14, ground := Ground.guard }], guard := some (14, true) }) rfl (fun K hK => ?_) AllReadyH.nil
            go_simp
            refine (awake_any _).mono ?_
            rintro e w9 ⟨rfl, hb9⟩
            have hbw9 : Below wq.heap.size wq w9 := HBW.out.trans (hb9.mono HBW.out.size)
            have kx9 := HRD.out w9 hbw9
            have HA9 := Lib.hid (boxed_later HAD.out hb9)
            have HM9 := Lib.hid (boxed_later HMD.out hb9)
            have HW9 := Lib.hid (boxed_later HWB.out hb9)
            have hr9 := boxed_later HRB.out hb9
            have crr := hr9.cell
            have frr := hr9.frozen
            have HR9 := Lib.hid (hr9.set (.bool true))
            have HK9 := Lib.hid ((Below.heap_setCell w9 ⟨w.heap.size + 1, 0, none⟩ (.bool true) D (by show D ≠ w.heap.size + 1; omega)).trans ((hb9.block D (Array.getElem?_eq_some_iff.1 HKD.out).1).trans HKD.out))
            have HB9 := Lib.hid ((HF.out.below.trans (hbw9.mono HF.out.below.size)).setCell (p := ⟨w.heap.size + 1, 0, none⟩) (by show w.heap.size ≤ w.heap.size + 1; omega) (.bool true))
            have HX9 := Lib.hid (And.intro HF.out.b4.lt HF.out.rm.lt)
            have HXK := Lib.hid hbw9
            have hKeep := And.intro HA9.out.cell (And.intro kx9.1 (And.intro kx9.2 (And.intro HM9.out.cell HW9.out.cell)))
            clear hb9 hr9 hbw9
            go_wp2_with fail
            refine hK.out _ _ ?_ (fun hHeld => ?_)
            · exact hKeep
            clear hK K
            try simp only [Act.put, List.setIfInBounds_toArray, List.set_cons_zero, List.set_cons_succ]
            refine wpAnyH_take (i := 16) (oi := { dst := some 141, op := Op.pick (Operand.tmp 139) (Operand.tmp 140) (Operand.const (Value.bool false)), type := 4, pos := "law.go:89", after := #[{ on := 14, ground := Ground.data }, { on := 15, ground := Ground.data }], guard := none }) (v := ?_) rfl (by kernel_rfl) (by kernel_rfl) (by kernel_rfl) (fun _ _ _ h => h) (Or.inl ⟨by kernel_rfl, ?_⟩) (by assumption) ?_; rotate_left; (focus (intro w hSw; (try dsimp only at hSw); go_simp; all_goals (with_reducible rfl)))
            try simp only [Act.put, List.setIfInBounds_toArray, List.set_cons_zero, List.set_cons_succ]
            refine wpAnyH_ready (rs := [17]) (by kernel_rfl) (by simp) ?_
            refine AllReadyH.cons (o := { dst := none, op := Op.store 4 (Operand.tmp 6) (Operand.tmp 141), type := 0, pos := "law.go:89", after := #[{ on := 16, ground := Ground.data }, { on := 15, ground := Ground.chain }, { on := 0, ground := Ground.phase }, { on := 1, ground := Ground.phase }, { on := 2, ground := Ground.phase }, { on := 3, ground := Ground.phase }, { on := 4, ground := Ground.phase }, { on := 5, ground := Ground.phase }, { on := 6, ground := Ground.phase }, { on := 7, ground := Ground.phase }, { on := 8, ground := Ground.phase }, { on := 9, ground := Ground.phase }, { on := 10, ground := Ground.phase }, { on := 11, ground := Ground.phase }, { on := 12, ground := Ground.phase }, { on := 13, ground := Ground.phase }, { on := 14, ground := Ground.phase }, { on := 15, ground := Ground.phase }, { on := 16, ground := Ground.phase }], guard := none }) rfl (fun K hK => ?_) AllReadyH.nil
            go_simp
            have HA8 := Lib.hid (HA9.out.other hq1.symm (.bool true))
            have HM8 := Lib.hid (HM9.out.other (by omega) (.bool true) : Boxed (w9.setCell ⟨w.heap.size + 1, 0, none⟩ (.bool true)) (wc.heap.size + 1 + 1) _ _)
            have HW8 := Lib.hid (HW9.out.other (by omega) (.bool true) : Boxed (w9.setCell ⟨w.heap.size + 1, 0, none⟩ (.bool true)) w.heap.size _ _)
            have kx8 : (w9.setCell ⟨w.heap.size + 1, 0, none⟩ (.bool true)).cell? ⟨w.heap.size + 1 + 1 + 1 + 1, 0, none⟩ = some (.pointer (some ⟨w.heap.size + 1 + 1 + 1, 0, none⟩)) ∧ (w9.setCell ⟨w.heap.size + 1, 0, none⟩ (.bool true)).cell? ⟨w.heap.size + 1 + 1 + 1, 0, none⟩ = some (.slice ar ps.length cr) := ⟨(World.cell?_of_block (Below.heap_setCell w9 ⟨w.heap.size + 1, 0, none⟩ (.bool true) (w.heap.size + 1 + 1 + 1 + 1) (by show _ ≠ w.heap.size + 1; omega))).trans (HRD.out w9 HXK.out).1, (World.cell?_of_block (Below.heap_setCell w9 ⟨w.heap.size + 1, 0, none⟩ (.bool true) (w.heap.size + 1 + 1 + 1) (by show _ ≠ w.heap.size + 1; omega))).trans (HRD.out w9 HXK.out).2⟩
            have hKeep := And.intro HA8.out.cell (And.intro kx8.1 (And.intro kx8.2 (And.intro HM8.out.cell HW8.out.cell)))
            refine hK.out _ _ ?_ (fun hHeld => ?_)
            · exact hKeep
            clear hK K
            try simp only [Act.put, List.setIfInBounds_toArray, List.set_cons_zero, List.set_cons_succ]
            refine wpAnyH_done (by kernel_rfl) ?_ _
            go_wp2_with fail
            have hK9 := HK9.out
            refine ⟨by simp, .inl ⟨_, _, rfl, run_takeDeferred hK9, ?_⟩⟩
            have hc9 : (((w9.setCell ⟨w.heap.size + 1, 0, none⟩ (.bool true)).putObj D (.deferred none)).cell? ⟨w.heap.size + 1, 0, none⟩) = some (.bool true) :=
              (World.cell?_of_block (World.putObj_heap_other (k := w.heap.size + 1) (by omega))).trans HR9.out.cell
            refine ⟨.bool true, ?_, rfl, ?_⟩
            · simp [results, Try.f4, go_sem, hc9]
            · exact HB9.out.trans (belowK_b (w := w) (Nat.le_refl _) _ D _ _ (by omega) hK9 rfl rfl)
end Go.Proofs.Ythcofcpnhopnnaa.Av
