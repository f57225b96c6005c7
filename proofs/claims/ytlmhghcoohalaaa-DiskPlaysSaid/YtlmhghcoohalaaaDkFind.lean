/- Where a file stands: names held against one another, the search by halves, and what is told of it. -/
import Derived.Test.YtlmhghcoohalaaaDkFew
import Derived.Laws.Externs
namespace Go.Proofs.Ytlmhghcoohalaaa.Dk
open Go.RowKit

def cmp (a b : ByteArray) : Int := Lib.compareBytes a.data.toList b.data.toList
theorem cmp_bd (a b : ByteArray) : -1 ≤ cmp a b ∧ cmp a b ≤ 1 := by
  unfold cmp; rcases cmp_cases a.data.toList b.data.toList with ⟨_, h⟩ | ⟨_, h⟩ | ⟨_, h⟩ <;> rw [h] <;> omega
theorem cmp_pos {a b : ByteArray} : 0 < cmp a b ↔ lt b a := by
  unfold cmp lt
  rcases cmp_cases a.data.toList b.data.toList with ⟨h1, h⟩ | ⟨h1, h⟩ | ⟨h1, h⟩ <;> rw [h]
  · constructor
    · intro h; omega
    · intro h2; exact absurd (bl_trans _ _ _ h1 h2) (by rw [bl_irrefl]; simp)
  · rw [h1, bl_irrefl]; simp
  · simp [h1]
theorem cmp_zero {a b : ByteArray} : cmp a b = 0 ↔ b = a := by
  unfold cmp
  rcases cmp_cases a.data.toList b.data.toList with ⟨h1, h⟩ | ⟨h1, h⟩ | ⟨h1, h⟩ <;> rw [h]
  · refine ⟨fun h => by omega, fun e => ?_⟩
    subst e; rw [bl_irrefl] at h1; cases h1
  · exact ⟨fun _ => (ba_ext h1).symm, fun _ => rfl⟩
  · refine ⟨fun h => by omega, fun e => ?_⟩
    subst e; rw [bl_irrefl] at h1; cases h1

theorem cmps_any (a b : ByteArray) (w : World) :
    Calls Try.prog 59 #[.string a, .string b] w fun e w' => e = .returned (.int .i64 (cmp a b)) ∧ w = w' := by
  go_enter Try.func59, Try.ntmps59
  go_wp2
  rw [run_callFunc_extern Try.func63 (by kernel_rfl) (by kernel_rfl) (by kernel_rfl) (e := Extern.BytealgCompare.compare) (by kernel_rfl), Lib.run_compareString]
  simp only [Result.andThen]
  rw [Oper.upon_value]
  go_wp2
  go_ret
  exact ⟨rfl, rfl⟩
theorem compare_any (a b : ByteArray) (w : World) :
    Calls Try.prog 53 #[.string a, .string b] w fun e w' => e = .returned (.int .i64 (cmp a b)) ∧ w = w' := by
  go_enter Try.func53, Try.ntmps53
  go_wp2_with fail
  refine (cmps_any a b w).mono ?_
  rintro e w' ⟨rfl, rfl⟩
  go_wp2_with fail
  go_ret
  exact ⟨rfl, rfl⟩

/-- what the closure asks: the name, and the row of files, each in a block of its own -/
structure Asks (w : World) (base : Nat) (N Lb : Nat) (n : ByteArray) (v : Value) (L : List En) : Prop where
  name : w.cell? ⟨N, 0, none⟩ = some (.string n)
  row : w.cell? ⟨Lb, 0, none⟩ = some v
  own : w.ownsRow base 64 1 v L.length (L.map ptr)
  all : ∀ e ∈ L, Fl base w e
theorem Asks.drewN {w : World} {base N Lb : Nat} {n : ByteArray} {v : Value} {L : List En} (h : Asks w base N Lb n v L) (q : Nat) : Asks (w.drewN q) base N Lb n v L := ⟨h.name, h.row, h.own, h.all⟩

set_option maxHeartbeats 800000 in
theorem ask_any (base N Lb : Nat) (n : ByteArray) (v : Value) (L : List En) (i : Nat) (e : En) (w : World) (h : Asks w base N Lb n v L) (hi : L[i]? = some e) :
    Calls Try.prog 52 #[.int .i64 (i : Int), .pointer (some ⟨N, 0, none⟩), .pointer (some ⟨Lb, 0, none⟩)] w fun r w' => r = .returned (.int .i64 (cmp n e.f.nm)) ∧ ∃ q, w' = w.drewN q := by
  obtain ⟨a, cap, rfl, hc1, hc2, hcell⟩ := row_slice h.own
  have hlt : i < L.length := (List.getElem?_eq_some_iff.1 hi).1
  obtain ⟨g, rfl, _, _, hg⟩ := hcell (by omega)
  have hgi := hg i (ptr e) (by rw [List.getElem?_map, hi]; rfl)
  unfold ptr at hgi
  have hfl := h.all e (List.mem_of_getElem? hi)
  have hnm := blk_cell (i := 0) hfl.1 rfl
  have hn := h.name
  have hr := h.row
  have hb : (i : Int) < (L.length : Int) := by omega
  clear h hfl hi hg hcell
  generalize L.length = len at *
  go_enter Try.func52, Try.ntmps52
  go_wp2_with fail
  go_quiet ((go_at_call 53; exact Calls.quiet_of_same ((compare_any _ _ _).mono (fun _ _ h => ⟨h.1, h.2.symm⟩))))
  go_wp2
  go_ret
  exact ⟨rfl, _, rfl⟩
theorem drewN_drewN (w : World) (a b : Nat) : (w.drewN a).drewN b = w.drewN (a + b) := by
  unfold World.drewN; simp [Nat.add_assoc]

/-- how far the search by halves has come -/
structure Half (L : List En) (n : ByteArray) (i j : Nat) : Prop where
  le : i ≤ j
  top : j ≤ L.length
  low : ∀ k e, k < i → L[k]? = some e → lt e.f.nm n
  high : ∀ k e, j ≤ k → L[k]? = some e → ¬ lt e.f.nm n
theorem Half.up {L : List En} {n : ByteArray} {i j h : Nat} {e : En} (H : Half L n i j) (hs : Sorted (L.map (·.f))) (hh : h < j) (_ : i ≤ h) (he : L[h]? = some e) (hp : 0 < cmp n e.f.nm) : Half L n (h + 1) j := by
  refine ⟨by omega, H.top, fun k x hk hx => ?_, H.high⟩
  have hl := cmp_pos.1 hp
  rcases Nat.lt_or_eq_of_le (Nat.le_of_lt_succ hk) with h1 | h1
  · have h2 : (L.map (·.f))[k]? = some x.f := by rw [List.getElem?_map, hx]; rfl
    have h3 : (L.map (·.f))[h]? = some e.f := by rw [List.getElem?_map, he]; rfl
    obtain ⟨a1, a2⟩ := List.getElem?_eq_some_iff.1 h2
    obtain ⟨b1, b2⟩ := List.getElem?_eq_some_iff.1 h3
    have := List.pairwise_iff_getElem.1 hs k h a1 b1 h1
    rw [a2, b2] at this
    exact lt_trans this hl
  · subst h1; rw [he] at hx; cases hx; exact hl
theorem Half.down {L : List En} {n : ByteArray} {i j h : Nat} {e : En} (H : Half L n i j) (hs : Sorted (L.map (·.f))) (hh : h < j) (hi : i ≤ h) (he : L[h]? = some e) (hp : ¬ 0 < cmp n e.f.nm) : Half L n i h := by
  refine ⟨hi, by have := H.top; omega, H.low, fun k x hk hx hl => ?_⟩
  have hl' : ¬ lt e.f.nm n := fun h => hp (cmp_pos.2 h)
  rcases Nat.lt_or_eq_of_le hk with h1 | h1
  · have h2 : (L.map (·.f))[k]? = some x.f := by rw [List.getElem?_map, hx]; rfl
    have h3 : (L.map (·.f))[h]? = some e.f := by rw [List.getElem?_map, he]; rfl
    obtain ⟨a1, a2⟩ := List.getElem?_eq_some_iff.1 h2
    obtain ⟨b1, b2⟩ := List.getElem?_eq_some_iff.1 h3
    have := List.pairwise_iff_getElem.1 hs h k b1 a1 h1
    rw [a2, b2] at this
    exact hl' (lt_trans this hl)
  · subst h1; rw [he] at hx; cases hx; exact hl' hl
theorem Half.done {L : List En} {n : ByteArray} {i : Nat} (H : Half L n i i) : pos (L.map (·.f)) n = i := by
  refine pos_is _ _ _ (by rw [List.length_map]; exact H.top) (fun k f hk hf => ?_) (fun f hf => ?_)
  · rw [List.getElem?_map] at hf
    obtain ⟨e, he, rfl⟩ := Option.map_eq_some_iff.1 hf
    exact H.low k e hk he
  · rw [List.getElem?_map] at hf
    obtain ⟨e, he, rfl⟩ := Option.map_eq_some_iff.1 hf
    exact H.high i e (Nat.le_refl _) he
/-- whether it is there is told at its place -/
theorem has_here {L : List En} {n : ByteArray} (hs : Sorted (L.map (·.f))) {e : En} (he : L[pos (L.map (·.f)) n]? = some e) : has (L.map (·.f)) n = decide (cmp n e.f.nm = 0) := by
  have h3 : (L.map (·.f))[pos (L.map (·.f)) n]? = some e.f := by rw [List.getElem?_map, he]; rfl
  cases hh : has (L.map (·.f)) n with
  | true =>
    obtain ⟨f, h1, h2⟩ := has_at hs hh
    rw [h3] at h1; cases h1
    exact (decide_eq_true (cmp_zero.2 h2)).symm
  | false =>
    have := has_not hh h3
    exact (decide_eq_false (fun e => this (cmp_zero.1 e))).symm
theorem has_past {L : List En} {n : ByteArray} (hs : Sorted (L.map (·.f))) (h : ¬ pos (L.map (·.f)) n < L.length) : has (L.map (·.f)) n = false := by
  cases hh : has (L.map (·.f)) n with
  | true => have := has_lt hs hh; rw [List.length_map] at this; exact absurd this h
  | false => rfl

set_option maxHeartbeats 1600000 in
set_option maxRecDepth 100000 in
theorem search_any (base N Lb : Nat) (n : ByteArray) (v : Value) (L : List En) (w : World) (h : Asks w base N Lb n v L) (hs : Sorted (L.map (·.f))) (hlen : L.length ≤ 1000000) :
    Calls Try.prog 51 #[.int .i64 (L.length : Int), .func (.func 52) #[] #[.pointer (some ⟨N, 0, none⟩), .pointer (some ⟨Lb, 0, none⟩)]] w fun r w' =>
      r = .returned (.tuple #[.int .i64 (pos (L.map (·.f)) n : Nat), .bool (has (L.map (·.f)) n)]) ∧ ∃ q, w' = w.drewN q := by
  have HA := Lib.hid h
  have HS := Lib.hid hs
  have HP := Lib.hid (fun i (H : Half L n i i) => H.done)
  have HH := Lib.hid (fun e he => has_here (L := L) (n := n) hs (e := e) he)
  have HF := Lib.hid (has_past (L := L) (n := n) hs)
  clear h hs
  go_enter Try.func51, Try.ntmps51
  go_wp2_with fail
  go_loopw [4, 6, 7] (fun a b _ wr => ∃ i j : Nat, a = .int .i64 (i : Int) ∧ b = .int .i64 (j : Int) ∧ Hid (Half L n i j) ∧ Hid (i ≤ j) ∧ Hid (∃ q, wr = w.drewN q)) (fun a b _ _ => (intOf b - intOf a).toNat)
  case atStart => exact ⟨0, L.length, rfl, rfl, ⟨Nat.zero_le _, Nat.le_refl _, fun k _ hk _ => absurd hk (by omega), fun k e hk he => by
    rw [List.getElem?_eq_none hk] at he; cases he⟩, Nat.zero_le _, 0, rfl⟩
  case round =>
    obtain ⟨i, j, rfl, rfl, H, hij, HQ⟩ := hrel
    have htop := H.out.top
    by_cases hlt : i < j
    · obtain ⟨h, hh⟩ : ∃ h, h = (i + j) / 2 := ⟨_, rfl⟩
      have h1 : i ≤ h := by omega
      have h2 : h < j := by omega
      obtain ⟨e, he⟩ : ∃ e, L[h]? = some e := ⟨_, List.getElem?_eq_getElem (by omega)⟩
      have HU := Lib.hid (fun hp => H.out.up HS.out h2 h1 he hp)
      have HD := Lib.hid (fun hp => H.out.down HS.out h2 h1 he hp)
      have hrun := ask_any base N Lb n v L h e wr (by obtain ⟨q, hq⟩ := HQ.out; rw [hq]; exact HA.out.drewN q) he
      have HR := Lib.hid hrun
      have e2 : ((i : Int) + (j : Int)) / 2 = (h : Int) := by omega
      have E2 := Lib.hid e2
      have hb := cmp_bd n e.f.nm
      clear he hh hrun e2
      generalize cmp n e.f.nm = c at *
      by_cases hc : 0 < c
      · go_wp2_with fail
        rw [E2.out]
        refine HR.out.mono ?_
        rintro r w1 ⟨rfl, hq⟩
        have HQ1 := Lib.hid hq
        clear hq
        go_wp2_with fail
        go_roundw
        case rel => exact ⟨h + 1, j, by go_num, rfl, HU.out hc, (show h + 1 ≤ j by omega), by obtain ⟨q, hq⟩ := HQ.out; obtain ⟨q1, hq1⟩ := HQ1.out; exact ⟨q + q1, by rw [hq1, hq, drewN_drewN]⟩⟩
        case measure => simp [intOf]; omega
      · go_wp2_with fail
        rw [E2.out]
        refine HR.out.mono ?_
        rintro r w1 ⟨rfl, hq⟩
        have HQ1 := Lib.hid hq
        clear hq
        go_wp2_with fail
        go_roundw
        case rel => exact ⟨i, h, rfl, rfl, HD.out hc, (show i ≤ h by omega), by obtain ⟨q, hq⟩ := HQ.out; obtain ⟨q1, hq1⟩ := HQ1.out; exact ⟨q + q1, by rw [hq1, hq, drewN_drewN]⟩⟩
        case measure => simp [intOf]; omega
    · obtain rfl : i = j := by have := hij.out; omega
      have hp := Lib.hid (HP.out i H.out)
      by_cases hil : i < L.length
      · obtain ⟨e, he⟩ : ∃ e, L[i]? = some e := ⟨_, List.getElem?_eq_getElem hil⟩
        have hrun := ask_any base N Lb n v L i e wr (by obtain ⟨q, hq⟩ := HQ.out; rw [hq]; exact HA.out.drewN q) he
        have HR := Lib.hid hrun
        have hhe := Lib.hid (HH.out e (by rw [hp.out]; exact he))
        clear he hrun HH HF
        have hb := cmp_bd n e.f.nm
        generalize cmp n e.f.nm = c at *
        go_wp2_with fail
        refine HR.out.mono ?_
        rintro r w1 ⟨rfl, hq⟩
        have HQ1 := Lib.hid hq
        clear hq
        go_wp2_with fail
        go_ret2
        exact ⟨by rw [hp.out, hhe.out]; simp [BEq.beq], by obtain ⟨q, hq⟩ := HQ.out; obtain ⟨q1, hq1⟩ := HQ1.out; exact ⟨q + q1, by rw [hq1, hq, drewN_drewN]⟩⟩
      · have hhf := Lib.hid (HF.out (by rw [hp.out]; exact hil))
        clear HH HF
        go_wp2_with fail
        go_ret2
        exact ⟨by rw [hp.out, hhf.out]; rfl, HQ.out⟩
end Go.Proofs.Ytlmhghcoohalaaa.Dk
