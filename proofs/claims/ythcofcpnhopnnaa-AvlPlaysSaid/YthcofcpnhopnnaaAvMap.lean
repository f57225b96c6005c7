/- The program's map in memory; Put, Drop, Get, Last, Len, Depth, and each of nil. -/
import Derived.Test.YthcofcpnhopnnaaAvPut2
import Derived.Test.YthcofcpnhopnnaaAvWalk
set_option linter.unusedSimpArgs false
namespace Go.Proofs.Ythcofcpnhopnnaa.Av
open Go.RowKit

/-! Plainly. -/
theorem isAt_split {l : List Pr} {key : Int} (h : isAt l key = true) : ∃ a v b, l = a ++ (key, v) :: b := by
  unfold isAt at h
  cases hp : l[pos l key]? with
  | none => rw [hp] at h; cases h
  | some p =>
    rw [hp] at h
    obtain ⟨a, b, hab⟩ := List.append_of_mem (List.mem_of_getElem? hp)
    have hk : p.1 = key := by simpa using h
    exact ⟨a, p.2, b, by rw [hab, ← hk]⟩
theorem isAt_none {l : List Pr} (hs : Sorted l) {key : Int} (h : isAt l key = false) : getM l key = none ∧ dropM l key = l := by
  have hne : ∀ p ∈ l, p.1 ≠ key := fun p hp he => by
    have := isAt_of_mem (key := key) (u := p.2) hs (by rw [← he]; exact hp)
    rw [h] at this; cases this
  constructor
  · unfold getM
    rw [List.find?_eq_none.2 (fun p hp => by simpa using hne p hp)]; rfl
  · exact List.filter_eq_self.2 fun p hp => by simpa using hne p hp
theorem isAt_some {l : List Pr} (hs : Sorted l) {key : Int} (h : isAt l key = true) : (∃ v, getM l key = some v) ∧ (dropM l key).length + 1 = l.length := by
  obtain ⟨a, v, b, rfl⟩ := isAt_split h
  rw [sorted_mid] at hs
  obtain ⟨_, _, s3, s4⟩ := hs
  exact ⟨⟨v, getM_here s3⟩, by rw [dropM_here s3 s4]; simp; omega⟩
theorem ht_len : ∀ t : T, t.ht ≤ t.toL.length
  | .nil => Nat.zero_le _
  | .nd a k u b => by
    have h1 := ht_len a
    have h2 := ht_len b
    rw [toL_nd, ht_nd]
    simp only [List.length_append, List.length_cons]
    omega

/-! In memory. -/
/-- a map's block, and its tree -/
def Mp (base : Nat) (W : World) (M : Nat) (l : List Pr) : Prop :=
  base ≤ M ∧ Sorted l ∧ ∃ p t, W.heap[M]? = some (.cells #[.pointer p, .int .i64 (l.length : Nat)] 26 (0, 0)) ∧ Tr W t p ∧ t.Bal ∧ t.toL = l
theorem cells2 {W : World} {B : Nat} {v0 v1 : Value} {t : TypeId} (h : W.heap[B]? = some (.cells #[v0, v1] t (0, 0))) :
    W.cell? ⟨B, 0, none⟩ = some v0 ∧ W.cell? ⟨B, 1, none⟩ = some v1 ∧ W.frozen? ⟨B, 0, none⟩ = false ∧ W.frozen? ⟨B, 1, none⟩ = false :=
  ⟨by simp [World.cell?, h], by simp [World.cell?, h], by simp [World.frozen?, h], by simp [World.frozen?, h]⟩
theorem set0 {W : World} {B : Nat} {x y v : Value} {t : TypeId} (h : W.heap[B]? = some (.cells #[x, y] t (0, 0))) : (W.setCell ⟨B, 0, none⟩ v).heap[B]? = some (.cells #[v, y] t (0, 0)) := by
  obtain ⟨h1, h2⟩ := Array.getElem?_eq_some_iff.1 h
  show (W.heap.modify B _)[B]? = _
  rw [Array.getElem?_eq_getElem (by rw [Array.size_modify]; exact h1), Array.getElem_modify_self, h2]
  rfl
theorem set1 {W : World} {B : Nat} {x y v : Value} {t : TypeId} (h : W.heap[B]? = some (.cells #[x, y] t (0, 0))) : (W.setCell ⟨B, 1, none⟩ v).heap[B]? = some (.cells #[x, v] t (0, 0)) := by
  obtain ⟨h1, h2⟩ := Array.getElem?_eq_some_iff.1 h
  show (W.heap.modify B _)[B]? = _
  rw [Array.getElem?_eq_getElem (by rw [Array.size_modify]; exact h1), Array.getElem_modify_self, h2]
  rfl
/-- a block that is no node is written -/
theorem Tr.set {W : World} {t : T} {p : Option Addr} (h : Tr W t p) {B : Nat} {cs : Array Value} {ty : TypeId} (hB : W.heap[B]? = some (.cells cs ty (0, 0))) (ht : ty ≠ 56) (o : Nat) (v : Value) : Tr (W.setCell ⟨B, o, none⟩ v) t p :=
  h.kept fun B' cs' h' => (Below.heap_setCell W _ v B' (by
    show B' ≠ B
    intro e
    rw [e, hB] at h'
    injection h' with h'
    injection h' with _ h' _
    exact ht h')).trans h'

theorem mp_lt {base : Nat} {W : World} {M : Nat} {l : List Pr} (h : Mp base W M l) : M < W.heap.size := by
  obtain ⟨_, _, p, t, h1, _⟩ := h
  exact (Array.getElem?_eq_some_iff.1 h1).1
theorem mp_later {base : Nat} {W W' : World} {M : Nat} {l : List Pr} (h : Mp base W M l) (hb : Below W.heap.size W W') : Mp base W' M l := by
  obtain ⟨h1, h2, p, t, h3, h4, h5, h6⟩ := h
  exact ⟨h1, h2, p, t, (hb.block M (Array.getElem?_eq_some_iff.1 h3).1).trans h3, h4.later hb, h5, h6⟩
theorem mp_but {base : Nat} {W W' : World} {M X : Nat} {l : List Pr} {u : Array Value} {ty : TypeId} (h : Mp base W M l) (hb : But X W W') (hX : X ≠ M) (hu : W.heap[X]? = some (.cells u ty (0, 0))) (hty : ty ≠ 56) : Mp base W' M l := by
  obtain ⟨h1, h2, p, t, h3, h4, h5, h6⟩ := h
  refine ⟨h1, h2, p, t, (hb.block M (Array.getElem?_eq_some_iff.1 h3).1 (Ne.symm hX)).trans h3, h4.kept fun B cs hB => ?_, h5, h6⟩
  refine (hb.block B (Array.getElem?_eq_some_iff.1 hB).1 ?_).trans hB
  intro e
  rw [e, hu] at hB
  injection hB with hB
  injection hB with _ hB _
  exact hty hB
/-- what is read of it -/
theorem Mp.read {base : Nat} {W : World} {M : Nat} {l : List Pr} (h : Mp base W M l) : ∃ p t, W.heap[M]? = some (.cells #[.pointer p, .int .i64 (l.length : Nat)] 26 (0, 0)) ∧ Tr W t p ∧ t.Bal ∧ t.toL = l ∧ Sorted t.toL ∧ t.ht ≤ l.length := by
  obtain ⟨_, h2, p, t, h3, h4, h5, h6⟩ := h
  exact ⟨p, t, h3, h4, h5, h6, by rw [h6]; exact h2, by rw [← h6]; exact ht_len t⟩

theorem top_any (M : Nat) (p : Option Addr) (w : World) (h : w.cell? ⟨M, 0, none⟩ = some (.pointer p)) :
    Calls Try.prog 24 #[.pointer (some ⟨M, 0, none⟩)] w fun e w' => e = .returned (.pointer p) ∧ w = w' := by
  go_enter Try.func24, Try.ntmps24
  go_wp2
  go_ret
  exact ⟨rfl, rfl⟩
theorem top_nil (w : World) : Calls Try.prog 24 #[.pointer none] w fun e w' => e = .returned (.pointer none) ∧ w = w' := by
  go_enter Try.func24, Try.ntmps24
  go_wp2
  go_ret
  exact ⟨rfl, rfl⟩

set_option maxHeartbeats 1600000 in
theorem get_any {base M : Nat} {l : List Pr} {w : World} (key : Int) (h : Mp base w M l) :
    Calls Try.prog 11 #[.pointer (some ⟨M, 0, none⟩), .int .i64 key] w fun e w' => e = .returned (getV l key) ∧ w = w' := by
  obtain ⟨p, t, h3, h4, _, h6, hs, _⟩ := h.read
  have hg := fnd_get t key hs
  rw [h6] at hg
  have HG : Hid (∀ r : Option Int, getM l key = r → (Ending.returned (.tuple #[.int .i64 (r.getD 0), .bool r.isSome]) : Ending) = .returned (getV l key)) := fun r h => by rw [← h]; rfl
  obtain ⟨c0, _, _, _⟩ := cells2 h3
  have HT := Lib.hid h4
  have HGM := Lib.hid hg
  clear h3 h4 h6 hs hg h
  go_enter Try.func11, Try.ntmps11
  go_wp2_with fail
  refine (top_any M p _ c0).mono ?_
  rintro e w1 ⟨rfl, rfl⟩
  go_wp2_with fail
  refine (find_any t p key _ HT.out).mono ?_
  rintro e w1 ⟨⟨q, rfl, hq⟩, rfl⟩
  generalize fnd t key = f at *
  cases f with
  | nil =>
    obtain rfl : q = none := hq
    go_wp2_with fail
    exact bodyPost_ret (v := .tuple #[.int .i64 0, .bool false]) (by simp [results, Try.results11, go_sem]) rfl ⟨HG.out none HGM.out, rfl⟩
  | nd a k u b =>
    obtain ⟨B, pa, pb, rfl, hc, _⟩ := hq.open_
    obtain ⟨_, c1, _, _⟩ := hc _ (Below.refl _ _)
    clear hc hq
    go_wp2_with fail
    exact bodyPost_ret (v := .tuple #[.int .i64 u, .bool true]) (by simp [results, Try.results11, go_sem]) rfl ⟨HG.out (some u) HGM.out, rfl⟩
theorem get_nil (key : Int) (w : World) :
    Calls Try.prog 11 #[.pointer none, .int .i64 key] w fun e w' => e = .returned (.tuple #[.int .i64 0, .bool false]) ∧ w = w' := by
  go_enter Try.func11, Try.ntmps11
  go_wp2_with fail
  refine (top_nil _).mono ?_
  rintro e w1 ⟨rfl, rfl⟩
  go_wp2_with fail
  refine (find_any .nil none key _ rfl).mono ?_
  rintro e w1 ⟨⟨q, rfl, hq⟩, rfl⟩
  obtain rfl : q = none := hq
  go_wp2_with fail
  exact bodyPost_ret (v := .tuple #[.int .i64 0, .bool false]) (by simp [results, Try.results11, go_sem]) rfl ⟨rfl, rfl⟩
theorem len_any {base M : Nat} {l : List Pr} {w : World} (h : Mp base w M l) :
    Calls Try.prog 14 #[.pointer (some ⟨M, 0, none⟩)] w fun e w' => e = .returned (.int .i64 (l.length : Nat)) ∧ w = w' := by
  obtain ⟨p, t, h3, _⟩ := h.read
  obtain ⟨_, c1, _, _⟩ := cells2 h3
  clear h3 h
  go_enter Try.func14, Try.ntmps14
  go_wp2
  go_ret
  exact ⟨rfl, rfl⟩
theorem len_nil (w : World) :
    Calls Try.prog 14 #[.pointer none] w fun e w' => e = .returned (.int .i64 0) ∧ w = w' := by
  go_enter Try.func14, Try.ntmps14
  go_wp2
  go_ret
  exact ⟨rfl, rfl⟩
theorem mdepth_any {M : Nat} {p : Option Addr} {t : T} {w : World} (h : w.cell? ⟨M, 0, none⟩ = some (.pointer p)) (ht : Tr w t p) :
    Calls Try.prog 19 #[.pointer (some ⟨M, 0, none⟩)] w fun e w' => e = .returned (.int .i64 (t.ht : Nat)) ∧ w = w' := by
  have HT := Lib.hid ht
  clear ht
  go_enter Try.func19, Try.ntmps19
  go_wp2_with fail
  refine (top_any M p _ h).mono ?_
  rintro e w1 ⟨rfl, rfl⟩
  go_wp2_with fail
  refine (depth_any t p _ HT.out).mono ?_
  rintro e w1 ⟨rfl, rfl⟩
  go_wp2_with fail
  go_ret
  exact ⟨rfl, rfl⟩
theorem mdepth_nil (w : World) :
    Calls Try.prog 19 #[.pointer none] w fun e w' => e = .returned (.int .i64 0) ∧ w = w' := by
  go_enter Try.func19, Try.ntmps19
  go_wp2_with fail
  refine (top_nil _).mono ?_
  rintro e w1 ⟨rfl, rfl⟩
  go_wp2_with fail
  refine (depth_any .nil none _ rfl).mono ?_
  rintro e w1 ⟨rfl, rfl⟩
  go_wp2_with fail
  go_ret
  exact ⟨rfl, rfl⟩
theorem drop_nil (key : Int) (w : World) :
    Calls Try.prog 9 #[.pointer none, .int .i64 key] w fun e w' => e = .returned (.bool false) ∧ w = w' := by
  go_enter Try.func9, Try.ntmps9
  go_wp2_with fail
  refine (get_nil key _).mono ?_
  rintro e w1 ⟨rfl, rfl⟩
  go_wp2_with fail
  go_ret
  exact ⟨rfl, rfl⟩
theorem put_nil (key value : Int) (w : World) :
    Calls Try.prog 7 #[.pointer none, .int .i64 key, .int .i64 value] w fun e w' => e = .returned (.bool false) ∧ w = w' := by
  go_enter Try.func7, Try.ntmps7
  go_wp2
  go_ret
  exact ⟨rfl, rfl⟩

/-! The last key. -/
theorem last_nd (a : T) (k u : Int) (b : T) : (T.nd a k u b).toL.getLast? = (match b with | .nil => some (k, u) | .nd c j v d => (T.nd c j v d).toL.getLast?) := by
  cases b with
  | nil => show (a.toL ++ [(k, u)]).getLast? = _; simp
  | nd c j v d =>
    show (a.toL ++ (k, u) :: (c.toL ++ (j, v) :: d.toL)).getLast? = (c.toL ++ (j, v) :: d.toL).getLast?
    simp [List.getLast?_append, List.getLast?_cons]
set_option maxHeartbeats 1600000 in
theorem last_any {base M : Nat} {l : List Pr} {w : World} (h : Mp base w M l) :
    Calls Try.prog 13 #[.pointer (some ⟨M, 0, none⟩)] w fun e w' => e = .returned (.tuple #[.int .i64 (lastK l), .bool (decide (0 < l.length))]) ∧ w = w' := by
  obtain ⟨p, t, h3, h4, _, h6, _, _⟩ := h.read
  obtain ⟨c0, _, _, _⟩ := cells2 h3
  have HT := Lib.hid h4
  clear h3 h4 h
  go_enter Try.func13, Try.ntmps13
  go_wp2_with fail
  refine (top_any M p _ c0).mono ?_
  rintro e w1 ⟨rfl, rfl⟩
  cases t with
  | nil =>
    obtain rfl : p = none := HT.out
    obtain rfl : [] = l := h6
    go_wp2_with fail
    exact bodyPost_ret (v := .tuple #[.int .i64 0, .bool false]) (by simp [results, Try.results13, go_sem]) rfl ⟨rfl, rfl⟩
  | nd a k u b =>
    have hpos : decide (0 < l.length) = true := by rw [← h6, toL_nd]; simp; omega
    have HL := Lib.hid h6
    have HPO := Lib.hid hpos
    obtain ⟨B0, _, _, rfl, _⟩ := HT.out.open_
    clear h6 hpos
    go_wp2_with fail
    go_loopg [4] (T.nd a k u b).sz (fun n v wr => ∃ (s : T) (q : Option Addr), v = .pointer q ∧ Hid (s.sz = n) ∧ Hid (s ≠ .nil) ∧ Hid (Tr w s q) ∧ Hid (s.toL.getLast? = l.getLast?) ∧ w = wr)
    case atStart => exact ⟨.nd a k u b, _, rfl, rfl, Lib.hid (by intro h; cases h), HT.out, by rw [← HL.out]; rfl, rfl⟩
    case round =>
      obtain ⟨s, q, rfl, HN, HZ, HS, HF, rfl⟩ := hrel
      cases s with
      | nil => exact absurd rfl HZ.out
      | nd a2 k2 u2 b2 =>
        obtain ⟨B, pa, pb, rfl, hc, ta, tb⟩ := HS.out.open_
        obtain ⟨d0, d1, d2, d3⟩ := hc _ (Below.refl _ _)
        have TB := Lib.hid tb
        have hlast := last_nd a2 k2 u2 b2
        clear hc ta tb
        cases b2 with
        | nil =>
          obtain rfl : pb = none := TB.out
          have HK : Hid (lastK l = k2) := by
            unfold Hid lastK
            rw [← HF.out, hlast]
          clear hlast
          go_wp2_with fail
          exact bodyPost_ret (v := .tuple #[.int .i64 k2, .bool true]) (by simp [results, Try.results13, go_sem]) rfl ⟨by rw [HK.out, HPO.out], rfl⟩
        | nd c j v d =>
          obtain ⟨B2, _, _, rfl, _⟩ := TB.out.open_
          have HN2 : Hid (a2.sz + (T.nd c j v d).sz + 1 = _) := HN
          have HF2 : Hid ((T.nd c j v d).toL.getLast? = l.getLast?) := by
            show (T.nd c j v d).toL.getLast? = l.getLast?
            rw [← HF.out, hlast]
          clear hlast
          go_wp2_with fail
          go_roundg (T.nd c j v d).sz
          case rel => exact ⟨.nd c j v d, _, rfl, rfl, Lib.hid (by intro h; cases h), TB.out, HF2.out, rfl⟩
          case measure => have := HN2.out; omega
theorem last_nil (w : World) :
    Calls Try.prog 13 #[.pointer none] w fun e w' => e = .returned (.tuple #[.int .i64 0, .bool false]) ∧ w = w' := by
  go_enter Try.func13, Try.ntmps13
  go_wp2_with fail
  refine (top_nil _).mono ?_
  rintro e w1 ⟨rfl, rfl⟩
  go_wp2_with fail
  exact bodyPost_ret (v := .tuple #[.int .i64 0, .bool false]) (by simp [results, Try.results13, go_sem]) rfl ⟨rfl, rfl⟩

/-! Put and Drop. -/
theorem Kp.of_but {base M : Nat} {w w' : World} (h : But M w w') (hM : base ≤ M) : Kp base M [] w w' :=
  ⟨h.os, h.tape, h.output, h.size, fun k o ho hn => (h.block k (Array.getElem?_eq_some_iff.1 ho).1 (by omega)).trans ho⟩
set_option maxHeartbeats 3200000 in
theorem mput_any {base M : Nat} {l : List Pr} {w : World} (key value : Int) (h : Mp base w M l) (hl : l.length ≤ 700) :
    Calls Try.prog 7 #[.pointer (some ⟨M, 0, none⟩), .int .i64 key, .int .i64 value] w fun e w' => e = .returned (.bool (!isAt l key)) ∧ Mp base w' M (putM l key value) ∧ Kp base M [] w w' := by
  have hbM := h.1
  have hso := h.2.1
  obtain ⟨p, t, h3, h4, h5, h6, hs, hh⟩ := h.read
  obtain ⟨c0, c1, f0, f1⟩ := cells2 h3
  have HG := Lib.hid (get_any key h)
  obtain ⟨P1, P2, _, _⟩ := putT_is key value t h5 hs
  rw [h6] at P2
  have HP := Lib.hid (And.intro P1 P2)
  have hlen := putM_len l key value
  clear P1 P2 h
  cases hat : isAt l key with
  | true =>
    obtain ⟨⟨x, hx⟩, _⟩ := isAt_some hso hat
    have hg : getV l key = .tuple #[.int .i64 x, .bool true] := by unfold getV; rw [hx]; rfl
    rw [hat] at hlen
    rw [hg] at HG
    have HPU := Lib.hid (put_any key value t p w h4 h5 hs (by omega))
    have H3 := Lib.hid h3
    clear h3 h4 h5 hs hg hx
    go_enter Try.func7, Try.ntmps7
    go_wp2_with fail
    refine HG.out.mono ?_
    rintro e w1 ⟨rfl, rfl⟩
    go_wp2_with fail
    refine HPU.out.mono ?_
    rintro e w2 ⟨q, rfl, ht, hb⟩
    have hM2 := Below.same hb H3.out
    obtain ⟨_, _, g0, _⟩ := cells2 hM2
    have HRES : Hid (Mp base (w2.setCell ⟨M, 0, none⟩ (.pointer q)) M (putM l key value)) := ⟨hbM, sorted_put hso key value, q, putT t key value, by rw [hlen]; exact set0 hM2, ht.set hM2 (by decide) 0 _, HP.out.1, HP.out.2⟩
    have HKP : Hid (Kp base M [] w (w2.setCell ⟨M, 0, none⟩ (.pointer q))) := Kp.of_but ((But.of_below hb).setCell (p := ⟨M, 0, none⟩) rfl _) hbM
    clear hb hM2 ht
    go_wp2_with fail
    go_ret
    exact ⟨by simp, HRES.out, HKP.out⟩
  | false =>
    obtain ⟨hx, _⟩ := isAt_none hso hat
    have hg : getV l key = .tuple #[.int .i64 0, .bool false] := by unfold getV; rw [hx]; rfl
    rw [hat] at hlen
    rw [hg] at HG
    have hw : IntKind.i64.wrap ((l.length : Int) + 1) = ((l.length + 1 : Nat) : Int) := by rw [IntKind.wrap_i64]; omega
    have h31 := set1 (v := .int .i64 ((l.length + 1 : Nat) : Int)) h3
    have HPU := Lib.hid (put_any key value t p _ (h4.set h3 (by decide) 1 (.int .i64 ((l.length + 1 : Nat) : Int))) h5 hs (by omega))
    have HBU := Lib.hid ((But.refl M w).setCell (p := ⟨M, 1, none⟩) rfl (.int .i64 ((l.length + 1 : Nat) : Int)))
    have H3 := Lib.hid h31
    have hw' : IntKind.i64.wrap ((l.length : Int) + 1) = (l.length : Int) + 1 := by rw [IntKind.wrap_i64]; omega
    rw [show (((l.length + 1 : Nat) : Int)) = (l.length : Int) + 1 by omega] at HPU HBU H3
    clear h3 h4 h5 hs hg hx h31 hw
    go_enter Try.func7, Try.ntmps7
    go_wp2_with fail
    refine HG.out.mono ?_
    rintro e w1 ⟨rfl, rfl⟩
    go_wp2_with fail
    refine HPU.out.mono ?_
    rintro e w2 ⟨q, rfl, ht, hb⟩
    have hM2 := Below.same hb H3.out
    obtain ⟨_, _, g0, _⟩ := cells2 hM2
    have HRES : Hid (Mp base (w2.setCell ⟨M, 0, none⟩ (.pointer q)) M (putM l key value)) := ⟨hbM, sorted_put hso key value, q, putT t key value, by rw [hlen]; exact set0 hM2, ht.set hM2 (by decide) 0 _, HP.out.1, HP.out.2⟩
    have HKP : Hid (Kp base M [] w (w2.setCell ⟨M, 0, none⟩ (.pointer q))) := Kp.of_but ((HBU.out.trans (But.of_below hb)).setCell (p := ⟨M, 0, none⟩) rfl _) hbM
    clear hb hM2 ht
    go_wp2_with fail
    go_ret
    exact ⟨by simp, HRES.out, HKP.out⟩
set_option maxHeartbeats 3200000 in
theorem mdrop_any {base M : Nat} {l : List Pr} {w : World} (key : Int) (h : Mp base w M l) (hl : l.length ≤ 700) :
    Calls Try.prog 9 #[.pointer (some ⟨M, 0, none⟩), .int .i64 key] w fun e w' => e = .returned (.bool (decide ((dropM l key).length < l.length))) ∧ Mp base w' M (dropM l key) ∧ Kp base M [] w w' := by
  have hbM := h.1
  have hso := h.2.1
  obtain ⟨p, t, h3, h4, h5, h6, hs, hh⟩ := h.read
  obtain ⟨c0, c1, f0, f1⟩ := cells2 h3
  have HG := Lib.hid (get_any key h)
  have H0 := Lib.hid h
  clear h
  cases hat : isAt l key with
  | true =>
    obtain ⟨⟨x, hx⟩, hlen⟩ := isAt_some hso hat
    have hg : getV l key = .tuple #[.int .i64 x, .bool true] := by unfold getV; rw [hx]; rfl
    rw [hg] at HG
    have hat2 : isAt t.toL key = true := by rw [h6]; exact hat
    obtain ⟨P1, P2, _, _⟩ := dropT_is t key h5 hs hat2
    rw [h6] at P2
    have HP := Lib.hid (And.intro P1 P2)
    have HLT : Hid (decide ((dropM l key).length < l.length) = true) := by unfold Hid; simp; omega
    obtain ⟨n, hn⟩ : ∃ n, (dropM l key).length = n := ⟨_, rfl⟩
    rw [hn] at hlen
    have h31 := set1 (v := .int .i64 (n : Int)) h3
    have HPU := Lib.hid (drop_any t key p _ (h4.set h3 (by decide) 1 (.int .i64 (n : Int))) h5 hs (by omega) hat2)
    have HBU := Lib.hid ((But.refl M w).setCell (p := ⟨M, 1, none⟩) rfl (.int .i64 (n : Int)))
    have H3 := Lib.hid h31
    have HN := Lib.hid hn
    have hw' : IntKind.i64.wrap ((l.length : Int) - 1) = (n : Int) := by rw [IntKind.wrap_i64]; omega
    clear h3 h4 h5 hs hg hx h31 P1 P2 hn H0
    go_enter Try.func9, Try.ntmps9
    go_wp2_with fail
    refine HG.out.mono ?_
    rintro e w1 ⟨rfl, rfl⟩
    go_wp2_with fail
    refine HPU.out.mono ?_
    rintro e w2 ⟨q, rfl, ht, hb⟩
    have hM2 := Below.same hb H3.out
    obtain ⟨_, _, g0, _⟩ := cells2 hM2
    have HRES : Hid (Mp base (w2.setCell ⟨M, 0, none⟩ (.pointer q)) M (dropM l key)) := ⟨hbM, sorted_drop hso key, q, dropT t key, by rw [HN.out]; exact set0 hM2, ht.set hM2 (by decide) 0 _, HP.out.1, HP.out.2⟩
    have HKP : Hid (Kp base M [] w (w2.setCell ⟨M, 0, none⟩ (.pointer q))) := Kp.of_but ((HBU.out.trans (But.of_below hb)).setCell (p := ⟨M, 0, none⟩) rfl _) hbM
    clear hb hM2 ht
    go_wp2_with fail
    go_ret
    exact ⟨by rw [HLT.out]; rfl, HRES.out, HKP.out⟩
  | false =>
    obtain ⟨hx, hd⟩ := isAt_none hso hat
    have hg : getV l key = .tuple #[.int .i64 0, .bool false] := by unfold getV; rw [hx]; rfl
    rw [hg] at HG
    have HD := Lib.hid hd
    clear h3 h4 h5 hs hg hx hd c0 c1 f0 f1
    go_enter Try.func9, Try.ntmps9
    go_wp2_with fail
    refine HG.out.mono ?_
    rintro e w1 ⟨rfl, rfl⟩
    go_wp2_with fail
    go_ret
    exact ⟨by rw [HD.out]; simp, by rw [HD.out]; exact H0.out, Kp.refl _ _ _ _⟩
end Go.Proofs.Ythcofcpnhopnnaa.Av
