/- What the document's disk makes of an act; and whether two lists of texts are the same. (Made by wip/tools/mkDkRa.py.) -/
import Derived.Test.YtlmhghcoohalaaaDkRp
import Derived.Test.YtlmhghcoohalaaaDkRu
import Derived.Test.YtlmhghcoohalaaaDkRoom
namespace Go.Proofs.Ytlmhghcoohalaaa.Dk
set_option linter.unusedSimpArgs false
open Go.RowKit

set_option maxHeartbeats 800000 in
theorem ract_1 (base X : Nat) (s : St) (v : Value) (L : List Fi) (a : Act) (ka : Option Addr) (kl kc : Nat) (w : World) (hk : a.kind = 1) (h : RdAt base w X s v L) (ho : Ok s) (hl : Lim s) (hm : s.made = true) (h1 : a.name.size ≤ 1000000) (h2 : a.to.size ≤ 1000000) (h3 : a.s.size ≤ 1000000) (h4 : KB base w ka kl kc a.keep) :
    Calls Try.prog 11 #[.pointer (some ⟨X, 0, none⟩), aggA a ka kl kc] w fun e w' => e = .returned (.int .i64 (act s a).2) ∧ Rd base w' X (act s a).1 ∧ Kp base X TF w w' := by
  have HR : Hid (act s a = app s a.name a.s) := by show _ = _; unfold act; simp [hk]
  rw [HR.out]
  have hb : Below w.heap.size w (w.alloc (cellsA a ka kl kc)) := (Below.refl _ _).alloc (Nat.le_refl _) _
  have hd := h.later hb
  have HB := Lib.hid (Kp.of_below (base := base) (B := X) (ts := TF) hb)
  have hbw : base ≤ w.heap.size := by have := h.ge; have := lt_of_block h.blk; omega
  have HC := Lib.hid (rapp_any base X s v L a.name a.s _ hd ho hl h1 (by omega))
  unfold cellsA at HC HB
  unfold aggA
  rw [hk] at HC HB ⊢
  clear h hd hb
  go_enter Try.func11, Try.ntmps11
  go_wp2_with fail
  refine HC.out.mono ?_
  rintro e w1 ⟨rfl, r1, k1⟩
  have H1 := Lib.hid r1
  have K1 := Lib.hid (HB.out.trans k1)
  clear r1 k1
  go_wp2_with fail
  go_ret
  exact ⟨rfl, H1.out, K1.out⟩
set_option maxHeartbeats 800000 in
theorem ract_2 (base X : Nat) (s : St) (v : Value) (L : List Fi) (a : Act) (ka : Option Addr) (kl kc : Nat) (w : World) (hk : a.kind = 2) (h : RdAt base w X s v L) (ho : Ok s) (hl : Lim s) (hm : s.made = true) (h1 : a.name.size ≤ 1000000) (h2 : a.to.size ≤ 1000000) (h3 : a.s.size ≤ 1000000) (h4 : KB base w ka kl kc a.keep) :
    Calls Try.prog 11 #[.pointer (some ⟨X, 0, none⟩), aggA a ka kl kc] w fun e w' => e = .returned (.int .i64 (act s a).2) ∧ Rd base w' X (act s a).1 ∧ Kp base X TF w w' := by
  have HR : Hid (act s a = sync s a.name) := by show _ = _; unfold act; simp [hk]
  rw [HR.out]
  have hb : Below w.heap.size w (w.alloc (cellsA a ka kl kc)) := (Below.refl _ _).alloc (Nat.le_refl _) _
  have hd := h.later hb
  have HB := Lib.hid (Kp.of_below (base := base) (B := X) (ts := TF) hb)
  have hbw : base ≤ w.heap.size := by have := h.ge; have := lt_of_block h.blk; omega
  have HC := Lib.hid (rdo_2 base X s v L a.name a.to a.n _ hd ho hl h2)
  unfold cellsA at HC HB
  unfold aggA
  rw [hk] at HC HB ⊢
  clear h hd hb
  go_enter Try.func11, Try.ntmps11
  go_wp2_with fail
  refine HC.out.mono ?_
  rintro e w1 ⟨rfl, r1, k1⟩
  have H1 := Lib.hid r1
  have K1 := Lib.hid (HB.out.trans k1)
  clear r1 k1
  go_wp2_with fail
  go_ret
  exact ⟨rfl, H1.out, K1.out⟩
set_option maxHeartbeats 800000 in
theorem ract_3 (base X : Nat) (s : St) (v : Value) (L : List Fi) (a : Act) (ka : Option Addr) (kl kc : Nat) (w : World) (hk : a.kind = 3) (h : RdAt base w X s v L) (ho : Ok s) (hl : Lim s) (hm : s.made = true) (h1 : a.name.size ≤ 1000000) (h2 : a.to.size ≤ 1000000) (h3 : a.s.size ≤ 1000000) (h4 : KB base w ka kl kc a.keep) :
    Calls Try.prog 11 #[.pointer (some ⟨X, 0, none⟩), aggA a ka kl kc] w fun e w' => e = .returned (.int .i64 (act s a).2) ∧ Rd base w' X (act s a).1 ∧ Kp base X TF w w' := by
  have HR : Hid (act s a = ren s a.name a.to) := by show _ = _; unfold act; simp [hk]
  rw [HR.out]
  have hb : Below w.heap.size w (w.alloc (cellsA a ka kl kc)) := (Below.refl _ _).alloc (Nat.le_refl _) _
  have hd := h.later hb
  have HB := Lib.hid (Kp.of_below (base := base) (B := X) (ts := TF) hb)
  have hbw : base ≤ w.heap.size := by have := h.ge; have := lt_of_block h.blk; omega
  have HC := Lib.hid (rdo_3 base X s v L a.name a.to a.n _ hd ho hl h2)
  unfold cellsA at HC HB
  unfold aggA
  rw [hk] at HC HB ⊢
  clear h hd hb
  go_enter Try.func11, Try.ntmps11
  go_wp2_with fail
  refine HC.out.mono ?_
  rintro e w1 ⟨rfl, r1, k1⟩
  have H1 := Lib.hid r1
  have K1 := Lib.hid (HB.out.trans k1)
  clear r1 k1
  go_wp2_with fail
  go_ret
  exact ⟨rfl, H1.out, K1.out⟩
set_option maxHeartbeats 800000 in
theorem ract_4 (base X : Nat) (s : St) (v : Value) (L : List Fi) (a : Act) (ka : Option Addr) (kl kc : Nat) (w : World) (hk : a.kind = 4) (h : RdAt base w X s v L) (ho : Ok s) (hl : Lim s) (hm : s.made = true) (h1 : a.name.size ≤ 1000000) (h2 : a.to.size ≤ 1000000) (h3 : a.s.size ≤ 1000000) (h4 : KB base w ka kl kc a.keep) :
    Calls Try.prog 11 #[.pointer (some ⟨X, 0, none⟩), aggA a ka kl kc] w fun e w' => e = .returned (.int .i64 (act s a).2) ∧ Rd base w' X (act s a).1 ∧ Kp base X TF w w' := by
  have HR : Hid (act s a = rem s a.name) := by show _ = _; unfold act; simp [hk]
  rw [HR.out]
  have hb : Below w.heap.size w (w.alloc (cellsA a ka kl kc)) := (Below.refl _ _).alloc (Nat.le_refl _) _
  have hd := h.later hb
  have HB := Lib.hid (Kp.of_below (base := base) (B := X) (ts := TF) hb)
  have hbw : base ≤ w.heap.size := by have := h.ge; have := lt_of_block h.blk; omega
  have HC := Lib.hid (rdo_4 base X s v L a.name a.to a.n _ hd ho hl h2)
  unfold cellsA at HC HB
  unfold aggA
  rw [hk] at HC HB ⊢
  clear h hd hb
  go_enter Try.func11, Try.ntmps11
  go_wp2_with fail
  refine HC.out.mono ?_
  rintro e w1 ⟨rfl, r1, k1⟩
  have H1 := Lib.hid r1
  have K1 := Lib.hid (HB.out.trans k1)
  clear r1 k1
  go_wp2_with fail
  go_ret
  exact ⟨rfl, H1.out, K1.out⟩
set_option maxHeartbeats 800000 in
theorem ract_5 (base X : Nat) (s : St) (v : Value) (L : List Fi) (a : Act) (ka : Option Addr) (kl kc : Nat) (w : World) (hk : a.kind = 5) (h : RdAt base w X s v L) (ho : Ok s) (hl : Lim s) (hm : s.made = true) (h1 : a.name.size ≤ 1000000) (h2 : a.to.size ≤ 1000000) (h3 : a.s.size ≤ 1000000) (h4 : KB base w ka kl kc a.keep) :
    Calls Try.prog 11 #[.pointer (some ⟨X, 0, none⟩), aggA a ka kl kc] w fun e w' => e = .returned (.int .i64 (act s a).2) ∧ Rd base w' X (act s a).1 ∧ Kp base X TF w w' := by
  have HR : Hid (act s a = cut s a.name a.n) := by show _ = _; unfold act; simp [hk]
  rw [HR.out]
  have hb : Below w.heap.size w (w.alloc (cellsA a ka kl kc)) := (Below.refl _ _).alloc (Nat.le_refl _) _
  have hd := h.later hb
  have HB := Lib.hid (Kp.of_below (base := base) (B := X) (ts := TF) hb)
  have hbw : base ≤ w.heap.size := by have := h.ge; have := lt_of_block h.blk; omega
  have HC := Lib.hid (rdo_5 base X s v L a.name a.to a.n _ hd ho hl h2)
  unfold cellsA at HC HB
  unfold aggA
  rw [hk] at HC HB ⊢
  clear h hd hb
  go_enter Try.func11, Try.ntmps11
  go_wp2_with fail
  refine HC.out.mono ?_
  rintro e w1 ⟨rfl, r1, k1⟩
  have H1 := Lib.hid r1
  have K1 := Lib.hid (HB.out.trans k1)
  clear r1 k1
  go_wp2_with fail
  go_ret
  exact ⟨rfl, H1.out, K1.out⟩
set_option maxHeartbeats 800000 in
theorem ract_6 (base X : Nat) (s : St) (v : Value) (L : List Fi) (a : Act) (ka : Option Addr) (kl kc : Nat) (w : World) (hk : a.kind = 6) (h : RdAt base w X s v L) (ho : Ok s) (hl : Lim s) (hm : s.made = true) (h1 : a.name.size ≤ 1000000) (h2 : a.to.size ≤ 1000000) (h3 : a.s.size ≤ 1000000) (h4 : KB base w ka kl kc a.keep) :
    Calls Try.prog 11 #[.pointer (some ⟨X, 0, none⟩), aggA a ka kl kc] w fun e w' => e = .returned (.int .i64 (act s a).2) ∧ Rd base w' X (act s a).1 ∧ Kp base X TF w w' := by
  have HR : Hid (act s a = (fused s a.n, 0)) := by show _ = _; unfold act; simp [hk]
  rw [HR.out]
  have hb : Below w.heap.size w (w.alloc (cellsA a ka kl kc)) := (Below.refl _ _).alloc (Nat.le_refl _) _
  have hd := h.later hb
  have HB := Lib.hid (Kp.of_below (base := base) (B := X) (ts := TF) hb)
  have hbw : base ≤ w.heap.size := by have := h.ge; have := lt_of_block h.blk; omega
  have h5 := hd.set (t := fused s a.n) 3 (.int .i64 (max a.n (-1))) rfl rfl
  have k5 := HB.out.setB h.ge 3 (.int .i64 (max a.n (-1)))
  have c3 := blk_cell (i := 3) hd.blk rfl
  have z3 := blk_free hd.blk 3
  have H5 := Lib.hid h5
  have K5 := Lib.hid k5
  unfold cellsA at H5 K5 c3 z3
  unfold aggA
  rw [hk] at H5 K5 c3 z3 ⊢
  clear h hd hb HB h5 k5
  go_enter Try.func11, Try.ntmps11
  go_wp2_with fail
  go_ret
  exact ⟨rfl, ⟨_, _, H5.out⟩, K5.out⟩
set_option maxHeartbeats 800000 in
theorem ract_7 (base X : Nat) (s : St) (v : Value) (L : List Fi) (a : Act) (ka : Option Addr) (kl kc : Nat) (w : World) (hk : a.kind = 7) (h : RdAt base w X s v L) (ho : Ok s) (hl : Lim s) (hm : s.made = true) (h1 : a.name.size ≤ 1000000) (h2 : a.to.size ≤ 1000000) (h3 : a.s.size ≤ 1000000) (h4 : KB base w ka kl kc a.keep) :
    Calls Try.prog 11 #[.pointer (some ⟨X, 0, none⟩), aggA a ka kl kc] w fun e w' => e = .returned (.int .i64 (act s a).2) ∧ Rd base w' X (act s a).1 ∧ Kp base X TF w w' := by
  have HR : Hid (act s a = (crashed s, 0)) := by show _ = _; unfold act; simp [hk]
  rw [HR.out]
  have hb : Below w.heap.size w (w.alloc (cellsA a ka kl kc)) := (Below.refl _ _).alloc (Nat.le_refl _) _
  have hd := h.later hb
  have HB := Lib.hid (Kp.of_below (base := base) (B := X) (ts := TF) hb)
  have hbw : base ≤ w.heap.size := by have := h.ge; have := lt_of_block h.blk; omega
  have HC := Lib.hid (rcrash_at base X s v L _ hd)
  unfold cellsA at HC HB
  unfold aggA
  rw [hk] at HC HB ⊢
  clear h hd hb
  go_enter Try.func11, Try.ntmps11
  go_wp2_with fail
  refine HC.out.mono ?_
  rintro e w1 ⟨rfl, r1, k1⟩
  have H1 := Lib.hid r1
  have K1 := Lib.hid (HB.out.trans (k1.mono (by simp)))
  clear r1 k1
  go_wp2_with fail
  go_ret
  exact ⟨rfl, ⟨_, _, H1.out⟩, K1.out⟩
set_option maxHeartbeats 800000 in
theorem ract_8 (base X : Nat) (s : St) (v : Value) (L : List Fi) (a : Act) (ka : Option Addr) (kl kc : Nat) (w : World) (hk : a.kind = 8) (h : RdAt base w X s v L) (ho : Ok s) (hl : Lim s) (hm : s.made = true) (h1 : a.name.size ≤ 1000000) (h2 : a.to.size ≤ 1000000) (h3 : a.s.size ≤ 1000000) (h4 : KB base w ka kl kc a.keep) :
    Calls Try.prog 11 #[.pointer (some ⟨X, 0, none⟩), aggA a ka kl kc] w fun e w' => e = .returned (.int .i64 (act s a).2) ∧ Rd base w' X (act s a).1 ∧ Kp base X TF w w' := by
  have HR : Hid (act s a = (up s a.keep, 0)) := by show _ = _; unfold act; simp [hk]
  rw [HR.out]
  have hb : Below w.heap.size w (w.alloc (cellsA a ka kl kc)) := (Below.refl _ _).alloc (Nat.le_refl _) _
  have hd := h.later hb
  have HB := Lib.hid (Kp.of_below (base := base) (B := X) (ts := TF) hb)
  have hbw : base ≤ w.heap.size := by have := h.ge; have := lt_of_block h.blk; omega
  have HC := Lib.hid (rup_any base X s v L ka kl kc a.keep _ hd ho hl hm (h4.later (hb.mono hbw)))
  unfold cellsA at HC HB
  unfold aggA
  rw [hk] at HC HB ⊢
  clear h hd hb
  go_enter Try.func11, Try.ntmps11
  go_wp2_with fail
  refine HC.out.mono ?_
  rintro e w1 ⟨rfl, r1, k1⟩
  have H1 := Lib.hid r1
  have K1 := Lib.hid (HB.out.trans k1)
  clear r1 k1
  go_wp2_with fail
  go_ret
  exact ⟨rfl, H1.out, K1.out⟩
set_option maxHeartbeats 800000 in
theorem ract_other (a : Act) (ka : Option Addr) (kl kc : Nat) (p : Option Addr) (w : World) (hk : a.kind < 1 ∨ 8 < a.kind) :
    Calls Try.prog 11 #[.pointer p, aggA a ka kl kc] w fun e w' => e = .returned (.int .i64 0) ∧ Below w.heap.size w w' := by
  have e1 : (a.kind == 1) = false := by simp; omega
  have e2 : (a.kind == 2) = false := by simp; omega
  have e3 : (a.kind == 3) = false := by simp; omega
  have e4 : (a.kind == 4) = false := by simp; omega
  have e5 : (a.kind == 5) = false := by simp; omega
  have e6 : (a.kind == 6) = false := by simp; omega
  have e7 : (a.kind == 7) = false := by simp; omega
  have e8 : (a.kind == 8) = false := by simp; omega
  have hb : Below w.heap.size w (w.alloc (cellsA a ka kl kc)) := (Below.refl _ _).alloc (Nat.le_refl _) _
  have HB := Lib.hid hb
  unfold cellsA at HB
  unfold aggA
  clear hb hk
  go_enter Try.func11, Try.ntmps11
  go_wp2_with fail
  go_ret
  exact ⟨rfl, HB.out⟩
theorem ract_any (base X : Nat) (s : St) (v : Value) (L : List Fi) (a : Act) (ka : Option Addr) (kl kc : Nat) (w : World) (h : RdAt base w X s v L) (ho : Ok s) (hl : Lim s) (hm : s.made = true) (h1 : a.name.size ≤ 1000000) (h2 : a.to.size ≤ 1000000) (h3 : a.s.size ≤ 1000000) (h4 : KB base w ka kl kc a.keep) :
    Calls Try.prog 11 #[.pointer (some ⟨X, 0, none⟩), aggA a ka kl kc] w fun e w' => e = .returned (.int .i64 (act s a).2) ∧ Rd base w' X (act s a).1 ∧ Kp base X TF w w' := by
  by_cases k1 : a.kind = 1
  · exact ract_1 base X s v L a ka kl kc w k1 h ho hl hm h1 h2 h3 h4
  by_cases k2 : a.kind = 2
  · exact ract_2 base X s v L a ka kl kc w k2 h ho hl hm h1 h2 h3 h4
  by_cases k3 : a.kind = 3
  · exact ract_3 base X s v L a ka kl kc w k3 h ho hl hm h1 h2 h3 h4
  by_cases k4 : a.kind = 4
  · exact ract_4 base X s v L a ka kl kc w k4 h ho hl hm h1 h2 h3 h4
  by_cases k5 : a.kind = 5
  · exact ract_5 base X s v L a ka kl kc w k5 h ho hl hm h1 h2 h3 h4
  by_cases k6 : a.kind = 6
  · exact ract_6 base X s v L a ka kl kc w k6 h ho hl hm h1 h2 h3 h4
  by_cases k7 : a.kind = 7
  · exact ract_7 base X s v L a ka kl kc w k7 h ho hl hm h1 h2 h3 h4
  by_cases k8 : a.kind = 8
  · exact ract_8 base X s v L a ka kl kc w k8 h ho hl hm h1 h2 h3 h4
  have HR : act s a = (s, 0) := by unfold act; simp [k1, k2, k3, k4, k5, k6, k7, k8]
  rw [HR]
  refine (ract_other a ka kl kc _ w (by omega)).mono ?_
  rintro e w' ⟨rfl, hb⟩
  exact ⟨rfl, ⟨_, _, h.later hb⟩, Kp.of_below hb⟩

set_option maxHeartbeats 1600000 in
/-- two lists of the same texts are the same -/
theorem same_any (b1 b2 n : Nat) (v1 v2 : Value) (N : List ByteArray) (w : World) (h1 : w.ownsRow b1 9 1 v1 n (nms N)) (h2 : w.ownsRow b2 9 1 v2 n (nms N)) (hn : n ≤ 1000000) :
    Calls Try.prog 16 #[v1, v2] w fun e w' => e = .returned (.bool true) ∧ Below w.heap.size w w' := by
  have hl : N.length = n := by have := h1.1; rw [nms_len] at this; omega
  obtain ⟨a1, c1, rfl, _, _, q1⟩ := row_slice h1
  obtain ⟨a2, c2, rfl, _, _, q2⟩ := row_slice h2
  have HQ := Lib.hid (And.intro q1 q2)
  clear h1 h2 q1 q2
  go_enter Try.func16, Try.ntmps16
  go_wp2_with fail
  go_loopw [5] (fun i wr => ∃ k : Nat, k ≤ n ∧ i = .int .i64 (k : Int) ∧ Hid (Below w.heap.size w wr)) (fun i _ => n - (intOf i).toNat)
  case atStart => exact ⟨0, by omega, rfl, Below.refl _ _⟩
  case round =>
    obtain ⟨k, hk, rfl, HB⟩ := hrel
    by_cases hlt : k < n
    · obtain ⟨x, hx⟩ : ∃ x, N[k]? = some x := ⟨_, List.getElem?_eq_getElem (by omega)⟩
      obtain ⟨g1, rfl, _, l1, r1⟩ := HQ.out.1 (by omega)
      obtain ⟨g2, rfl, _, l2, r2⟩ := HQ.out.2 (by omega)
      have p1 := (HB.out.cell (p := ⟨g1, k, none⟩) l1).trans (r1 k _ (nms_at hx))
      have p2 := (HB.out.cell (p := ⟨g2, k, none⟩) l2).trans (r2 k _ (nms_at hx))
      clear hx r1 r2
      go_wp2_with fail
      go_quiet (fail)
      go_wp2_with fail
      go_roundw
      case rel => exact ⟨k + 1, by omega, by go_num, drewN_below HB.out nq⟩
      case measure => simp [intOf]; omega
    · obtain rfl : k = n := by omega
      go_wp2_with fail
      go_ret
      exact ⟨rfl, HB.out⟩
end Go.Proofs.Ytlmhghcoohalaaa.Dk
