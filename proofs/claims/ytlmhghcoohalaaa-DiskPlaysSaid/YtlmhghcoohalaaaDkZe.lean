/- A disk that nobody made: it is not up, whatever is done with it. (Made by wip/tools/mkDkZe.py.) -/
import Derived.Test.YtlmhghcoohalaaaDkAct
namespace Go.Proofs.Ytlmhghcoohalaaa.Dk
open Go.RowKit

def zero (f : Int) : St := ⟨false, false, 0, [], 0, f⟩
structure ZeAt (base : Nat) (w : World) (Z : Nat) (f : Int) : Prop where
  dk : DkAt base w Z (zero f) (.slice none 0 0) []
  lo : -1 ≤ f
  hi : f ≤ 9223372036854775807
def Ze (base : Nat) (w : World) (Z : Nat) : Prop := ∃ f, ZeAt base w Z f
theorem ok_zero {f : Int} (h0 : -1 ≤ f) (h1 : f ≤ 9223372036854775807) : Ok (zero f) :=
  ⟨List.Pairwise.nil, by simp [zero], fun _ h => (by cases h), fun _ h => (by cases h), by simp [zero], by simp [zero], by simp [zero, used], h0, h1⟩
theorem ZeAt.kept {base Z : Nat} {w w' : World} {f : Int} (h : ZeAt base w Z f) (hk : w'.heap[Z]? = w.heap[Z]?) : ZeAt base w' Z f :=
  ⟨⟨hk.trans h.dk.blk, h.dk.ge, World.ownsRow_nil _ _ _ _, fun _ h => (by cases h), List.Pairwise.nil, rfl⟩, h.lo, h.hi⟩
theorem ZeAt.later {base Z : Nat} {w w' : World} {f : Int} (h : ZeAt base w Z f) (hb : Below w.heap.size w w') : ZeAt base w' Z f := h.kept (hb.block Z (lt_of_block h.dk.blk))
theorem Ze.later {base Z : Nat} {w w' : World} (h : Ze base w Z) (hb : Below w.heap.size w w') : Ze base w' Z := by
  obtain ⟨f, h⟩ := h; exact ⟨f, h.later hb⟩
theorem Ze.kp {base base' X Z : Nat} {ts : List TypeId} {w w' : World} (h : Ze base w Z) (hk : Kp base' X ts w w') (hX : Z ≠ X) (ht : 31 ∉ ts) : Ze base w' Z := by
  obtain ⟨f, h⟩ := h
  exact ⟨f, h.kept ((hk.at_ h.dk.blk hX ht).trans h.dk.blk.symm)⟩
theorem look_zero (f : Int) (n : ByteArray) : look (zero f) n = 9 ∧ lookAt (zero f) n = 0 := look_off rfl

theorem ze_1 (n t : ByteArray) (base Z : Nat) (f : Int) (w : World) (h : ZeAt base w Z f) : Calls Try.prog 23 #[.pointer (some ⟨Z, 0, none⟩), .string n, .string t] w fun e w' => e = .returned (.int .i64 9) ∧ Below w.heap.size w w' := by
  have HF := Lib.hid (find_any base Z (zero f) n w ⟨_, _, h.dk⟩ (ok_zero h.lo h.hi))
  have HZ := Lib.hid h
  clear h
  go_enter Try.func23, Try.ntmps23
  go_wp2_with fail
  refine HF.out.mono ?_
  rintro e w1 ⟨rfl, hb⟩
  have HB := Lib.hid hb
  clear hb
  go_wp2_with fail
  refine (on_any base Z (zero f) w1 ⟨_, _, (HZ.out.later HB.out).dk⟩).mono ?_
  rintro e w1 ⟨rfl, rfl⟩
  have hon : (zero f).on = false := rfl
  go_wp2_with fail
  go_ret
  exact ⟨rfl, HB.out⟩
theorem ze_2 (n : ByteArray) (base Z : Nat) (f : Int) (w : World) (h : ZeAt base w Z f) : Calls Try.prog 24 #[.pointer (some ⟨Z, 0, none⟩), .string n] w fun e w' => e = .returned (.int .i64 9) ∧ Below w.heap.size w w' := by
  have HL := Lib.hid (look_any base Z (zero f) n w ⟨_, _, h.dk⟩ (ok_zero h.lo h.hi))
  rw [(look_zero f n).1, (look_zero f n).2] at HL
  clear h
  go_enter Try.func24, Try.ntmps24
  go_wp2_with fail
  refine HL.out.mono ?_
  rintro e w1 ⟨rfl, hb⟩
  go_wp2_with fail
  go_ret
  exact ⟨rfl, hb⟩
theorem ze_3 (n t : ByteArray) (base Z : Nat) (f : Int) (w : World) (h : ZeAt base w Z f) : Calls Try.prog 28 #[.pointer (some ⟨Z, 0, none⟩), .string n, .string t] w fun e w' => e = .returned (.int .i64 9) ∧ Below w.heap.size w w' := by
  have HL := Lib.hid (look_any base Z (zero f) n w ⟨_, _, h.dk⟩ (ok_zero h.lo h.hi))
  rw [(look_zero f n).1, (look_zero f n).2] at HL
  clear h
  go_enter Try.func28, Try.ntmps28
  go_wp2_with fail
  refine HL.out.mono ?_
  rintro e w1 ⟨rfl, hb⟩
  go_wp2_with fail
  go_ret
  exact ⟨rfl, hb⟩
theorem ze_4 (n : ByteArray) (base Z : Nat) (f : Int) (w : World) (h : ZeAt base w Z f) : Calls Try.prog 26 #[.pointer (some ⟨Z, 0, none⟩), .string n] w fun e w' => e = .returned (.int .i64 9) ∧ Below w.heap.size w w' := by
  have HL := Lib.hid (look_any base Z (zero f) n w ⟨_, _, h.dk⟩ (ok_zero h.lo h.hi))
  rw [(look_zero f n).1, (look_zero f n).2] at HL
  clear h
  go_enter Try.func26, Try.ntmps26
  go_wp2_with fail
  refine HL.out.mono ?_
  rintro e w1 ⟨rfl, hb⟩
  go_wp2_with fail
  go_ret
  exact ⟨rfl, hb⟩
theorem ze_5 (n : ByteArray) (k : Int) (base Z : Nat) (f : Int) (w : World) (h : ZeAt base w Z f) : Calls Try.prog 29 #[.pointer (some ⟨Z, 0, none⟩), .string n, .int .i64 k] w fun e w' => e = .returned (.int .i64 9) ∧ Below w.heap.size w w' := by
  have HL := Lib.hid (look_any base Z (zero f) n w ⟨_, _, h.dk⟩ (ok_zero h.lo h.hi))
  rw [(look_zero f n).1, (look_zero f n).2] at HL
  clear h
  go_enter Try.func29, Try.ntmps29
  go_wp2_with fail
  refine HL.out.mono ?_
  rintro e w1 ⟨rfl, hb⟩
  go_wp2_with fail
  go_ret
  exact ⟨rfl, hb⟩
theorem ze_8 (base Z : Nat) (f : Int) (ka : Option Addr) (kl kc : Nat) (w : World) (h : ZeAt base w Z f) : Calls Try.prog 27 #[.pointer (some ⟨Z, 0, none⟩), .slice ka kl kc] w fun e w' => e = .returned (.tuple #[]) ∧ w = w' := by
  have c0 := blk_cell (i := 0) h.dk.blk rfl
  have hm : (zero f).made = false := rfl
  clear h
  go_enter Try.func27, Try.ntmps27
  go_wp2_with fail
  refine bodyPost_ret (results_none rfl _ _ _) rfl ?_
  exact ⟨rfl, rfl⟩
set_option maxHeartbeats 800000 in
theorem zdo_1 (base Z : Nat) (a : Act) (ka : Option Addr) (kl kc : Nat) (w : World) (hk : a.kind = 1) (h : Ze base w Z) (_hn : a.n ≤ 9223372036854775807) :
    Calls Try.prog 10 #[.pointer (some ⟨Z, 0, none⟩), aggA a ka kl kc] w fun e w' => e = .returned (.int .i64 (actN a)) ∧ Ze base w' Z ∧ Kp base Z [] w w' := by
  have HR : Hid (actN a = 9) := by show _ = _; unfold actN; simp [hk]
  rw [HR.out]
  obtain ⟨f, h⟩ := h
  have hb : Below w.heap.size w (w.alloc (cellsA a ka kl kc)) := (Below.refl _ _).alloc (Nat.le_refl _) _
  have hz := h.later hb
  have HZ := Lib.hid hz
  have HB := Lib.hid hb
  have HC := Lib.hid (ze_1 a.name a.s base Z f _ hz)
  unfold cellsA at HC HB HZ
  unfold aggA
  rw [hk] at HC HB HZ ⊢
  clear h hz hb
  go_enter Try.func10, Try.ntmps10
  go_wp2_with fail
  refine HC.out.mono ?_
  rintro e w1 ⟨rfl, hb1⟩
  have H1 : Hid (Ze base w1 Z ∧ Kp base Z [] w w1) := ⟨⟨f, HZ.out.later hb1⟩, (Kp.of_below HB.out).trans (Kp.of_below hb1)⟩
  clear hb1
  go_wp2_with fail
  go_ret
  exact ⟨rfl, H1.out.1, H1.out.2⟩
set_option maxHeartbeats 800000 in
theorem zdo_2 (base Z : Nat) (a : Act) (ka : Option Addr) (kl kc : Nat) (w : World) (hk : a.kind = 2) (h : Ze base w Z) (_hn : a.n ≤ 9223372036854775807) :
    Calls Try.prog 10 #[.pointer (some ⟨Z, 0, none⟩), aggA a ka kl kc] w fun e w' => e = .returned (.int .i64 (actN a)) ∧ Ze base w' Z ∧ Kp base Z [] w w' := by
  have HR : Hid (actN a = 9) := by show _ = _; unfold actN; simp [hk]
  rw [HR.out]
  obtain ⟨f, h⟩ := h
  have hb : Below w.heap.size w (w.alloc (cellsA a ka kl kc)) := (Below.refl _ _).alloc (Nat.le_refl _) _
  have hz := h.later hb
  have HZ := Lib.hid hz
  have HB := Lib.hid hb
  have HC := Lib.hid (ze_2 a.name base Z f _ hz)
  unfold cellsA at HC HB HZ
  unfold aggA
  rw [hk] at HC HB HZ ⊢
  clear h hz hb
  go_enter Try.func10, Try.ntmps10
  go_wp2_with fail
  refine HC.out.mono ?_
  rintro e w1 ⟨rfl, hb1⟩
  have H1 : Hid (Ze base w1 Z ∧ Kp base Z [] w w1) := ⟨⟨f, HZ.out.later hb1⟩, (Kp.of_below HB.out).trans (Kp.of_below hb1)⟩
  clear hb1
  go_wp2_with fail
  go_ret
  exact ⟨rfl, H1.out.1, H1.out.2⟩
set_option maxHeartbeats 800000 in
theorem zdo_3 (base Z : Nat) (a : Act) (ka : Option Addr) (kl kc : Nat) (w : World) (hk : a.kind = 3) (h : Ze base w Z) (_hn : a.n ≤ 9223372036854775807) :
    Calls Try.prog 10 #[.pointer (some ⟨Z, 0, none⟩), aggA a ka kl kc] w fun e w' => e = .returned (.int .i64 (actN a)) ∧ Ze base w' Z ∧ Kp base Z [] w w' := by
  have HR : Hid (actN a = 9) := by show _ = _; unfold actN; simp [hk]
  rw [HR.out]
  obtain ⟨f, h⟩ := h
  have hb : Below w.heap.size w (w.alloc (cellsA a ka kl kc)) := (Below.refl _ _).alloc (Nat.le_refl _) _
  have hz := h.later hb
  have HZ := Lib.hid hz
  have HB := Lib.hid hb
  have HC := Lib.hid (ze_3 a.name a.to base Z f _ hz)
  unfold cellsA at HC HB HZ
  unfold aggA
  rw [hk] at HC HB HZ ⊢
  clear h hz hb
  go_enter Try.func10, Try.ntmps10
  go_wp2_with fail
  refine HC.out.mono ?_
  rintro e w1 ⟨rfl, hb1⟩
  have H1 : Hid (Ze base w1 Z ∧ Kp base Z [] w w1) := ⟨⟨f, HZ.out.later hb1⟩, (Kp.of_below HB.out).trans (Kp.of_below hb1)⟩
  clear hb1
  go_wp2_with fail
  go_ret
  exact ⟨rfl, H1.out.1, H1.out.2⟩
set_option maxHeartbeats 800000 in
theorem zdo_4 (base Z : Nat) (a : Act) (ka : Option Addr) (kl kc : Nat) (w : World) (hk : a.kind = 4) (h : Ze base w Z) (_hn : a.n ≤ 9223372036854775807) :
    Calls Try.prog 10 #[.pointer (some ⟨Z, 0, none⟩), aggA a ka kl kc] w fun e w' => e = .returned (.int .i64 (actN a)) ∧ Ze base w' Z ∧ Kp base Z [] w w' := by
  have HR : Hid (actN a = 9) := by show _ = _; unfold actN; simp [hk]
  rw [HR.out]
  obtain ⟨f, h⟩ := h
  have hb : Below w.heap.size w (w.alloc (cellsA a ka kl kc)) := (Below.refl _ _).alloc (Nat.le_refl _) _
  have hz := h.later hb
  have HZ := Lib.hid hz
  have HB := Lib.hid hb
  have HC := Lib.hid (ze_4 a.name base Z f _ hz)
  unfold cellsA at HC HB HZ
  unfold aggA
  rw [hk] at HC HB HZ ⊢
  clear h hz hb
  go_enter Try.func10, Try.ntmps10
  go_wp2_with fail
  refine HC.out.mono ?_
  rintro e w1 ⟨rfl, hb1⟩
  have H1 : Hid (Ze base w1 Z ∧ Kp base Z [] w w1) := ⟨⟨f, HZ.out.later hb1⟩, (Kp.of_below HB.out).trans (Kp.of_below hb1)⟩
  clear hb1
  go_wp2_with fail
  go_ret
  exact ⟨rfl, H1.out.1, H1.out.2⟩
set_option maxHeartbeats 800000 in
theorem zdo_5 (base Z : Nat) (a : Act) (ka : Option Addr) (kl kc : Nat) (w : World) (hk : a.kind = 5) (h : Ze base w Z) (_hn : a.n ≤ 9223372036854775807) :
    Calls Try.prog 10 #[.pointer (some ⟨Z, 0, none⟩), aggA a ka kl kc] w fun e w' => e = .returned (.int .i64 (actN a)) ∧ Ze base w' Z ∧ Kp base Z [] w w' := by
  have HR : Hid (actN a = 9) := by show _ = _; unfold actN; simp [hk]
  rw [HR.out]
  obtain ⟨f, h⟩ := h
  have hb : Below w.heap.size w (w.alloc (cellsA a ka kl kc)) := (Below.refl _ _).alloc (Nat.le_refl _) _
  have hz := h.later hb
  have HZ := Lib.hid hz
  have HB := Lib.hid hb
  have HC := Lib.hid (ze_5 a.name a.n base Z f _ hz)
  unfold cellsA at HC HB HZ
  unfold aggA
  rw [hk] at HC HB HZ ⊢
  clear h hz hb
  go_enter Try.func10, Try.ntmps10
  go_wp2_with fail
  refine HC.out.mono ?_
  rintro e w1 ⟨rfl, hb1⟩
  have H1 : Hid (Ze base w1 Z ∧ Kp base Z [] w w1) := ⟨⟨f, HZ.out.later hb1⟩, (Kp.of_below HB.out).trans (Kp.of_below hb1)⟩
  clear hb1
  go_wp2_with fail
  go_ret
  exact ⟨rfl, H1.out.1, H1.out.2⟩
set_option maxHeartbeats 800000 in
theorem zdo_6 (base Z : Nat) (a : Act) (ka : Option Addr) (kl kc : Nat) (w : World) (hk : a.kind = 6) (h : Ze base w Z) (hn : a.n ≤ 9223372036854775807) :
    Calls Try.prog 10 #[.pointer (some ⟨Z, 0, none⟩), aggA a ka kl kc] w fun e w' => e = .returned (.int .i64 (actN a)) ∧ Ze base w' Z ∧ Kp base Z [] w w' := by
  have HR : Hid (actN a = 0) := by show _ = _; unfold actN; simp [hk]
  rw [HR.out]
  obtain ⟨f, h⟩ := h
  have hb : Below w.heap.size w (w.alloc (cellsA a ka kl kc)) := (Below.refl _ _).alloc (Nat.le_refl _) _
  have hz := h.later hb
  have HZ := Lib.hid hz
  have HB := Lib.hid hb
  have HC := Lib.hid (fuse_at base Z _ a.n _ _ _ hz.dk)
  unfold cellsA at HC HB HZ
  unfold aggA
  rw [hk] at HC HB HZ ⊢
  clear h hz hb
  go_enter Try.func10, Try.ntmps10
  go_wp2_with fail
  refine HC.out.mono ?_
  rintro e w1 ⟨rfl, hd1, k1⟩
  have H1 : Hid (Ze base w1 Z ∧ Kp base Z [] w w1) := ⟨⟨max a.n (-1), hd1, by omega, by omega⟩, (Kp.of_below HB.out).trans k1⟩
  clear hd1 k1
  go_wp2_with fail
  go_ret
  exact ⟨rfl, H1.out.1, H1.out.2⟩
set_option maxHeartbeats 800000 in
theorem zdo_7 (base Z : Nat) (a : Act) (ka : Option Addr) (kl kc : Nat) (w : World) (hk : a.kind = 7) (h : Ze base w Z) (_hn : a.n ≤ 9223372036854775807) :
    Calls Try.prog 10 #[.pointer (some ⟨Z, 0, none⟩), aggA a ka kl kc] w fun e w' => e = .returned (.int .i64 (actN a)) ∧ Ze base w' Z ∧ Kp base Z [] w w' := by
  have HR : Hid (actN a = 0) := by show _ = _; unfold actN; simp [hk]
  rw [HR.out]
  obtain ⟨f, h⟩ := h
  have hb : Below w.heap.size w (w.alloc (cellsA a ka kl kc)) := (Below.refl _ _).alloc (Nat.le_refl _) _
  have hz := h.later hb
  have HZ := Lib.hid hz
  have HB := Lib.hid hb
  have HC := Lib.hid (crash_at base Z _ _ _ _ hz.dk)
  unfold cellsA at HC HB HZ
  unfold aggA
  rw [hk] at HC HB HZ ⊢
  clear h hz hb
  go_enter Try.func10, Try.ntmps10
  go_wp2_with fail
  refine HC.out.mono ?_
  rintro e w1 ⟨rfl, hd1, k1⟩
  have H1 : Hid (Ze base w1 Z ∧ Kp base Z [] w w1) := ⟨⟨-1, hd1, by omega, by omega⟩, (Kp.of_below HB.out).trans k1⟩
  clear hd1 k1
  go_wp2_with fail
  go_ret
  exact ⟨rfl, H1.out.1, H1.out.2⟩
set_option maxHeartbeats 800000 in
theorem zdo_8 (base Z : Nat) (a : Act) (ka : Option Addr) (kl kc : Nat) (w : World) (hk : a.kind = 8) (h : Ze base w Z) (_hn : a.n ≤ 9223372036854775807) :
    Calls Try.prog 10 #[.pointer (some ⟨Z, 0, none⟩), aggA a ka kl kc] w fun e w' => e = .returned (.int .i64 (actN a)) ∧ Ze base w' Z ∧ Kp base Z [] w w' := by
  have HR : Hid (actN a = 0) := by show _ = _; unfold actN; simp [hk]
  rw [HR.out]
  obtain ⟨f, h⟩ := h
  have hb : Below w.heap.size w (w.alloc (cellsA a ka kl kc)) := (Below.refl _ _).alloc (Nat.le_refl _) _
  have hz := h.later hb
  have HZ := Lib.hid hz
  have HB := Lib.hid hb
  have HC := Lib.hid (ze_8 base Z f ka kl kc _ hz)
  unfold cellsA at HC HB HZ
  unfold aggA
  rw [hk] at HC HB HZ ⊢
  clear h hz hb
  go_enter Try.func10, Try.ntmps10
  go_wp2_with fail
  refine HC.out.mono ?_
  rintro e w1 ⟨rfl, rfl⟩
  have H1 : Hid (Ze base _ Z ∧ Kp base Z [] w _) := ⟨⟨f, HZ.out⟩, Kp.of_below HB.out⟩
  go_wp2_with fail
  go_ret
  exact ⟨rfl, H1.out.1, H1.out.2⟩
theorem zdo_any (base Z : Nat) (a : Act) (ka : Option Addr) (kl kc : Nat) (w : World) (h : Ze base w Z) (hn : a.n ≤ 9223372036854775807) :
    Calls Try.prog 10 #[.pointer (some ⟨Z, 0, none⟩), aggA a ka kl kc] w fun e w' => e = .returned (.int .i64 (actN a)) ∧ Ze base w' Z ∧ Kp base Z [] w w' := by
  by_cases k1 : a.kind = 1
  · exact zdo_1 base Z a ka kl kc w k1 h hn
  by_cases k2 : a.kind = 2
  · exact zdo_2 base Z a ka kl kc w k2 h hn
  by_cases k3 : a.kind = 3
  · exact zdo_3 base Z a ka kl kc w k3 h hn
  by_cases k4 : a.kind = 4
  · exact zdo_4 base Z a ka kl kc w k4 h hn
  by_cases k5 : a.kind = 5
  · exact zdo_5 base Z a ka kl kc w k5 h hn
  by_cases k6 : a.kind = 6
  · exact zdo_6 base Z a ka kl kc w k6 h hn
  by_cases k7 : a.kind = 7
  · exact zdo_7 base Z a ka kl kc w k7 h hn
  by_cases k8 : a.kind = 8
  · exact zdo_8 base Z a ka kl kc w k8 h hn
  have HR : actN a = 0 := by unfold actN; rw [if_neg (by omega)]
  rw [HR]
  refine (do_other a ka kl kc _ w (by omega)).mono ?_
  rintro e w' ⟨rfl, hb⟩
  exact ⟨rfl, h.later hb, Kp.of_below hb⟩
end Go.Proofs.Ytlmhghcoohalaaa.Dk
