/- What is done with a disk, act by act; and with one that is nil. (Made by wip/tools/mkDkDo.py.) -/
import Derived.Test.YtlmhghcoohalaaaDkOps2
import Derived.Test.YtlmhghcoohalaaaDkRen
import Derived.Test.YtlmhghcoohalaaaDkApp3
import Derived.Test.YtlmhghcoohalaaaDkUp
namespace Go.Proofs.Ytlmhghcoohalaaa.Dk
open Go.RowKit

/-- an act -/
structure Act where
  kind : Int
  name : ByteArray
  to : ByteArray
  s : ByteArray
  n : Int
  keep : List Int
/-- what an act makes of a disk, and what it tells -/
def act (s : St) (a : Act) : St × Int :=
  if a.kind = 1 then app s a.name a.s else if a.kind = 2 then sync s a.name else if a.kind = 3 then ren s a.name a.to else if a.kind = 4 then rem s a.name else if a.kind = 5 then cut s a.name a.n else
  if a.kind = 6 then (fused s a.n, 0) else if a.kind = 7 then (crashed s, 0) else if a.kind = 8 then (up s a.keep, 0) else (s, 0)
/-- what an act tells of a disk that is not up -/
def actN (a : Act) : Int := if 1 ≤ a.kind ∧ a.kind ≤ 5 then 9 else 0

/-- an act's values, as they are handed over -/
structure Few (base B : Nat) (w : World) (a : Act) (ka : Option Addr) (kl kc : Nat) : Prop where
  s : a.s.size ≤ 17592186044416
  n0 : -9223372036854775808 ≤ a.n
  n1 : a.n ≤ 9223372036854775807
  keep : KRow base B w ka kl kc a.keep
abbrev aggA (a : Act) (ka : Option Addr) (kl kc : Nat) : Value := .agg #[.int .i64 a.kind, .string a.name, .string a.to, .string a.s, .int .i64 a.n, .slice ka kl kc]
abbrev cellsA (a : Act) (ka : Option Addr) (kl kc : Nat) : Obj := .cells #[.int .i64 a.kind, .string a.name, .string a.to, .string a.s, .int .i64 a.n, .slice ka kl kc] 37

set_option maxHeartbeats 800000 in
theorem do_1 (base B : Nat) (s : St) (a : Act) (ka : Option Addr) (kl kc : Nat) (w : World) (hk : a.kind = 1) (h : Dk base w B s) (ho : Ok s) (hl : Lim s) (ha : Few base B w a ka kl kc) :
    Calls Try.prog 10 #[.pointer (some ⟨B, 0, none⟩), aggA a ka kl kc] w (Does base B w (act s a)) := by
  have HR : Hid (act s a = app s a.name a.s) := by show _ = _; unfold act; simp [hk]
  rw [HR.out]
  have hb : Below w.heap.size w (w.alloc (cellsA a ka kl kc)) := (Below.refl _ _).alloc (Nat.le_refl _) _
  have hd := h.later hb
  have HB := Lib.hid (Kp.of_below (base := base) (B := B) (ts := TS) hb)
  have HC := Lib.hid (app_any base B s a.name a.s _ hd ho hl ha.s)
  unfold cellsA at HC HB
  unfold aggA
  rw [hk] at HC HB ⊢
  clear h hd hb
  go_enter Try.func10, Try.ntmps10
  go_wp2_with fail
  refine HC.out.mono ?_
  rintro e w1 ⟨rfl, h1, k1⟩
  have H1 := Lib.hid h1
  have K1 := Lib.hid k1
  clear h1 k1
  go_wp2_with fail
  go_ret
  exact ⟨rfl, H1.out, HB.out.trans K1.out⟩

set_option maxHeartbeats 800000 in
theorem do_2 (base B : Nat) (s : St) (a : Act) (ka : Option Addr) (kl kc : Nat) (w : World) (hk : a.kind = 2) (h : Dk base w B s) (ho : Ok s) (hl : Lim s) (_ha : Few base B w a ka kl kc) :
    Calls Try.prog 10 #[.pointer (some ⟨B, 0, none⟩), aggA a ka kl kc] w (Does base B w (act s a)) := by
  have HR : Hid (act s a = sync s a.name) := by show _ = _; unfold act; simp [hk]
  rw [HR.out]
  have hb : Below w.heap.size w (w.alloc (cellsA a ka kl kc)) := (Below.refl _ _).alloc (Nat.le_refl _) _
  have hd := h.later hb
  have HB := Lib.hid (Kp.of_below (base := base) (B := B) (ts := TS) hb)
  have HC := Lib.hid (sync_any base B s a.name _ hd ho hl)
  unfold cellsA at HC HB
  unfold aggA
  rw [hk] at HC HB ⊢
  clear h hd hb
  go_enter Try.func10, Try.ntmps10
  go_wp2_with fail
  refine HC.out.mono ?_
  rintro e w1 ⟨rfl, h1, k1⟩
  have H1 := Lib.hid h1
  have K1 := Lib.hid k1
  clear h1 k1
  go_wp2_with fail
  go_ret
  exact ⟨rfl, H1.out, HB.out.trans K1.out⟩

set_option maxHeartbeats 800000 in
theorem do_3 (base B : Nat) (s : St) (a : Act) (ka : Option Addr) (kl kc : Nat) (w : World) (hk : a.kind = 3) (h : Dk base w B s) (ho : Ok s) (hl : Lim s) (_ha : Few base B w a ka kl kc) :
    Calls Try.prog 10 #[.pointer (some ⟨B, 0, none⟩), aggA a ka kl kc] w (Does base B w (act s a)) := by
  have HR : Hid (act s a = ren s a.name a.to) := by show _ = _; unfold act; simp [hk]
  rw [HR.out]
  have hb : Below w.heap.size w (w.alloc (cellsA a ka kl kc)) := (Below.refl _ _).alloc (Nat.le_refl _) _
  have hd := h.later hb
  have HB := Lib.hid (Kp.of_below (base := base) (B := B) (ts := TS) hb)
  have HC := Lib.hid (ren_any base B s a.name a.to _ hd ho hl)
  unfold cellsA at HC HB
  unfold aggA
  rw [hk] at HC HB ⊢
  clear h hd hb
  go_enter Try.func10, Try.ntmps10
  go_wp2_with fail
  refine HC.out.mono ?_
  rintro e w1 ⟨rfl, h1, k1⟩
  have H1 := Lib.hid h1
  have K1 := Lib.hid k1
  clear h1 k1
  go_wp2_with fail
  go_ret
  exact ⟨rfl, H1.out, HB.out.trans K1.out⟩

set_option maxHeartbeats 800000 in
theorem do_4 (base B : Nat) (s : St) (a : Act) (ka : Option Addr) (kl kc : Nat) (w : World) (hk : a.kind = 4) (h : Dk base w B s) (ho : Ok s) (hl : Lim s) (_ha : Few base B w a ka kl kc) :
    Calls Try.prog 10 #[.pointer (some ⟨B, 0, none⟩), aggA a ka kl kc] w (Does base B w (act s a)) := by
  have HR : Hid (act s a = rem s a.name) := by show _ = _; unfold act; simp [hk]
  rw [HR.out]
  have hb : Below w.heap.size w (w.alloc (cellsA a ka kl kc)) := (Below.refl _ _).alloc (Nat.le_refl _) _
  have hd := h.later hb
  have HB := Lib.hid (Kp.of_below (base := base) (B := B) (ts := TS) hb)
  have HC := Lib.hid (rem_any base B s a.name _ hd ho hl)
  unfold cellsA at HC HB
  unfold aggA
  rw [hk] at HC HB ⊢
  clear h hd hb
  go_enter Try.func10, Try.ntmps10
  go_wp2_with fail
  refine HC.out.mono ?_
  rintro e w1 ⟨rfl, h1, k1⟩
  have H1 := Lib.hid h1
  have K1 := Lib.hid k1
  clear h1 k1
  go_wp2_with fail
  go_ret
  exact ⟨rfl, H1.out, HB.out.trans K1.out⟩

set_option maxHeartbeats 800000 in
theorem do_5 (base B : Nat) (s : St) (a : Act) (ka : Option Addr) (kl kc : Nat) (w : World) (hk : a.kind = 5) (h : Dk base w B s) (ho : Ok s) (hl : Lim s) (_ha : Few base B w a ka kl kc) :
    Calls Try.prog 10 #[.pointer (some ⟨B, 0, none⟩), aggA a ka kl kc] w (Does base B w (act s a)) := by
  have HR : Hid (act s a = cut s a.name a.n) := by show _ = _; unfold act; simp [hk]
  rw [HR.out]
  have hb : Below w.heap.size w (w.alloc (cellsA a ka kl kc)) := (Below.refl _ _).alloc (Nat.le_refl _) _
  have hd := h.later hb
  have HB := Lib.hid (Kp.of_below (base := base) (B := B) (ts := TS) hb)
  have HC := Lib.hid (cut_any base B s a.name a.n _ hd ho hl)
  unfold cellsA at HC HB
  unfold aggA
  rw [hk] at HC HB ⊢
  clear h hd hb
  go_enter Try.func10, Try.ntmps10
  go_wp2_with fail
  refine HC.out.mono ?_
  rintro e w1 ⟨rfl, h1, k1⟩
  have H1 := Lib.hid h1
  have K1 := Lib.hid k1
  clear h1 k1
  go_wp2_with fail
  go_ret
  exact ⟨rfl, H1.out, HB.out.trans K1.out⟩

set_option maxHeartbeats 800000 in
theorem do_6 (base B : Nat) (s : St) (a : Act) (ka : Option Addr) (kl kc : Nat) (w : World) (hk : a.kind = 6) (h : Dk base w B s) (_ho : Ok s) (_hl : Lim s) (_ha : Few base B w a ka kl kc) :
    Calls Try.prog 10 #[.pointer (some ⟨B, 0, none⟩), aggA a ka kl kc] w (Does base B w (act s a)) := by
  have HR : Hid (act s a = (fused s a.n, 0)) := by show _ = _; unfold act; simp [hk]
  rw [HR.out]
  have hb : Below w.heap.size w (w.alloc (cellsA a ka kl kc)) := (Below.refl _ _).alloc (Nat.le_refl _) _
  have hd := h.later hb
  have HB := Lib.hid (Kp.of_below (base := base) (B := B) (ts := TS) hb)
  obtain ⟨v, L, hd⟩ := hd
  have HC := Lib.hid (fuse_at base B s a.n v L _ hd)
  unfold cellsA at HC HB
  unfold aggA
  rw [hk] at HC HB ⊢
  clear h hd hb
  go_enter Try.func10, Try.ntmps10
  go_wp2_with fail
  refine HC.out.mono ?_
  rintro e w1 ⟨rfl, h1, k1⟩
  have H1 := Lib.hid h1
  have K1 := Lib.hid (k1.mono (ts' := TS) (by simp))
  clear h1 k1
  go_wp2_with fail
  go_ret
  exact ⟨rfl, ⟨_, _, H1.out⟩, HB.out.trans K1.out⟩

set_option maxHeartbeats 800000 in
theorem do_7 (base B : Nat) (s : St) (a : Act) (ka : Option Addr) (kl kc : Nat) (w : World) (hk : a.kind = 7) (h : Dk base w B s) (_ho : Ok s) (_hl : Lim s) (_ha : Few base B w a ka kl kc) :
    Calls Try.prog 10 #[.pointer (some ⟨B, 0, none⟩), aggA a ka kl kc] w (Does base B w (act s a)) := by
  have HR : Hid (act s a = (crashed s, 0)) := by show _ = _; unfold act; simp [hk]
  rw [HR.out]
  have hb : Below w.heap.size w (w.alloc (cellsA a ka kl kc)) := (Below.refl _ _).alloc (Nat.le_refl _) _
  have hd := h.later hb
  have HB := Lib.hid (Kp.of_below (base := base) (B := B) (ts := TS) hb)
  obtain ⟨v, L, hd⟩ := hd
  have HC := Lib.hid (crash_at base B s v L _ hd)
  unfold cellsA at HC HB
  unfold aggA
  rw [hk] at HC HB ⊢
  clear h hd hb
  go_enter Try.func10, Try.ntmps10
  go_wp2_with fail
  refine HC.out.mono ?_
  rintro e w1 ⟨rfl, h1, k1⟩
  have H1 := Lib.hid h1
  have K1 := Lib.hid (k1.mono (ts' := TS) (by simp))
  clear h1 k1
  go_wp2_with fail
  go_ret
  exact ⟨rfl, ⟨_, _, H1.out⟩, HB.out.trans K1.out⟩

set_option maxHeartbeats 800000 in
theorem do_8 (base B : Nat) (s : St) (a : Act) (ka : Option Addr) (kl kc : Nat) (w : World) (hk : a.kind = 8) (h : Dk base w B s) (ho : Ok s) (hl : Lim s) (ha : Few base B w a ka kl kc) :
    Calls Try.prog 10 #[.pointer (some ⟨B, 0, none⟩), aggA a ka kl kc] w (Does base B w (act s a)) := by
  have HR : Hid (act s a = (up s a.keep, 0)) := by show _ = _; unfold act; simp [hk]
  rw [HR.out]
  have hb : Below w.heap.size w (w.alloc (cellsA a ka kl kc)) := (Below.refl _ _).alloc (Nat.le_refl _) _
  have hd := h.later hb
  have HB := Lib.hid (Kp.of_below (base := base) (B := B) (ts := TS) hb)
  have HC := Lib.hid (up_any base B s ka kl kc a.keep _ hd ho hl (ha.keep.kp (Kp.of_below hb)))
  unfold cellsA at HC HB
  unfold aggA
  rw [hk] at HC HB ⊢
  clear h hd hb
  go_enter Try.func10, Try.ntmps10
  go_wp2_with fail
  refine HC.out.mono ?_
  rintro e w1 ⟨rfl, h1, k1⟩
  have H1 := Lib.hid h1
  have K1 := Lib.hid k1
  clear h1 k1
  go_wp2_with fail
  go_ret
  exact ⟨rfl, H1.out, HB.out.trans K1.out⟩

set_option maxHeartbeats 800000 in
theorem do_other (a : Act) (ka : Option Addr) (kl kc : Nat) (p : Option Addr) (w : World) (hk : a.kind < 1 ∨ 8 < a.kind) :
    Calls Try.prog 10 #[.pointer p, aggA a ka kl kc] w fun e w' => e = .returned (.int .i64 0) ∧ Below w.heap.size w w' := by
  have e1 : (a.kind == 1) = false := by simp; omega
  have e2 : (a.kind == 2) = false := by simp; omega
  have e3 : (a.kind == 3) = false := by simp; omega
  have e4 : (a.kind == 4) = false := by simp; omega
  have e5 : (a.kind == 5) = false := by simp; omega
  have e6 : (a.kind == 6) = false := by simp; omega
  have e7 : (a.kind == 7) = false := by simp; omega
  have e8 : (a.kind == 8) = false := by simp; omega
  have hb : Below w.heap.size w (w.alloc (cellsA a ka kl kc)) := (Below.refl _ _).alloc (Nat.le_refl _) _
  have HB := Lib.hid hb
  unfold cellsA at HB
  unfold aggA
  clear hb hk
  go_enter Try.func10, Try.ntmps10
  go_wp2_with fail
  go_ret
  exact ⟨rfl, HB.out⟩

theorem do_any (base B : Nat) (s : St) (a : Act) (ka : Option Addr) (kl kc : Nat) (w : World) (h : Dk base w B s) (ho : Ok s) (hl : Lim s) (ha : Few base B w a ka kl kc) :
    Calls Try.prog 10 #[.pointer (some ⟨B, 0, none⟩), aggA a ka kl kc] w (Does base B w (act s a)) := by
  by_cases h1 : a.kind = 1
  · exact do_1 base B s a ka kl kc w h1 h ho hl ha
  by_cases h2 : a.kind = 2
  · exact do_2 base B s a ka kl kc w h2 h ho hl ha
  by_cases h3 : a.kind = 3
  · exact do_3 base B s a ka kl kc w h3 h ho hl ha
  by_cases h4 : a.kind = 4
  · exact do_4 base B s a ka kl kc w h4 h ho hl ha
  by_cases h5 : a.kind = 5
  · exact do_5 base B s a ka kl kc w h5 h ho hl ha
  by_cases h6 : a.kind = 6
  · exact do_6 base B s a ka kl kc w h6 h ho hl ha
  by_cases h7 : a.kind = 7
  · exact do_7 base B s a ka kl kc w h7 h ho hl ha
  by_cases h8 : a.kind = 8
  · exact do_8 base B s a ka kl kc w h8 h ho hl ha
  have HR : act s a = (s, 0) := by unfold act; simp [h1, h2, h3, h4, h5, h6, h7, h8]
  rw [HR]
  refine (do_other a ka kl kc _ w (by omega)).mono ?_
  rintro e w' ⟨rfl, hb⟩
  exact ⟨rfl, h.later hb, Kp.of_below hb⟩

/-! ### a disk that is nil -/
theorem nil_1 (n t : ByteArray) (w : World) : Calls Try.prog 23 #[.pointer none, .string n, .string t] w fun e w' => e = .returned (.int .i64 9) ∧ Below w.heap.size w w' := by
  go_enter Try.func23, Try.ntmps23
  go_wp2_with fail
  refine (find_nil n w).mono ?_
  rintro e w1 ⟨rfl, hb⟩
  go_wp2_with fail
  refine (on_nil _).mono ?_
  rintro e w1 ⟨rfl, rfl⟩
  go_wp2_with fail
  go_ret
  exact ⟨rfl, hb⟩
theorem nil_2 (n : ByteArray) (w : World) : Calls Try.prog 24 #[.pointer none, .string n] w fun e w' => e = .returned (.int .i64 9) ∧ Below w.heap.size w w' := by
  go_enter Try.func24, Try.ntmps24
  go_wp2_with fail
  refine (look_nil n w).mono ?_
  rintro e w1 ⟨rfl, hb⟩
  go_wp2_with fail
  go_ret
  exact ⟨rfl, hb⟩
theorem nil_3 (n t : ByteArray) (w : World) : Calls Try.prog 28 #[.pointer none, .string n, .string t] w fun e w' => e = .returned (.int .i64 9) ∧ Below w.heap.size w w' := by
  go_enter Try.func28, Try.ntmps28
  go_wp2_with fail
  refine (look_nil n w).mono ?_
  rintro e w1 ⟨rfl, hb⟩
  go_wp2_with fail
  go_ret
  exact ⟨rfl, hb⟩
theorem nil_4 (n : ByteArray) (w : World) : Calls Try.prog 26 #[.pointer none, .string n] w fun e w' => e = .returned (.int .i64 9) ∧ Below w.heap.size w w' := by
  go_enter Try.func26, Try.ntmps26
  go_wp2_with fail
  refine (look_nil n w).mono ?_
  rintro e w1 ⟨rfl, hb⟩
  go_wp2_with fail
  go_ret
  exact ⟨rfl, hb⟩
theorem nil_5 (n : ByteArray) (k : Int) (w : World) : Calls Try.prog 29 #[.pointer none, .string n, .int .i64 k] w fun e w' => e = .returned (.int .i64 9) ∧ Below w.heap.size w w' := by
  go_enter Try.func29, Try.ntmps29
  go_wp2_with fail
  refine (look_nil n w).mono ?_
  rintro e w1 ⟨rfl, hb⟩
  go_wp2_with fail
  go_ret
  exact ⟨rfl, hb⟩
theorem nil_8 (ka : Option Addr) (kl kc : Nat) (w : World) : Calls Try.prog 27 #[.pointer none, .slice ka kl kc] w fun e w' => e = .returned (.tuple #[]) ∧ w = w' := by
  go_enter Try.func27, Try.ntmps27
  go_wp2_with fail
  refine bodyPost_ret (results_none rfl _ _ _) rfl ?_
  exact ⟨rfl, rfl⟩
set_option maxHeartbeats 800000 in
theorem donil_1 (a : Act) (ka : Option Addr) (kl kc : Nat) (w : World) (hk : a.kind = 1) :
    Calls Try.prog 10 #[.pointer none, aggA a ka kl kc] w fun e w' => e = .returned (.int .i64 9) ∧ Below w.heap.size w w' := by
  have hb : Below w.heap.size w (w.alloc (cellsA a ka kl kc)) := (Below.refl _ _).alloc (Nat.le_refl _) _
  have HB := Lib.hid hb
  unfold cellsA at HB
  unfold aggA
  rw [hk] at HB ⊢
  clear hb
  go_enter Try.func10, Try.ntmps10
  go_wp2_with fail
  refine (nil_1 a.name a.s _).mono ?_
  rintro e w1 ⟨rfl, hb1⟩
  go_wp2_with fail
  go_ret
  exact ⟨rfl, HB.out.trans (hb1.mono (by simp))⟩

set_option maxHeartbeats 800000 in
theorem donil_2 (a : Act) (ka : Option Addr) (kl kc : Nat) (w : World) (hk : a.kind = 2) :
    Calls Try.prog 10 #[.pointer none, aggA a ka kl kc] w fun e w' => e = .returned (.int .i64 9) ∧ Below w.heap.size w w' := by
  have hb : Below w.heap.size w (w.alloc (cellsA a ka kl kc)) := (Below.refl _ _).alloc (Nat.le_refl _) _
  have HB := Lib.hid hb
  unfold cellsA at HB
  unfold aggA
  rw [hk] at HB ⊢
  clear hb
  go_enter Try.func10, Try.ntmps10
  go_wp2_with fail
  refine (nil_2 a.name _).mono ?_
  rintro e w1 ⟨rfl, hb1⟩
  go_wp2_with fail
  go_ret
  exact ⟨rfl, HB.out.trans (hb1.mono (by simp))⟩

set_option maxHeartbeats 800000 in
theorem donil_3 (a : Act) (ka : Option Addr) (kl kc : Nat) (w : World) (hk : a.kind = 3) :
    Calls Try.prog 10 #[.pointer none, aggA a ka kl kc] w fun e w' => e = .returned (.int .i64 9) ∧ Below w.heap.size w w' := by
  have hb : Below w.heap.size w (w.alloc (cellsA a ka kl kc)) := (Below.refl _ _).alloc (Nat.le_refl _) _
  have HB := Lib.hid hb
  unfold cellsA at HB
  unfold aggA
  rw [hk] at HB ⊢
  clear hb
  go_enter Try.func10, Try.ntmps10
  go_wp2_with fail
  refine (nil_3 a.name a.to _).mono ?_
  rintro e w1 ⟨rfl, hb1⟩
  go_wp2_with fail
  go_ret
  exact ⟨rfl, HB.out.trans (hb1.mono (by simp))⟩

set_option maxHeartbeats 800000 in
theorem donil_4 (a : Act) (ka : Option Addr) (kl kc : Nat) (w : World) (hk : a.kind = 4) :
    Calls Try.prog 10 #[.pointer none, aggA a ka kl kc] w fun e w' => e = .returned (.int .i64 9) ∧ Below w.heap.size w w' := by
  have hb : Below w.heap.size w (w.alloc (cellsA a ka kl kc)) := (Below.refl _ _).alloc (Nat.le_refl _) _
  have HB := Lib.hid hb
  unfold cellsA at HB
  unfold aggA
  rw [hk] at HB ⊢
  clear hb
  go_enter Try.func10, Try.ntmps10
  go_wp2_with fail
  refine (nil_4 a.name _).mono ?_
  rintro e w1 ⟨rfl, hb1⟩
  go_wp2_with fail
  go_ret
  exact ⟨rfl, HB.out.trans (hb1.mono (by simp))⟩

set_option maxHeartbeats 800000 in
theorem donil_5 (a : Act) (ka : Option Addr) (kl kc : Nat) (w : World) (hk : a.kind = 5) :
    Calls Try.prog 10 #[.pointer none, aggA a ka kl kc] w fun e w' => e = .returned (.int .i64 9) ∧ Below w.heap.size w w' := by
  have hb : Below w.heap.size w (w.alloc (cellsA a ka kl kc)) := (Below.refl _ _).alloc (Nat.le_refl _) _
  have HB := Lib.hid hb
  unfold cellsA at HB
  unfold aggA
  rw [hk] at HB ⊢
  clear hb
  go_enter Try.func10, Try.ntmps10
  go_wp2_with fail
  refine (nil_5 a.name a.n _).mono ?_
  rintro e w1 ⟨rfl, hb1⟩
  go_wp2_with fail
  go_ret
  exact ⟨rfl, HB.out.trans (hb1.mono (by simp))⟩

set_option maxHeartbeats 800000 in
theorem donil_6 (a : Act) (ka : Option Addr) (kl kc : Nat) (w : World) (hk : a.kind = 6) :
    Calls Try.prog 10 #[.pointer none, aggA a ka kl kc] w fun e w' => e = .returned (.int .i64 0) ∧ Below w.heap.size w w' := by
  have hb : Below w.heap.size w (w.alloc (cellsA a ka kl kc)) := (Below.refl _ _).alloc (Nat.le_refl _) _
  have HB := Lib.hid hb
  unfold cellsA at HB
  unfold aggA
  rw [hk] at HB ⊢
  clear hb
  go_enter Try.func10, Try.ntmps10
  go_wp2_with fail
  refine (fuse_nil a.n _).mono ?_
  rintro e w1 ⟨rfl, rfl⟩
  go_wp2_with fail
  go_ret
  exact ⟨rfl, HB.out⟩

set_option maxHeartbeats 800000 in
theorem donil_7 (a : Act) (ka : Option Addr) (kl kc : Nat) (w : World) (hk : a.kind = 7) :
    Calls Try.prog 10 #[.pointer none, aggA a ka kl kc] w fun e w' => e = .returned (.int .i64 0) ∧ Below w.heap.size w w' := by
  have hb : Below w.heap.size w (w.alloc (cellsA a ka kl kc)) := (Below.refl _ _).alloc (Nat.le_refl _) _
  have HB := Lib.hid hb
  unfold cellsA at HB
  unfold aggA
  rw [hk] at HB ⊢
  clear hb
  go_enter Try.func10, Try.ntmps10
  go_wp2_with fail
  refine (crash_nil _).mono ?_
  rintro e w1 ⟨rfl, rfl⟩
  go_wp2_with fail
  go_ret
  exact ⟨rfl, HB.out⟩

set_option maxHeartbeats 800000 in
theorem donil_8 (a : Act) (ka : Option Addr) (kl kc : Nat) (w : World) (hk : a.kind = 8) :
    Calls Try.prog 10 #[.pointer none, aggA a ka kl kc] w fun e w' => e = .returned (.int .i64 0) ∧ Below w.heap.size w w' := by
  have hb : Below w.heap.size w (w.alloc (cellsA a ka kl kc)) := (Below.refl _ _).alloc (Nat.le_refl _) _
  have HB := Lib.hid hb
  unfold cellsA at HB
  unfold aggA
  rw [hk] at HB ⊢
  clear hb
  go_enter Try.func10, Try.ntmps10
  go_wp2_with fail
  refine (nil_8 ka kl kc _).mono ?_
  rintro e w1 ⟨rfl, rfl⟩
  go_wp2_with fail
  go_ret
  exact ⟨rfl, HB.out⟩

theorem do_nil (a : Act) (ka : Option Addr) (kl kc : Nat) (w : World) :
    Calls Try.prog 10 #[.pointer none, aggA a ka kl kc] w fun e w' => e = .returned (.int .i64 (actN a)) ∧ Below w.heap.size w w' := by
  by_cases h1 : a.kind = 1
  · rw [show actN a = 9 by unfold actN; simp [h1]]
    exact donil_1 a ka kl kc w h1
  by_cases h2 : a.kind = 2
  · rw [show actN a = 9 by unfold actN; simp [h2]]
    exact donil_2 a ka kl kc w h2
  by_cases h3 : a.kind = 3
  · rw [show actN a = 9 by unfold actN; simp [h3]]
    exact donil_3 a ka kl kc w h3
  by_cases h4 : a.kind = 4
  · rw [show actN a = 9 by unfold actN; simp [h4]]
    exact donil_4 a ka kl kc w h4
  by_cases h5 : a.kind = 5
  · rw [show actN a = 9 by unfold actN; simp [h5]]
    exact donil_5 a ka kl kc w h5
  by_cases h6 : a.kind = 6
  · rw [show actN a = 0 by unfold actN; simp [h6]]
    exact donil_6 a ka kl kc w h6
  by_cases h7 : a.kind = 7
  · rw [show actN a = 0 by unfold actN; simp [h7]]
    exact donil_7 a ka kl kc w h7
  by_cases h8 : a.kind = 8
  · rw [show actN a = 0 by unfold actN; simp [h8]]
    exact donil_8 a ka kl kc w h8
  rw [show actN a = 0 by unfold actN; rw [if_neg (by omega)]]
  exact do_other a ka kl kc none w (by omega)
end Go.Proofs.Ytlmhghcoohalaaa.Dk
