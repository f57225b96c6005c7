/- The walk of the first law of layer 11: the bytes of records, the records of bytes, and records cut into lots. -/
import Derived.Test.YtafcgknpehphlaaLtWhole
import Derived.Test.YtafcgknpehphlaaLtRTake
set_option linter.unusedSimpArgs false
namespace Go.Proofs.Ytafcgknpehphlaa.Lt
open Go.RowKit
open Cd (Rec Fit may recB zeroR recV recL Blk)
open Rk (At9 Recs rcs W64 shB FewEnd)

theorem take_few (s : ByteArray) : (takeL s).1.length ≤ 256 := by
  rcases take_back s with ⟨l, h, _, hl, _⟩ | ⟨e, _, h⟩
  · rw [h]; exact hl
  · rw [h]; exact Nat.zero_le _
/-- what stands: what came in, two lists that were taken -/
structure Ls (w W : World) (a : Option Addr) (len : Nat) (l : List Rec) : Prop where
  recs : Recs a len l W
  below : Below w.heap.size w W
theorem Ls.later {w W W' : World} {a : Option Addr} {len : Nat} {l : List Rec} (h : Ls w W a len l) (hb : Below W.heap.size W W') : Ls w W' a len l := ⟨h.recs.later hb, h.below.trans (hb.mono h.below.size)⟩
set_option maxHeartbeats 12800000 in
set_option maxRecDepth 100000 in
theorem is_any (a : Option Addr) (len cap : Nat) (l : List Rec) (s : ByteArray) (size : Int) (w : World) (hr : Recs a len l w) (hc : len ≤ cap) (h64 : size ≤ 9223372036854775807) (hok : ∀ x ∈ l, W64 x) :
    Calls Try.prog 3 #[.slice a len cap, .string s, .int .i64 size] w fun e w' => e = .returned (.bool true) ∧ Below w.heap.size w w' := by
  have HR := Lib.hid hr
  have HLEN := Lib.hid hr.len_is
  have HOK := Lib.hid hok
  have FE := Lib.hid (fun w h => Rk.few_any 20 a len cap l w h (by omega))
  clear hr hok
  go_enter Try.func3, Try.ntmps3
  go_wp2_with fail
  refine (FE.out _ HR.out).mono ?_
  rintro e w1 ⟨⟨f, rfl, hf⟩, b1⟩
  have L1 : Hid (Ls w w1 a len l) := ⟨HR.out.later b1, b1⟩
  have HF := Lib.hid hf
  clear b1 hf
  cases f
  · go_wp2_with fail
    refine (awake_any _).mono ?_
    rintro e w9 ⟨rfl, b9⟩
    have B9 := Lib.hid (L1.out.below.trans (b9.mono L1.out.below.size))
    clear b9
    go_wp2_with fail
    go_ret
    exact ⟨rfl, B9.out⟩
  have HSH := Lib.hid (HF.out (by trivial))
  have hl20 : len ≤ 20 := by have := HSH.out.1; have := HLEN.out; omega
  by_cases hs : s.size > 1024
  · have hs' : ((s.size : Int) > 1024) := by omega
    go_wp2_with fail
    refine (awake_any _).mono ?_
    rintro e w9 ⟨rfl, b9⟩
    have B9 := Lib.hid (L1.out.below.trans (b9.mono L1.out.below.size))
    clear b9
    go_wp2_with fail
    go_ret
    exact ⟨rfl, B9.out⟩
  have hs' : ¬ ((s.size : Int) > 1024) := by omega
  have HFIT : Hid (∀ x ∈ l, Fit x) := few_fit HOK.out HSH.out.2
  have PA := fun W h => put_any a len cap l W h (by omega) HFIT.out
  have QA := fun W h => rput_any a len cap l W h (by omega) HFIT.out (fun x hx => (HOK.out x hx).lo)
  have TA := fun W => take_any s W (by omega)
  have UA := fun W => rtake_any s W (by omega)
  have HTF := take_few s
  generalize putL l = pl at *
  generalize takeL s = tl at *
  obtain ⟨pb, pe⟩ := pl
  obtain ⟨tr, te⟩ := tl
  have PA := Lib.hid PA
  have QA := Lib.hid QA
  have TA := Lib.hid TA
  have UA := Lib.hid UA
  have HTF : tr.length ≤ 256 := HTF
  clear hs
  go_wp2_with fail
  refine (PA.out _ L1.out.recs).mono ?_
  rintro e w2 ⟨rfl, b2⟩
  have L2 := Lib.hid (L1.out.later b2)
  clear b2
  go_wp2_with fail
  refine (QA.out _ L2.out.recs).mono ?_
  rintro e w3 ⟨rfl, b3⟩
  have L3 := Lib.hid (L2.out.later b3)
  clear b3
  go_wp2_with fail
  refine (TA.out _).mono ?_
  rintro e w4 ⟨⟨v4, rfl, a4, c4, rfl, hr4, _⟩, b4⟩
  have L4 := Lib.hid (L3.out.later b4)
  have R4 := Lib.hid hr4
  clear b4 hr4
  simp only
  go_wp2_with fail
  refine (UA.out _).mono ?_
  rintro e w5 ⟨⟨v5, rfl, a5, c5, rfl, hr5, _⟩, b5⟩
  have L5 := Lib.hid (L4.out.later b5)
  have R5 := Lib.hid hr5
  have R45 := Lib.hid (R4.out.later b5)
  clear b5 hr5
  simp only
  go_wp2_with fail
  refine (cut_any a len cap l size _ L5.out.recs hc (by omega) h64).mono ?_
  rintro e w6 ⟨⟨v6, rfl, hcut6⟩, b6⟩
  obtain ⟨A6, K6, c6, rfl, hz6, hx6⟩ := hcut6
  have L6 := Lib.hid (L5.out.later b6)
  have R46 := Lib.hid (R45.out.later b6)
  have R56 := Lib.hid (R5.out.later b6)
  have X6 := Lib.hid hx6
  have Z6 := Lib.hid hz6
  clear b6 hx6 hz6
  go_wp2_with fail
  refine (rcut_any a len cap l size _ L6.out.recs hc (by omega) h64).mono ?_
  rintro e w7 ⟨⟨v7, rfl, hcut7⟩, b7⟩
  obtain ⟨A7, K7, c7, rfl, hz7, hx7⟩ := hcut7.read L6.out.recs b7
  have L7 := Lib.hid (L6.out.later b7)
  have R47 := Lib.hid (R46.out.later b7)
  have R57 := Lib.hid (R56.out.later b7)
  have X7 := Lib.hid hx7
  have Z7 := Lib.hid hz7
  have hb7 := Lib.hid b7
  clear b7 hcut7 hx7 hz7
  have hKK : K6 = K7 := by
    rcases X6.out with h | ⟨h1, _, h2, _⟩
    · have := Z7.out.2 (Z6.out.1 h); omega
    · rcases X7.out with g | ⟨_, _, g2, _⟩
      · exact absurd (Z7.out.1 g) h1
      · rw [h2, g2]
  have hK20 : K6 ≤ 20 := by
    rcases X6.out with h | ⟨_, h3, h2, _⟩
    · omega
    · rcases Nat.lt_or_ge 20 K6 with h | h
      · have h5 := (chunks_lt (l := l) h3 20).1 (by omega)
        have h6 : 20 * 1 ≤ 20 * nOf size len := Nat.mul_le_mul_left _ h3
        have := HLEN.out; omega
      · exact h
  subst hKK
  go_wp2_with fail
  refine (same_recs a4 a5 tr.length c4 c5 tr _ R47.out R57.out (by omega)).mono ?_
  rintro e w8 ⟨rfl, b8⟩
  have L8 := Lib.hid (L7.out.later b8)
  have hb8 := Lib.hid b8
  clear b8
  go_wp2_with fail
  go_loopw [17] (fun iv wr => ∃ i : Nat, i ≤ K6 ∧ iv = .int .i64 i ∧ Hid (Below w8.heap.size w8 wr)) (fun iv _ => K6 - (intOf iv).toNat)
  case atStart => exact ⟨0, Nat.zero_le _, rfl, Below.refl _ _⟩
  case round =>
    obtain ⟨i, hi, rfl, HB⟩ := hrel
    by_cases hik : i < K6
    · rcases X6.out with h | ⟨_, hn1, hk6, g6, hA6, hg6, hc6, hcell6⟩
      · omega
      rcases X7.out with h | ⟨-, -, -, g7, hA7, hg7, hc7, hcell7⟩
      · omega
      subst hA6 hA7
      obtain ⟨a6, ci, h6, -, hr6⟩ := hcell6 i hik
      obtain ⟨a7, di, h7, -, hr7⟩ := hcell7 i hik
      have LW := Lib.hid (L8.out.later HB.out)
      have g68 : g6 < w8.heap.size := by have := hb7.out.size; have := hb8.out.size; omega
      have g78 : g7 < w8.heap.size := by have := hb8.out.size; omega
      have h6w := (HB.out.cell (p := ⟨g6, i, none⟩) g68).trans ((hb8.out.cell (p := ⟨g6, i, none⟩) (by have := hb7.out.size; show g6 < _; omega)).trans ((hb7.out.cell (p := ⟨g6, i, none⟩) hg6).trans h6))
      have h7w := (HB.out.cell (p := ⟨g7, i, none⟩) g78).trans ((hb8.out.cell (p := ⟨g7, i, none⟩) hg7).trans h7)
      have hb7w : Below w6.heap.size w6 (World.drew wr) := (hb7.out.trans ((hb8.out.trans ((HB.out.drew).mono hb8.out.size)).mono hb7.out.size))
      have hb8w : Below w7.heap.size w7 (World.drew wr) := (hb8.out.trans ((HB.out.drew).mono hb8.out.size))
      have hrc6 := hr6.later hb7w
      have hrc7 := hr7.later hb8w
      have hcl : (chunk (nOf size len) l i).length ≤ 1000 := by rw [chunk_len, HLEN.out]; omega
      have SA := Lib.hid (fun c d => same_recs _ _ _ c d _ _ hrc6 hrc7 hcl)
      have h6d := (Below.refl wr.heap.size wr).drew.cell (p := ⟨g6, i, none⟩) (by have := HB.out.size; show g6 < _; omega)
      have h7d := (Below.refl wr.heap.size wr).drew.cell (p := ⟨g7, i, none⟩) (by have := HB.out.size; show g7 < _; omega)
      have hStart := And.intro (h6d.trans h6w) (h7d.trans h7w)
      have LD := Lib.hid (LW.out.later (Below.refl _ _).drew)
      generalize (chunk (nOf size len) l i).length = cl at *
      clear hrc6 hrc7 hr6 hr7 hb7w hb8w hcl hcell6 hcell7 h6 h7 h6d h7d hk6 hg6 hg7
      go_wp2_with fail
      refine wp_region_held_drew (S := fun w' => w'.cell? ⟨g6, i, none⟩ = some (.slice a6 cl ci) ∧ w'.cell? ⟨g7, i, none⟩ = some (.slice a7 cl di)) (by kernel_rfl) (hStart) (fun hHeld => ?_)
      refine wpAnyH_take (i := 0) (oi := { dst := some 91, op := Op.move (Operand.tmp 15), type := 31, pos := "law.go:38", after := #[], guard := none }) (v := ?_) rfl (by kernel_rfl) (by kernel_rfl) (by kernel_rfl) (fun _ _ _ h => h) (Or.inl ⟨by rfl, ?_⟩) (by assumption) ?_; rotate_left; (focus (intro w hSw; (try dsimp only at hSw); go_simp; all_goals (with_reducible rfl)))
      try simp only [Act.put, List.setIfInBounds_toArray, List.set_cons_zero, List.set_cons_succ]
      refine wpAnyH_take (i := 1) (oi := { dst := some 92, op := Op.move (Operand.tmp 17), type := 3, pos := "law.go:38", after := #[], guard := none }) (v := ?_) rfl (by kernel_rfl) (by kernel_rfl) (by kernel_rfl) (fun _ _ _ h => h) (Or.inl ⟨by rfl, ?_⟩) (by assumption) ?_; rotate_left; (focus (intro w hSw; (try dsimp only at hSw); go_simp; all_goals (with_reducible rfl)))
      try simp only [Act.put, List.setIfInBounds_toArray, List.set_cons_zero, List.set_cons_succ]
      refine wpAnyH_take (i := 2) (oi := { dst := some 93, op := Op.indexAddr 31 (Operand.tmp 91) (Operand.tmp 92), type := 0, pos := "law.go:38", after := #[{ on := 0, ground := Ground.data }, { on := 1, ground := Ground.data }], guard := none }) (v := ?_) rfl (by kernel_rfl) (by kernel_rfl) (by kernel_rfl) (fun _ _ _ h => h) (Or.inl ⟨by rfl, ?_⟩) (by assumption) ?_; rotate_left; (focus (intro w hSw; (try dsimp only at hSw); go_simp; all_goals (with_reducible rfl)))
      try simp only [Act.put, List.setIfInBounds_toArray, List.set_cons_zero, List.set_cons_succ]
      refine wpAnyH_take (i := 3) (oi := { dst := some 94, op := Op.load 22 (Operand.tmp 93), type := 22, pos := "law.go:38", after := #[{ on := 2, ground := Ground.data }], guard := none }) (v := ?_) rfl (by kernel_rfl) (by kernel_rfl) (by kernel_rfl) (fun _ _ _ h => h) (Or.inl ⟨by rfl, ?_⟩) (by assumption) ?_; rotate_left; (focus (intro w hSw; (try dsimp only at hSw); go_simp; all_goals (with_reducible rfl)))
      try simp only [Act.put, List.setIfInBounds_toArray, List.set_cons_zero, List.set_cons_succ]
      refine wpAnyH_take (i := 4) (oi := { dst := some 95, op := Op.move (Operand.tmp 16), type := 31, pos := "law.go:38", after := #[], guard := none }) (v := ?_) rfl (by kernel_rfl) (by kernel_rfl) (by kernel_rfl) (fun _ _ _ h => h) (Or.inl ⟨by rfl, ?_⟩) (by assumption) ?_; rotate_left; (focus (intro w hSw; (try dsimp only at hSw); go_simp; all_goals (with_reducible rfl)))
      try simp only [Act.put, List.setIfInBounds_toArray, List.set_cons_zero, List.set_cons_succ]
      refine wpAnyH_take (i := 5) (oi := { dst := some 96, op := Op.move (Operand.tmp 17), type := 3, pos := "law.go:38", after := #[], guard := none }) (v := ?_) rfl (by kernel_rfl) (by kernel_rfl) (by kernel_rfl) (fun _ _ _ h => h) (Or.inl ⟨by rfl, ?_⟩) (by assumption) ?_; rotate_left; (focus (intro w hSw; (try dsimp only at hSw); go_simp; all_goals (with_reducible rfl)))
      try simp only [Act.put, List.setIfInBounds_toArray, List.set_cons_zero, List.set_cons_succ]
      refine wpAnyH_take (i := 6) (oi := { dst := some 97, op := Op.indexAddr 31 (Operand.tmp 95) (Operand.tmp 96), type := 0, pos := "law.go:38", after := #[{ on := 4, ground := Ground.data }, { on := 5, ground := Ground.data }], guard := none }) (v := ?_) rfl (by kernel_rfl) (by kernel_rfl) (by kernel_rfl) (fun _ _ _ h => h) (Or.inl ⟨by rfl, ?_⟩) (by assumption) ?_; rotate_left; (focus (intro w hSw; (try dsimp only at hSw); go_simp; all_goals (with_reducible rfl)))
      try simp only [Act.put, List.setIfInBounds_toArray, List.set_cons_zero, List.set_cons_succ]
      refine wpAnyH_take (i := 7) (oi := { dst := some 98, op := Op.load 22 (Operand.tmp 97), type := 22, pos := "law.go:38", after := #[{ on := 6, ground := Ground.data }], guard := none }) (v := ?_) rfl (by kernel_rfl) (by kernel_rfl) (by kernel_rfl) (fun _ _ _ h => h) (Or.inl ⟨by rfl, ?_⟩) (by assumption) ?_; rotate_left; (focus (intro w hSw; (try dsimp only at hSw); go_simp; all_goals (with_reducible rfl)))
      try simp only [Act.put, List.setIfInBounds_toArray, List.set_cons_zero, List.set_cons_succ]
      refine wpAnyH_ready (rs := [8]) (by kernel_rfl) (by simp) ?_
      refine AllReadyH.cons (o := { dst := some 99, op := Op.call { callee := Callee.value (Operand.func 14), args := #[Operand.tmp 94, Operand.tmp 98], argTypes := #[22, 22] }, type := 4, pos := "law.go:38", after := #[{ on := 3, ground := Ground.data }, { on := 7, ground := Ground.data }], guard := none }) rfl (fun K hK => ?_) AllReadyH.nil
      go_simp
      refine (SA.out ci di).mono ?_
      rintro e w9 ⟨rfl, b9⟩
      have HB2 := Lib.hid ((HB.out.trans ((Below.refl wr.heap.size wr).drew.mono HB.out.size)).trans (b9.mono HB.out.size))
      have hKeep := And.intro ((b9.cell (p := ⟨g6, i, none⟩) (by have := HB.out.size; show g6 < wr.heap.size; omega)).trans hStart.1) ((b9.cell (p := ⟨g7, i, none⟩) (by have := HB.out.size; show g7 < wr.heap.size; omega)).trans hStart.2)
      clear b9
      go_wp2_with fail
      refine hK.out _ _ ?_ (fun hHeld => ?_)
      · exact hKeep
      clear hK K
      try simp only [Act.put, List.setIfInBounds_toArray, List.set_cons_zero, List.set_cons_succ]
      refine wpAnyH_take (i := 9) (oi := { dst := some 100, op := Op.unOp UnOp.not 4 (Operand.tmp 99), type := 4, pos := "law.go:38", after := #[{ on := 8, ground := Ground.data }], guard := none }) (v := ?_) rfl (by kernel_rfl) (by kernel_rfl) (by kernel_rfl) (fun _ _ _ h => h) (Or.inl ⟨by rfl, ?_⟩) (by assumption) ?_; rotate_left; (focus (intro w hSw; (try dsimp only at hSw); go_simp; all_goals (with_reducible rfl)))
      try simp only [Act.put, List.setIfInBounds_toArray, List.set_cons_zero, List.set_cons_succ]
      refine wpAnyH_done (by kernel_rfl) ?_ _
      clear hHeld hStart
      go_wp2_with fail
      go_roundw
      case rel => exact ⟨i + 1, by omega, by go_num, HB2.out⟩
      case measure => simp [intOf]; omega
    · have L9 := Lib.hid (L8.out.later HB.out)
      go_wp2_with fail
      refine (awake_any _).mono ?_
      rintro e w9 ⟨rfl, b9⟩
      have B9 := Lib.hid (L9.out.below.trans (b9.mono L9.out.below.size))
      clear b9
      go_wp2_with fail
      go_ret
      exact ⟨rfl, B9.out⟩
end Go.Proofs.Ytafcgknpehphlaa.Lt
