/- Sums of many durations: what the program and what the document do. -/
import Derived.Test.YtjdaiknmmplgpaaWdSub
namespace Go.Proofs.Ytjdaiknmmplgpaa.Wd
open Go.RowKit

/-- the sum of durations -/
def ofT (zs : List Int) : Int := zs.foldl addT 0
theorem foldl_ge (zs : List Int) (n : Int) (h : 0 ≤ n) : 0 ≤ zs.foldl addT n := by
  induction zs generalizing n with
  | nil => exact h
  | cons z zs ih => exact ih _ (addT_ge h z)
theorem foldl_le (zs : List Int) (n : Int) (h : n ≤ 19807040633177770416813375487) : zs.foldl addT n ≤ 19807040633177770416813375487 := by
  induction zs generalizing n with
  | nil => exact h
  | cons z zs ih => exact ih _ (addT_le n z)
theorem ofT_ge (zs : List Int) : 0 ≤ ofT zs := foldl_ge zs 0 (by decide)
theorem ofT_le (zs : List Int) : ofT zs ≤ 19807040633177770416813375487 := foldl_le zs 0 (by decide)
theorem ofT_snoc (zs : List Int) (k : Nat) (h : k < zs.length) : ofT (zs.take (k + 1)) = addT (ofT (zs.take k)) (zs[k]?.getD 0) := by
  unfold ofT
  rw [List.take_succ_eq_append_getElem h, List.foldl_append, List.getElem?_eq_getElem h]
  rfl

/-- numbers that stand in memory one behind the other; or none -/
structure Row (a : Option Addr) (len : Nat) (zs : List Int) (w : World) : Prop where
  len_is : zs.length = len
  at_ : 0 < len → ∃ b off, a = some ⟨b, off, none⟩ ∧ b < w.heap.size ∧ ∀ j, j < len → w.cell? ⟨b, off + j, none⟩ = some (.int .i64 (zs[j]?.getD 0))
theorem Row.later {a : Option Addr} {len : Nat} {zs : List Int} {w w' : World} (h : Row a len zs w) (hb : Below w.heap.size w w') : Row a len zs w' :=
  ⟨h.len_is, fun hl => by
    obtain ⟨b, off, h1, h2, h3⟩ := h.at_ hl
    exact ⟨b, off, h1, Nat.lt_of_lt_of_le h2 hb.size, fun j hj => (hb.cell (p := ⟨b, off + j, none⟩) h2).trans (h3 j hj)⟩⟩

/-- a block of two cells that may be written -/
structure Bx (W : World) (B : Nat) (a b : Value) : Prop where
  c0 : W.cell? ⟨B, 0, none⟩ = some a
  c1 : W.cell? ⟨B, 1, none⟩ = some b
  f0 : W.frozen? ⟨B, 0, none⟩ = false
  f1 : W.frozen? ⟨B, 1, none⟩ = false
  lt : B < W.heap.size
theorem Bx.later {W W' : World} {B : Nat} {a b : Value} (h : Bx W B a b) (hl : Below W.heap.size W W') : Bx W' B a b :=
  ⟨(hl.cell (p := ⟨B, 0, none⟩) h.lt).trans h.c0, (hl.cell (p := ⟨B, 1, none⟩) h.lt).trans h.c1, (hl.frozen (p := ⟨B, 0, none⟩) h.lt).trans h.f0, (hl.frozen (p := ⟨B, 1, none⟩) h.lt).trans h.f1, Nat.lt_of_lt_of_le h.lt hl.size⟩
theorem Bx.start (w : World) (ty : TypeId) (a b : Value) : Bx (w.alloc (.cells #[a, b] ty)) w.heap.size a b := by
  refine ⟨?_, ?_, ?_, ?_, ?_⟩ <;> simp
theorem Bx.set {W : World} {B : Nat} {a b : Value} (h : Bx W B a b) (u v : Value) : Bx ((W.setCell ⟨B, 0, none⟩ u).setCell ⟨B, 1, none⟩ v) B u v := by
  have e1 : (W.setCell ⟨B, 0, none⟩ u).cell? ⟨B, 1, none⟩ = some b := by
    rw [World.cell?_setCell_other W _ _ _ (by intro h; injection h with _ h; cases h)]; exact h.c1
  refine ⟨?_, World.cell?_setCell_same _ _ _ e1, ?_, ?_, by simpa using h.lt⟩
  · rw [World.cell?_setCell_other _ _ _ _ (by intro h; injection h with _ h; cases h)]
    exact World.cell?_setCell_same W _ _ h.c0
  · rw [World.frozen?_setCell, World.frozen?_setCell]; exact h.f0
  · rw [World.frozen?_setCell, World.frozen?_setCell]; exact h.f1
theorem Bx.other {W : World} {B C : Nat} {a b : Value} (h : Bx W B a b) (hne : C ≠ B) (u v : Value) : Bx ((W.setCell ⟨C, 0, none⟩ u).setCell ⟨C, 1, none⟩ v) B a b := by
  have o : ∀ (W : World) (i j : Nat) (v : Value), (W.setCell ⟨C, i, none⟩ v).cell? ⟨B, j, none⟩ = W.cell? ⟨B, j, none⟩ := fun W i j v => World.cell?_setCell_other W _ _ _ (by intro h; injection h with h; exact hne h)
  refine ⟨?_, ?_, ?_, ?_, by simpa using h.lt⟩
  · rw [o, o]; exact h.c0
  · rw [o, o]; exact h.c1
  · rw [World.frozen?_setCell, World.frozen?_setCell]; exact h.f0
  · rw [World.frozen?_setCell, World.frozen?_setCell]; exact h.f1
theorem Bx.same0 {W : World} {B : Nat} {a b : Value} (h : Bx W B a b) (u : Value) : (W.setCell ⟨B, 0, none⟩ u).cell? ⟨B, 0, none⟩ = some u := World.cell?_setCell_same W _ _ h.c0
theorem Bx.same1 {W : World} {B : Nat} {a b : Value} (h : Bx W B a b) (u v : Value) : ((W.setCell ⟨B, 0, none⟩ u).setCell ⟨B, 1, none⟩ v).cell? ⟨B, 1, none⟩ = some v := (h.set u v).c1

set_option maxHeartbeats 3200000 in
set_option maxRecDepth 100000 in
theorem of_any (a : Option Addr) (len cap : Nat) (zs : List Int) (w : World) (hz : Row a len zs w) (hl : len ≤ 1000) :
    Calls Try.prog 14 #[.slice a len cap] w fun e w' => e = .returned (.agg #[.int .i64 (hi (ofT zs)), .int .i64 (lo (ofT zs))]) ∧ Below w.heap.size w w' := by
  have HZ := Lib.hid hz
  clear hz
  have hb0 := Bx.start w 23 (.int .i64 0) (.int .i64 0)
  have hb1 := Bx.start (w.alloc (.cells #[.int .i64 0, .int .i64 0] 23)) 23 (.int .i64 0) (.int .i64 0)
  have hb2 := hb0.later ((Below.refl _ _).alloc (Nat.le_refl _) (.cells #[.int .i64 0, .int .i64 0] 23))
  have hbl : Below w.heap.size w ((w.alloc (.cells #[.int .i64 0, .int .i64 0] 23)).alloc (.cells #[.int .i64 0, .int .i64 0] 23)) := ((Below.refl _ _).alloc (Nat.le_refl _) _).alloc (by simp) _
  rw [show (w.alloc (.cells #[.int .i64 0, .int .i64 0] 23)).heap.size = w.heap.size + 1 by simp] at hb1
  go_enter Try.func14, Try.ntmps14
  go_wp2_with fail
  clear hb0
  generalize World.alloc (World.alloc _ _) _ = W at hb1 hb2 hbl ⊢
  go_loopw [8] (fun i wr => ∃ k : Nat, k ≤ len ∧ i = .int .i64 k ∧ Hid (Bx wr w.heap.size (.int .i64 0) (.int .i64 0)) ∧ Hid (Bx wr (w.heap.size + 1) (.int .i64 (hi (ofT (zs.take k)))) (.int .i64 (lo (ofT (zs.take k))))) ∧ Hid (Below w.heap.size w wr)) (fun i _ => len - (intOf i).toNat)
  case atStart => exact ⟨0, by omega, rfl, hb2, hb1, hbl⟩
  case round =>
    obtain ⟨k, hk, rfl, HB0, HB1, HBL⟩ := hrel
    have c0 := HB1.out.c0
    have c1 := HB1.out.c1
    by_cases hkl : k < len
    · obtain ⟨b, off, rfl, hbs, hcell⟩ := (HZ.out.later HBL.out).at_ (by omega)
      have hc := hcell k hkl
      have HS := Lib.hid (ofT_snoc zs k (by rw [HZ.out.len_is]; exact hkl))
      have HT := Lib.hid (tot_split (ofT_ge (zs.take k)) (ofT_le (zs.take k)))
      generalize zs[k]?.getD 0 = z at hc HS
      clear hcell
      go_wp2_with fail
      refine (add_any _ _ _ _).mono ?_
      rintro e w1 ⟨rfl, hb1⟩
      have HB1' := HB1.out.later hb1
      have HB0' := HB0.out.later hb1
      have HBL' : Hid (Below w.heap.size w w1) := HBL.out.trans (hb1.mono HBL.out.size)
      have d0 := HB1'.c0
      have d1 := HB1'.c1
      have d2 := HB1'.f0
      have d3 := HB1'.f1
      clear hb1 c0 c1 hc
      rw [HT.out, ← HS.out]
      go_wp2_with fail
      go_roundw
      case rel => exact ⟨k + 1, by omega, by go_num, HB0'.other (by omega) _ _, HB1'.set _ _, (HBL'.out.setCell (by simp) _).setCell (by simp) _⟩
      case measure => simp [intOf]; omega
    · obtain rfl : k = len := by omega
      have hall : zs.take k = zs := List.take_of_length_le (by rw [HZ.out.len_is]; omega)
      rw [hall] at HB1 c0 c1
      clear hall
      have d0 := HB0.out.c0
      have d1 := HB0.out.c1
      have d2 := HB0.out.f0
      have d3 := HB0.out.f1
      have s0 := HB0.out.same0
      have s1 := HB0.out.same1
      go_wp2_with fail
      refine bodyPost_ret (v := .agg #[.int .i64 (hi (ofT zs)), .int .i64 (lo (ofT zs))]) ?_ rfl ⟨rfl, ?_⟩
      · simp [results, Try.results14, go_sem, s0, s1]
      · exact (HBL.out.setCell (Nat.le_refl _) _).setCell (Nat.le_refl _) _

set_option maxHeartbeats 3200000 in
set_option maxRecDepth 100000 in
theorem rof_any (a : Option Addr) (len cap : Nat) (zs : List Int) (w : World) (hz : Row a len zs w) (hl : len ≤ 1000) :
    Calls Try.prog 15 #[.slice a len cap] w fun e w' => e = .returned (.agg #[.int .i64 (hi (ofT zs)), .int .i64 (lo (ofT zs))]) ∧ Below w.heap.size w w' := by
  have HZ := Lib.hid hz
  clear hz
  have hb0 := Bx.start w 23 (.int .i64 0) (.int .i64 0)
  have hb1 := Bx.start (w.alloc (.cells #[.int .i64 0, .int .i64 0] 23)) 23 (.int .i64 0) (.int .i64 0)
  have hb2 := hb0.later ((Below.refl _ _).alloc (Nat.le_refl _) (.cells #[.int .i64 0, .int .i64 0] 23))
  have hbl : Below w.heap.size w ((w.alloc (.cells #[.int .i64 0, .int .i64 0] 23)).alloc (.cells #[.int .i64 0, .int .i64 0] 23)) := ((Below.refl _ _).alloc (Nat.le_refl _) _).alloc (by simp) _
  rw [show (w.alloc (.cells #[.int .i64 0, .int .i64 0] 23)).heap.size = w.heap.size + 1 by simp] at hb1
  go_enter Try.func15, Try.ntmps15
  go_wp2_with fail
  clear hb0
  generalize World.alloc (World.alloc _ _) _ = W at hb1 hb2 hbl ⊢
  go_loopw [4] (fun i wr => ∃ k : Nat, k ≤ len ∧ i = .int .i64 k ∧ Hid (Bx wr w.heap.size (.int .i64 0) (.int .i64 0)) ∧ Hid (Bx wr (w.heap.size + 1) (.int .i64 (hi (ofT (zs.take k)))) (.int .i64 (lo (ofT (zs.take k))))) ∧ Hid (Below w.heap.size w wr)) (fun i _ => len - (intOf i).toNat)
  case atStart => exact ⟨0, by omega, rfl, hb2, hb1, hbl⟩
  case round =>
    obtain ⟨k, hk, rfl, HB0, HB1, HBL⟩ := hrel
    have c0 := HB1.out.c0
    have c1 := HB1.out.c1
    by_cases hkl : k < len
    · obtain ⟨b, off, rfl, hbs, hcell⟩ := (HZ.out.later HBL.out).at_ (by omega)
      have hc := hcell k hkl
      have HS := Lib.hid (ofT_snoc zs k (by rw [HZ.out.len_is]; exact hkl))
      have HT := Lib.hid (tot_split (ofT_ge (zs.take k)) (ofT_le (zs.take k)))
      generalize zs[k]?.getD 0 = z at hc HS
      clear hcell
      generalize hi (ofT (zs.take k)) = H at *
      generalize lo (ofT (zs.take k)) = L at *
      have HB1d : Hid (Bx wr.drew (w.heap.size + 1) (.int .i64 H) (.int .i64 L)) := HB1.out.later ((Below.refl _ _).drew)
      have HB0d : Hid (Bx wr.drew w.heap.size (.int .i64 0) (.int .i64 0)) := HB0.out.later ((Below.refl _ _).drew)
      have HBLd : Hid (Below w.heap.size w wr.drew) := HBL.out.drew
      go_wp2_with fail
      go_region_with (go_at_call 9; refine (radd_any _ _ _ _).mono ?_; rintro e w1 ⟨rfl, hb1⟩; have HB1' := HB1d.out.later hb1; have HB0' := HB0d.out.later hb1; have HBL' : Hid (Below w.heap.size w w1) := HBLd.out.trans (hb1.mono HBLd.out.size); have d0 := HB1'.c0; have d1 := HB1'.c1; have d2 := HB1'.f0; have d3 := HB1'.f1; clear hb1; rw [HT.out, ← HS.out])
      all_goals
        go_wp2_with fail
        go_roundw
        case rel => exact ⟨k + 1, by omega, by go_num, HB0'.other (by omega) _ _, HB1'.set _ _, (HBL'.out.setCell (by simp) _).setCell (by simp) _⟩
        case measure => simp [intOf]; omega
    · obtain rfl : k = len := by omega
      have hall : zs.take k = zs := List.take_of_length_le (by rw [HZ.out.len_is]; omega)
      rw [hall] at HB1 c0 c1
      clear hall
      have d0 := HB0.out.c0
      have d1 := HB0.out.c1
      have d2 := HB0.out.f0
      have d3 := HB0.out.f1
      have s0 := HB0.out.same0
      have s1 := HB0.out.same1
      go_wp2_with fail
      refine bodyPost_ret (v := .agg #[.int .i64 (hi (ofT zs)), .int .i64 (lo (ofT zs))]) ?_ rfl ⟨rfl, ?_⟩
      · simp [results, Try.results15, go_sem, s0, s1]
      · exact (HBL.out.setCell (Nat.le_refl _) _).setCell (Nat.le_refl _) _
end Go.Proofs.Ytjdaiknmmplgpaa.Wd
