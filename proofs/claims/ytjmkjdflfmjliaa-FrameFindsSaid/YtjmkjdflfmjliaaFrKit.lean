/- The walks of numbers as bytes, the greatest first: the program's and the document's; and bytes as numbers. -/
import Derived.Test.YtjmkjdflfmjliaaFrMath
import Derived.Test.YtjmkjdflfmjliaaCrBoth
import Derived.Laws.IdiomStrings
import Derived.Laws.BytesArg
import Derived.Lib.BufferWrite
import Derived.Deep.OwnRows
namespace Go.Proofs.Ytjmkjdflfmjliaa.Fr
open Go.RowKit

/-- bytes as a text -/
abbrev str (l : List UInt8) : Value := .string ⟨l.toArray⟩
theorem str_app (a b : List UInt8) : Value.string ((⟨a.toArray⟩ : ByteArray) ++ ⟨b.toArray⟩) = str (a ++ b) := by
  unfold str
  congr 1
theorem info8 : (Try.prog.info? 5).map (fun i => (i.zero, i.size, i.bytes)) = some (some (.int .u8 0), 1, 1) := by kernel_rfl

/-- bytes that stand in memory, and may be written -/
def Byt (g : Nat) (l : List UInt8) (w : World) : Prop :=
  g < w.heap.size ∧ ∀ j, j < l.length → w.cell? ⟨g, j, none⟩ = some (.int .u8 ((l.getD j 0).toNat : Int)) ∧ w.frozen? ⟨g, j, none⟩ = false
theorem Byt.set {g : Nat} {l : List UInt8} {w : World} (h : Byt g l w) (i : Nat) (hi : i < l.length) (c : UInt8) : Byt g (l.set i c) (w.setCell ⟨g, i, none⟩ (.int .u8 (c.toNat : Int))) := by
  refine ⟨by simpa using h.1, fun j hj => ?_⟩
  have hj' : j < l.length := by simpa using hj
  obtain ⟨h1, h2⟩ := h.2 j hj'
  refine ⟨?_, by rw [World.frozen?_setCell]; exact h2⟩
  by_cases e : i = j
  · subst e
    rw [World.cell?_setCell_same w _ _ h1]
    simp [List.getD_eq_getElem?_getD, hi]
  · rw [World.cell?_setCell_other w _ _ _ (by intro h; exact e (by injection h)), h1]
    simp [List.getD_eq_getElem?_getD, e]
theorem Byt.drew {g : Nat} {l : List UInt8} {w : World} (h : Byt g l w) : Byt g l w.drew := h
theorem Byt.conv {g : Nat} {l : List UInt8} {w : World} (h : Byt g l w) (n C : Nat) (hn : l.length = n) :
    (convert 42 9 (.slice (some ⟨g, 0, none⟩) n C)).run Try.prog w = .ok (str l) w := by
  subst hn
  refine run_convert_bytes_back w _ _ _ ⟨g, 0, none⟩ C _ Try.underlying42 Try.underlying5 Try.underlying9 fun j hj => ?_
  have := (h.2 j hj).1
  rw [List.getD_eq_getElem?_getD, List.getElem?_eq_getElem hj] at this
  rw [show (⟨g, 0, none⟩ : Addr).add j = ⟨g, j, none⟩ from by unfold Addr.add; split <;> simp_all]
  exact this

/-- a block of two cells that may be written -/
structure Bx (W : World) (B : Nat) (a b : Value) : Prop where
  c0 : W.cell? ⟨B, 0, none⟩ = some a
  c1 : W.cell? ⟨B, 1, none⟩ = some b
  f0 : W.frozen? ⟨B, 0, none⟩ = false
  f1 : W.frozen? ⟨B, 1, none⟩ = false
  lt : B < W.heap.size
theorem Bx.later {W W' : World} {B : Nat} {a b : Value} (h : Bx W B a b) (hl : Below W.heap.size W W') : Bx W' B a b :=
  ⟨(hl.cell (p := ⟨B, 0, none⟩) h.lt).trans h.c0, (hl.cell (p := ⟨B, 1, none⟩) h.lt).trans h.c1, (hl.frozen (p := ⟨B, 0, none⟩) h.lt).trans h.f0, (hl.frozen (p := ⟨B, 1, none⟩) h.lt).trans h.f1, Nat.lt_of_lt_of_le h.lt hl.size⟩
theorem Bx.start (w : World) (ty : TypeId) (a b : Value) : Bx (w.alloc (.cells #[a, b] ty)) w.heap.size a b := by
  refine ⟨?_, ?_, ?_, ?_, ?_⟩ <;> simp
theorem Bx.set0 {W : World} {B : Nat} {a b : Value} (h : Bx W B a b) (u : Value) : Bx (W.setCell ⟨B, 0, none⟩ u) B u b :=
  ⟨World.cell?_setCell_same W _ _ h.c0, (World.cell?_setCell_other W _ _ _ (by intro h; injection h with _ h; cases h)).trans h.c1, by rw [World.frozen?_setCell]; exact h.f0, by rw [World.frozen?_setCell]; exact h.f1, by simpa using h.lt⟩
theorem Bx.set1 {W : World} {B : Nat} {a b : Value} (h : Bx W B a b) (u : Value) : Bx (W.setCell ⟨B, 1, none⟩ u) B a u :=
  ⟨(World.cell?_setCell_other W _ _ _ (by intro h; injection h with _ h; cases h)).trans h.c0, World.cell?_setCell_same W _ _ h.c1, by rw [World.frozen?_setCell]; exact h.f0, by rw [World.frozen?_setCell]; exact h.f1, by simpa using h.lt⟩
/-- both cells written -/
def two (W : World) (B : Nat) (a b : Value) : World := (W.setCell ⟨B, 0, none⟩ a).setCell ⟨B, 1, none⟩ b
theorem Bx.two {W : World} {B : Nat} {a b : Value} (h : Bx W B a b) (u v : Value) : Bx (two W B u v) B u v := (h.set0 u).set1 v
theorem below_two {B : Nat} {w W : World} (h : Below B w W) (C : Nat) (hC : B ≤ C) (u v : Value) : Below B w (two W C u v) := (h.setCell (p := ⟨C, 0, none⟩) hC u).setCell (p := ⟨C, 1, none⟩) hC v
theorem drewN_below {B : Nat} {a w : World} (h : Below B a w) (n : Nat) : Below B a (w.drewN n) := h.trans ⟨rfl, rfl, rfl, Nat.le_refl _, fun _ _ => rfl⟩

/-- what is laid when so many bytes are: the others are not yet -/
def row (many n k : Nat) : List UInt8 := List.replicate (many - k) 0 ++ be k n
theorem row_len (many n k : Nat) (h : k ≤ many) : (row many n k).length = many := by unfold row; rw [List.length_append, List.length_replicate, be_len]; omega
theorem row_set (many n k : Nat) (h : k < many) : (row many n k).set (many - 1 - k) (UInt8.ofNat (n / 256 ^ k % 256)) = row many n (k + 1) := by
  unfold row
  rw [be_cons]
  obtain ⟨m, rfl⟩ : ∃ m, many = k + 1 + m := ⟨many - (k + 1), by omega⟩
  rw [show k + 1 + m - k = m + 1 by omega, show k + 1 + m - 1 - k = m by omega, show k + 1 + m - (k + 1) = m by omega]
  rw [List.replicate_succ', List.append_assoc, List.set_append_right _ _ (by simp)]
  simp

theorem byte_of (n k : Nat) : ((UInt8.ofNat (n / 256 ^ k % 256)).toNat : Int) = (n : Int) / 2 ^ (8 * k) % 256 := by
  have e : (UInt8.ofNat (n / 256 ^ k % 256)).toNat = n / 256 ^ k % 256 := by rw [UInt8.toNat_ofNat']; omega
  have e2 : (256 : Nat) ^ k = 2 ^ (8 * k) := by rw [Nat.pow_mul]
  rw [e, e2]
  simp

set_option maxHeartbeats 800000 in
theorem put_any (n many : Nat) (_hn : n < 9223372036854775808) (h1 : 1 ≤ many) (h8 : many ≤ 8) (w : World) :
    Calls Try.prog 18 #[.int .i64 n, .int .i64 many] w fun e w' => e = .returned (str (be many n)) ∧ Below w.heap.size w w' := by
  have hmk := run_make_row' (P := Try.prog) 42 5 (.int .u8 0) 1 Try.underlying42 info8 rfl .i64 .i64 many (by omega) (by omega)
  have hb0 : Below w.heap.size w (w.alloc (.cells (madeCells #[Value.int .u8 0] many) 5)) := (Below.refl _ w).alloc (Nat.le_refl _) _
  have hB0 : Byt w.heap.size (row many n 0) (w.alloc (.cells (madeCells #[Value.int .u8 0] many) 5)) := by
    have hg := heap_alloc_new w (.cells (madeCells #[Value.int .u8 0] many) 5)
    refine ⟨by simp, fun j hj => ?_⟩
    rw [row_len _ _ _ (Nat.zero_le _)] at hj
    refine ⟨?_, by rw [World.frozen?, hg]; simp⟩
    have : (row many n 0).getD j 0 = 0 := by simp [row, be, List.getD_eq_getElem?_getD, hj]
    rw [this, World.cell?, hg]
    simp [madeCells, hj, Nat.mod_one]
  have hmk1 := hmk w
  clear hmk
  generalize w.alloc (.cells (madeCells #[Value.int .u8 0] many) 5) = W at hmk1 hb0 hB0
  have HB0 := Lib.hid hb0
  have HY0 := Lib.hid hB0
  clear hb0 hB0
  go_enter Try.func18, Try.ntmps18
  go_wp2_with fail
  go_loopw [6, 10] (fun _ i wr => ∃ k : Nat, k ≤ many ∧ i = .int .i64 k ∧ Hid (Byt w.heap.size (row many n k) wr) ∧ Hid (Below w.heap.size w wr)) (fun _ i _ => many - (intOf i).toNat)
  case atStart => exact ⟨0, by omega, rfl, HY0, HB0⟩
  case round =>
    obtain ⟨k, hk, rfl, HY, HB⟩ := hrel
    by_cases hlt : k < many
    · have hlen : many - 1 - k < (row many n k).length := by rw [row_len _ _ _ hk]; omega
      obtain ⟨hc, hf⟩ := HY.out.2 (many - 1 - k) hlen
      have hbv := byte_of n k
      have HV := Lib.hid hbv
      clear hbv
      have hix : ((many : Int) - 1 - (k : Int)).toNat = many - 1 - k := by omega
      go_wp2_with fail
      go_roundw
      case rel =>
        refine ⟨k + 1, by omega, by go_num, ?_, HB.out.setCell (Nat.le_refl _) _⟩
        have := HY.out.set (many - 1 - k) hlen (UInt8.ofNat (n / 256 ^ k % 256))
        rw [row_set _ _ _ hlt, HV.out] at this
        exact this
      case measure => simp [intOf]; omega
    · obtain rfl : k = many := by omega
      have hlen : (row k n k).length = k := row_len _ _ _ hk
      have hcv := fun C => HY.out.conv k C hlen
      have hrw : row k n k = be k n := by unfold row; rw [Nat.sub_self]; rfl
      rw [hrw] at hcv
      clear hrw hlen
      go_wp2_with fail
      go_ret
      exact ⟨rfl, HB.out⟩

theorem take_snoc (s : ByteArray) (k : Nat) (h : k < s.size) : (B s).take (k + 1) = (B s).take k ++ [s[k]] := by
  unfold B; rw [List.take_succ_eq_append_getElem (by simpa using h)]; rfl
theorem val_take (s : ByteArray) (k : Nat) (h : k < s.size) : val ((B s).take (k + 1)) = val ((B s).take k) * 256 + s[k].toNat := by rw [take_snoc s k h, val_snoc]
theorem val_take_lt (s : ByteArray) (k : Nat) (_h : k ≤ 8) : val ((B s).take k) < 256 ^ k := by
  have h1 := val_lt ((B s).take k)
  exact Nat.lt_of_lt_of_le h1 (Nat.pow_le_pow_right (by decide) (List.length_take_le _ _))
theorem sg_wrap (v : Nat) (h : v < 18446744073709551616) : IntKind.i64.wrap (v : Int) = sg v := by
  rw [IntKind.wrap_i64]; unfold sg; split <;> omega
theorem wrap_64 (x : Int) : wrap64 x = IntKind.i64.wrap x := by rw [IntKind.wrap_i64]; unfold wrap64; rfl
theorem or_low (v c : Nat) (hv : v < 72057594037927936) (hc : c < 256) : bits .or .i64 (wrap64 ((v : Int) * 256)) (c : Int) = sg (v * 256 + c) := by
  rw [wrap_64]
  have e1 : (BitVec.ofInt 64 (IntKind.i64.wrap ((v : Int) * 256))).toNat = v * 256 := by
    rw [BitVec.toNat_ofInt, IntKind.wrap_i64]; omega
  have e2 : (BitVec.ofInt 64 (c : Int)).toNat = c := by rw [BitVec.toNat_ofInt]; omega
  show IntKind.i64.wrap ((BitVec.ofInt 64 (IntKind.i64.wrap ((v : Int) * 256)) ||| BitVec.ofInt 64 (c : Int)).toNat : Nat) = _
  rw [BitVec.toNat_or, e1, e2, nat_join 8 (v * 256) c (by omega) (by omega)]
  exact sg_wrap _ (by omega)

set_option maxHeartbeats 800000 in
theorem take_any (s : ByteArray) (hs : s.size ≤ 8) (w : World) :
    Calls Try.prog 23 #[.string s] w fun e w' => e = .returned (.int .i64 (sg (val (B s)))) ∧ w = w' := by
  go_enter Try.func23, Try.ntmps23
  go_wp2
  go_loop [3, 4, 7] (fun n' _ i => ∃ k : Nat, k ≤ s.size ∧ i = .int .i64 k ∧ n' = .int .i64 (sg (val ((B s).take k)))) (fun _ _ i => s.size - (intOf i).toNat)
  case atStart => exact ⟨0, by omega, rfl, rfl⟩
  case round =>
    obtain ⟨k, hk, rfl, rfl⟩ := hrel
    by_cases hlt : k < s.size
    · have h1 := val_take_lt s k (by omega)
      have h2 : val ((B s).take k) < 72057594037927936 := Nat.lt_of_lt_of_le h1 (Nat.pow_le_pow_right (by decide) (show k ≤ 7 by omega))
      clear h1
      have HN := Lib.hid (val_take s k hlt)
      have hor := or_low (val ((B s).take k)) s[k].toNat h2 (Cr.byte_lt _)
      have hsg : sg (val ((B s).take k)) = (val ((B s).take k) : Int) := by unfold sg; rw [if_pos (by omega)]
      rw [hsg]
      generalize val ((B s).take k) = v at *
      clear hsg
      have hbt := Cr.byte_lt s[k]
      go_wp2
      go_round
      case rel => exact ⟨k + 1, by omega, by go_num, by rw [HN.out]⟩
      case measure => simp [intOf]; omega
    · obtain rfl : k = s.size := by omega
      have hl : (B s).take s.size = B s := List.take_of_length_le (by simp)
      rw [hl]
      clear hl
      go_wp2
      go_ret
      exact ⟨rfl, rfl⟩

set_option maxHeartbeats 800000 in
theorem rback_any (s : ByteArray) (hs : s.size ≤ 8) (w : World) :
    Calls Try.prog 25 #[.string s] w fun e w' => e = .returned (.int .i64 (sg (val (B s)))) ∧ w = w' := by
  go_enter Try.func25, Try.ntmps25
  go_wp2
  go_loop [3, 4] (fun n' i => ∃ k : Nat, k ≤ s.size ∧ i = .int .i64 k ∧ n' = .int .u64 (val ((B s).take k))) (fun _ i => s.size - (intOf i).toNat)
  case atStart => exact ⟨0, by omega, rfl, rfl⟩
  case round =>
    obtain ⟨k, hk, rfl, rfl⟩ := hrel
    by_cases hlt : k < s.size
    · have h1 := val_take_lt s k (by omega)
      have h2 : val ((B s).take k) < 72057594037927936 := Nat.lt_of_lt_of_le h1 (Nat.pow_le_pow_right (by decide) (show k ≤ 7 by omega))
      clear h1
      have HN := Lib.hid (val_take s k hlt)
      have hbt := Cr.byte_lt s[k]
      generalize val ((B s).take k) = v at *
      go_wp2
      go_round
      case rel => exact ⟨k + 1, by omega, by go_num, by rw [HN.out]; go_num⟩
      case measure => simp [intOf]; omega
    · obtain rfl : k = s.size := by omega
      have h1 := val_take_lt s s.size hs
      have hl : (B s).take s.size = B s := List.take_of_length_le (by simp)
      rw [hl] at h1 ⊢
      clear hl
      have h2 : val (B s) < 18446744073709551616 := Nat.lt_of_lt_of_le h1 (Nat.pow_le_pow_right (by decide) hs)
      clear h1
      have hsw := sg_wrap _ h2
      go_wp2
      go_ret
      exact ⟨rfl, rfl⟩


/-- four bytes laid, as a text -/
theorem conv_four (w : World) (l : List UInt8) (C : Nat) (cs : Array Value) (hcs : cs.toList = l.map (fun c => Value.int .u8 (c.toNat : Int))) (n : Nat) (hn : l.length = n) :
    (convert 42 9 (.slice (some ⟨w.heap.size, 0, none⟩) n C)).run Try.prog (w.alloc (.cells cs 5)) = .ok (str l) (w.alloc (.cells cs 5)) := by
  subst hn
  refine run_convert_bytes_back _ _ _ _ ⟨w.heap.size, 0, none⟩ C _ Try.underlying42 Try.underlying5 Try.underlying9 fun j hj => ?_
  rw [show (⟨w.heap.size, 0, none⟩ : Addr).add j = ⟨w.heap.size, j, none⟩ from by unfold Addr.add; split <;> simp_all]
  rw [World.cell?, heap_alloc_new w _, ]
  show cs[j]? = _
  rw [← Array.getElem?_toList, hcs]
  simp [hj]

set_option maxHeartbeats 800000 in
theorem rfour_any (n : Nat) (_hn : n < 9223372036854775808) (w : World) :
    Calls Try.prog 20 #[.int .i64 n] w fun e w' => e = .returned (str (be 4 n)) ∧ Below w.heap.size w w' := by
  have hcv := conv_four w (be 4 n) 4 #[Value.int IntKind.u8 ((n : Int) % 4294967296 / 16777216), Value.int IntKind.u8 ((n : Int) % 4294967296 / 65536 % 256), Value.int IntKind.u8 ((n : Int) % 4294967296 / 256 % 256), Value.int IntKind.u8 ((n : Int) % 256)] (by
    simp only [be, List.nil_append, List.cons_append, List.map_cons, List.map_nil, UInt8.toNat_ofNat']
    have e1 : ((n / 256 / 256 / 256 % 256 % 2 ^ 8 : Nat) : Int) = (n : Int) % 4294967296 / 16777216 := by omega
    have e2 : ((n / 256 / 256 % 256 % 2 ^ 8 : Nat) : Int) = (n : Int) % 4294967296 / 65536 % 256 := by omega
    have e3 : ((n / 256 % 256 % 2 ^ 8 : Nat) : Int) = (n : Int) % 4294967296 / 256 % 256 := by omega
    have e4 : ((n % 256 % 2 ^ 8 : Nat) : Int) = (n : Int) % 256 := by omega
    rw [e1, e2, e3, e4]) 4 (be_len 4 n)
  go_enter Try.func20, Try.ntmps20
  go_wp2
  go_ret
  exact ⟨rfl, (Below.refl _ w).alloc (Nat.le_refl _) _⟩

theorem be_eight (n : Nat) : be 4 (n / 4294967296) ++ be 4 (n % 4294967296) = be 8 n := by
  simp only [be, List.nil_append, List.cons_append]
  have e1 : n / 4294967296 = n / 256 / 256 / 256 / 256 := by omega
  have e2 : n % 4294967296 / 256 / 256 / 256 % 256 = n / 256 / 256 / 256 % 256 := by omega
  have e3 : n % 4294967296 / 256 / 256 % 256 = n / 256 / 256 % 256 := by omega
  have e4 : n % 4294967296 / 256 % 256 = n / 256 % 256 := by omega
  have e5 : n % 4294967296 % 256 = n % 256 := by omega
  rw [e1, e2, e3, e4, e5]

set_option maxHeartbeats 800000 in
theorem reight_any (n : Nat) (hn : n < 9223372036854775808) (w : World) :
    Calls Try.prog 22 #[.int .i64 n] w fun e w' => e = .returned (str (be 8 n)) ∧ Below w.heap.size w w' := by
  have hr := str_app (be 4 (n / 4294967296)) (be 4 (n % 4294967296))
  rw [be_eight] at hr
  have HR := Lib.hid hr
  clear hr
  go_enter Try.func22, Try.ntmps22
  go_wp2_with fail
  refine (rfour_any (n / 4294967296) (by omega) w).mono ?_
  rintro e w1 ⟨rfl, h1⟩
  go_wp2_with fail
  refine (rfour_any (n % 4294967296) (by omega) w1).mono ?_
  rintro e w2 ⟨rfl, h2⟩
  go_wp2_with fail
  go_ret
  exact ⟨by rw [← HR.out]; rfl, h1.trans (h2.mono h1.size)⟩
end Go.Proofs.Ytjmkjdflfmjliaa.Fr
