/- The walk of the third law of sums: bits that are changed are found. -/
import Derived.Test.YtdcopeokofcaoaaCrIs
import Derived.Laws.IdiomStrings
import Derived.RegionTactic
import Derived.ChangeAlike
import Derived.BigRegion
namespace Go.Proofs.Ytdcopeokofcaoaa.Cr
open Go.RowKit

/-- which bits of the i-th byte are changed -/
def eb (bs i : Nat) : UInt8 := UInt8.ofNat (bs / 2 ^ (8 * i) % 256)
/-- the bytes behind the first i changes -/
def chg (l : List UInt8) (k bs : Nat) : Nat → List UInt8
  | 0 => l
  | i + 1 => (chg l k bs i).set (k + i) ((chg l k bs i).getD (k + i) 0 ^^^ eb bs i)
theorem chg_len (l : List UInt8) (k bs i : Nat) : (chg l k bs i).length = l.length := by
  induction i with
  | zero => rfl
  | succ i ih => simp [chg, ih]

/-- bytes that stand in memory, and may be written -/
def Byt (g : Nat) (l : List UInt8) (w : World) : Prop :=
  g < w.heap.size ∧ ∀ j, j < l.length → w.cell? ⟨g, j, none⟩ = some (.int .u8 ((l.getD j 0).toNat : Int)) ∧ w.frozen? ⟨g, j, none⟩ = false

theorem Byt.set {g : Nat} {l : List UInt8} {w : World} (h : Byt g l w) (i : Nat) (hi : i < l.length) (c : UInt8) : Byt g (l.set i c) ((w.setCell ⟨g, i, none⟩ (.int .u8 (c.toNat : Int))).drew) := by
  refine ⟨by simpa using h.1, fun j hj => ?_⟩
  have hj' : j < l.length := by simpa using hj
  obtain ⟨h1, h2⟩ := h.2 j hj'
  refine ⟨?_, ?_⟩
  · show (w.setCell ⟨g, i, none⟩ (.int .u8 (c.toNat : Int))).cell? ⟨g, j, none⟩ = _
    by_cases e : i = j
    · subst e
      rw [World.cell?_setCell_same w _ _ h1]
      simp [List.getD_eq_getElem?_getD, hi]
    · rw [World.cell?_setCell_other w _ _ _ (by intro h; exact e (by injection h)), h1]
      simp [List.getD_eq_getElem?_getD, e]
  · show (w.setCell ⟨g, i, none⟩ (.int .u8 (c.toNat : Int))).frozen? ⟨g, j, none⟩ = _
    rw [World.frozen?_setCell]; exact h2

theorem getD_append_at (p t : List UInt8) (i : Nat) : (p ++ t).getD (p.length + i) 0 = t.getD i 0 := by
  simp [List.getD_eq_getElem?_getD, List.getElem?_append_right]
theorem set_append_at (p t : List UInt8) (i : Nat) (c : UInt8) : (p ++ t).set (p.length + i) c = p ++ t.set i c := by
  rw [List.set_append_right _ _ (by omega)]; simp
theorem four_at (l : List UInt8) (k : Nat) (h : k + 4 ≤ l.length) : ∃ p a b c d q, l = p ++ ([a, b, c, d] ++ q) ∧ p.length = k := by
  refine ⟨l.take k, l[k], l[k+1], l[k+2], l[k+3], l.drop (k + 4), ?_, by simp; omega⟩
  conv => lhs; rw [← List.take_append_drop k l]
  congr 1
  rw [List.drop_eq_getElem_cons (by omega), List.drop_eq_getElem_cons (by omega), List.drop_eq_getElem_cons (by omega), List.drop_eq_getElem_cons (by omega)]
  rfl
theorem chg_four (p q : List UInt8) (a b c d : UInt8) (bs : Nat) : chg (p ++ ([a, b, c, d] ++ q)) p.length bs 4 = p ++ ([a ^^^ eb bs 0, b ^^^ eb bs 1, c ^^^ eb bs 2, d ^^^ eb bs 3] ++ q) := by
  simp only [chg, getD_append_at, set_append_at]
  rfl
theorem eb_zero {bs i : Nat} (h : eb bs i = 0) : bs / 2 ^ (8 * i) % 256 = 0 := by
  have := congrArg UInt8.toNat h
  unfold eb at this
  rw [UInt8.toNat_ofNat'] at this
  simpa using this
theorem xor_same {a e : UInt8} (h : a ^^^ e = a) : e = 0 := by
  have h1 : a ^^^ (a ^^^ e) = a ^^^ a := by rw [h]
  rw [← UInt8.xor_assoc, UInt8.xor_self] at h1
  simpa using h1
/-- the changed bytes have another sum -/
theorem chg_sum (l : List UInt8) (k bs : Nat) (h : k + 4 ≤ l.length) (hb : 0 < bs) (h2 : bs < 4294967296) : sumB 0 (chg l k bs 4) ≠ sumB 0 l := by
  obtain ⟨p, a, b, c, d, q, rfl, rfl⟩ := four_at l k h
  rw [chg_four]
  intro he
  obtain ⟨e0, e1, e2, e3⟩ := finds 0 (by decide) p q _ _ _ _ _ _ _ _ he
  have z0 := eb_zero (xor_same e0)
  have z1 := eb_zero (xor_same e1)
  have z2 := eb_zero (xor_same e2)
  have z3 := eb_zero (xor_same e3)
  simp only [Nat.mul_zero, Nat.pow_zero, Nat.div_one, Nat.mul_one] at z0 z1 z2 z3
  simp only [show 8 * 2 = 16 from rfl, show 8 * 3 = 24 from rfl] at z2 z3
  omega

set_option maxHeartbeats 1000000 in
theorem finds_any (s : ByteArray) (at_ bs : Nat) (h1 : at_ < 65536) (h2 : bs < 4294967296) (hb : 0 < bs) (hs : s.size ≤ 1024) (hs4 : 4 ≤ s.size) (w : World) :
    Calls Try.prog 5 #[.string s, .int .u16 at_, .int .u32 bs] w fun e w' => e = .returned (.bool true) ∧ Below w.heap.size w w' := by
  have d1 : decide (1024 < (s.size : Int)) = false := by simp; omega
  have d2 : decide ((s.size : Int) < 4) = false := by simp; omega
  have d3 : ((bs : Int) == 0) = false := by simp; omega
  obtain ⟨k, hk, hkl⟩ : ∃ k : Nat, (at_ : Int) % ((s.size : Int) - 3) = (k : Int) ∧ k + 4 ≤ s.size := by
    refine ⟨at_ % (s.size - 3), ?_, ?_⟩
    · rw [show (s.size : Int) - 3 = ((s.size - 3 : Nat) : Int) from by omega]; rfl
    · have := Nat.mod_lt at_ (show s.size - 3 > 0 by omega); omega
  have hcv := run_bytes_of_string (P := Try.prog) w 9 30 5 s Try.underlying9 Try.underlying30 Try.underlying5
  have hW : Below w.heap.size w (w.drew.alloc (.cells (bytesRow s (grownCap w s.size 0 5)) 5 ((bytesRow s (grownCap w s.size 0 5)).size, (bytesRow s (grownCap w s.size 0 5)).size + 1))) := ((Below.refl _ _).drew).alloc (Nat.le_refl _) _
  have hY : Hid (Byt w.heap.size s.data.toList (w.drew.alloc (.cells (bytesRow s (grownCap w s.size 0 5)) 5 ((bytesRow s (grownCap w s.size 0 5)).size, (bytesRow s (grownCap w s.size 0 5)).size + 1)))) := by
    refine ⟨by simp, fun j hj => ?_⟩
    have hj' : j < s.data.size := by simpa using hj
    have hr : j < (bytesRow s (grownCap w s.size 0 5)).size := by unfold bytesRow; simp only [Array.size_append, Array.size_map]; omega
    constructor
    · refine (World.cell?_alloc_mark w.drew _ _ _ j).trans ?_
      rw [bytesRow_at s _ j hj']
      rw [List.getD_eq_getElem?_getD, List.getElem?_eq_getElem hj]; rfl
    · refine (World.frozen?_alloc_mark w.drew _ _ _ _ j).trans ?_
      simp; omega
  generalize w.drew.alloc (.cells (bytesRow s (grownCap w s.size 0 5)) 5 ((bytesRow s (grownCap w s.size 0 5)).size, (bytesRow s (grownCap w s.size 0 5)).size + 1)) = W at hcv hW hY
  generalize grownCap w s.size 0 5 = C at hcv
  go_enter Try.func5, Try.ntmps5
  go_wp2_with fail
  go_loopw [9] (fun i wr => ∃ n : Nat, n ≤ 4 ∧ i = .int .i64 n ∧ Hid (Byt w.heap.size (chg s.data.toList k bs n) wr) ∧ Below w.heap.size w wr) (fun i _ => 4 - (intOf i).toNat)
  case atStart => exact ⟨0, by omega, rfl, hY, hW⟩
  case round =>
    obtain ⟨n, hn, rfl, hB, hbl⟩ := hrel
    by_cases hn4 : n < 4
    · have hlen : k + n < (chg s.data.toList k bs n).length := by rw [chg_len]; simp; omega
      obtain ⟨hc, hf⟩ := hB.out.2 (k + n) hlen
      generalize hcc : (chg s.data.toList k bs n).getD (k + n) 0 = c at hc
      have HC := Lib.hid hcc
      clear hcc
      have hx : bits .xor .u8 (c.toNat : Int) ((bs : Int) / 2 ^ (8 * n) % 256) = (((c ^^^ eb bs n).toNat : Nat) : Int) := by
        have e : (eb bs n).toNat = bs / 2 ^ (8 * n) % 256 := by unfold eb; rw [UInt8.toNat_ofNat']; omega
        rw [UInt8.toNat_xor, e, ← u8_xor_nat _ _ (byte_lt c) (by omega)]
        congr 1
      go_wp2_with fail
      go_region
      go_wp2
      go_roundw
      case rel =>
        refine ⟨n + 1, by omega, by go_num, ?_, (hbl.setCell (Nat.le_refl _) _).drew⟩
        have := hB.out.set (k + n) hlen (c ^^^ eb bs n)
        show Byt _ _ _
        unfold chg
        rw [HC.out]
        exact this
      case measure => simp [intOf]; omega
    · obtain rfl : n = 4 := by omega
      have hlc : (chg s.data.toList k bs 4).length = s.size := by rw [chg_len]; simp
      have hne := chg_sum s.data.toList k bs (by simp; omega) hb h2
      have hcb : (convert 30 9 (.slice (some ⟨w.heap.size, 0, none⟩) (chg s.data.toList k bs 4).length C)).run Try.prog wr = .ok (.string ⟨(chg s.data.toList k bs 4).toArray⟩) wr :=
        run_convert_bytes_back wr _ _ _ ⟨w.heap.size, 0, none⟩ C _ Try.underlying30 Try.underlying5 Try.underlying9 fun j hj => by
          have := (hB.out.2 j hj).1
          rw [List.getD_eq_getElem?_getD, List.getElem?_eq_getElem hj] at this
          rw [show (⟨w.heap.size, 0, none⟩ : Addr).add j = ⟨w.heap.size, j, none⟩ from by unfold Addr.add; split <;> simp_all]
          exact this
      rw [hlc] at hcb
      generalize chg s.data.toList k bs 4 = l at hlc hne hcb
      have HLC := Lib.hid hlc
      have HNE := Lib.hid hne
      clear hlc hne
      clear hcv hY hW
      go_wp2_with fail
      refine (sum_one ⟨l.toArray⟩ (by have := HLC.out; show l.toArray.size ≤ _; rw [List.size_toArray]; omega) wr).mono ?_
      rintro e w1 ⟨rfl, hb1⟩
      go_wp2_with fail
      refine (sum_one s (by omega) w1).mono ?_
      rintro e w2 ⟨rfl, hb2⟩
      have hd : (((sumB 0 l : Nat) : Int) != ((sumB 0 s.data.toList : Nat) : Int)) = true := by
        rw [bne_iff_ne]; intro h; exact HNE.out (by omega)
      clear HNE
      generalize sumB 0 l = x at hd ⊢
      generalize sumB 0 s.data.toList = y at hd ⊢
      go_wp2_with fail
      refine (awake_any w2).mono ?_
      rintro e w3 ⟨rfl, hb3⟩
      go_wp2
      go_ret
      have e0 := hbl.size
      have e1 := hb1.size
      have e2 := hb2.size
      exact ⟨rfl, hbl.trans ((hb1.mono e0).trans ((hb2.mono (by omega)).trans (hb3.mono (by omega))))⟩

set_option maxHeartbeats 1000000 in
theorem finds_out (s : ByteArray) (at_ bs : Int) (h : 1024 < s.size ∨ s.size < 4 ∨ bs = 0) (w : World) :
    Calls Try.prog 5 #[.string s, .int .u16 at_, .int .u32 bs] w fun e w' => e = .returned (.bool true) ∧ Below w.heap.size w w' := by
  by_cases hl : 1024 < s.size
  · clear h
    have d1 : decide (1024 < (s.size : Int)) = true := by simp; omega
    go_enter Try.func5, Try.ntmps5
    go_wp2_with fail
    refine (awake_any w).mono ?_
    rintro e w1 ⟨rfl, hb1⟩
    go_wp2
    go_ret
    exact ⟨rfl, hb1⟩
  · have d1 : decide (1024 < (s.size : Int)) = false := by simp; omega
    by_cases h4 : s.size < 4
    · clear h
      have d2 : decide ((s.size : Int) < 4) = true := by simp; omega
      go_enter Try.func5, Try.ntmps5
      go_wp2_with fail
      refine (awake_any w).mono ?_
      rintro e w1 ⟨rfl, hb1⟩
      go_wp2
      go_ret
      exact ⟨rfl, hb1⟩
    · obtain rfl : bs = 0 := by omega
      clear h
      have d2 : decide ((s.size : Int) < 4) = false := by simp; omega
      go_enter Try.func5, Try.ntmps5
      go_wp2_with fail
      refine (awake_any w).mono ?_
      rintro e w1 ⟨rfl, hb1⟩
      go_wp2
      go_ret
      exact ⟨rfl, hb1⟩

theorem finds_all (s : ByteArray) (at_ bs : Int) (h1 : 0 ≤ at_ ∧ at_ ≤ 65535) (h2 : 0 ≤ bs ∧ bs ≤ 4294967295) (w : World) :
    Calls Try.prog 5 #[.string s, .int .u16 at_, .int .u32 bs] w fun e w' => e = .returned (.bool true) ∧ Below w.heap.size w w' := by
  by_cases h : 1024 < s.size ∨ s.size < 4 ∨ bs = 0
  · exact finds_out s at_ bs h w
  · obtain ⟨a, rfl⟩ := Int.eq_ofNat_of_zero_le h1.1
    obtain ⟨b, rfl⟩ := Int.eq_ofNat_of_zero_le h2.1
    exact finds_any s a b (by omega) (by omega) (by omega) (by omega) (by omega) w
end Go.Proofs.Ytdcopeokofcaoaa.Cr
