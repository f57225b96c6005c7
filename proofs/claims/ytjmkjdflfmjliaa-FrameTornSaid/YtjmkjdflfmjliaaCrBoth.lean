/- The walks of the sums: the program's, of parts; and the document's. (What XCrSum has of them, where the program has no more of layer 2.) -/
import Derived.Test.YtjmkjdflfmjliaaCrOver
namespace Go.Proofs.Ytjmkjdflfmjliaa.Cr
open Go.RowKit

/-- texts that stand in memory one behind the other -/
def Strs (b off : Nat) (ps : List ByteArray) (w : World) : Prop :=
  b < w.heap.size ∧ ∀ j, j < ps.length → w.cell? ⟨b, off + j, none⟩ = some (.string (ps.getD j ByteArray.empty))
theorem Strs.later {b off : Nat} {ps : List ByteArray} {w w' : World} (h : Strs b off ps w) (hb : Below w.heap.size w w') : Strs b off ps w' :=
  ⟨Nat.lt_of_lt_of_le h.1 hb.size, fun j hj => (hb.cell h.1).trans (h.2 j hj)⟩
/-- all bytes of texts -/
def cat (ps : List ByteArray) : List UInt8 := ps.flatMap fun s => s.data.toList
theorem cat_snoc (ps : List ByteArray) (k : Nat) (h : k < ps.length) : cat (ps.take (k + 1)) = cat (ps.take k) ++ (ps.getD k ByteArray.empty).data.toList := by
  unfold cat
  rw [List.take_succ_eq_append_getElem h, List.flatMap_append, List.getD_eq_getElem?_getD, List.getElem?_eq_getElem h]
  simp
theorem Blk.later {g : Nat} {cs : Array Value} {t : TypeId} {w w' : World} (h : Blk g cs t w) (hb : Below w.heap.size w w') (hg : g < w.heap.size) : Blk g cs t w' :=
  (hb.block g hg).trans h

set_option maxHeartbeats 1000000 in
theorem sum_any (b off len cap : Nat) (ps : List ByteArray) (hl : ps.length = len) (hlen : len ≤ 1000) (w : World) (hS : Strs b off ps w) (hsz : ∀ j, j < len → (ps.getD j ByteArray.empty).size ≤ 1000000) :
    Calls Try.prog 19 #[.slice (some ⟨b, off, none⟩) len cap] w fun e w' => e = .returned (.int .i64 ((sumB 0 (cat ps) : Nat) : Int)) ∧ Below w.heap.size w w' := by
  have HL := Lib.hid hl
  have HS := Lib.hid hS
  have HZ := Lib.hid hsz
  clear hl hS hsz
  go_enter Try.func19, Try.ntmps19
  go_wp2_with fail
  refine (fours_any w).mono ?_
  rintro e w1 ⟨rfl, hb1⟩
  have hn := heap_alloc_new w1 (Obj.cells (tabA 0) 54)
  have hg := setRow_heap (w1.alloc (Obj.cells (tabA 0) 54)) w1.heap.size _ (tabA 16) _ _ hn
  have hbb : Below w.heap.size w ((w1.alloc (Obj.cells (tabA 0) 54)).setRow w1.heap.size (tabA 16)) := below_setRow (hb1.alloc hb1.size _) hb1.size _
  have hlt : w1.heap.size < ((w1.alloc (Obj.cells (tabA 0) 54)).setRow w1.heap.size (tabA 16)).heap.size := by simp
  rw [tabA_zero] at hg hbb hlt
  rw [tabA_zero] at hn
  go_wp2_with (refine wpList_store_row rfl 54 _ _ rfl w1.heap.size (tabA 16) rfl rfl _ _ hn (by kernel_rfl) rfl tabA_one ?_)
  generalize World.setRow _ w1.heap.size (tabA 16) = W at hg hbb hlt
  have hG : Blk w1.heap.size (tabA 16) 54 W := hg
  clear hg hn
  go_loopw [3, 10] (fun n' i wr => ∃ (k : Nat), k ≤ len ∧ n' = .int .u32 (feed 4294967295 (cat (ps.take k))) ∧ i = .int .i64 k ∧ Blk w1.heap.size (tabA 16) 54 wr ∧ w1.heap.size < wr.heap.size ∧ Below w.heap.size w wr) (fun _ i _ => len - (intOf i).toNat)
  case atStart => exact ⟨0, by omega, rfl, rfl, hG, hlt, hbb⟩
  case round =>
    obtain ⟨k, hk, rfl, rfl, hG', hlt', hbl⟩ := hrel
    have hx := feed_lt (cat (ps.take k)) (show 4294967295 < 4294967296 by decide)
    have hsz := hbl.size
    by_cases hkl : k < len
    · have hcell : wr.cell? ⟨b, off + k, none⟩ = some (.string (ps.getD k ByteArray.empty)) := (HS.out.later hbl).2 k (by rw [HL.out]; exact hkl)
      have hzk := HZ.out k hkl
      have HN : Hid (feed 4294967295 (cat (ps.take (k + 1))) = feed (feed 4294967295 (cat (ps.take k))) (ps.getD k ByteArray.empty).data.toList) := by
        show _ = _
        rw [cat_snoc ps k (by rw [HL.out]; exact hkl), feed_append]
      generalize feed 4294967295 (cat (ps.take k)) = x at hx HN
      generalize ps.getD k ByteArray.empty = s at hcell hzk HN
      go_wp2_with (refine wpList_load_row rfl _ _ rfl w1.heap.size rfl _ _ _ _ hG' Try.underlying54 rfl (by kernel_rfl) ?_)
      refine (over_any x hx s hzk wr).mono ?_
      rintro e w2 ⟨rfl, hb2⟩
      go_wp2
      go_roundw
      case rel => exact ⟨k + 1, by omega, by rw [HN.out], by go_num, hG'.later hb2 hlt', Nat.lt_of_lt_of_le hlt' hb2.size, hbl.trans (hb2.mono hsz)⟩
      case measure => simp [intOf]; omega
    · obtain rfl : k = len := by omega
      go_wp2_with fail
      refine (end_any _ hx wr).mono ?_
      rintro e w2 ⟨rfl, rfl⟩
      go_wp2
      go_ret
      refine ⟨?_, hbl⟩
      rw [List.take_of_length_le (by rw [HL.out]; omega)]
      show Ending.returned (Value.int .i64 ((feed 4294967295 (cat ps) ^^^ 4294967295 : Nat) : Int)) = _
      unfold sumB
      rw [Nat.zero_xor]
set_option maxHeartbeats 1000000 in
theorem rmore_any (z : Int) (s : ByteArray) (hs : s.size ≤ 1000000) (w : World) :
    Calls Try.prog 30 #[.int .i64 z, .string s] w fun e w' => e = .returned (.int .i64 ((sumB (z % 4294967296).toNat s.data.toList : Nat) : Int)) ∧ w = w' := by
  have hw : IntKind.u32.wrap z = (((z % 4294967296).toNat : Nat) : Int) := by rw [IntKind.wrap_u32']; omega
  have hm : (z % 4294967296).toNat < 4294967296 := by omega
  generalize (z % 4294967296).toNat = m at hw hm
  have ht : bits .xor .u32 (m : Int) 4294967295 = ((m ^^^ 4294967295 : Nat) : Int) := u32_xor_nat m 4294967295 hm (by decide)
  have hm2 : m ^^^ 4294967295 < 4294967296 := xor_lt hm (by decide)
  have HM : Hid (sumB m s.data.toList = feed (m ^^^ 4294967295) s.data.toList ^^^ 4294967295) := rfl
  generalize m ^^^ 4294967295 = m2 at ht hm2 HM
  go_enter Try.func30, Try.ntmps30
  go_wp2
  go_loop [5, 6] (fun n' i => ∃ (k : Nat), k ≤ s.size ∧ n' = .int .u32 (feed m2 (s.data.toList.take k)) ∧ i = .int .i64 k) (fun _ i => s.size - (intOf i).toNat)
  case atStart => exact ⟨0, by omega, rfl, rfl⟩
  case round =>
    obtain ⟨k, hk, rfl, rfl⟩ := hrel
    have hx := feed_lt (s.data.toList.take k) hm2
    by_cases hlt : k < s.size
    · have HN : Hid (feed m2 (s.data.toList.take (k + 1)) = sts 8 (feed m2 (s.data.toList.take k) ^^^ s[k].toNat)) := by
        show _ = _
        rw [take_snoc s k hlt, feed_snoc]
      generalize feed m2 (s.data.toList.take k) = x at hx HN
      have hbt := byte_lt s[k]
      have hx1 : bits .xor .u32 (x : Int) (s[k].toNat : Int) = ((x ^^^ s[k].toNat : Nat) : Int) := u32_xor_nat x _ hx (by omega)
      have hy : x ^^^ s[k].toNat < 4294967296 := xor_lt hx (by omega)
      generalize hyy : x ^^^ s[k].toNat = y at hx1 hy HN
      have HY := Lib.hid hyy
      clear hyy
      go_wp2_with fail
      refine (eight_any y hy w).mono ?_
      rintro e w1 ⟨rfl, rfl⟩
      go_wp2
      go_round
      case rel => exact ⟨k + 1, by omega, by rw [HN.out], by go_num⟩
      case measure => simp [intOf]; omega
    · obtain rfl : k = s.size := by omega
      have HF : Hid (s.data.toList.take s.size = s.data.toList) := List.take_of_length_le (by simp)
      have HM2 : Hid (sumB m s.data.toList = feed m2 (s.data.toList.take s.size) ^^^ 4294967295) := by show _ = _; rw [HF.out, HM.out]
      have hx2 : bits .xor .u32 (feed m2 (s.data.toList.take s.size) : Int) 4294967295 = ((feed m2 (s.data.toList.take s.size) ^^^ 4294967295 : Nat) : Int) := u32_xor_nat _ 4294967295 hx (by decide)
      have hx3 : feed m2 (s.data.toList.take s.size) ^^^ 4294967295 < 4294967296 := xor_lt hx (by decide)
      generalize hr : feed m2 (s.data.toList.take s.size) ^^^ 4294967295 = r at hx2 hx3 HM2
      clear hr
      go_wp2
      go_ret
      exact ⟨by rw [HM2.out]; rfl, rfl⟩

set_option maxHeartbeats 1000000 in
theorem rsum_any (s : ByteArray) (hs : s.size ≤ 1000000) (w : World) :
    Calls Try.prog 21 #[.string s] w fun e w' => e = .returned (.int .i64 ((sumB 0 s.data.toList : Nat) : Int)) ∧ w = w' := by
  go_enter Try.func21, Try.ntmps21
  go_wp2_with fail
  refine (rmore_any 0 s hs w).mono ?_
  rintro e w1 ⟨rfl, rfl⟩
  go_wp2
  go_ret
  exact ⟨rfl, rfl⟩
end Go.Proofs.Ytjmkjdflfmjliaa.Cr
