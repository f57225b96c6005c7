/- The document's disk: a new one, a crash, an operation that is begun, whether a text is a name, where a file is, how many bytes all have. -/
import Derived.Test.YtlmhghcoohalaaaDkRf
import Derived.Test.YtlmhghcoohalaaaDkName
import Derived.Test.YtlmhghcoohalaaaDkSu
namespace Go.Proofs.Ytlmhghcoohalaaa.Dk
open Go.RowKit

theorem rnew_any (room : Int) (base : Nat) (w : World) (hb : base ≤ w.heap.size) :
    Calls Try.prog 9 #[.int .i64 room] w fun e w' => e = .returned (.pointer (some ⟨w.heap.size, 0, none⟩)) ∧ RdAt base w' w.heap.size (born room) (.slice none 0 0) [] ∧ Below w.heap.size w w' ∧ w'.heap.size = w.heap.size + 1 := by
  have HH : Hid (RdAt base (w.alloc (.cells #[.slice none 0 0, .int .i64 (max room 0), .bool true, .int .i64 (-1), .int .i64 0] 41)) w.heap.size (born room) (.slice none 0 0) []) := ⟨heap_alloc_new w _, hb, World.ownsRow_nil _ _ _ _, List.Perm.refl _⟩
  go_enter Try.func9, Try.ntmps9
  go_wp2
  all_goals
    go_ret
    exact ⟨rfl, HH.out, (Below.refl _ _).alloc (Nat.le_refl _) _, by simp⟩

/-- the disk's block is written at one place: the files stay -/
theorem RdAt.set {base X : Nat} {w : World} {s t : St} {v : Value} {L : List Fi} (h : RdAt base w X s v L) (i : Nat) (u : Value)
    (he : (#[v, .int .i64 s.room, .bool s.on, .int .i64 s.fuse, .int .i64 (s.ops : Int)] : Array Value).setIfInBounds i u = #[v, .int .i64 t.room, .bool t.on, .int .i64 t.fuse, .int .i64 (t.ops : Int)]) (hf : t.fs = s.fs) :
    RdAt base (w.setCell ⟨X, i, none⟩ u) X t v L := by
  have hb := heap_setCell_same w X i _ _ u h.blk
  rw [he] at hb
  exact ⟨hb, h.ge, row_at h.row fun k cs _ hc => by
    rw [heap_setCell_other _ _ _ _ (ne_of_tag hc h.blk (by decide))]; exact hc, by rw [hf]; exact h.perm⟩

theorem rcrash_at (base X : Nat) (s : St) (v : Value) (L : List Fi) (w : World) (h : RdAt base w X s v L) :
    Calls Try.prog 33 #[.pointer (some ⟨X, 0, none⟩)] w fun e w' => e = .returned (.tuple #[]) ∧ RdAt base w' X (crashed s) v L ∧ Kp base X [] w w' := by
  have h1 := h.set (t := { s with on := false }) 2 (.bool false) rfl rfl
  have h2 := h1.set (t := crashed s) 3 (.int .i64 (-1)) rfl rfl
  have hk := ((Kp.refl base X [] w).setB h.ge 2 (.bool false)).setB h.ge 3 (.int .i64 (-1))
  have c1 := blk_cell (i := 2) h.blk rfl
  have c5 := blk_cell (i := 3) h.blk rfl
  have d5 := blk_cell (i := 3) h1.blk rfl
  have f1 := blk_free h.blk 2
  have f5 := blk_free h.blk 3
  have g5 := blk_free h1.blk 3
  have H2 := Lib.hid h2
  have HK := Lib.hid hk
  clear h h1 h2 hk
  go_enter Try.func33, Try.ntmps33
  go_wp2
  go_end0
  exact ⟨rfl, H2.out, HK.out⟩

set_option maxHeartbeats 800000 in
/-- does the operation crash? -/
theorem rcrashes_at (base X : Nat) (s : St) (v : Value) (L : List Fi) (w : World) (h : RdAt base w X s v L) (ho : s.ops ≤ 4611686018427387904) (h0 : -1 ≤ s.fuse) (h1 : s.fuse ≤ 9223372036854775807) :
    Calls Try.prog 49 #[.pointer (some ⟨X, 0, none⟩)] w fun e w' => e = .returned (.bool (!goes s)) ∧ RdAt base w' X (begun s) v L ∧ Kp base X [] w w' := by
  have h2 := h.set (t := { s with ops := s.ops + 1 }) 4 (.int .i64 ((s.ops : Int) + 1)) rfl rfl
  have hk := (Kp.refl base X [] w).setB h.ge 4 (.int .i64 ((s.ops : Int) + 1))
  have c4 := blk_cell (i := 4) h.blk rfl
  have f4 := blk_free h.blk 4
  have d5 := blk_cell (i := 3) h2.blk rfl
  have g5 := blk_free h2.blk 3
  have HK := Lib.hid hk
  have H2 := Lib.hid h2
  clear h hk
  by_cases hz : s.fuse = 0
  · have hb : begun s = crashed { s with ops := s.ops + 1 } := by unfold begun; rw [if_pos hz]; rfl
    have hg : (!goes s) = true := by simp [goes, hz]
    rw [hb, hg]
    have hf : (s.fuse == 0) = true := by simp [hz]
    have hcr := rcrash_at base X { s with ops := s.ops + 1 } v L _ h2
    have HC := Lib.hid hcr
    clear hb hg h2 hz hcr
    go_enter Try.func49, Try.ntmps49
    go_wp2_with fail
    refine HC.out.mono ?_
    rintro e w1 ⟨rfl, h3, hk3⟩
    have H3 := Lib.hid h3
    clear h3
    go_wp2_with fail
    go_ret
    exact ⟨rfl, H3.out, HK.out.trans hk3⟩
  · have hg : (!goes s) = false := by simp [goes, hz]
    have hf : (s.fuse == 0) = false := by simp [hz]
    rw [hg]
    by_cases hp : 0 < s.fuse
    · have hb : begun s = { s with ops := s.ops + 1, fuse := s.fuse - 1 } := by unfold begun; rw [if_neg hz, if_pos hp]
      rw [hb]
      have h3 := h2.set (t := { s with ops := s.ops + 1, fuse := s.fuse - 1 }) 3 (.int .i64 (s.fuse - 1)) rfl rfl
      have HK2 := Lib.hid (HK.out.setB h2.ge 3 (.int .i64 (s.fuse - 1)))
      have H3 := Lib.hid h3
      clear h2 h3 hb
      go_enter Try.func49, Try.ntmps49
      go_wp2_with fail
      go_ret
      exact ⟨rfl, H3.out, HK2.out⟩
    · have hb : begun s = { s with ops := s.ops + 1 } := by unfold begun; rw [if_neg hz, if_neg hp]
      rw [hb]
      clear h2 hb
      go_enter Try.func49, Try.ntmps49
      go_wp2_with fail
      go_ret
      exact ⟨rfl, H2.out, HK.out⟩

set_option maxHeartbeats 800000 in
theorem rfind_any (base X : Nat) (s : St) (v : Value) (L : List Fi) (n : ByteArray) (w : World) (h : RdAt base w X s v L) (hl : L.length ≤ 1000000) :
    Calls Try.prog 37 #[.pointer (some ⟨X, 0, none⟩), .string n] w fun e w' => e = .returned (.int .i64 (fidx L n)) ∧ w = w' := by
  have HC := Lib.hid (fun (k : Nat) (f : Fi) (hf : L[k]? = some f) => h.reads hf)
  have HG := Lib.hid (fun k f (hk : L[k]? = some f) hj hx => fidx_at (n := n) hk hj hx)
  have HN := Lib.hid (fun hj => fidx_none (L := L) (n := n) hj)
  obtain ⟨a, cap, rfl, _, _, _⟩ := row3_slice h.row
  have c0 := blk_cell (i := 0) h.blk rfl
  clear h
  obtain ⟨len, hlen⟩ : ∃ len, L.length = len := ⟨_, rfl⟩
  rw [hlen] at c0 hl HC
  have HL := Lib.hid hlen
  clear hlen
  go_enter Try.func37, Try.ntmps37
  go_wp2_with fail
  go_loop [5] (fun i => ∃ k : Nat, k ≤ len ∧ i = .int .i64 (k : Int) ∧ Hid (∀ (j : Nat) (y : Fi), j < k → L[j]? = some y → y.nm ≠ n)) (fun i => len - (intOf i).toNat)
  case atStart => exact ⟨0, by omega, rfl, fun j _ hj => absurd hj (by omega)⟩
  case round =>
    obtain ⟨k, hk, rfl, HJ⟩ := hrel
    by_cases hlt : k < len
    · obtain ⟨x, hx⟩ : ∃ x, L[k]? = some x := ⟨_, List.getElem?_eq_getElem (by rw [HL.out]; exact hlt)⟩
      obtain ⟨g, cap', hv, _, _, q0, _, _⟩ := HC.out _ _ hx
      injection hv with e1 e2 e3
      subst e1 e3
      have hq := ba_eq (a := x.nm) (b := n)
      by_cases he : x.nm = n
      · rw [decide_eq_true he] at hq
        have HR := Lib.hid (HG.out k x hx HJ.out he)
        clear hx he
        obtain ⟨xn, xb, xs⟩ := x
        simp only at *
        go_wp2_with fail
        go_ret
        exact ⟨by rw [HR.out]; rfl, rfl⟩
      · rw [decide_eq_false he] at hq
        have HJ2 : Hid (∀ (j : Nat) (y : Fi), j < k + 1 → L[j]? = some y → y.nm ≠ n) := fun j y hj hy => by
          rcases Nat.lt_or_eq_of_le (Nat.le_of_lt_succ hj) with h1 | h1
          · exact HJ.out j y h1 hy
          · subst h1; rw [hx] at hy; cases hy; exact he
        clear hx he
        obtain ⟨xn, xb, xs⟩ := x
        simp only at *
        go_wp2_with fail
        go_round
        case rel => exact ⟨k + 1, by omega, by go_num, HJ2⟩
        case measure => simp [intOf]; omega
    · obtain rfl : k = len := by omega
      have HR := Lib.hid (HN.out (fun f hf => by
        obtain ⟨j, hj⟩ := List.getElem?_of_mem hf
        exact HJ.out j f (by have := (List.getElem?_eq_some_iff.1 hj).1; rw [HL.out] at this; exact this) hj))
      go_wp2_with fail
      go_ret
      exact ⟨by rw [HR.out]; rfl, rfl⟩

set_option maxHeartbeats 800000 in
theorem rused_any (base X : Nat) (s : St) (v : Value) (L : List Fi) (w : World) (h : RdAt base w X s v L) (ho : Ok s) :
    Calls Try.prog 15 #[.pointer (some ⟨X, 0, none⟩)] w fun e w' => e = .returned (.int .i64 (used s.fs : Int)) ∧ w = w' := by
  have HC := Lib.hid (fun (k : Nat) (f : Fi) (hf : L[k]? = some f) => h.reads hf)
  have hful := ho.full
  have hroom := ho.room1
  have hfew := ho.few
  rw [← used_perm h.perm] at hful ⊢
  rw [← h.perm.length_eq] at hfew
  obtain ⟨a, cap, rfl, _, _, _⟩ := row3_slice h.row
  have c0 := blk_cell (i := 0) h.blk rfl
  have HT := Lib.hid (List.take_length (l := L))
  have hub : used L ≤ 9223372036854775807 := by omega
  clear h ho hful hroom
  obtain ⟨len, hlen⟩ : ∃ len, L.length = len := ⟨_, rfl⟩
  rw [hlen] at c0 hfew HC HT
  have HL := Lib.hid hlen
  clear hlen
  go_enter Try.func15, Try.ntmps15
  go_wp2_with fail
  go_loop [3, 4] (fun n i => ∃ k : Nat, k ≤ len ∧ i = .int .i64 (k : Int) ∧ n = .int .i64 (used (L.take k) : Int)) (fun _ i => len - (intOf i).toNat)
  case atStart => exact ⟨0, by omega, rfl, rfl⟩
  case round =>
    obtain ⟨k, hk, rfl, rfl⟩ := hrel
    by_cases hlt : k < len
    · obtain ⟨x, hx⟩ : ∃ x, L[k]? = some x := ⟨_, List.getElem?_eq_getElem (by rw [HL.out]; exact hlt)⟩
      obtain ⟨g, cap', hv, _, _, _, q1, _⟩ := HC.out _ _ hx
      injection hv with e1 e2 e3
      subst e1 e3
      have hsn := used_snocF hx
      have hle := used_takeF L (k + 1)
      have hb : used (L.take k) + x.bs.length ≤ 9223372036854775807 := by omega
      have hsz : (⟨x.bs.toArray⟩ : ByteArray).size = x.bs.length := by show x.bs.toArray.size = _; simp
      have HN := Lib.hid hsn
      clear hx hsn hle
      generalize (⟨x.bs.toArray⟩ : ByteArray) = xs at *
      rw [← hsz] at hb HN
      clear hsz
      generalize used (L.take k) = u at *
      go_wp2_with fail
      go_round
      case rel => exact ⟨k + 1, by omega, by go_num, by rw [HN.out]; rfl⟩
      case measure => simp [intOf]; omega
    · obtain rfl : k = len := by omega
      rw [HT.out]
      go_wp2_with fail
      go_ret
      exact ⟨rfl, rfl⟩

theorem okB_iff (c : UInt8) : okB c = true ↔ (97 ≤ (c.toNat : Int) ∧ (c.toNat : Int) ≤ 122 ∨ 48 ≤ (c.toNat : Int) ∧ (c.toNat : Int) ≤ 57 ∨ (c.toNat : Int) = 46 ∨ (c.toNat : Int) = 45) := by
  unfold okB
  simp only [Bool.or_eq_true, Bool.and_eq_true, decide_eq_true_eq]
  omega
set_option maxHeartbeats 1600000 in
theorem rname_any (s : ByteArray) (hl : s.size ≤ 1000000) (w : World) :
    Calls Try.prog 48 #[.string s] w fun e w' => e = .returned (.bool (nameB s)) ∧ w = w' := by
  have HALL := Lib.hid (okTo_all s)
  have HNB : Hid (nameB s = (decide (1 ≤ s.size) && decide (s.size ≤ 24) && s.data.toList.all okB)) := by show _ = _; rfl
  go_enter Try.func48, Try.ntmps48
  go_wp2_with fail
  go_loop [3, 4] (fun i _ => ∃ k : Nat, k ≤ s.size ∧ i = .int .i64 (k : Int) ∧ Hid (okTo s k = true)) (fun i _ => s.size - (intOf i).toNat)
  case atStart => exact ⟨0, Nat.zero_le _, rfl, by show okTo s 0 = true; simp [okTo]⟩
  case round =>
    obtain ⟨k, hk, rfl, HK⟩ := hrel
    by_cases hlt : k < s.size
    · have HN := Lib.hid (okTo_next s k hlt)
      have HNO := Lib.hid (fun h => okTo_no (s := s) hlt h)
      have HKO := Lib.hid (okB_iff (s[k]'hlt))
      go_wp2_with fail
      all_goals first
        | (go_ret
           have hf : okB s[k] = false := by
             rw [Bool.eq_false_iff]
             intro h
             have h := HKO.out.1 h
             clear HN HNO HK HNB HALL HKO
             simp only [Bool.not_eq_eq_eq_not, Bool.not_true, Bool.not_false, decide_eq_false_iff_not, decide_eq_true_eq, beq_eq_false_iff_ne, beq_iff_eq, ne_eq] at *
             omega
           exact ⟨by rw [HNB.out, HNO.out hf, Bool.and_false]; rfl, rfl⟩)
        | (have ht : okB s[k] = true := HKO.out.2 (by
             clear HN HNO HK HNB HALL HKO
             simp only [Bool.not_eq_eq_eq_not, Bool.not_true, Bool.not_false, decide_eq_false_iff_not, decide_eq_true_eq, beq_eq_false_iff_ne, beq_iff_eq, ne_eq] at *
             omega)
           go_round
           case rel => exact ⟨k + 1, by omega, by go_num, by show okTo s (k + 1) = true; rw [HN.out, HK.out, ht]; rfl⟩
           case measure => simp [intOf]; omega)
    · obtain rfl : k = s.size := by omega
      have hnb := HNB.out
      rw [← HALL.out, HK.out, Bool.and_true] at hnb
      have HNB2 := Lib.hid hnb
      clear hnb
      by_cases h1 : 1 ≤ s.size
      · by_cases h2 : s.size ≤ 24
        · go_wp2_with fail
          go_ret
          exact ⟨by rw [HNB2.out, decide_eq_true h1, decide_eq_true h2]; show Ending.returned (.bool (decide ((s.size : Int) ≤ 24))) = _; rw [decide_eq_true (by omega)]; rfl, rfl⟩
        · go_wp2_with fail
          go_ret
          exact ⟨by rw [HNB2.out, decide_eq_true h1, decide_eq_false h2]; show Ending.returned (.bool (decide ((s.size : Int) ≤ 24))) = _; rw [decide_eq_false (by omega)]; rfl, rfl⟩
      · go_wp2_with fail
        go_ret
        exact ⟨by rw [HNB2.out, decide_eq_false h1]; rfl, rfl⟩
end Go.Proofs.Ytlmhghcoohalaaa.Dk
