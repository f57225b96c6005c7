/- Whether a text may be a file's name: the program's, which ranges over its letters; and the document's, byte by byte. -/
import Derived.Test.YtlmhghcoohalaaaDkKit
import Derived.Laws.RangeString
import Derived.Laws.RangeAny
import Derived.Lib.OthersKept
namespace Go.Proofs.Ytlmhghcoohalaaa.Dk
open Go.RowKit

def okI (c : Int) : Bool := (decide (97 ≤ c) && decide (c ≤ 122)) || (decide (48 ≤ c) && decide (c ≤ 57)) || decide (c = 46) || decide (c = 45)
theorem okI_byte (c : UInt8) : okI (c.toNat : Int) = okB c := by
  unfold okI okB
  have e1 : decide ((97 : Int) ≤ (c.toNat : Int)) = decide (97 ≤ c.toNat) := by rw [decide_eq_decide]; omega
  have e2 : decide ((c.toNat : Int) ≤ 122) = decide (c.toNat ≤ 122) := by rw [decide_eq_decide]; omega
  have e3 : decide ((48 : Int) ≤ (c.toNat : Int)) = decide (48 ≤ c.toNat) := by rw [decide_eq_decide]; omega
  have e4 : decide ((c.toNat : Int) ≤ 57) = decide (c.toNat ≤ 57) := by rw [decide_eq_decide]; omega
  have e5 : decide ((c.toNat : Int) = 46) = decide (c.toNat = 46) := by rw [decide_eq_decide]; omega
  have e6 : decide ((c.toNat : Int) = 45) = decide (c.toNat = 45) := by rw [decide_eq_decide]; omega
  rw [e1, e2, e3, e4, e5, e6]
theorem okI_high {c : Int} (h : 123 ≤ c) : okI c = false := by
  unfold okI
  have e1 : decide (c ≤ 122) = false := decide_eq_false (by omega)
  have e2 : decide (c ≤ 57) = false := decide_eq_false (by omega)
  have e3 : decide (c = 46) = false := decide_eq_false (by omega)
  have e4 : decide (c = 45) = false := decide_eq_false (by omega)
  rw [e1, e2, e3, e4]; simp

set_option maxHeartbeats 1600000 in
theorem may_any (c : Int) (w : World) :
    Calls Try.prog 54 #[.int .i32 c] w fun e w' => e = .returned (.bool (okI c)) ∧ w = w' := by
  by_cases h1 : 97 ≤ c ∧ c ≤ 122
  · obtain ⟨a, b⟩ := h1
    have ho : okI c = true := by unfold okI; rw [decide_eq_true a, decide_eq_true b]; rfl
    rw [ho]
    clear ho
    go_enter Try.func54, Try.ntmps54
    go_wp2
    all_goals (go_ret; exact ⟨rfl, rfl⟩)
  by_cases h2 : 48 ≤ c ∧ c ≤ 57
  · obtain ⟨a, b⟩ := h2
    have ho : okI c = true := by unfold okI; rw [decide_eq_true a, decide_eq_true b]; simp
    rw [ho]
    clear ho h1
    have n1 : ¬ (97 ≤ c) := by omega
    go_enter Try.func54, Try.ntmps54
    go_wp2
    all_goals (go_ret; exact ⟨rfl, rfl⟩)
  by_cases h3 : c = 46
  · subst h3
    clear h1 h2
    go_enter Try.func54, Try.ntmps54
    go_wp2
    all_goals (go_ret; exact ⟨rfl, rfl⟩)
  by_cases h4 : c = 45
  · subst h4
    clear h1 h2 h3
    go_enter Try.func54, Try.ntmps54
    go_wp2
    all_goals (go_ret; exact ⟨rfl, rfl⟩)
  have ho : okI c = false := by
    unfold okI
    rw [decide_eq_false h3, decide_eq_false h4]
    by_cases p : 97 ≤ c <;> by_cases q : 48 ≤ c
    · have r : ¬ c ≤ 122 := by omega
      have r2 : ¬ c ≤ 57 := by omega
      simp [r, r2]
    · have r : ¬ c ≤ 122 := by omega
      simp [r, q]
    · have r : ¬ c ≤ 57 := by omega
      simp [p, r]
    · simp [p, q]
  rw [ho]
  have e3 : (c == 46) = false := by simp [h3]
  have e4 : (c == 45) = false := by simp [h4]
  clear ho h3 h4
  by_cases p : 97 ≤ c
  · have r : ¬ c ≤ 122 := by omega
    have q : 48 ≤ c := by omega
    have r2 : ¬ c ≤ 57 := by omega
    clear h1 h2
    go_enter Try.func54, Try.ntmps54
    go_wp2
    all_goals (go_ret; exact ⟨rfl, rfl⟩)
  · by_cases q : 48 ≤ c
    · have r : ¬ c ≤ 57 := by omega
      clear h1 h2
      go_enter Try.func54, Try.ntmps54
      go_wp2
      all_goals (go_ret; exact ⟨rfl, rfl⟩)
    · clear h1 h2
      go_enter Try.func54, Try.ntmps54
      go_wp2
      all_goals (go_ret; exact ⟨rfl, rfl⟩)

/-- are the first bytes letters? -/
def okTo (s : ByteArray) (k : Nat) : Bool := (s.data.toList.take k).all okB
theorem okTo_next (s : ByteArray) (k : Nat) (h : k < s.size) : okTo s (k + 1) = (okTo s k && okB s[k]) := by
  unfold okTo
  rw [List.take_succ_eq_append_getElem (by simpa using h), List.all_append]
  simp; rfl
theorem okTo_all (s : ByteArray) : okTo s s.size = s.data.toList.all okB := by unfold okTo; rw [List.take_of_length_le (by simp)]
theorem okTo_no {s : ByteArray} {k : Nat} (h : k < s.size) (hb : okB s[k] = false) : s.data.toList.all okB = false := by
  rw [Bool.eq_false_iff]
  intro ha
  have := List.all_eq_true.1 ha s[k] (by show s.data[k] ∈ _; simp)
  rw [hb] at this; cases this

theorem okI_at (s : ByteArray) (k : Nat) (h : k < s.size) : okI ((Utf8.decode s k).1 : Int) = okB s[k] ∧ (okB s[k] = true → (Utf8.decode s k).2 = 1) := by
  by_cases ha : (s[k]'h).toNat < 128
  · rw [decode_ascii s k h ha]
    exact ⟨okI_byte _, fun _ => rfl⟩
  · have h1 := decode_high s k h (by omega)
    have h2 : okB s[k] = false := by rw [← okI_byte]; exact okI_high (by omega)
    exact ⟨by rw [h2]; exact okI_high (by omega), fun h3 => by rw [h2] at h3; cases h3⟩

set_option maxHeartbeats 1600000 in
theorem name_any (s : ByteArray) (w : World) :
    Calls Try.prog 42 #[.string s] w fun e w' => e = .returned (.bool (nameB s)) ∧ Below w.heap.size w w' := by
  by_cases h0 : s.size < 1
  · have h1 : ¬ 1 ≤ s.size := by omega
    have hn : nameB s = false := by unfold nameB; rw [decide_eq_false h1]; rfl
    rw [hn]
    clear hn h1
    go_enter Try.func42, Try.ntmps42
    go_wp2
    all_goals (go_ret; exact ⟨rfl, Below.refl _ _⟩)
  have h1 : 1 ≤ s.size := by omega
  by_cases h3 : 24 < s.size
  · have h2 : ¬ s.size ≤ 24 := by omega
    have hn : nameB s = false := by unfold nameB; rw [decide_eq_false h2]; simp
    rw [hn]
    clear hn h2
    go_enter Try.func42, Try.ntmps42
    go_wp2
    all_goals (go_ret; exact ⟨rfl, Below.refl _ _⟩)
  have h2 : s.size ≤ 24 := by omega
  have hn : nameB s = s.data.toList.all okB := by unfold nameB; rw [decide_eq_true h1, decide_eq_true h2]; rfl
  rw [hn]
  have HALL := Lib.hid (okTo_all s)
  clear hn
  go_enter Try.func42, Try.ntmps42
  go_wp2
  go_loopw [] (fun wr => ∃ k : Nat, k ≤ s.size ∧ Hid (okTo s k = true) ∧ wr.heap[w.heap.size]? = some (.stringIter s k) ∧ Hid (Below w.heap.size w wr)) (fun wr => s.size - wr.iterPos w.heap.size)
  case atStart =>
    exact ⟨0, Nat.zero_le _, by show okTo s 0 = true; simp [okTo], World.iter_heap w s 0, (Below.refl _ _).alloc (Nat.le_refl _) _⟩
  case round =>
    obtain ⟨k, hk, HK, hit, HB⟩ := hrel
    by_cases hp : k < s.size
    · have hnx : ∀ ty, (Instr.next (.pointer (some ⟨w.heap.size, 0, none⟩)) true ty).run Try.prog wr = _ := fun ty => Lib.run_next_any_at wr w.heap.size s k ty hit hp
      obtain ⟨ho1, ho2⟩ := okI_at s k hp
      have hit2 := Lib.iterAt_heap wr w.heap.size s k (k + (Utf8.decode s k).2) hit
      have HB2 := Lib.hid (Lib.below_iterAt HB.out (Nat.le_refl _) s (k + (Utf8.decode s k).2))
      have hm := fun W => may_any ((Utf8.decode s k).1 : Int) W
      rw [ho1] at hm
      have HM := Lib.hid hm
      clear hm ho1
      have HN := Lib.hid (okTo_next s k hp)
      have HNO := Lib.hid (fun h => okTo_no (s := s) hp h)
      have HIT := Lib.hid hit
      cases hb : okB s[k] with
      | false =>
        rw [hb] at HM
        go_wp2_with fail
        refine (HM.out _).mono ?_
        rintro e W1 ⟨rfl, rfl⟩
        go_wp2_with fail
        go_ret
        exact ⟨by rw [HNO.out hb]; rfl, HB2.out⟩
      | true =>
        rw [hb] at HM HN
        have hd := ho2 hb
        have HD := Lib.hid hd
        clear hd ho2
        go_wp2_with fail
        refine (HM.out _).mono ?_
        rintro e W1 ⟨rfl, rfl⟩
        go_wp2_with fail
        go_roundw
        case rel => exact ⟨k + 1, by omega, by show okTo s (k + 1) = true; rw [HN.out, HK.out]; rfl, by rw [← HD.out]; exact hit2, HB2.out⟩
        case measure => have hit3 := hit2; rw [HD.out] at hit3; simp only [World.iterPos, HD.out, hit3, HIT.out]; omega
    · obtain rfl : k = s.size := by omega
      have hnx : ∀ ty, (Instr.next (.pointer (some ⟨w.heap.size, 0, none⟩)) true ty).run Try.prog wr = _ := fun ty => Lib.run_next_end_at wr w.heap.size s s.size ty hit hp
      go_wp2_with fail
      go_ret
      exact ⟨by rw [← HALL.out, HK.out]; rfl, HB.out⟩
end Go.Proofs.Ytlmhghcoohalaaa.Dk
