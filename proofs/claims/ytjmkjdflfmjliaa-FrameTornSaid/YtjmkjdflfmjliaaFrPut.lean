/- The walks of Put: the program's and the document's. -/
import Derived.Test.YtjmkjdflfmjliaaFrKit
namespace Go.Proofs.Ytjmkjdflfmjliaa.Fr
open Go.RowKit

/-- the sums of two and of three texts, just laid -/
theorem strs_new (w : World) (cs : Array Value) (ps : List ByteArray) (h : cs.toList = ps.map Value.string) : Cr.Strs w.heap.size 0 ps (w.alloc (.cells cs 9)) := by
  refine ⟨by simp, fun j hj => ?_⟩
  rw [World.cell?, heap_alloc_new w _]
  show cs[0 + j]? = _
  rw [Nat.zero_add, ← Array.getElem?_toList, h]
  simp [hj]
theorem sum_two (a b : ByteArray) (ha : a.size ≤ 1000000) (hb : b.size ≤ 1000000) (w : World) :
    Calls Try.prog 19 #[.slice (some ⟨w.heap.size, 0, none⟩) 2 2] (w.alloc (.cells #[.string a, .string b] 9)) fun e w' => e = .returned (.int .i64 ((Cr.sumB 0 (B a ++ B b) : Nat) : Int)) ∧ Below w.heap.size w w' := by
  refine (Cr.sum_any w.heap.size 0 2 2 [a, b] rfl (by omega) _ (strs_new w _ _ rfl) ?_).mono ?_
  · intro j hj
    match j, hj with
    | 0, _ => exact ha
    | 1, _ => exact hb
  · rintro e w' ⟨rfl, hb⟩
    exact ⟨by simp [Cr.cat], ((Below.refl _ _).alloc (Nat.le_refl _) _).trans (hb.mono (by simp))⟩
theorem sum_three (a b c : ByteArray) (ha : a.size ≤ 1000000) (hb : b.size ≤ 1000000) (hc : c.size ≤ 1000000) (w : World) :
    Calls Try.prog 19 #[.slice (some ⟨w.heap.size, 0, none⟩) 3 3] (w.alloc (.cells #[.string a, .string b, .string c] 9)) fun e w' => e = .returned (.int .i64 ((Cr.sumB 0 (B a ++ (B b ++ B c)) : Nat) : Int)) ∧ Below w.heap.size w w' := by
  refine (Cr.sum_any w.heap.size 0 3 3 [a, b, c] rfl (by omega) _ (strs_new w _ _ rfl) ?_).mono ?_
  · intro j hj
    match j, hj with
    | 0, _ => exact ha
    | 1, _ => exact hb
    | 2, _ => exact hc
  · rintro e w' ⟨rfl, hb⟩
    exact ⟨by simp [Cr.cat], ((Below.refl _ _).alloc (Nat.le_refl _) _).trans (hb.mono (by simp))⟩

/-- what Put tells -/
def pt (q : Int) (d : ByteArray) : ByteArray × Nat := if q < 1 then (⟨#[]⟩, 1) else (fbS q.toNat d, 0)

theorem fbS_eq (q : Nat) (d : ByteArray) : (⟨(be 4 d.size).toArray⟩ : ByteArray) ++ ⟨(be 4 (sm q (B d))).toArray⟩ ++ ⟨(be 8 q).toArray⟩ ++ d = fbS q d := by
  apply B_ext
  simp only [B_append, fbS, fb, B_mk, List.append_assoc, B_len]
theorem sm_three (q : Nat) (d : ByteArray) : Cr.sumB 0 (B ⟨(be 4 d.size).toArray⟩ ++ (B ⟨(be 8 q).toArray⟩ ++ B d)) = sm q (B d) := by
  simp only [B_mk, sm, B_len]

set_option maxHeartbeats 800000 in
theorem fput_ok (q : Nat) (d : ByteArray) (h1 : 1 ≤ q) (h2 : q < 9223372036854775808) (hd : d.size ≤ 65536) (w : World) :
    Calls Try.prog 9 #[.int .i64 q, .string d] w fun e w' => e = .returned (.tuple #[.string (fbS q d), .int .i64 0]) ∧ Below w.heap.size w w' := by
  have HF := Lib.hid (fbS_eq q d)
  have HS := Lib.hid (sm_three q d)
  have hl := sm_lt q (B d)
  generalize sm q (B d) = x at HF HS hl
  have k4 := size_mk (be 4 d.size)
  rw [be_len] at k4
  have k8 := size_mk (be 8 q)
  rw [be_len] at k8
  have kx := size_mk (be 4 x)
  rw [be_len] at kx
  have s3 := fun w => sum_three ⟨(be 4 d.size).toArray⟩ ⟨(be 8 q).toArray⟩ d (by omega) (by omega) (by omega) w
  rw [HS.out] at s3
  have HS3 := Lib.hid s3
  clear s3
  go_enter Try.func9, Try.ntmps9
  go_wp2_with fail
  refine (put_any d.size 4 (by omega) (by omega) (by omega) w).mono ?_
  rintro e w1 ⟨rfl, b1⟩
  go_wp2_with fail
  refine (put_any q 8 h2 (by omega) (by omega) w1).mono ?_
  rintro e w2 ⟨rfl, b2⟩
  go_wp2_with fail
  refine (HS3.out w2).mono ?_
  rintro e w3 ⟨rfl, b3⟩
  go_wp2_with fail
  refine (put_any x 4 (by omega) (by omega) (by omega) w3).mono ?_
  rintro e w4 ⟨rfl, b4⟩
  go_wp2_with fail
  go_ret2
  have e1 := b1.size
  have e2 := b2.size
  have e3 := b3.size
  exact ⟨by rw [← HF.out]; rfl, b1.trans ((b2.mono e1).trans ((b3.mono (by omega)).trans (b4.mono (by omega))))⟩

set_option maxHeartbeats 800000 in
theorem fput_any (q : Int) (d : ByteArray) (h2 : q < 9223372036854775808) (hd : d.size ≤ 65536) (w : World) :
    Calls Try.prog 9 #[.int .i64 q, .string d] w fun e w' => e = .returned (.tuple #[.string (pt q d).1, .int .i64 (pt q d).2]) ∧ Below w.heap.size w w' := by
  by_cases h : q < 1
  · have hp : pt q d = (⟨#[]⟩, 1) := by unfold pt; rw [if_pos h]
    rw [hp]
    have hd : decide (q < 1) = true := by simpa using h
    clear hp h h2
    go_enter Try.func9, Try.ntmps9
    go_wp2_with fail
    go_ret2
    exact ⟨rfl, Below.refl _ _⟩
  · have hp : pt q d = (fbS q.toNat d, 0) := by unfold pt; rw [if_neg h]
    rw [hp]
    have := fput_ok q.toNat d (by omega) (by omega) hd w
    rw [Int.toNat_of_nonneg (by omega)] at this
    exact this

set_option maxHeartbeats 800000 in
theorem rput_ok (q : Nat) (d : ByteArray) (h1 : 1 ≤ q) (h2 : q < 9223372036854775808) (hd : d.size ≤ 65536) (w : World) :
    Calls Try.prog 10 #[.int .i64 q, .string d] w fun e w' => e = .returned (.tuple #[.string (fbS q d), .int .i64 0]) ∧ Below w.heap.size w w' := by
  have HF := Lib.hid (fbS_eq q d)
  have hs := sm_three q d
  rw [← B_append, ← B_append, ← ByteArray.append_assoc] at hs
  have hl := sm_lt q (B d)
  generalize sm q (B d) = x at HF hs hl
  have k4 := size_mk (be 4 d.size)
  rw [be_len] at k4
  have k8 := size_mk (be 8 q)
  rw [be_len] at k8
  have kx := size_mk (be 4 x)
  rw [be_len] at kx
  have s3 := fun w => Cr.rsum_any ((⟨(be 4 d.size).toArray⟩ : ByteArray) ++ ⟨(be 8 q).toArray⟩ ++ d) (by rw [ByteArray.size_append, ByteArray.size_append]; omega) w
  rw [hs] at s3
  clear hs
  have HS3 := Lib.hid s3
  clear s3
  go_enter Try.func10, Try.ntmps10
  go_wp2_with fail
  refine (rfour_any d.size (by omega) w).mono ?_
  rintro e w1 ⟨rfl, b1⟩
  go_wp2_with fail
  refine (rfour_any d.size (by omega) w1).mono ?_
  rintro e w2 ⟨rfl, b2⟩
  go_wp2_with fail
  refine (reight_any q h2 w2).mono ?_
  rintro e w3 ⟨rfl, b3⟩
  go_wp2_with fail
  refine (HS3.out w3).mono ?_
  rintro e w4 ⟨rfl, rfl⟩
  go_wp2_with fail
  refine (rfour_any x (by omega) w3).mono ?_
  rintro e w4 ⟨rfl, b4⟩
  go_wp2_with fail
  refine (reight_any q h2 w4).mono ?_
  rintro e w5 ⟨rfl, b5⟩
  go_wp2_with fail
  go_ret2
  have e1 := b1.size
  have e2 := b2.size
  have e3 := b3.size
  have e4 := b4.size
  exact ⟨by rw [← HF.out]; rfl, b1.trans ((b2.mono e1).trans ((b3.mono (by omega)).trans ((b4.mono (by omega)).trans (b5.mono (by omega)))))⟩

set_option maxHeartbeats 800000 in
theorem rput_any (q : Int) (d : ByteArray) (h2 : q < 9223372036854775808) (hd : d.size ≤ 65536) (w : World) :
    Calls Try.prog 10 #[.int .i64 q, .string d] w fun e w' => e = .returned (.tuple #[.string (pt q d).1, .int .i64 (pt q d).2]) ∧ Below w.heap.size w w' := by
  by_cases h : q < 1
  · have hp : pt q d = (⟨#[]⟩, 1) := by unfold pt; rw [if_pos h]
    rw [hp]
    have hd : decide (q < 1) = true := by simpa using h
    clear hp h h2
    go_enter Try.func10, Try.ntmps10
    go_wp2_with fail
    go_ret2
    exact ⟨rfl, Below.refl _ _⟩
  · have hp : pt q d = (fbS q.toNat d, 0) := by unfold pt; rw [if_neg h]
    rw [hp]
    have := rput_ok q.toNat d (by omega) (by omega) hd w
    rw [Int.toNat_of_nonneg (by omega)] at this
    exact this
end Go.Proofs.Ytjmkjdflfmjliaa.Fr
