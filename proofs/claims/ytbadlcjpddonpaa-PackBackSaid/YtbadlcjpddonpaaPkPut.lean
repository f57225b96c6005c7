/- The bytes of a part, by the document. -/
import Derived.Test.YtbadlcjpddonpaaPkFew
import Derived.Deep.RegionWith
namespace Go.Proofs.Ytbadlcjpddonpaa.Pk
open Go.RowKit
open Va (digs zig putD str)

set_option maxHeartbeats 1600000 in
set_option maxRecDepth 100000 in
theorem rput3_any (n : Int) (s : ByteArray) (w : World) (hs : s.size ≤ 1073741824) :
    Calls Try.prog 9 #[.agg #[.int .i64 3, .int .i64 n, .string s]] w fun e w' => e = .returned (.string ⟨(putD (s.size : Nat) ++ s.data.toList).toArray⟩) ∧ Below w.heap.size w w' := by
  have hlen := putD_len (n := ((s.size : Nat) : Int)) (by omega)
  have hap : Hid ((⟨(putD (s.size : Nat)).toArray⟩ : ByteArray) ++ s = ⟨(putD (s.size : Nat) ++ s.data.toList).toArray⟩) := by
    unfold Hid; apply ByteArray.ext; simp [ByteArray.data_append]
  have HB := Lib.hid ((Below.refl _ w).alloc (Nat.le_refl _) (.cells #[.int .i64 3, .int .i64 n, .string s] 31)).drew
  go_enter Try.func9, Try.ntmps9
  go_wp2_with fail
  go_region_with (go_at_call 25; refine (Va.rput_any (s.size : Nat) (by omega) _).mono ?_; rintro e w1 ⟨rfl, hb1⟩; have d2 : w1.cell? ⟨w.heap.size, 2, none⟩ = some (.string s) := (hb1.cell (p := ⟨w.heap.size, 2, none⟩) (by simp)).trans (by simp); have HB1 := Lib.hid (HB.out.trans (hb1.mono HB.out.size)); clear hb1)
  all_goals
    go_wp2_with fail
    go_ret
    exact ⟨congrArg (fun x => Ending.returned (.string x)) hap.out, HB1.out⟩

set_option maxHeartbeats 1600000 in
set_option maxRecDepth 100000 in
theorem rpart_any (k n : Int) (s : ByteArray) (w : World) (hf : Fits n s) :
    Calls Try.prog 9 #[.agg #[.int .i64 k, .int .i64 n, .string s]] w fun e w' => e = .returned (str (putP k n s)) ∧ Below w.heap.size w w' := by
  obtain ⟨h0, h1, h2⟩ := hf
  have HB := Lib.hid ((Below.refl _ w).alloc (Nat.le_refl _) (.cells #[.int .i64 k, .int .i64 n, .string s] 31))
  by_cases k1 : k = 1
  · subst k1
    go_enter Try.func9, Try.ntmps9
    go_wp2_with fail
    refine (Va.rput_any n h1 _).mono ?_
    rintro e w1 ⟨rfl, hb1⟩
    have HB1 := Lib.hid (HB.out.trans (hb1.mono HB.out.size))
    clear hb1
    go_wp2_with fail
    go_ret
    exact ⟨rfl, HB1.out⟩
  have q1 : (k == 1) = false := by simp [k1]
  by_cases k2 : k = 2
  · subst k2
    go_enter Try.func9, Try.ntmps9
    go_wp2_with fail
    refine (Va.rputs_any n h0 h1 _).mono ?_
    rintro e w1 ⟨rfl, hb1⟩
    have HB1 := Lib.hid (HB.out.trans (hb1.mono HB.out.size))
    clear hb1
    go_wp2_with fail
    go_ret
    exact ⟨rfl, HB1.out⟩
  have q2 : (k == 2) = false := by simp [k2]
  by_cases k3 : k = 3
  · subst k3
    exact rput3_any n s w h2
  have q3 : (k == 3) = false := by simp [k3]
  by_cases k4 : k = 4
  · subst k4
    by_cases n1 : n = 1
    · subst n1
      go_enter Try.func9, Try.ntmps9
      go_wp2_with fail
      go_ret
      exact ⟨rfl, HB.out⟩
    · have hr : putP 4 n s = [0] := by simp [putP, n1]
      rw [hr]
      have qn : (n == 1) = false := by simp [n1]
      go_enter Try.func9, Try.ntmps9
      go_wp2_with fail
      go_ret
      exact ⟨rfl, HB.out⟩
  have q4 : (k == 4) = false := by simp [k4]
  have hr : putP k n s = [] := by simp [putP, k1, k2, k3, k4]
  rw [hr]
  go_enter Try.func9, Try.ntmps9
  go_wp2_with fail
  go_ret
  exact ⟨rfl, HB.out⟩
end Go.Proofs.Ytbadlcjpddonpaa.Pk
