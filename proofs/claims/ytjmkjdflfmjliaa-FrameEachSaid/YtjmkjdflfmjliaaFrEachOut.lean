/- The second law of frames where the text is too long, and at every text. -/
import Derived.Test.YtjmkjdflfmjliaaFrEachLaw
namespace Go.Proofs.Ytjmkjdflfmjliaa.Fr
open Go.RowKit

set_option maxHeartbeats 800000 in
set_option maxRecDepth 100000 in
theorem each_out (s : ByteArray) (want : Int) (h : 1024 < s.size) (w : World) :
    Calls Try.prog 4 #[.string s, .int .u8 want] w fun e w' => e = .returned (.bool true) ∧ Below w.heap.size w w' := by
  have B0 := Lib.hid ((Below.refl _ w).alloc (Nat.le_refl _) (.cells #[.int .u8 want] 5))
  have d1 : decide (1024 < (s.size : Int)) = true := by simp; omega
  clear h
  refine (callsIn_wide (n := 4)).1 ?_
  refine callsIn_of_wp_marks Try.func4 rfl trivial ?_ rfl
  simp only [Try.ntmps4, List.size_toArray, List.length_cons, List.length_nil, Nat.reduceAdd, Nat.reduceSub, Array.replicate_succ, Array.replicate_zero, List.push_toArray, List.append_toArray, List.nil_append, List.cons_append]
  gi_wp2_with fail
  refine ⟨trivial, (callsIn_wide.2 (awake_any _)).mono ?_⟩
  rintro e w1 ⟨rfl, b1⟩
  have B1 := Lib.hid (B0.out.trans (b1.mono B0.out.size))
  clear b1
  gi_wp2_with fail
  exact ⟨_, results_tmp rfl _ _ _, rfl, B1.out⟩

theorem each_all (s : ByteArray) (want : Int) (h0 : 0 ≤ want ∧ want < 256) (w : World) :
    Calls Try.prog 4 #[.string s, .int .u8 want] w fun e w' => e = .returned (.bool true) ∧ Below w.heap.size w w' := by
  by_cases h : 1024 < s.size
  · exact each_out s want h w
  · obtain ⟨n, rfl⟩ := Int.eq_ofNat_of_zero_le h0.1
    exact each_ok s n (by omega) (by omega) w
end Go.Proofs.Ytjmkjdflfmjliaa.Fr
