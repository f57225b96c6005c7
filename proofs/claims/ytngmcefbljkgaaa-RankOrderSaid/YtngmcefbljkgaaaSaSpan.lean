/- Spans: kept, and when they end: what the program and what the document do. -/
import Derived.Test.YtngmcefbljkgaaaSaNum
import Derived.StillTailTactics
import Derived.RegionTactic
import Derived.ChangeAlike
import Derived.BigRegion
import Derived.Deep.QuietTactic
import Derived.BigQuiet
namespace Go.Proofs.Ytngmcefbljkgaaa.Sa
open Go.RowKit

set_option maxHeartbeats 800000 in
set_option maxRecDepth 100000 in
theorem kept_at (t i p r st du : Int) (s o : ByteArray) (g : Bool) (w : World) :
    Calls Try.prog 16 #[.agg #[.int .i64 t, .int .i64 i, .int .i64 p, .int .i64 r, .string s, .string o, .int .i64 st, .int .i64 du, .bool g]] w fun e w' => e = .returned (.agg #[.int .i64 t, .int .i64 i, .int .i64 p, .int .i64 r, .string s, .string o, .int .i64 st, .int .i64 (cl du 0 4611686018427387904), .bool g]) ∧
      w' = (w.alloc (.cells #[.int .i64 t, .int .i64 i, .int .i64 p, .int .i64 r, .string s, .string o, .int .i64 st, .int .i64 (cl du 0 4611686018427387904), .bool g] 23)).alloc (.cells #[.int .i64 t, .int .i64 i, .int .i64 p, .int .i64 r, .string s, .string o, .int .i64 st, .int .i64 (cl du 0 4611686018427387904), .bool g] 23) := by
  go_enter Try.func16, Try.ntmps16
  go_wp2_with fail
  refine (clamp_any _ _ _ _).mono ?_
  rintro e w1 ⟨rfl, rfl⟩
  go_wp2
  exact bodyPost_ret (v := .agg #[.int .i64 t, .int .i64 i, .int .i64 p, .int .i64 r, .string s, .string o, .int .i64 st, .int .i64 (cl du 0 4611686018427387904), .bool g]) (by simp [results, Try.results16, go_sem]) rfl ⟨rfl, rfl⟩
theorem kept_any (t i p r st du : Int) (s o : ByteArray) (g : Bool) (w : World) :
    Calls Try.prog 16 #[.agg #[.int .i64 t, .int .i64 i, .int .i64 p, .int .i64 r, .string s, .string o, .int .i64 st, .int .i64 du, .bool g]] w fun e w' => e = .returned (.agg #[.int .i64 t, .int .i64 i, .int .i64 p, .int .i64 r, .string s, .string o, .int .i64 st, .int .i64 (cl du 0 4611686018427387904), .bool g]) ∧ Below w.heap.size w w' :=
  (kept_at t i p r st du s o g w).mono fun _ _ ⟨h1, h2⟩ => ⟨h1, by rw [h2]; exact ((Below.refl _ _).alloc (Nat.le_refl _) _).alloc (by simp) _⟩

set_option maxHeartbeats 800000 in
set_option maxRecDepth 100000 in
theorem rkept_any (t i p r st du : Int) (s o : ByteArray) (g : Bool) (w : World) :
    Calls Try.prog 17 #[.agg #[.int .i64 t, .int .i64 i, .int .i64 p, .int .i64 r, .string s, .string o, .int .i64 st, .int .i64 du, .bool g]] w fun e w' => e = .returned (.agg #[.int .i64 t, .int .i64 i, .int .i64 p, .int .i64 r, .string s, .string o, .int .i64 st, .int .i64 (cl du 0 4611686018427387904), .bool g]) ∧ Below w.heap.size w w' := by
  go_enter Try.func17, Try.ntmps17
  go_wp2_with fail
  refine wp_region_still_tail 20 (by kernel_rfl) (by kernel_rfl) ?_
  simp only [List.take_succ_cons, List.take_zero, List.drop_succ_cons, List.drop_zero]
  change wpStill _ _ (World.drew _) _ _ _
  repeat still_step
  still_call ((rclamp_any _ _ _ _).mono fun _ _ h => ⟨h.1, h.2.symm⟩)
  repeat still_step
  refine wpStill_nil ?_
  change wpList _ _ _ _ _ (World.drew _)
  go_wp2
  refine bodyPost_ret (v := .agg #[.int .i64 t, .int .i64 i, .int .i64 p, .int .i64 r, .string s, .string o, .int .i64 st, .int .i64 (cl du 0 4611686018427387904), .bool g]) (by simp [results, Try.results17, go_sem]) rfl ⟨rfl, ?_⟩
  exact (((Below.refl _ _).alloc (Nat.le_refl _) _).alloc (by simp) _).drew

theorem drewN_below {B : Nat} {a w : World} (h : Below B a w) (n : Nat) : Below B a (w.drewN n) := h.trans ⟨rfl, rfl, rfl, Nat.le_refl _, fun _ _ => rfl⟩
theorem cl_ge (n : Int) : 0 ≤ cl n 0 4611686018427387904 := by
  unfold cl
  repeat' split
  all_goals omega
theorem cl_le (n : Int) : cl n 0 4611686018427387904 ≤ 4611686018427387904 := by
  unfold cl
  repeat' split
  all_goals omega

end Go.Proofs.Ytngmcefbljkgaaa.Sa
