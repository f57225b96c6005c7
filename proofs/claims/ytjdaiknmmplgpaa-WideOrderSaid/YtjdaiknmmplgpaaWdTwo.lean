/- Two blocks of two cells, and what becomes of them. -/
import Derived.Test.YtjdaiknmmplgpaaWdAwake
import Derived.Deep.RegionHeld3
namespace Go.Proofs.Ytjdaiknmmplgpaa.Wd
open Go.RowKit

/-- two blocks of two cells -/
def Pair (w : World) (B C : Nat) (a b c d : Value) (W : World) : Prop :=
  (W.cell? ⟨B, 0, none⟩ = some a ∧ W.cell? ⟨B, 1, none⟩ = some b) ∧ (W.cell? ⟨C, 0, none⟩ = some c ∧ W.cell? ⟨C, 1, none⟩ = some d) ∧ B < W.heap.size ∧ C < W.heap.size ∧ Below w.heap.size w W
theorem Pair.later {w W W' : World} {B C : Nat} {a b c d : Value} (h : Pair w B C a b c d W) (hl : Below W.heap.size W W') : Pair w B C a b c d W' := by
  obtain ⟨⟨h1, h2⟩, ⟨h3, h4⟩, h5, h6, h7⟩ := h
  have e := hl.size
  exact ⟨⟨(hl.cell (p := ⟨B, 0, none⟩) h5).trans h1, (hl.cell (p := ⟨B, 1, none⟩) h5).trans h2⟩, ⟨(hl.cell (p := ⟨C, 0, none⟩) h6).trans h3, (hl.cell (p := ⟨C, 1, none⟩) h6).trans h4⟩, by omega, by omega, h7.trans (hl.mono h7.size)⟩
theorem Pair.of {w W : World} {B C : Nat} {a b c d : Value} (h : Bx W B a b) (k : Bx W C c d) (hb : Below w.heap.size w W) : Pair w B C a b c d W :=
  ⟨⟨h.c0, h.c1⟩, ⟨k.c0, k.c1⟩, h.lt, k.lt, hb⟩
theorem may_any (h l : Int) (w : World) :
    Calls Try.prog 18 #[.agg #[.int .i64 h, .int .i64 l]] w fun e w' => e = .returned (.bool (may h l)) ∧ Below w.heap.size w w' :=
  (may_at h l w).mono fun _ _ ⟨h1, h2⟩ => ⟨h1, by rw [h2]; exact (Below.refl _ _).alloc (Nat.le_refl _) _⟩
theorem rmay_any (h l : Int) (w : World) :
    Calls Try.prog 19 #[.agg #[.int .i64 h, .int .i64 l]] w fun e w' => e = .returned (.bool (may h l)) ∧ Below w.heap.size w w' :=
  (rmay_at h l w).mono fun _ _ ⟨h1, h2⟩ => ⟨h1, by rw [h2]; exact (Below.refl _ _).alloc (Nat.le_refl _) _⟩
end Go.Proofs.Ytjdaiknmmplgpaa.Wd
