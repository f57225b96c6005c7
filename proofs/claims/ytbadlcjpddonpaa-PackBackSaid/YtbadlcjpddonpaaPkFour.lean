/- Four readers beside one another; and what is read leaves no more than there was. -/
import Derived.Test.YtbadlcjpddonpaaPkWrites
import Derived.Deep.RegionHeld3
namespace Go.Proofs.Ytbadlcjpddonpaa.Pk
open Go.RowKit

/-- a stronger fact on the world serves as well from here on -/
theorem wpAnyH_mono {P : Program} {md : Region.Mode} {ops : Array Oper} {Q : Exit → Act → World → Prop} {S S' : World → Prop} (h : ∀ w, S' w → S w) : ∀ (fuel : Nat) (listed : Array Bool) (a : Act) (w : World), wpAnyH P md ops Q S' fuel listed a w → wpAnyH P md ops Q S fuel listed a w
  | 0, _, _, _, k => k
  | fuel + 1, _, _, _, k => ⟨k.1, fun i hi => wpOp_mono (fun a' w' k' => ⟨h _ k'.1, wpAnyH_mono h fuel _ a' w' k'.2⟩) (k.2 i hi)⟩

/-- four readers -/
structure Rs (w W : World) (R X Z M : Nat) (a b c d : ByteArray × Nat) : Prop where
  r : Rd W R a.1 a.2
  x : Rd W X b.1 b.2
  z : Rd W Z c.1 c.2
  m : Rd W M d.1 d.2
  lo : w.heap.size ≤ R
  rx : R < X
  xz : X < Z
  zm : Z < M
  below : Below w.heap.size w W
theorem Rs.later {w W W' : World} {R X Z M : Nat} {a b c d : ByteArray × Nat} (h : Rs w W R X Z M a b c d) (hb : Below W.heap.size W W') : Rs w W' R X Z M a b c d :=
  ⟨Bx.later h.r hb, Bx.later h.x hb, Bx.later h.z hb, Bx.later h.m hb, h.lo, h.rx, h.xz, h.zm, h.below.trans (hb.mono h.below.size)⟩
theorem Rs.goR {w W W' : World} {R X Z M : Nat} {a b c d n : ByteArray × Nat} (h : Rs w W R X Z M a b c d) (g : Went R n W W') : Rs w W' R X Z M n b c d := by
  have h1 := h.rx; have h2 := h.xz; have h3 := h.zm
  exact ⟨g.1, Bx.but h.x g.2 (by omega), Bx.but h.z g.2 (by omega), Bx.but h.m g.2 (by omega), h.lo, h.rx, h.xz, h.zm, h.below.trans (g.2.below h.lo h.below.size)⟩
theorem Rs.goX {w W W' : World} {R X Z M : Nat} {a b c d n : ByteArray × Nat} (h : Rs w W R X Z M a b c d) (g : Went X n W W') : Rs w W' R X Z M a n c d := by
  have h1 := h.rx; have h2 := h.xz; have h3 := h.zm; have h4 := h.lo
  exact ⟨Bx.but h.r g.2 (by omega), g.1, Bx.but h.z g.2 (by omega), Bx.but h.m g.2 (by omega), h.lo, h.rx, h.xz, h.zm, h.below.trans (g.2.below (by omega) h.below.size)⟩
theorem Rs.goZ {w W W' : World} {R X Z M : Nat} {a b c d n : ByteArray × Nat} (h : Rs w W R X Z M a b c d) (g : Went Z n W W') : Rs w W' R X Z M a b n d := by
  have h1 := h.rx; have h2 := h.xz; have h3 := h.zm; have h4 := h.lo
  exact ⟨Bx.but h.r g.2 (by omega), Bx.but h.x g.2 (by omega), g.1, Bx.but h.m g.2 (by omega), h.lo, h.rx, h.xz, h.zm, h.below.trans (g.2.below (by omega) h.below.size)⟩
theorem Rs.goM {w W W' : World} {R X Z M : Nat} {a b c d n : ByteArray × Nat} (h : Rs w W R X Z M a b c d) (g : Went M n W W') : Rs w W' R X Z M a b c n := by
  have h1 := h.rx; have h2 := h.xz; have h3 := h.zm; have h4 := h.lo
  exact ⟨Bx.but h.r g.2 (by omega), Bx.but h.x g.2 (by omega), Bx.but h.z g.2 (by omega), g.1, h.lo, h.rx, h.xz, h.zm, h.below.trans (g.2.below (by omega) h.below.size)⟩

theorem ext_size (s : ByteArray) (a : Nat) : (s.extract a s.size).size ≤ s.size := by rw [ByteArray.size_extract]; omega
theorem rdNum_size (t : Int × Nat × Nat) (s : ByteArray) (e : Nat) : (rdNum t s e).2.1.size ≤ s.size := by
  unfold rdNum
  split
  · split
    · exact ext_size s _
    · exact Nat.le_refl _
  · exact Nat.le_refl _
theorem rdText_size (most : Int) (s : ByteArray) (e : Nat) : (rdText most s e).2.1.size ≤ s.size := by
  unfold rdText
  split
  · split
    · split
      · exact Nat.le_refl _
      · split
        · exact Nat.le_refl _
        · exact ext_size s _
    · exact Nat.le_refl _
  · exact Nat.le_refl _
theorem rdFlag_size (s : ByteArray) (e : Nat) : (rdFlag s e).2.1.size ≤ s.size := by
  unfold rdFlag
  split
  · split
    · exact Nat.le_refl _
    · split
      · exact ext_size s _
      · split
        · exact ext_size s _
        · exact Nat.le_refl _
  · exact Nat.le_refl _
theorem rdPart_size (k most : Int) (s : ByteArray) (e : Nat) : (rdPart k most s e).2.1.size ≤ s.size := by
  unfold rdPart
  split
  · exact rdNum_size _ _ _
  · split
    · exact rdNum_size _ _ _
    · split
      · exact rdText_size _ _ _
      · split
        · exact rdFlag_size _ _
        · exact Nat.le_refl _
end Go.Proofs.Ytbadlcjpddonpaa.Pk
