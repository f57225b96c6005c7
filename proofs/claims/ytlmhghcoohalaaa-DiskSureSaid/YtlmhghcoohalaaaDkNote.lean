/- The law's own list of what must be there: what an act notes. -/
import Derived.Test.YtlmhghcoohalaaaDkSu3
import Derived.Deep.RegionWith
namespace Go.Proofs.Ytlmhghcoohalaaa.Dk
open Go.RowKit

/-- the boxed act is there behind what the list's calls write -/
theorem box_kp {base X : Nat} {w w' : World} {l : Must} {cs : Array Value} {k : Nat} (h : Kp base X TM w w') (hx : Su base w X l) (hk : w.heap[k]? = some (.cells cs 37 (0, 0))) : w'.heap[k]? = some (.cells cs 37 (0, 0)) := by
  obtain ⟨vn, vb, hx⟩ := hx
  exact h.at_ hk (ne_of_tag hk hx.blk (by decide)) (by decide)

set_option maxHeartbeats 1600000 in
theorem note_2 (base B X : Nat) (s : St) (l : Must) (a : Act) (ka : Option Addr) (kl kc : Nat) (w : World) (hk : a.kind = 2) (h : Su base w X l) (hd : Dk base w B s) (ho : Ok s) (hl : l.length ≤ 50000) :
    Calls Try.prog 22 #[.pointer (some ⟨X, 0, none⟩), .pointer (some ⟨B, 0, none⟩), aggA a ka kl kc] w fun e w' => e = .returned (.tuple #[]) ∧ Su base w' X (noteS s l a) ∧ Kp base X TM w w' := by
  have HR : Hid (noteS s l a = setS l a.name (readOf s a.name)) := by show _ = _; unfold noteS; rw [if_pos hk]
  rw [HR.out]
  have hb : Below w.heap.size w (w.alloc (cellsA a ka kl kc)) := (Below.refl _ _).alloc (Nat.le_refl _) _
  have HS1 := Lib.hid (h.later hb)
  have HD1 := Lib.hid (hd.later hb)
  have HB := Lib.hid (Kp.of_below (base := base) (B := X) (ts := TM) hb)
  have HO := Lib.hid ho
  have HBX := Lib.hid (heap_alloc_new w (cellsA a ka kl kc))
  clear h hd hb ho
  unfold cellsA at HS1 HD1 HB HBX
  unfold aggA
  rw [hk] at HS1 HD1 HB HBX ⊢
  go_enter Try.func22, Try.ntmps22
  go_wp2_with fail
  refine (read_any base B s a.name _ HD1.out HO.out).mono ?_
  rintro e w1 ⟨rfl, b1⟩
  have HS2 := Lib.hid (HS1.out.later b1)
  have HB2 := Lib.hid (HB.out.trans (Kp.of_below b1))
  have hbx := (b1.block _ (lt_of_block HBX.out)).trans HBX.out
  have c1 := blk_cell (i := 1) hbx rfl
  clear b1 hbx
  go_wp2_with fail
  refine (set_any base X l a.name (readOf s a.name) w1 HS2.out (by omega)).mono ?_
  rintro e w2 ⟨rfl, h2, k2⟩
  have HS3 := Lib.hid h2
  have HB3 := Lib.hid (HB2.out.trans k2)
  clear h2 k2
  go_wp2_with fail
  go_end0
  exact ⟨rfl, HS3.out, HB3.out⟩

set_option maxHeartbeats 1600000 in
theorem note_3 (base B X : Nat) (s : St) (l : Must) (a : Act) (ka : Option Addr) (kl kc : Nat) (w : World) (hk : a.kind = 3) (h : Su base w X l) (hd : Dk base w B s) (ho : Ok s) (hl : l.length ≤ 50000) :
    Calls Try.prog 22 #[.pointer (some ⟨X, 0, none⟩), .pointer (some ⟨B, 0, none⟩), aggA a ka kl kc] w fun e w' => e = .returned (.tuple #[]) ∧ Su base w' X (noteS s l a) ∧ Kp base X TM w w' := by
  have HR : Hid (noteS s l a = setS (dropS l a.name) a.to (getS l a.name)) := by show _ = _; unfold noteS; rw [if_neg (by omega), if_pos hk]
  rw [HR.out]
  have hdl : (dropS l a.name).length ≤ 50000 := Nat.le_trans (List.length_filter_le _ _) hl
  have hb : Below w.heap.size w (w.alloc (cellsA a ka kl kc)) := (Below.refl _ _).alloc (Nat.le_refl _) _
  have HS1 := Lib.hid (h.later hb)
  have HD1 := Lib.hid (hd.later hb)
  have HB := Lib.hid (Kp.of_below (base := base) (B := X) (ts := TM) hb)
  have HO := Lib.hid ho
  have HBX := Lib.hid (heap_alloc_new w (cellsA a ka kl kc))
  clear h hd hb ho
  unfold cellsA at HS1 HD1 HB HBX
  unfold aggA
  rw [hk] at HS1 HD1 HB HBX ⊢
  go_enter Try.func22, Try.ntmps22
  go_wp2_with fail
  refine (get_any base X l a.name _ HS1.out (by omega)).mono ?_
  rintro e w1 ⟨rfl, rfl⟩
  go_wp2_with fail
  refine (drop_any base X l a.name _ HS1.out (by omega)).mono ?_
  rintro e w1 ⟨rfl, h1, k1⟩
  have HS2 := Lib.hid h1
  have HB2 := Lib.hid (HB.out.trans k1)
  have hbx := box_kp k1 HS1.out HBX.out
  have c2 := blk_cell (i := 2) hbx rfl
  clear h1 k1 hbx
  go_wp2_with fail
  refine (set_any base X _ a.to (getS l a.name) w1 HS2.out (by omega)).mono ?_
  rintro e w2 ⟨rfl, h2, k2⟩
  have HS3 := Lib.hid h2
  have HB3 := Lib.hid (HB2.out.trans k2)
  clear h2 k2
  go_wp2_with fail
  go_end0
  exact ⟨rfl, HS3.out, HB3.out⟩

set_option maxHeartbeats 1600000 in
theorem note_4 (base B X : Nat) (s : St) (l : Must) (a : Act) (ka : Option Addr) (kl kc : Nat) (w : World) (hk : a.kind = 4) (h : Su base w X l) (hd : Dk base w B s) (ho : Ok s) (hl : l.length ≤ 50000) :
    Calls Try.prog 22 #[.pointer (some ⟨X, 0, none⟩), .pointer (some ⟨B, 0, none⟩), aggA a ka kl kc] w fun e w' => e = .returned (.tuple #[]) ∧ Su base w' X (noteS s l a) ∧ Kp base X TM w w' := by
  have HR : Hid (noteS s l a = dropS l a.name) := by show _ = _; unfold noteS; rw [if_neg (by omega), if_neg (by omega), if_pos hk]
  rw [HR.out]
  have hb : Below w.heap.size w (w.alloc (cellsA a ka kl kc)) := (Below.refl _ _).alloc (Nat.le_refl _) _
  have HS1 := Lib.hid (h.later hb)
  have HD1 := Lib.hid (hd.later hb)
  have HB := Lib.hid (Kp.of_below (base := base) (B := X) (ts := TM) hb)
  have HO := Lib.hid ho
  have HBX := Lib.hid (heap_alloc_new w (cellsA a ka kl kc))
  clear h hd hb ho
  unfold cellsA at HS1 HD1 HB HBX
  unfold aggA
  rw [hk] at HS1 HD1 HB HBX ⊢
  go_enter Try.func22, Try.ntmps22
  go_wp2_with fail
  refine (drop_any base X l a.name _ HS1.out (by omega)).mono ?_
  rintro e w1 ⟨rfl, h1, k1⟩
  have HS2 := Lib.hid h1
  have HB2 := Lib.hid (HB.out.trans k1)
  clear h1 k1
  go_wp2_with fail
  go_end0
  exact ⟨rfl, HS2.out, HB2.out⟩

set_option maxHeartbeats 1600000 in
theorem note_5 (base B X : Nat) (s : St) (l : Must) (a : Act) (ka : Option Addr) (kl kc : Nat) (w : World) (hk : a.kind = 5) (h : Su base w X l) (hd : Dk base w B s) (ho : Ok s) (hl : l.length ≤ 50000) (hsz : (getS l a.name).size ≤ 1000000) :
    Calls Try.prog 22 #[.pointer (some ⟨X, 0, none⟩), .pointer (some ⟨B, 0, none⟩), aggA a ka kl kc] w fun e w' => e = .returned (.tuple #[]) ∧ Su base w' X (noteS s l a) ∧ Kp base X TM w w' := by
  have HR : Hid (noteS s l a = setS l a.name ((getS l a.name).extract 0 (clampS (getS l a.name) a.n))) := by show _ = _; unfold noteS; rw [if_neg (by omega), if_neg (by omega), if_neg (by omega), if_pos hk]
  rw [HR.out]
  have hb : Below w.heap.size w (w.alloc (cellsA a ka kl kc)) := (Below.refl _ _).alloc (Nat.le_refl _) _
  have HS1 := Lib.hid (h.later hb)
  have HD1 := Lib.hid (hd.later hb)
  have HB := Lib.hid (Kp.of_below (base := base) (B := X) (ts := TM) hb)
  have HO := Lib.hid ho
  have HBX := Lib.hid (heap_alloc_new w (cellsA a ka kl kc))
  clear h hd hb ho
  unfold cellsA at HS1 HD1 HB HBX
  unfold aggA
  rw [hk] at HS1 HD1 HB HBX ⊢
  have HG := Lib.hid (get_any base X l a.name _ HS1.out (by omega))
  have hcv : max 0 (min ((getS l a.name).size : Int) a.n) = (clampS (getS l a.name) a.n : Int) := by unfold clampS; omega
  have hcl : clampS (getS l a.name) a.n ≤ (getS l a.name).size := by unfold clampS; omega
  clear HR
  generalize clampS (getS l a.name) a.n = c at *
  generalize getS l a.name = t at *
  go_enter Try.func22, Try.ntmps22
  go_wp2_with fail
  refine HG.out.mono ?_
  rintro e w1 ⟨rfl, rfl⟩
  have c1 := blk_cell (i := 1) HBX.out rfl
  have c4 := blk_cell (i := 4) HBX.out rfl
  have HS1D := Lib.hid (HS1.out.later ((Below.refl _ _).drew))
  have HBD := Lib.hid (HB.out.trans (Kp.of_below ((Below.refl _ _).drew)))
  go_wp2_with fail
  go_region_with (go_at_call 39; refine (set_any base X l a.name (t.extract 0 c) _ HS1D.out (by omega)).mono ?_; rintro e w2 ⟨rfl, h2, k2⟩; have HS3 := Lib.hid h2; have HB3 := Lib.hid (HBD.out.trans k2); clear h2 k2)
  all_goals
    go_wp2_with fail
    go_end0
    exact ⟨rfl, HS3.out, HB3.out⟩

end Go.Proofs.Ytlmhghcoohalaaa.Dk
