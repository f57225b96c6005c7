/- The disk's small calls: whether it is up, its files, an operation that is begun, a crash, the fuse; a new one. -/
import Derived.Test.YtlmhghcoohalaaaDkKit
namespace Go.Proofs.Ytlmhghcoohalaaa.Dk
open Go.RowKit

theorem on_any (base B : Nat) (s : St) (w : World) (h : Dk base w B s) :
    Calls Try.prog 12 #[.pointer (some ⟨B, 0, none⟩)] w fun e w' => e = .returned (.bool s.on) ∧ w = w' := by
  obtain ⟨v, L, h⟩ := h
  have c1 := blk_cell (i := 1) h.blk rfl
  clear h
  go_enter Try.func12, Try.ntmps12
  go_wp2
  go_ret
  exact ⟨rfl, rfl⟩
theorem on_nil (w : World) : Calls Try.prog 12 #[.pointer none] w fun e w' => e = .returned (.bool false) ∧ w = w' := by
  go_enter Try.func12, Try.ntmps12
  go_wp2
  go_ret
  exact ⟨rfl, rfl⟩

theorem ops_any (base B : Nat) (s : St) (w : World) (h : Dk base w B s) :
    Calls Try.prog 13 #[.pointer (some ⟨B, 0, none⟩)] w fun e w' => e = .returned (.int .i64 (s.ops : Int)) ∧ w = w' := by
  obtain ⟨v, L, h⟩ := h
  have c4 := blk_cell (i := 4) h.blk rfl
  clear h
  go_enter Try.func13, Try.ntmps13
  go_wp2
  go_ret
  exact ⟨rfl, rfl⟩
theorem ops_nil (w : World) : Calls Try.prog 13 #[.pointer none] w fun e w' => e = .returned (.int .i64 0) ∧ w = w' := by
  go_enter Try.func13, Try.ntmps13
  go_wp2
  go_ret
  exact ⟨rfl, rfl⟩

theorem all_any (base B : Nat) (s : St) (v : Value) (L : List En) (w : World) (h : DkAt base w B s v L) :
    Calls Try.prog 35 #[.pointer (some ⟨B, 0, none⟩)] w fun e w' => e = .returned v ∧ w = w' := by
  have c3 := blk_cell (i := 3) h.blk rfl
  obtain ⟨a, cap, rfl, _⟩ := row_slice h.row
  clear h
  go_enter Try.func35, Try.ntmps35
  go_wp2
  go_ret
  exact ⟨rfl, rfl⟩
theorem all_nil (w : World) : Calls Try.prog 35 #[.pointer none] w fun e w' => e = .returned (.slice none 0 0) ∧ w = w' := by
  go_enter Try.func35, Try.ntmps35
  go_wp2
  go_ret
  exact ⟨rfl, rfl⟩

/-- the disk's block is written at one place: the files stay -/
theorem DkAt.set {base B : Nat} {w : World} {s t : St} {v : Value} {L : List En} (h : DkAt base w B s v L) (i : Nat) (u : Value)
    (he : (#[.bool s.made, .bool s.on, .int .i64 s.room, v, .int .i64 (s.ops : Int), .int .i64 s.fuse] : Array Value).setIfInBounds i u = #[.bool t.made, .bool t.on, .int .i64 t.room, v, .int .i64 (t.ops : Int), .int .i64 t.fuse]) (hf : t.fs = s.fs) :
    DkAt base (w.setCell ⟨B, i, none⟩ u) B t v L := by
  have hb := heap_setCell_same w B i _ _ u h.blk
  rw [he] at hb
  have ho : ∀ k, k ≠ B → (w.setCell ⟨B, i, none⟩ u).heap[k]? = w.heap[k]? := fun k hk => heap_setCell_other _ _ _ _ hk
  have hr : ∀ k cs e, e ≠ 31 → w.heap[k]? = some (Obj.cells cs e (0, 0)) → (w.setCell ⟨B, i, none⟩ u).heap[k]? = some (Obj.cells cs e (0, 0)) := fun k cs e hne hc => by
    rw [ho k (ne_of_tag hc h.blk hne)]; exact hc
  exact ⟨hb, h.ge, row_at h.row fun k cs _ hc => hr k cs _ (by decide) hc, fun e he => by
    obtain ⟨h1, h2, h3⟩ := h.all e he
    exact ⟨hr _ _ _ (by decide) h1, h2, row_at h3 fun k cs _ hc => hr k cs _ (by decide) hc⟩, h.sep, hf.trans h.fs⟩

theorem crash_at (base B : Nat) (s : St) (v : Value) (L : List En) (w : World) (h : DkAt base w B s v L) :
    Calls Try.prog 30 #[.pointer (some ⟨B, 0, none⟩)] w fun e w' => e = .returned (.tuple #[]) ∧ DkAt base w' B (crashed s) v L ∧ Kp base B [] w w' := by
  have h1 := h.set (t := { s with on := false }) 1 (.bool false) rfl rfl
  have h2 := h1.set (t := crashed s) 5 (.int .i64 (-1)) rfl rfl
  have hk := ((Kp.refl base B [] w).setB h.ge 1 (.bool false)).setB h.ge 5 (.int .i64 (-1))
  have c1 := blk_cell (i := 1) h.blk rfl
  have c5 := blk_cell (i := 5) h.blk rfl
  have d5 := blk_cell (i := 5) h1.blk rfl
  have f1 := blk_free h.blk 1
  have f5 := blk_free h.blk 5
  have g5 := blk_free h1.blk 5
  have H2 := Lib.hid h2
  have HK := Lib.hid hk
  clear h h1 h2 hk
  go_enter Try.func30, Try.ntmps30
  go_wp2
  go_end0
  exact ⟨rfl, H2.out, HK.out⟩

theorem crash_nil (w : World) : Calls Try.prog 30 #[.pointer none] w fun e w' => e = .returned (.tuple #[]) ∧ w = w' := by
  go_enter Try.func30, Try.ntmps30
  go_wp2
  go_end0
  exact ⟨rfl, rfl⟩

theorem fuse_at (base B : Nat) (s : St) (n : Int) (v : Value) (L : List En) (w : World) (h : DkAt base w B s v L) :
    Calls Try.prog 25 #[.pointer (some ⟨B, 0, none⟩), .int .i64 n] w fun e w' => e = .returned (.tuple #[]) ∧ DkAt base w' B (fused s n) v L ∧ Kp base B [] w w' := by
  have h2 := h.set (t := fused s n) 5 (.int .i64 (max n (-1))) rfl rfl
  have hk := (Kp.refl base B [] w).setB h.ge 5 (.int .i64 (max n (-1)))
  have c5 := blk_cell (i := 5) h.blk rfl
  have f5 := blk_free h.blk 5
  have H2 := Lib.hid h2
  have HK := Lib.hid hk
  clear h h2 hk
  by_cases hn : n < -1
  · have e : max n (-1) = -1 := by omega
    rw [e] at H2 HK
    go_enter Try.func25, Try.ntmps25
    go_wp2
    all_goals
      go_end0
      exact ⟨rfl, H2.out, HK.out⟩
  · have e : max n (-1) = n := by omega
    rw [e] at H2 HK
    go_enter Try.func25, Try.ntmps25
    go_wp2
    all_goals
      go_end0
      exact ⟨rfl, H2.out, HK.out⟩
theorem fuse_nil (n : Int) (w : World) : Calls Try.prog 25 #[.pointer none, .int .i64 n] w fun e w' => e = .returned (.tuple #[]) ∧ w = w' := by
  go_enter Try.func25, Try.ntmps25
  go_wp2
  go_end0
  exact ⟨rfl, rfl⟩

set_option maxHeartbeats 800000 in
theorem begin_at (base B : Nat) (s : St) (v : Value) (L : List En) (w : World) (h : DkAt base w B s v L) (ho : s.ops ≤ 4611686018427387904) (h0 : -1 ≤ s.fuse) (h1 : s.fuse ≤ 9223372036854775807) :
    Calls Try.prog 44 #[.pointer (some ⟨B, 0, none⟩)] w fun e w' => e = .returned (.bool (goes s)) ∧ DkAt base w' B (begun s) v L ∧ Kp base B [] w w' := by
  have h2 := h.set (t := { s with ops := s.ops + 1 }) 4 (.int .i64 ((s.ops : Int) + 1)) rfl rfl
  have hk := (Kp.refl base B [] w).setB h.ge 4 (.int .i64 ((s.ops : Int) + 1))
  have c4 := blk_cell (i := 4) h.blk rfl
  have f4 := blk_free h.blk 4
  have d5 := blk_cell (i := 5) h2.blk rfl
  have g5 := blk_free h2.blk 5
  have HK := Lib.hid hk
  have H2 := Lib.hid h2
  clear h hk
  by_cases hz : s.fuse = 0
  · have hb : begun s = crashed { s with ops := s.ops + 1 } := by unfold begun; rw [if_pos hz]; rfl
    have hg : goes s = false := by simp [goes, hz]
    rw [hb, hg]
    have hf : (s.fuse == 0) = true := by simp [hz]
    have hcr := crash_at base B { s with ops := s.ops + 1 } v L _ h2
    have HC := Lib.hid hcr
    clear hb hg h2 hz hcr
    go_enter Try.func44, Try.ntmps44
    go_wp2_with fail
    refine HC.out.mono ?_
    rintro e w1 ⟨rfl, h3, hk3⟩
    have H3 := Lib.hid h3
    clear h3
    go_wp2_with fail
    go_ret
    exact ⟨rfl, H3.out, HK.out.trans hk3⟩
  · have hg : goes s = true := by simp [goes, hz]
    have hf : (s.fuse == 0) = false := by simp [hz]
    rw [hg]
    by_cases hp : 0 < s.fuse
    · have hb : begun s = { s with ops := s.ops + 1, fuse := s.fuse - 1 } := by unfold begun; rw [if_neg hz, if_pos hp]
      rw [hb]
      have h3 := h2.set (t := { s with ops := s.ops + 1, fuse := s.fuse - 1 }) 5 (.int .i64 (s.fuse - 1)) rfl rfl
      have HK2 := Lib.hid (HK.out.setB h2.ge 5 (.int .i64 (s.fuse - 1)))
      have H3 := Lib.hid h3
      clear h2 h3 hb
      go_enter Try.func44, Try.ntmps44
      go_wp2_with fail
      go_ret
      exact ⟨rfl, H3.out, HK2.out⟩
    · have hb : begun s = { s with ops := s.ops + 1 } := by unfold begun; rw [if_neg hz, if_neg hp]
      rw [hb]
      clear h2 hb
      go_enter Try.func44, Try.ntmps44
      go_wp2_with fail
      go_ret
      exact ⟨rfl, H2.out, HK.out⟩

/-- what a new disk is -/
def born (room : Int) : St := ⟨true, true, max room 0, [], 0, -1⟩
/-- one that nobody made -/
def nobody : St := ⟨false, false, 0, [], 0, 0⟩
theorem dk_new (base : Nat) (w : World) (hb : base ≤ w.heap.size) (s : St) (hs : s.fs = []) :
    DkAt base (w.alloc (.cells #[.bool s.made, .bool s.on, .int .i64 s.room, .slice none 0 0, .int .i64 (s.ops : Int), .int .i64 s.fuse] 31)) w.heap.size s (.slice none 0 0) [] :=
  ⟨heap_alloc_new w _, hb, World.ownsRow_nil _ _ _ _, fun _ h => (by cases h), List.Pairwise.nil, hs⟩
theorem new_any (room : Int) (base : Nat) (w : World) (hb : base ≤ w.heap.size) :
    Calls Try.prog 8 #[.int .i64 room] w fun e w' => e = .returned (.pointer (some ⟨w.heap.size, 0, none⟩)) ∧ DkAt base w' w.heap.size (born room) (.slice none 0 0) [] ∧ Below w.heap.size w w' ∧ w'.heap.size = w.heap.size + 1 := by
  have h := dk_new base w hb (born room) rfl
  have HH := Lib.hid h
  clear h
  unfold born at HH
  by_cases hn : room < 0
  · have e : max room 0 = 0 := by omega
    rw [e] at HH
    unfold born
    rw [e]
    go_enter Try.func8, Try.ntmps8
    go_wp2
    go_ret
    exact ⟨rfl, HH.out, (Below.refl _ _).alloc (Nat.le_refl _) _, by simp⟩
  · have e : max room 0 = room := by omega
    rw [e] at HH
    unfold born
    rw [e]
    go_enter Try.func8, Try.ntmps8
    go_wp2
    go_ret
    exact ⟨rfl, HH.out, (Below.refl _ _).alloc (Nat.le_refl _) _, by simp⟩
end Go.Proofs.Ytlmhghcoohalaaa.Dk
