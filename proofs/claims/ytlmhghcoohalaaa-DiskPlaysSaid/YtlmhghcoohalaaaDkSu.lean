/- The law's own list of what must be there: its calls. -/
import Derived.Test.YtlmhghcoohalaaaDkInv
import Derived.Test.YtlmhghcoohalaaaDkFewL
namespace Go.Proofs.Ytlmhghcoohalaaa.Dk
open Go.RowKit

abbrev TM : List TypeId := [9]
structure SuAt (base : Nat) (w : World) (X : Nat) (vn vb : Value) (l : Must) : Prop where
  blk : w.heap[X]? = some (.cells #[vn, vb] 54 (0, 0))
  ge : base ≤ X
  rn : w.ownsRow base 9 1 vn l.length (nms (l.map (·.1)))
  rb : w.ownsRow base 9 1 vb l.length (nms (l.map (·.2)))
  ap : ∀ k, vn.ownBlock = some k → vb.ownBlock ≠ some k
def Su (base : Nat) (w : World) (X : Nat) (l : Must) : Prop := ∃ vn vb, SuAt base w X vn vb l

theorem SuAt.kept {base X : Nat} {w w' : World} {vn vb : Value} {l : Must} (h : SuAt base w X vn vb l)
    (hk : ∀ k cs t, w.heap[k]? = some (Obj.cells cs t (0, 0)) → (k = X ∨ t = 9) → w'.heap[k]? = some (Obj.cells cs t (0, 0))) : SuAt base w' X vn vb l :=
  ⟨hk _ _ _ h.blk (.inl rfl), h.ge, row_at h.rn fun _ _ _ hc => hk _ _ _ hc (.inr rfl), row_at h.rb fun _ _ _ hc => hk _ _ _ hc (.inr rfl), h.ap⟩
theorem Su.later {base X : Nat} {w w' : World} {l : Must} (h : Su base w X l) (hb : Below w.heap.size w w') : Su base w' X l := by
  obtain ⟨vn, vb, h⟩ := h
  exact ⟨vn, vb, h.kept fun k _ _ hc _ => (hb.block k (lt_of_block hc)).trans hc⟩
/-- what a disk's call leaves -/
theorem Su.disk {base base' X B : Nat} {w w' : World} {l : Must} {s : St} (h : Su base w X l) (hk : Kp base' B TS w w') (hd : Dk base' w B s) : Su base w' X l := by
  obtain ⟨vn, vb, h⟩ := h
  obtain ⟨v, L, hd⟩ := hd
  refine ⟨vn, vb, h.kept fun k cs t hc hkt => hk.at_ hc ?_ ?_⟩
  · refine ne_of_tag hc hd.blk ?_
    rcases hkt with rfl | rfl
    · rw [h.blk] at hc; cases hc; decide
    · decide
  · rcases hkt with rfl | rfl
    · rw [h.blk] at hc; cases hc; decide
    · decide
/-- what the list's calls leave of a disk -/
theorem Dk.must {base base' X B : Nat} {w w' : World} {l : Must} {s : St} (hd : Dk base w B s) (hk : Kp base' X TM w w') (h : Su base' w X l) : Dk base w' B s := by
  obtain ⟨v, L, hd⟩ := hd
  obtain ⟨vn, vb, h⟩ := h
  refine ⟨v, L, hd.kept fun k cs t hc hkt => hk.at_ hc ?_ ?_⟩
  · refine ne_of_tag hc h.blk ?_
    rcases hkt with rfl | ht
    · rw [hd.blk] at hc; cases hc; decide
    · intro e; subst e; exact absurd ht (by decide)
  · rcases hkt with rfl | ht
    · rw [hd.blk] at hc; cases hc; decide
    · intro e; simp at e; subst e; exact absurd ht (by decide)

/-- its cells, as the walk reads them -/
theorem SuAt.reads {base X : Nat} {w : World} {vn vb : Value} {l : Must} (h : SuAt base w X vn vb l) :
    ∃ na nc ba bc, vn = .slice na l.length nc ∧ vb = .slice ba l.length bc ∧ l.length ≤ nc ∧ l.length ≤ bc ∧ nc ≤ 9223372036854775807 ∧ bc ≤ 9223372036854775807 ∧ w.cell? ⟨X, 0, none⟩ = some (.slice na l.length nc) ∧ w.cell? ⟨X, 1, none⟩ = some (.slice ba l.length bc) ∧
      ∀ k x, l[k]? = some x → ∃ gn gb, na = some ⟨gn, 0, none⟩ ∧ ba = some ⟨gb, 0, none⟩ ∧ w.cell? ⟨gn, k, none⟩ = some (.string x.1) ∧ w.cell? ⟨gb, k, none⟩ = some (.string x.2) := by
  obtain ⟨na, nc, rfl, n1, n2, n3⟩ := row_slice h.rn
  obtain ⟨ba, bc, rfl, b1, b2, b3⟩ := row_slice h.rb
  refine ⟨na, nc, ba, bc, rfl, rfl, n1, b1, n2, b2, blk_cell h.blk rfl, blk_cell h.blk rfl, fun k x hx => ?_⟩
  have hk := (List.getElem?_eq_some_iff.1 hx).1
  obtain ⟨gn, rfl, _, _, hn⟩ := n3 (by omega)
  obtain ⟨gb, rfl, _, _, hb⟩ := b3 (by omega)
  exact ⟨gn, gb, rfl, rfl, hn k _ (by unfold nms; rw [List.map_map, List.getElem?_map, hx]; rfl), hb k _ (by unfold nms; rw [List.map_map, List.getElem?_map, hx]; rfl)⟩

theorem ba_eq {a b : ByteArray} : (a.toList == b.toList) = decide (a = b) := by
  rw [Bool.eq_iff_iff]
  simp only [beq_iff_eq, decide_eq_true_eq, ByteArray.toList_eq]
  exact ⟨ba_ext, fun e => by rw [e]⟩

/-- the first one that has the name, so far none -/
theorem getS_at {l : Must} {n : ByteArray} {k : Nat} {x : ByteArray × ByteArray} (hk : l[k]? = some x) (hj : ∀ (j : Nat) (y : ByteArray × ByteArray), j < k → l[j]? = some y → y.1 ≠ n) (hx : x.1 = n) : getS l n = x.2 := by
  unfold getS
  have : l.find? (fun x => decide (x.1 = n)) = some x := by
    obtain ⟨h1, h2⟩ := List.getElem?_eq_some_iff.1 hk
    rw [List.find?_eq_some_iff_getElem]
    refine ⟨by simpa using hx, k, h1, h2, fun j hjk => ?_⟩
    have := hj j _ hjk (List.getElem?_eq_getElem (by omega))
    simpa using this
  rw [this]
theorem getS_none {l : Must} {n : ByteArray} (hj : ∀ (j : Nat) (y : ByteArray × ByteArray), l[j]? = some y → y.1 ≠ n) : getS l n = ⟨#[]⟩ := by
  unfold getS
  have : l.find? (fun x => decide (x.1 = n)) = none := by
    rw [List.find?_eq_none]
    intro x hx
    obtain ⟨j, hj'⟩ := List.getElem?_of_mem hx
    simpa using hj j x hj'
  rw [this]

set_option maxHeartbeats 800000 in
theorem get_any (base X : Nat) (l : Must) (n : ByteArray) (w : World) (h : Su base w X l) (hl : l.length ≤ 1000000) :
    Calls Try.prog 40 #[.pointer (some ⟨X, 0, none⟩), .string n] w fun e w' => e = .returned (.string (getS l n)) ∧ w = w' := by
  obtain ⟨vn, vb, h⟩ := h
  obtain ⟨na, nc, ba, bc, rfl, rfl, n1, b1, n2, b2, c0, c1, hc⟩ := h.reads
  have HC := Lib.hid hc
  have HG := Lib.hid (fun k x (hk : l[k]? = some x) hj hx => getS_at (n := n) hk hj hx)
  have HN := Lib.hid (fun hj => getS_none (l := l) (n := n) hj)
  clear h hc
  obtain ⟨len, hlen⟩ : ∃ len, l.length = len := ⟨_, rfl⟩
  rw [hlen] at c0 c1 n1 b1 hl
  have HL := Lib.hid hlen
  clear hlen
  go_enter Try.func40, Try.ntmps40
  go_wp2_with fail
  go_loop [5] (fun i => ∃ k : Nat, k ≤ len ∧ i = .int .i64 (k : Int) ∧ Hid (∀ (j : Nat) (y : ByteArray × ByteArray), j < k → l[j]? = some y → y.1 ≠ n)) (fun i => len - (intOf i).toNat)
  case atStart => exact ⟨0, by omega, rfl, fun j _ hj => absurd hj (by omega)⟩
  case round =>
    obtain ⟨k, hk, rfl, HJ⟩ := hrel
    by_cases hlt : k < len
    · obtain ⟨x, hx⟩ : ∃ x, l[k]? = some x := ⟨_, List.getElem?_eq_getElem (by rw [HL.out]; exact hlt)⟩
      obtain ⟨gn, gb, rfl, rfl, q0, q1⟩ := HC.out k x hx
      have hq := ba_eq (a := x.1) (b := n)
      by_cases he : x.1 = n
      · rw [decide_eq_true he] at hq
        have HR := Lib.hid (HG.out k x hx HJ.out he)
        clear hx he
        obtain ⟨xn, xb⟩ := x
        simp only at *
        go_wp2_with fail
        go_ret
        exact ⟨by rw [HR.out]; rfl, rfl⟩
      · rw [decide_eq_false he] at hq
        have HJ2 : Hid (∀ (j : Nat) (y : ByteArray × ByteArray), j < k + 1 → l[j]? = some y → y.1 ≠ n) := fun j y hj hy => by
          rcases Nat.lt_or_eq_of_le (Nat.le_of_lt_succ hj) with h1 | h1
          · exact HJ.out j y h1 hy
          · subst h1; rw [hx] at hy; cases hy; exact he
        clear hx he
        obtain ⟨xn, xb⟩ := x
        simp only at *
        go_wp2_with fail
        go_round
        case rel => exact ⟨k + 1, by omega, by go_num, HJ2⟩
        case measure => simp [intOf]; omega
    · obtain rfl : k = len := by omega
      have HR := Lib.hid (HN.out (fun j y hy => HJ.out j y (by have := (List.getElem?_eq_some_iff.1 hy).1; rw [HL.out] at this; exact this) hy))
      go_wp2_with fail
      go_ret
      exact ⟨by rw [HR.out]; rfl, rfl⟩
/-- one more text behind a row: the row's own block, or a new one -/
theorem app_one (base n : Nat) (v : Value) (xs : List Value) (x : ByteArray) (w : World) (hown : w.ownsRow base 9 1 v n xs) (hn : n ≤ 1000000) (hbw : base ≤ w.heap.size) (ty : TypeId) :
    ∃ v' w', (Builtin.append_ #[44, 44] ty #[v, .slice (some ⟨w.heap.size, 0, none⟩) 1 1]).run Try.prog (w.alloc (.cells #[.string x] 9)) = .ok v' w' ∧
      w'.ownsRow base 9 1 v' (n + 1) (xs ++ [.string x]) ∧ w.grownBy w' v.ownBlock ∧ ∀ k, v'.ownBlock = some k → v.ownBlock = some k ∨ w.heap.size < k := by
  obtain ⟨i0, hi0, hz0, hzs, hzb⟩ := info_parts info9
  have hnews : ∀ j u, ([.string x] : List Value)[j]? = some u → (w.alloc (.cells #[.string x] 9)).cell? ((⟨w.heap.size, 0, none⟩ : Addr).add j) = some u := Go.cell_one_new w (.string x) 9
  have hown1 := hown.alloc (.cells #[.string x] 9)
  have hone : ∀ u ∈ ([.string x] : List Value), u.oneCell' = true := fun u hu => by simp at hu; subst hu; rfl
  obtain ⟨v', w', hr, h1, h2, h3⟩ := run_append_own (P := Try.prog) (w.alloc (.cells #[.string x] 9)) base 44 ty 9 i0 (.string ⟨#[]⟩) 1 16 Try.underlying44 hi0 hz0 hzs hzb rfl (by decide) v n xs hown1 ⟨w.heap.size, 0, none⟩ 1 1 [.string x] rfl hnews hone (by unfold maxLen; omega) (by omega) (by simp; omega)
  have hgr : w.grownBy w' v.ownBlock := by
    have h0 := World.grownBy_alloc w (.cells #[.string x] 9) v.ownBlock
    exact ⟨h2.os.trans h0.os, h2.tape.trans h0.tape, h2.output.trans h0.output, Nat.le_trans h0.size h2.size, fun k hk hne => (h2.block k (Nat.lt_of_lt_of_le hk h0.size) hne).trans (h0.block k hk hne)⟩
  refine ⟨v', w', hr, h1, hgr, fun k hk => ?_⟩
  have hxl : xs.length = n := by have := hown.1; omega
  rcases hown1.2 with ⟨rfl, rfl⟩ | ⟨g, cap, cur, rfl, hbg, hg, hnc, hcm, hcs, htake⟩
  · have hr' := run_append_nil (P := Try.prog) (w.alloc (.cells #[.string x] 9)) 44 ty 9 i0 (.string ⟨#[]⟩) Try.underlying44 hi0 hz0 ⟨w.heap.size, 0, none⟩ 1 1 [.string x] (by rw [hzs]; rfl) hnews (by omega) (by omega) (by rw [hzb]; omega)
    rw [hr'] at hr
    injection hr with hr _
    subst hr
    simp [Value.ownBlock] at hk
    exact .inr (by omega)
  · by_cases hroom : n + 1 ≤ cap
    · have hr' := run_append_room (P := Try.prog) (w.alloc (.cells #[.string x] 9)) 44 ty 9 i0 Try.underlying44 hi0 g n cap cur hg ⟨w.heap.size, 0, none⟩ 1 1 [.string x] (by rw [hzs]; rfl) hnews hone hroom (by rw [hzs]; simp; omega)
      rw [hr'] at hr
      injection hr with hr _
      subst hr
      exact .inl hk
    · have hr' := run_append_grow (P := Try.prog) (w.alloc (.cells #[.string x] 9)) 44 ty 9 i0 (.string ⟨#[]⟩) Try.underlying44 hi0 hz0 ⟨g, 0, none⟩ n cap xs (by rw [hzs]; omega) (hown1.cells (g := g) rfl) ⟨w.heap.size, 0, none⟩ 1 1 [.string x] (by rw [hzs]; rfl) hnews (by omega) (by omega) (by rw [hzb]; exact growslice_fits (by omega) (by omega))
      rw [hr'] at hr
      injection hr with hr _
      subst hr
      simp [Value.ownBlock] at hk
      exact .inr (by omega)
end Go.Proofs.Ytlmhghcoohalaaa.Dk
