/- Frames that stand in memory: whether they are the same, and whether they are few. -/
import Derived.Test.YtjmkjdflfmjliaaFrRAll
namespace Go.Proofs.Ytjmkjdflfmjliaa.Fr
open Go.RowKit

/-- the frame at a place -/
def atF (zs : List Fm) (j : Nat) : Fm := zs[j]?.getD no
/-- frames that stand in memory one behind the other; or none -/
structure Frs (a : Option Addr) (zs : List Fm) (w : World) : Prop where
  at_ : 0 < zs.length → ∃ b off, a = some ⟨b, off, none⟩ ∧ b < w.heap.size ∧ ∀ j, j < zs.length → w.cell? ⟨b, off + j * 2, none⟩ = some (.int .i64 (atF zs j).1) ∧ w.cell? ⟨b, off + j * 2 + 1, none⟩ = some (.string (atF zs j).2)
theorem Frs.later {a : Option Addr} {zs : List Fm} {w w' : World} (h : Frs a zs w) (hb : Below w.heap.size w w') : Frs a zs w' :=
  ⟨fun hl => by
    obtain ⟨b, off, h1, h2, h3⟩ := h.at_ hl
    exact ⟨b, off, h1, Nat.lt_of_lt_of_le h2 hb.size, fun j hj => ⟨(hb.cell (p := ⟨b, off + j * 2, none⟩) h2).trans (h3 j hj).1, (hb.cell (p := ⟨b, off + j * 2 + 1, none⟩) h2).trans (h3 j hj).2⟩⟩⟩
theorem Frs.take {a : Option Addr} {zs : List Fm} {w : World} (h : Frs a zs w) (k : Nat) : Frs a (zs.take k) w :=
  ⟨fun hl => by
    rw [List.length_take] at hl
    obtain ⟨b, off, h1, h2, h3⟩ := h.at_ (by omega)
    refine ⟨b, off, h1, h2, fun j hj => ?_⟩
    rw [List.length_take] at hj
    have e : atF (zs.take k) j = atF zs j := by unfold atF; rw [List.getElem?_take, if_pos (by omega)]
    rw [e]
    exact h3 j (by omega)⟩
theorem cells_len (l : List Fm) : (cells l).length = 2 * l.length := by
  induction l with
  | nil => rfl
  | cons x l ih => show (Value.int .i64 x.1 :: Value.string x.2 :: cells l).length = _; simp [ih]; omega
theorem cells_at (l : List Fm) (j : Nat) (h : j < l.length) : (cells l)[j * 2]? = some (.int .i64 (atF l j).1) ∧ (cells l)[j * 2 + 1]? = some (.string (atF l j).2) := by
  induction l generalizing j with
  | nil => exact absurd h (by simp)
  | cons x l ih =>
    show (Value.int .i64 x.1 :: Value.string x.2 :: cells l)[j * 2]? = _ ∧ (Value.int .i64 x.1 :: Value.string x.2 :: cells l)[j * 2 + 1]? = _
    cases j with
    | zero => exact ⟨rfl, rfl⟩
    | succ j =>
      have := ih j (by simpa using h)
      have e : atF (x :: l) (j + 1) = atF l j := rfl
      rw [e, show (j + 1) * 2 = j * 2 + 2 by omega]
      exact this
theorem own_frs {w : World} {base : Nat} {e : TypeId} {v : Value} {zs : List Fm} {n : Nat} (hn : zs.length = n) (h : w.ownsRow base e 2 v n (cells zs)) :
    ∃ a cap, v = .slice a n cap ∧ n ≤ cap ∧ cap ≤ maxLen ∧ Frs a zs w := by
  rcases h.2 with ⟨rfl, rfl⟩ | ⟨g, cap, cur, rfl, hb, hg, hc, hm, _⟩
  · exact ⟨none, 0, rfl, Nat.le_refl _, Nat.zero_le _, ⟨fun hl => absurd hl (by omega)⟩⟩
  · refine ⟨_, cap, rfl, hc, hm, ⟨fun _ => ⟨g, 0, rfl, (Array.getElem?_eq_some_iff.1 hg).1, fun j hj => ?_⟩⟩⟩
    obtain ⟨c0, c1⟩ := cells_at zs j hj
    have h0 := h.cells (g := g) rfl _ _ c0
    have h1 := h.cells (g := g) rfl _ _ c1
    have ad : ∀ i, (⟨g, 0, none⟩ : Addr).add i = ⟨g, 0 + i, none⟩ := fun i => by unfold Addr.add; split <;> simp_all
    rw [ad] at h0 h1
    exact ⟨h0, h1⟩

theorem own_addr {w : World} {base : Nat} {e : TypeId} {a : Option Addr} {xs : List Value} {n m cap : Nat} (h : w.ownsRow base e 2 (.slice a n cap) m xs) :
    (a = none ∧ n = 0 ∧ cap = 0) ∨ ∃ g, a = some ⟨g, 0, none⟩ := by
  rcases h.2 with ⟨h1, _⟩ | ⟨g, c, cur, h1, _⟩
  · exact .inl (by simpa using h1)
  · exact .inr ⟨g, by simp at h1; exact h1.1⟩

set_option maxHeartbeats 1600000 in
set_option maxRecDepth 100000 in
theorem same_any (a1 a2 : Option Addr) (c1 c2 n : Nat) (zs : List Fm) (hn : zs.length = n) (hl : n ≤ 1000000) (w : World) (h1 : Frs a1 zs w) (h2 : Frs a2 zs w) :
    Calls Try.prog 15 #[.slice a1 n c1, .slice a2 n c2] w fun e w' => e = .returned (.bool true) ∧ Below w.heap.size w w' := by
  have H1 := Lib.hid h1
  have H2 := Lib.hid h2
  have HN := Lib.hid hn
  clear h1 h2 hn
  go_enter Try.func15, Try.ntmps15
  go_wp2_with fail
  go_loopw [5] (fun i wr => ∃ k : Nat, k ≤ n ∧ i = .int .i64 k ∧ Hid (Below w.heap.size w wr)) (fun i _ => n - (intOf i).toNat)
  case atStart => exact ⟨0, by omega, rfl, Below.refl _ _⟩
  case round =>
    obtain ⟨k, hk, rfl, HB⟩ := hrel
    by_cases hlt : k < n
    · obtain ⟨b1, o1, rfl, s1, g1⟩ := (H1.out.later HB.out).at_ (by rw [HN.out]; omega)
      obtain ⟨b2, o2, rfl, s2, g2⟩ := (H2.out.later HB.out).at_ (by rw [HN.out]; omega)
      obtain ⟨e1, e2⟩ := g1 k (by rw [HN.out]; omega)
      obtain ⟨e3, e4⟩ := g2 k (by rw [HN.out]; omega)
      generalize (atF zs k).1 = q at e1 e3
      generalize (atF zs k).2 = d at e2 e4
      clear g1 g2 s1 s2
      go_wp2_with fail
      go_quiet (fail)
      go_wp2_with fail
      exact ⟨⟨k + 1, by omega, by go_num, drewN_below HB.out nq⟩, by simp [intOf]; omega⟩
    · obtain rfl : k = n := by omega
      go_wp2_with fail
      go_ret
      exact ⟨rfl, HB.out⟩

/-- what is told of whether frames are few -/
def FewEnd (zs : List Fm) (e : Ending) : Prop := ∃ f : Bool, e = .returned (.bool f) ∧ (f = true → zs.length ≤ 20 ∧ ∀ j, j < zs.length → (atF zs j).2.size ≤ 200)

set_option maxHeartbeats 800000 in
set_option maxRecDepth 100000 in
theorem few_any (a : Option Addr) (n cap : Nat) (zs : List Fm) (hn : zs.length = n) (w : World) (hp : Frs a zs w) :
    Calls Try.prog 17 #[.slice a n cap] w fun e w' => FewEnd zs e ∧ w = w' := by
  have HP := Lib.hid hp
  have HN := Lib.hid hn
  clear hp hn
  go_enter Try.func17, Try.ntmps17
  go_wp2_with fail
  go_loop [3] (fun i => ∃ k : Nat, k ≤ n ∧ k ≤ 20 ∧ i = .int .i64 k ∧ Hid (∀ j, j < k → (atF zs j).2.size ≤ 200)) (fun i => n - (intOf i).toNat)
  case atStart => exact ⟨0, by omega, by omega, rfl, fun j hj => absurd hj (by omega)⟩
  case round =>
    obtain ⟨k, hk, h40, rfl, HJ⟩ := hrel
    by_cases hkl : k < n
    · by_cases hk4 : k < 20
      · obtain ⟨b, off, rfl, hbs, hcell⟩ := HP.out.at_ (by rw [HN.out]; omega)
        obtain ⟨_, hc⟩ := hcell k (by rw [HN.out]; omega)
        have HA : Hid (∀ s, (atF zs k).2 = s → s.size ≤ 200 → ∀ j, j < k + 1 → (atF zs j).2.size ≤ 200) := by
          rintro s rfl hs j hj
          by_cases e : j = k
          · subst e; exact hs
          · exact HJ.out j (by omega)
        have HE := HA.out _ rfl
        clear hcell HA
        generalize (atF zs k).2 = s at hc HE
        have HE := Lib.hid HE
        by_cases hs : s.size > 200
        · go_wp2_with fail
          go_ret
          exact ⟨⟨false, rfl, fun h => by cases h⟩, rfl⟩
        · go_wp2_with fail
          go_round
          case rel => exact ⟨k + 1, by omega, by omega, by go_num, HE.out (by omega)⟩
          case measure => simp [intOf]; omega
      · go_wp2_with fail
        go_ret
        exact ⟨⟨decide ((n : Int) ≤ 20), rfl, fun h => absurd (of_decide_eq_true h) (by omega)⟩, rfl⟩
    · obtain rfl : k = n := by omega
      go_wp2_with fail
      go_ret
      exact ⟨⟨decide ((k : Int) ≤ 20), rfl, fun _ => ⟨by rw [HN.out]; exact h40, by rw [HN.out]; exact HJ.out⟩⟩, rfl⟩
end Go.Proofs.Ytjmkjdflfmjliaa.Fr
