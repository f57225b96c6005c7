/- Parts that came in: their cells; whether they are few; and the bytes of one by the document. -/
import Derived.Test.YtbadlcjpddonpaaPkAwake
namespace Go.Proofs.Ytbadlcjpddonpaa.Pk
open Go.RowKit
open Va (digs zig putD str)

/-- a part: its kind, its number, its text -/
abbrev P3 := Int × Int × ByteArray
def pd : P3 := (0, 0, ⟨#[]⟩)
/-- the part at a place -/
def at3 (ps : List P3) (j : Nat) : P3 := ps[j]?.getD pd

/-- parts that stand in memory one behind the other; or none -/
structure Pts (a : Option Addr) (len : Nat) (ps : List P3) (w : World) : Prop where
  len_is : ps.length = len
  at_ : 0 < len → ∃ b off, a = some ⟨b, off, none⟩ ∧ b < w.heap.size ∧ ∀ j, j < len → w.cell? ⟨b, off + j * 3, none⟩ = some (.int .i64 (at3 ps j).1) ∧ w.cell? ⟨b, off + j * 3 + 1, none⟩ = some (.int .i64 (at3 ps j).2.1) ∧ w.cell? ⟨b, off + j * 3 + 2, none⟩ = some (.string (at3 ps j).2.2)
  low : ∀ j, j < len → -9223372036854775808 ≤ (at3 ps j).2.1
  high : ∀ j, j < len → (at3 ps j).2.1 ≤ 9223372036854775807
theorem Pts.later {a : Option Addr} {len : Nat} {ps : List P3} {w w' : World} (h : Pts a len ps w) (hb : Below w.heap.size w w') : Pts a len ps w' :=
  ⟨h.len_is, fun hl => by
    obtain ⟨b, off, h1, h2, h3⟩ := h.at_ hl
    exact ⟨b, off, h1, Nat.lt_of_lt_of_le h2 hb.size, fun j hj => ⟨(hb.cell (p := ⟨b, off + j * 3, none⟩) h2).trans (h3 j hj).1, (hb.cell (p := ⟨b, off + j * 3 + 1, none⟩) h2).trans (h3 j hj).2.1, (hb.cell (p := ⟨b, off + j * 3 + 2, none⟩) h2).trans (h3 j hj).2.2⟩⟩, h.low, h.high⟩

/-- what is told of whether parts are few -/
def FewEnd (len : Nat) (ps : List P3) (e : Ending) : Prop := ∃ f : Bool, e = .returned (.bool f) ∧ (f = true → len ≤ 40 ∧ ∀ j, j < len → (at3 ps j).2.2.size ≤ 300)

set_option maxHeartbeats 800000 in
set_option maxRecDepth 100000 in
theorem few_any (a : Option Addr) (len cap : Nat) (ps : List P3) (w : World) (hp : Pts a len ps w) :
    Calls Try.prog 6 #[.slice a len cap] w fun e w' => FewEnd len ps e ∧ w = w' := by
  have HP := Lib.hid hp
  clear hp
  go_enter Try.func6, Try.ntmps6
  go_wp2_with fail
  go_loop [3] (fun i => ∃ k : Nat, k ≤ len ∧ k ≤ 40 ∧ i = .int .i64 k ∧ Hid (∀ j, j < k → (at3 ps j).2.2.size ≤ 300)) (fun i => len - (intOf i).toNat)
  case atStart => exact ⟨0, by omega, by omega, rfl, fun j hj => absurd hj (by omega)⟩
  case round =>
    obtain ⟨k, hk, h40, rfl, HJ⟩ := hrel
    by_cases hkl : k < len
    · by_cases hk4 : k < 40
      · obtain ⟨b, off, rfl, hbs, hcell⟩ := HP.out.at_ (by omega)
        obtain ⟨_, _, hc⟩ := hcell k hkl
        have HA : Hid (∀ s, (at3 ps k).2.2 = s → s.size ≤ 300 → ∀ j, j < k + 1 → (at3 ps j).2.2.size ≤ 300) := by
          rintro s rfl hs j hj
          by_cases e : j = k
          · subst e; exact hs
          · exact HJ.out j (by omega)
        have HE := HA.out _ rfl
        clear hcell HA
        generalize (at3 ps k).2.2 = s at hc HE
        have HE := Lib.hid HE
        by_cases hs : s.size > 300
        · go_wp2_with fail
          go_ret
          exact ⟨⟨false, rfl, fun h => by cases h⟩, rfl⟩
        · go_wp2_with fail
          go_round
          case rel => exact ⟨k + 1, by omega, by omega, by go_num, HE.out (by omega)⟩
          case measure => simp [intOf]; omega
      · go_wp2_with fail
        go_ret
        exact ⟨⟨decide ((len : Int) ≤ 40), rfl, fun h => absurd (of_decide_eq_true h) (by omega)⟩, rfl⟩
    · obtain rfl : k = len := by omega
      go_wp2_with fail
      go_ret
      exact ⟨⟨decide ((k : Int) ≤ 40), rfl, fun _ => ⟨h40, HJ.out⟩⟩, rfl⟩
end Go.Proofs.Ytbadlcjpddonpaa.Pk
