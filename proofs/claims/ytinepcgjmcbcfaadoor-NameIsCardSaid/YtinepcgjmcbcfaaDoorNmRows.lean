/- Rows of texts and of numbers in memory: whether there are few, and whether two are the same. -/
import Derived.Test.YtinepcgjmcbcfaaDoorNmName
import Derived.OwnWalk
import Derived.Sort.QuietIn
import Derived.Sort.OwnSortedInts
import Derived.Laws.OwnMore
namespace Go.Proofs.YtinepcgjmcbcfaaDoor.Nm
open Go.RowKit
open Va (str str_app conv_one)

/-- numbers that stand in memory one behind the other; or none -/
structure Row (a : Option Addr) (len : Nat) (zs : List Int) (w : World) : Prop where
  len_is : zs.length = len
  at_ : 0 < len → ∃ b off, a = some ⟨b, off, none⟩ ∧ b < w.heap.size ∧ ∀ j, j < len → w.cell? ⟨b, off + j, none⟩ = some (.int .i64 (zs[j]?.getD 0))
theorem Row.later {a : Option Addr} {len : Nat} {zs : List Int} {w w' : World} (h : Row a len zs w) (hb : Below w.heap.size w w') : Row a len zs w' :=
  ⟨h.len_is, fun hl => by
    obtain ⟨b, off, h1, h2, h3⟩ := h.at_ hl
    exact ⟨b, off, h1, Nat.lt_of_lt_of_le h2 hb.size, fun j hj => (hb.cell (p := ⟨b, off + j, none⟩) h2).trans (h3 j hj)⟩⟩
theorem row_own {w : World} {base : Nat} {e : TypeId} {v : Value} {n : Nat} {xs : List Int} (h : w.ownsRow base e 1 v n (xs.map (Value.int .i64))) :
    ∃ a cap, v = .slice a n cap ∧ Row a n xs w := by
  have h1 := h.1
  rw [List.length_map, Nat.mul_one] at h1
  rcases h.2 with ⟨rfl, rfl⟩ | ⟨g, cap, cur, rfl, hb, hg, _⟩
  · exact ⟨none, 0, rfl, h1, fun hl => absurd hl (by omega)⟩
  · refine ⟨_, cap, rfl, h1, fun _ => ⟨g, 0, rfl, (Array.getElem?_eq_some_iff.1 hg).1, fun j hj => ?_⟩⟩
    have := h.cells (g := g) rfl j (Value.int .i64 (xs[j]?.getD 0)) (by rw [List.getElem?_map, List.getElem?_eq_getElem (by omega)]; rfl)
    rw [show (⟨g, 0, none⟩ : Addr).add j = ⟨g, 0 + j, none⟩ from by unfold Addr.add; split <;> simp_all] at this
    exact this

/-- texts that stand in memory one behind the other; or none -/
structure Txts (a : Option Addr) (len : Nat) (zs : List ByteArray) (w : World) : Prop where
  len_is : zs.length = len
  at_ : 0 < len → ∃ b off, a = some ⟨b, off, none⟩ ∧ b < w.heap.size ∧ ∀ j, j < len → w.cell? ⟨b, off + j, none⟩ = some (.string (zs[j]?.getD ByteArray.empty))
theorem Txts.later {a : Option Addr} {len : Nat} {zs : List ByteArray} {w w' : World} (h : Txts a len zs w) (hb : Below w.heap.size w w') : Txts a len zs w' :=
  ⟨h.len_is, fun hl => by
    obtain ⟨b, off, h1, h2, h3⟩ := h.at_ hl
    exact ⟨b, off, h1, Nat.lt_of_lt_of_le h2 hb.size, fun j hj => (hb.cell (p := ⟨b, off + j, none⟩) h2).trans (h3 j hj)⟩⟩
/-- their bytes -/
def byt (zs : List ByteArray) : List (List UInt8) := zs.map fun s => s.data.toList
theorem byt_take (zs : List ByteArray) (j : Nat) (h : j < zs.length) : byt (zs.take (j + 1)) = byt (zs.take j) ++ [(zs[j]?.getD ByteArray.empty).data.toList] := by
  unfold byt
  rw [List.take_succ_eq_append_getElem h, List.map_append, List.getElem?_eq_getElem h]; rfl
theorem byt_len (zs : List ByteArray) : (byt zs).length = zs.length := List.length_map _

/-- what is told of whether texts are few -/
def FewEnd (n : Nat) (e : Ending) : Prop := ∃ f : Bool, e = .returned (.bool f) ∧ (f = true → n ≤ 40)

set_option maxHeartbeats 800000 in
set_option maxRecDepth 100000 in
theorem few_any (a : Option Addr) (n cap : Nat) (zs : List ByteArray) (w : World) (hp : Txts a n zs w) :
    Calls Tryd.prog 5 #[.slice a n cap] w fun e w' => FewEnd n e ∧ w = w' := by
  have HP := Lib.hid hp
  clear hp
  go_enter Tryd.func5, Tryd.ntmps5
  go_wp2_with fail
  go_loop [3] (fun i => ∃ k : Nat, k ≤ n ∧ k ≤ 40 ∧ i = .int .i64 k) (fun i => n - (intOf i).toNat)
  case atStart => exact ⟨0, by omega, by omega, rfl⟩
  case round =>
    obtain ⟨k, hk, h40, rfl⟩ := hrel
    by_cases hkl : k < n
    · by_cases hk4 : k < 40
      · obtain ⟨b, off, rfl, hbs, hcell⟩ := HP.out.at_ (by omega)
        have hc := hcell k hkl
        clear hcell
        generalize (zs[k]?.getD ByteArray.empty) = s at hc
        by_cases hs : s.size > 100
        · go_wp2_with fail
          go_ret
          exact ⟨⟨false, rfl, fun h => by cases h⟩, rfl⟩
        · go_wp2_with fail
          go_round
          case rel => exact ⟨k + 1, by omega, by omega, by go_num⟩
          case measure => simp [intOf]; omega
      · go_wp2_with fail
        go_ret
        exact ⟨⟨decide ((n : Int) ≤ 40), rfl, fun h => by have := of_decide_eq_true h; omega⟩, rfl⟩
    · obtain rfl : k = n := by omega
      go_wp2_with fail
      go_ret
      exact ⟨⟨decide ((k : Int) ≤ 40), rfl, fun h => by have := of_decide_eq_true h; omega⟩, rfl⟩

set_option maxHeartbeats 1600000 in
set_option maxRecDepth 100000 in
theorem same_any (a1 a2 : Option Addr) (c1 c2 n : Nat) (zs : List Int) (hl : n ≤ 1000000) (w : World) (h1 : Row a1 n zs w) (h2 : Row a2 n zs w) :
    Calls Tryd.prog 11 #[.slice a1 n c1, .slice a2 n c2] w fun e w' => e = .returned (.bool true) ∧ Below w.heap.size w w' := by
  have H1 := Lib.hid h1
  have H2 := Lib.hid h2
  clear h1 h2
  go_enter Tryd.func11, Tryd.ntmps11
  go_wp2_with fail
  go_loopw [5] (fun i wr => ∃ k : Nat, k ≤ n ∧ i = .int .i64 k ∧ Hid (Below w.heap.size w wr)) (fun i _ => n - (intOf i).toNat)
  case atStart => exact ⟨0, by omega, rfl, Below.refl _ _⟩
  case round =>
    obtain ⟨k, hk, rfl, HB⟩ := hrel
    by_cases hlt : k < n
    · obtain ⟨b1, o1, rfl, s1, g1⟩ := (H1.out.later HB.out).at_ (by omega)
      obtain ⟨b2, o2, rfl, s2, g2⟩ := (H2.out.later HB.out).at_ (by omega)
      have e1 := g1 k hlt
      have e2 := g2 k hlt
      generalize zs[k]?.getD 0 = q at e1 e2
      clear g1 g2 s1 s2
      go_wp2_with fail
      go_quiet (fail)
      go_wp2_with fail
      exact ⟨⟨k + 1, by omega, by go_num, by have := HB.out; exact ⟨this.os, this.tape, this.output, this.size, this.block⟩⟩, by simp [intOf]; omega⟩
    · obtain rfl : k = n := by omega
      go_wp2_with fail
      go_ret
      exact ⟨rfl, HB.out⟩
end Go.Proofs.YtinepcgjmcbcfaaDoor.Nm
