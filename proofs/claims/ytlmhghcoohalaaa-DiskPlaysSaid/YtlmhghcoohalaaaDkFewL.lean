/- Acts that came in: their cells; whether they are few, and of few bytes. -/
import Derived.Test.YtlmhghcoohalaaaDkAct
namespace Go.Proofs.Ytlmhghcoohalaaa.Dk
open Go.RowKit

/-- an act, and where its numbers stand -/
structure Ac where
  a : Act
  ka : Option Addr
  kl : Nat
  kc : Nat
def noAc : Ac := ⟨⟨0, ⟨#[]⟩, ⟨#[]⟩, ⟨#[]⟩, 0, []⟩, none, 0, 0⟩

/-- numbers that came in one behind the other, below a block -/
structure KB (base : Nat) (w : World) (a : Option Addr) (len cap : Nat) (zs : List Int) : Prop where
  len_is : zs.length = len
  cap_ge : len ≤ cap
  cap_le : cap ≤ 9223372036854775807
  rng : ∀ z ∈ zs, -9223372036854775808 ≤ z ∧ z ≤ 9223372036854775807
  at_ : 0 < len → ∃ b off o, a = some ⟨b, off, none⟩ ∧ w.heap[b]? = some o ∧ b < base ∧ ∀ j z, zs[j]? = some z → w.cell? ⟨b, off + j, none⟩ = some (.int .i64 z)
theorem KB.later {base len cap : Nat} {w w' : World} {a : Option Addr} {zs : List Int} (hk : KB base w a len cap zs) (hb : Below base w w') : KB base w' a len cap zs :=
  ⟨hk.len_is, hk.cap_ge, hk.cap_le, hk.rng, fun h0 => by
    obtain ⟨b, off, o, h1, h2, h3, h4⟩ := hk.at_ h0
    exact ⟨b, off, o, h1, (hb.block b h3).trans h2, h3, fun j z hz => (hb.cell (p := ⟨b, off + j, none⟩) h3).trans (h4 j z hz)⟩⟩
theorem KB.row {base len cap : Nat} {w : World} {a : Option Addr} {zs : List Int} (hk : KB base w a len cap zs) (B : Nat) : KRow base B w a len cap zs :=
  ⟨hk.len_is, hk.cap_ge, hk.cap_le, hk.rng, fun h0 => by
    obtain ⟨b, off, o, h1, h2, h3, h4⟩ := hk.at_ h0
    exact ⟨b, off, o, h1, h2, .inl h3, h4⟩⟩

/-- acts that stand in memory one behind the other, below a block; or none -/
structure Acts (base : Nat) (w : World) (a : Option Addr) (len : Nat) (l : List Ac) : Prop where
  len_is : l.length = len
  at_ : 0 < len → ∃ b off, a = some ⟨b, off, none⟩ ∧ b < base ∧ ∀ j x, l[j]? = some x →
    w.cell? ⟨b, off + j * 6, none⟩ = some (.int .i64 x.a.kind) ∧ w.cell? ⟨b, off + j * 6 + 1, none⟩ = some (.string x.a.name) ∧ w.cell? ⟨b, off + j * 6 + 2, none⟩ = some (.string x.a.to) ∧
    w.cell? ⟨b, off + j * 6 + 3, none⟩ = some (.string x.a.s) ∧ w.cell? ⟨b, off + j * 6 + 4, none⟩ = some (.int .i64 x.a.n) ∧ w.cell? ⟨b, off + j * 6 + 5, none⟩ = some (.slice x.ka x.kl x.kc)
  num : ∀ x ∈ l, -9223372036854775808 ≤ x.a.n ∧ x.a.n ≤ 9223372036854775807
  keep : ∀ x ∈ l, KB base w x.ka x.kl x.kc x.a.keep
theorem Acts.later {base len : Nat} {w w' : World} {a : Option Addr} {l : List Ac} (h : Acts base w a len l) (hb : Below base w w') : Acts base w' a len l :=
  ⟨h.len_is, fun h0 => by
    obtain ⟨b, off, h1, h2, h3⟩ := h.at_ h0
    have hc : ∀ o, w'.cell? ⟨b, o, none⟩ = w.cell? ⟨b, o, none⟩ := fun o => hb.cell (p := ⟨b, o, none⟩) h2
    exact ⟨b, off, h1, h2, fun j x hx => by rw [hc, hc, hc, hc, hc, hc]; exact h3 j x hx⟩, h.num, fun x hx => (h.keep x hx).later hb⟩

/-- is an act of few bytes? -/
def fewA (x : Ac) : Prop := x.a.s.size ≤ 100 ∧ x.a.name.size ≤ 100 ∧ x.a.to.size ≤ 100 ∧ x.kl ≤ 20
def FewEnd (len : Nat) (most : Int) (l : List Ac) (e : Ending) : Prop := ∃ f : Bool, e = .returned (.bool f) ∧ (f = true ↔ (len : Int) ≤ most ∧ ∀ x ∈ l, fewA x)

set_option maxHeartbeats 1600000 in
set_option maxRecDepth 100000 in
theorem few_any (base : Nat) (a : Option Addr) (len cap : Nat) (l : List Ac) (most : Int) (w : World) (h : Acts base w a len l) (hm : 0 ≤ most) (hm2 : most ≤ 1000) :
    Calls Try.prog 6 #[.slice a len cap, .int .i64 most] w fun e w' => FewEnd len most l e ∧ w = w' := by
  have HA := Lib.hid h
  clear h
  go_enter Try.func6, Try.ntmps6
  go_wp2_with fail
  go_loop [5] (fun i => ∃ k : Nat, k ≤ len ∧ (k : Int) ≤ most ∧ i = .int .i64 (k : Int) ∧ Hid (∀ j x, j < k → l[j]? = some x → fewA x)) (fun i => len - (intOf i).toNat)
  case atStart => exact ⟨0, by omega, hm, rfl, fun j _ hj => absurd hj (by omega)⟩
  case round =>
    obtain ⟨k, hk, hkm, rfl, HJ⟩ := hrel
    have hk63 : (k : Int) ≤ 1000 := by omega
    by_cases hkl : k < len
    · by_cases hk4 : (k : Int) < most
      · obtain ⟨b, off, rfl, hbs, hcell⟩ := HA.out.at_ (by omega)
        obtain ⟨x, hx⟩ : ∃ x, l[k]? = some x := ⟨_, List.getElem?_eq_getElem (by rw [HA.out.len_is]; exact hkl)⟩
        obtain ⟨_, c1, c2, c3, _, c5⟩ := hcell k x hx
        have HE : Hid (fewA x → ∀ j y, j < k + 1 → l[j]? = some y → fewA y) := fun hf j y hj hy => by
          rcases Nat.lt_or_eq_of_le (Nat.le_of_lt_succ hj) with h1 | h1
          · exact HJ.out j y h1 hy
          · subst h1; rw [hx] at hy; cases hy; exact hf
        have HXM := Lib.hid (List.mem_of_getElem? hx)
        clear hcell hx
        obtain ⟨⟨kd, nm, to, s, n, ks⟩, ka, kl, kc⟩ := x
        by_cases q1 : s.size > 100
        · go_wp2_with fail
          go_ret
          exact ⟨⟨false, rfl, ⟨(fun h => by cases h), (fun h => by have := (h.2 _ HXM.out).1; simp only at this; omega)⟩⟩, rfl⟩
        by_cases q2 : nm.size > 100
        · go_wp2_with fail
          go_ret
          exact ⟨⟨false, rfl, ⟨(fun h => by cases h), (fun h => by have := (h.2 _ HXM.out).2.1; simp only at this; omega)⟩⟩, rfl⟩
        by_cases q3 : to.size > 100
        · go_wp2_with fail
          go_ret
          exact ⟨⟨false, rfl, ⟨(fun h => by cases h), (fun h => by have := (h.2 _ HXM.out).2.2.1; simp only at this; omega)⟩⟩, rfl⟩
        by_cases q4 : kl > 20
        · go_wp2_with fail
          go_ret
          exact ⟨⟨false, rfl, ⟨(fun h => by cases h), (fun h => by have := (h.2 _ HXM.out).2.2.2; simp only at this; omega)⟩⟩, rfl⟩
        have HE2 := Lib.hid (HE.out ⟨by show s.size ≤ 100; omega, by show nm.size ≤ 100; omega, by show to.size ≤ 100; omega, by show kl ≤ 20; omega⟩)
        clear HE
        go_wp2_with fail
        go_round
        case rel => exact ⟨k + 1, by omega, by omega, by go_num, HE2⟩
        case measure => simp [intOf]; omega
      · go_wp2_with fail
        go_ret
        exact ⟨⟨decide ((len : Int) ≤ most), rfl, ⟨(fun h => absurd (of_decide_eq_true h) (by omega)), (fun h => absurd h.1 (by omega))⟩⟩, rfl⟩
    · obtain rfl : k = len := by omega
      have HX : Hid (∀ x ∈ l, fewA x) := fun x hx => by
        obtain ⟨j, hj⟩ := List.getElem?_of_mem hx
        exact HJ.out j x (by have := (List.getElem?_eq_some_iff.1 hj).1; rw [HA.out.len_is] at this; exact this) hj
      go_wp2_with fail
      go_ret
      exact ⟨⟨true, rfl, ⟨(fun _ => ⟨hkm, HX.out⟩), (fun _ => rfl)⟩⟩, rfl⟩
end Go.Proofs.Ytlmhghcoohalaaa.Dk
