/- The name of a file of a kind with a number: the program and the document. -/
import Derived.Test.YtinepcgjmcbcfaaDoorNmRKind
namespace Go.Proofs.YtinepcgjmcbcfaaDoor.Nm
open Go.RowKit
open Va (str str_app conv_one)
open Go.Lib (decDigits)

theorem below_grow (w : World) (k : Nat) (os : Array Obj) : Below w.heap.size w (Sort.grow (w.drewN k) os) := by
  refine ⟨rfl, rfl, rfl, ?_, fun j hj => ?_⟩
  · show w.heap.size ≤ (w.heap ++ os).size
    rw [Array.size_append]; omega
  · show (w.heap ++ os)[j]? = w.heap[j]?
    exact Array.getElem?_append_left hj

/-- the table of powers that the library reads -/
def Tab (w : World) : Prop := Lib.TabIs Tryd.prog w "internal/strconv.uint64pow10" .u64 Lib.pow10Tab
theorem Tab.later {w w' : World} (h : Tab w) (hb : Below w.heap.size w w') : Tab w' := by
  unfold Tab Lib.TabIs World.var? at *
  revert h
  cases hg : Tryd.prog.globalNamed "internal/strconv.uint64pow10" with
  | none => intro h; simp at h
  | some g =>
    intro h
    simp only [Option.bind_some] at h ⊢
    by_cases hlt : g < w.heap.size
    · rw [hb.block g hlt]; exact h
    · rw [Array.getElem?_eq_none (by omega)] at h; simp at h

theorem str_list (h : ByteArray) (l : List UInt8) : Value.string (h ++ ⟨l.toArray⟩) = str (h.data.toList ++ l) := by
  rw [← str_app]

set_option maxHeartbeats 400000 in
theorem numbered_any (h : ByteArray) (n : Int) (h0 : -9223372036854775808 ≤ n) (h1 : n ≤ 9223372036854775807) (hh : h.size ≤ 100) (w : World) (hT : Tab w) :
    Calls Tryd.prog 16 #[.string h, .int .i64 n] w fun e w' => e = .returned (str (nbd h.data.toList n)) ∧ Below w.heap.size w w' := by
  have C := Lib.hid (Tryd.strconv_Itoa n h0 h1 w hT)
  clear hT
  by_cases hn : n < 1
  · have HE : Hid (nbd h.data.toList n = []) := by unfold Hid nbd; rw [if_neg (by omega)]
    generalize Lib.itoa n = d at *
    go_enter Tryd.func16, Tryd.ntmps16
    go_wp2_with fail
    refine C.out.mono ?_
    rintro e w1 ⟨rfl, k, os, rfl⟩
    have HB := Lib.hid (below_grow w k os)
    generalize Sort.grow (w.drewN k) os = w1 at *
    go_wp2_with fail
    go_ret
    exact ⟨by rw [HE.out]; rfl, HB.out⟩
  · obtain ⟨u, rfl⟩ : ∃ u : Nat, n = u := ⟨n.toNat, by omega⟩
    have hit : Lib.itoa (u : Int) = decDigits u := by unfold Lib.itoa; rw [if_neg (by omega)]; rfl
    have hl := dec_18 u (by omega)
    have hl19 := dec_19 u (by omega)
    have HE : Hid (nbd h.data.toList (u : Int) = if (decDigits u).length ≤ 18 then h.data.toList ++ decDigits u else []) := by
      unfold Hid nbd
      by_cases hc : u ≤ 999999999999999999
      · rw [if_pos ⟨by omega, by omega⟩, if_pos (hl.2 hc)]; rfl
      · rw [if_neg (by omega), if_neg (fun h => hc (hl.1 h))]
    rw [hit] at C
    clear hit hl
    have hs := str_list h (decDigits u)
    have HS := Lib.hid hs
    clear hs
    generalize decDigits u = d at *
    by_cases hd : d.length ≤ 18
    · go_enter Tryd.func16, Tryd.ntmps16
      go_wp2_with fail
      refine C.out.mono ?_
      rintro e w1 ⟨rfl, k, os, rfl⟩
      have HB := Lib.hid (below_grow w k os)
      generalize Sort.grow (w.drewN k) os = w1 at *
      go_wp2_with fail
      go_ret
      exact ⟨by rw [HE.out, if_pos hd, ← HS.out]; rfl, HB.out⟩
    · go_enter Tryd.func16, Tryd.ntmps16
      go_wp2_with fail
      refine C.out.mono ?_
      rintro e w1 ⟨rfl, k, os, rfl⟩
      have HB := Lib.hid (below_grow w k os)
      generalize Sort.grow (w.drewN k) os = w1 at *
      go_wp2_with fail
      go_ret
      exact ⟨by rw [HE.out, if_neg hd]; rfl, HB.out⟩

set_option maxHeartbeats 400000 in
theorem of_any (k n : Int) (h0 : -9223372036854775808 ≤ n) (h1 : n ≤ 9223372036854775807) (w : World) (hT : Tab w) :
    Calls Tryd.prog 9 #[.int .i64 k, .int .i64 n] w fun e w' => e = .returned (str (nameOf k n)) ∧ Below w.heap.size w w' := by
  have C1 := Lib.hid (numbered_any ⟨#[108, 111, 103, 46]⟩ n h0 h1 (by decide) w hT)
  have C2 := Lib.hid (numbered_any ⟨#[105, 109, 97, 103, 101, 46]⟩ n h0 h1 (by decide) w hT)
  clear hT
  by_cases k1 : k = 1
  · subst k1
    go_enter Tryd.func9, Tryd.ntmps9
    go_wp2_with fail
    refine C1.out.mono ?_
    rintro e w1 ⟨rfl, hb⟩
    go_wp2_with fail
    go_ret
    exact ⟨rfl, hb⟩
  by_cases k2 : k = 2
  · subst k2
    go_enter Tryd.func9, Tryd.ntmps9
    go_wp2_with fail
    refine C2.out.mono ?_
    rintro e w1 ⟨rfl, hb⟩
    go_wp2_with fail
    go_ret
    exact ⟨rfl, hb⟩
  clear C1 C2
  by_cases k3 : k = 3
  · subst k3
    go_enter Tryd.func9, Tryd.ntmps9
    go_wp2_with fail
    go_ret
    exact ⟨rfl, Below.refl _ _⟩
  by_cases k4 : k = 4
  · subst k4
    go_enter Tryd.func9, Tryd.ntmps9
    go_wp2_with fail
    go_ret
    exact ⟨rfl, Below.refl _ _⟩
  have HE : Hid (nameOf k n = []) := name_else k n (by omega)
  have q1 : (k == 1) = false := by simpa using k1
  have q2 : (k == 2) = false := by simpa using k2
  have q3 : (k == 3) = false := by simpa using k3
  have q4 : (k == 4) = false := by simpa using k4
  go_enter Tryd.func9, Tryd.ntmps9
  go_wp2_with fail
  go_ret
  exact ⟨by rw [HE.out]; rfl, Below.refl _ _⟩

set_option maxHeartbeats 400000 in
theorem rof_any (k n : Int) (h0 : -9223372036854775808 ≤ n) (h1 : n ≤ 9223372036854775807) (w : World) :
    Calls Tryd.prog 10 #[.int .i64 k, .int .i64 n] w fun e w' => e = .returned (str (nameOf k n)) ∧ Below w.heap.size w w' := by
  by_cases k3 : k = 3
  · subst k3
    go_enter Tryd.func10, Tryd.ntmps10
    go_wp2_with fail
    go_ret
    exact ⟨rfl, Below.refl _ _⟩
  by_cases k4 : k = 4
  · subst k4
    go_enter Tryd.func10, Tryd.ntmps10
    go_wp2_with fail
    go_ret
    exact ⟨rfl, Below.refl _ _⟩
  have q3 : (k == 3) = false := by simpa using k3
  have q4 : (k == 4) = false := by simpa using k4
  by_cases hn : n < 1
  · have HE : Hid (nameOf k n = []) := by
      unfold Hid nameOf nbd; rw [if_neg (by omega : ¬ (1 ≤ n ∧ n ≤ 999999999999999999)), if_neg (by omega : ¬ (1 ≤ n ∧ n ≤ 999999999999999999)), if_neg k3, if_neg k4]; simp
    go_enter Tryd.func10, Tryd.ntmps10
    go_wp2_with fail
    go_ret
    exact ⟨by rw [HE.out]; rfl, Below.refl _ _⟩
  by_cases hn2 : 999999999999999999 < n
  · have HE : Hid (nameOf k n = []) := by
      unfold Hid nameOf nbd; rw [if_neg (by omega : ¬ (1 ≤ n ∧ n ≤ 999999999999999999)), if_neg (by omega : ¬ (1 ≤ n ∧ n ≤ 999999999999999999)), if_neg k3, if_neg k4]; simp
    go_enter Tryd.func10, Tryd.ntmps10
    go_wp2_with fail
    go_ret
    exact ⟨by rw [HE.out]; rfl, Below.refl _ _⟩
  obtain ⟨u, rfl⟩ : ∃ u : Nat, n = u := ⟨n.toNat, by omega⟩
  have hl19 := dec_19 u (by omega)
  have C := Lib.hid (dec_any u (by omega) (by omega) w)
  by_cases k1 : k = 1
  · subst k1
    have HE : Hid (nameOf 1 (u : Int) = logN ++ decDigits u) := by unfold Hid; rw [name_1]; exact if_pos ⟨by omega, by omega⟩
    have HS := Lib.hid (str_list ⟨#[108, 111, 103, 46]⟩ (decDigits u))
    generalize decDigits u = d at *
    go_enter Tryd.func10, Tryd.ntmps10
    go_wp2_with fail
    refine C.out.mono ?_
    rintro e w1 ⟨rfl, hb⟩
    go_wp2_with fail
    go_ret
    exact ⟨by rw [HE.out]; exact congrArg Ending.returned HS.out, hb⟩
  have q1 : (k == 1) = false := by simpa using k1
  by_cases k2 : k = 2
  · subst k2
    have HE : Hid (nameOf 2 (u : Int) = imgN ++ decDigits u) := by unfold Hid; rw [name_2]; exact if_pos ⟨by omega, by omega⟩
    have HS := Lib.hid (str_list ⟨#[105, 109, 97, 103, 101, 46]⟩ (decDigits u))
    generalize decDigits u = d at *
    go_enter Tryd.func10, Tryd.ntmps10
    go_wp2_with fail
    refine C.out.mono ?_
    rintro e w1 ⟨rfl, hb⟩
    go_wp2_with fail
    go_ret
    exact ⟨by rw [HE.out]; exact congrArg Ending.returned HS.out, hb⟩
  have q2 : (k == 2) = false := by simpa using k2
  have HE : Hid (nameOf k (u : Int) = []) := name_else k _ (by omega)
  clear C
  go_enter Tryd.func10, Tryd.ntmps10
  go_wp2_with fail
  go_ret
  exact ⟨by rw [HE.out]; rfl, Below.refl _ _⟩
end Go.Proofs.YtinepcgjmcbcfaaDoor.Nm
