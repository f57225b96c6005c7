/- The walk of the first law: names, kinds and numbers are the document's. -/
import Derived.Test.YtinepcgjmcbcfaaDoorNmAwake
namespace Go.Proofs.YtinepcgjmcbcfaaDoor.Nm
open Go.RowKit Go.Sort
open Va (str str_app conv_one)

set_option maxHeartbeats 1600000 in
set_option maxRecDepth 100000 in
theorem is_any (k n : Int) (h0 : -9223372036854775808 ≤ n) (h1 : n ≤ 9223372036854775807) (a : Option Addr) (len cap : Nat) (zs : List ByteArray) (w : World) (hp : Txts a len zs w) (hT : Tab w) :
    Calls Tryd.prog 3 #[.int .i64 k, .int .i64 n, .slice a len cap] w fun e w' => e = .returned (.bool true) ∧ Below w.heap.size w w' := by
  have HP := Lib.hid hp
  have HT := Lib.hid hT
  clear hp hT
  go_enter Tryd.func3, Tryd.ntmps3
  go_wp2_with fail
  refine (few_any a len cap zs w HP.out).mono ?_
  rintro e w1 ⟨⟨f, rfl, hf⟩, rfl⟩
  cases f with
  | false =>
    clear hf
    go_wp2_with fail
    refine (awake_any _ HT.out).mono ?_
    rintro e w1 ⟨rfl, hb⟩
    go_wp2_with fail
    go_ret
    exact ⟨rfl, hb⟩
  | true =>
    have hl := hf rfl
    clear hf
    go_wp2_with fail
    go_loopw [7] (fun i wr => ∃ j : Nat, j ≤ len ∧ i = .int .i64 j ∧ Hid (Below w.heap.size w wr)) (fun i _ => len - (intOf i).toNat)
    case atStart => exact ⟨0, by omega, rfl, Below.refl _ _⟩
    case round =>
      obtain ⟨j, hj, rfl, HB⟩ := hrel
      by_cases hlt : j < len
      · obtain ⟨b, off, rfl, hbs, hcell⟩ := (HP.out.later HB.out).at_ (by omega)
        have hc := hcell j hlt
        clear hcell
        generalize (zs[j]?.getD ByteArray.empty) = s at hc
        have C1 := Lib.hid (kind_any s)
        have C2 := Lib.hid (rkind_any s)
        generalize kindOf s.data.toList = z at *
        obtain ⟨x, y⟩ := z
        go_wp2_with fail
        refine (C1.out _).mono ?_
        rintro e w1 ⟨rfl, rfl⟩
        go_wp2_with fail
        refine (C2.out _).mono ?_
        rintro e w1 ⟨rfl, hb1⟩
        have HB1 : Hid (Below w.heap.size w w1) := HB.out.trans (hb1.mono HB.out.size)
        clear hb1
        go_wp2_with fail
        go_roundw
        case rel => exact ⟨j + 1, by omega, by go_num, HB1⟩
        case measure => simp [intOf]; omega
      · obtain rfl : j = len := by omega
        have HPW := Lib.hid (HP.out.later HB.out)
        have HTW := Lib.hid (HT.out.later HB.out)
        go_wp2_with fail
        refine (of_any k n h0 h1 _ HTW.out).mono ?_
        rintro e w1 ⟨rfl, hb1⟩
        have HB1 := Lib.hid (HB.out.trans (hb1.mono HB.out.size))
        clear hb1
        go_wp2_with fail
        refine (rof_any k n h0 h1 _).mono ?_
        rintro e w2 ⟨rfl, hb2⟩
        have HB2 := Lib.hid (HB1.out.trans (hb2.mono HB1.out.size))
        clear hb2
        generalize nameOf k n = nm at *
        go_wp2_with fail
        refine (numbers_any k a j cap zs _ (HP.out.later HB2.out) (by omega)).mono ?_
        rintro e w3 ⟨a3, c3, rfl, hR3, hb3⟩
        have HB3 := Lib.hid (HB2.out.trans (hb3.mono HB2.out.size))
        have HR3 := Lib.hid hR3
        clear hb3 hR3
        go_wp2_with fail
        refine (rnumbers_any k a j cap zs _ (HP.out.later HB3.out) (by omega)).mono ?_
        rintro e w4 ⟨a4, c4, rfl, hR4, hb4⟩
        have HB4 := Lib.hid (HB3.out.trans (hb4.mono HB3.out.size))
        have HR4 := Lib.hid hR4
        have HR5 := Lib.hid (HR3.out.later hb4)
        have hlen : (insAll (nums k (byt zs))).length ≤ 40 := by
          rw [insAll_len]
          exact Nat.le_trans (nums_len _ _) (by rw [byt_len, HP.out.len_is]; exact hl)
        clear hb4 hR4 HR3
        generalize insAll (nums k (byt zs)) = o at *
        go_wp2_with fail
        refine (same_any a3 a4 c3 c4 o.length o (by omega) _ HR5.out HR4.out).mono ?_
        rintro e w5 ⟨rfl, hb5⟩
        have HB5 := Lib.hid (HB4.out.trans (hb5.mono HB4.out.size))
        clear hb5
        go_wp2_with fail
        refine (awake_any _ (HT.out.later HB5.out)).mono ?_
        rintro e w6 ⟨rfl, hb6⟩
        have HB6 := Lib.hid (HB5.out.trans (hb6.mono HB5.out.size))
        clear hb6
        go_wp2_with fail
        go_ret
        exact ⟨rfl, HB6.out⟩
end Go.Proofs.YtinepcgjmcbcfaaDoor.Nm
