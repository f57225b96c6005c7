/- The numbers of the names of a kind, rising: the program collects and sorts them. -/
import Derived.Test.YtinepcgjmcbcfaaDoorNmRows
import Derived.Below
namespace Go.Proofs.YtinepcgjmcbcfaaDoor.Nm
open Go.RowKit Go.Sort
open Va (str str_app conv_one)

theorem info_int : (Tryd.prog.info? 3).map (fun i => (i.zero, i.size, i.bytes)) = some (some (.int .i64 0), 1, 8) := by kernel_rfl

/-- what a call hands back: numbers of its own -/
def Own (w w' : World) (e : Ending) (zs : List Int) : Prop := ∃ a cap, e = .returned (.slice a zs.length cap) ∧ Row a zs.length zs w' ∧ Below w.heap.size w w'

/-- a row of the call's own, sorted -/
theorem sort_own (base : Nat) (v : Value) (zs : List Int) (w : World) (hB : base ≤ w.heap.size) (h : w.ownsRow base 3 1 v zs.length (zs.map (Value.int .i64))) (hl : zs.length ≤ 1000) :
    Calls Tryd.prog 18 #[v] w fun e w' => e = .returned (.tuple #[]) ∧ w'.ownsRow base 3 1 v zs.length ((insAll zs).map (Value.int .i64)) ∧ Below base w w' := by
  rcases h.2 with ⟨rfl, h0⟩ | ⟨g, cap, cur, rfl, hg, hb, h1, h2, h3, h4⟩
  · obtain rfl : zs = [] := List.eq_nil_of_length_eq_zero h0
    refine (Tryd.slices_Sort_int_none none 0 w).mono ?_
    rintro e w' ⟨rfl, rfl⟩
    exact ⟨rfl, h, Below.refl _ _⟩
  · have hlt : g < w.heap.size := (Array.getElem?_eq_some_iff.1 hb).1
    rw [Nat.mul_one] at h4
    refine (Tryd.slices_Sort_int g 0 cap zs w (holds_of_blockI hb h4) hlt (by omega)).mono ?_
    rintro e w' ⟨rfl, n, os, rfl⟩
    rw [sort_ins]
    refine ⟨rfl, ?_, ?_⟩
    · exact ownsRow_sortedI (by rw [insAll_len]) hg hb h1 h2 h3
    · exact (Below.refl base w).grown (grownBy_sortedI _) hB (fun k hk => by cases hk; exact hg)

set_option maxHeartbeats 1600000 in
set_option maxRecDepth 100000 in
theorem numbers_any (k : Int) (a : Option Addr) (len cap : Nat) (zs : List ByteArray) (w : World) (hp : Txts a len zs w) (hl : len ≤ 40) :
    Calls Tryd.prog 12 #[.int .i64 k, .slice a len cap] w fun e w' => Own w w' e (insAll (nums k (byt zs))) := by
  have hlen := hp.len_is
  subst hlen
  have HP := Lib.hid hp
  clear hp
  obtain ⟨i0, hi0, hz0, hz1, hz2⟩ := info_parts info_int
  go_enter Tryd.func12, Tryd.ntmps12
  go_wp2_with fail
  go_loopw [5, 12] (fun v i wr => ∃ j : Nat, j ≤ zs.length ∧ i = .int .i64 j ∧ Hid (wr.ownsRow w.heap.size 3 1 v (nums k (byt (zs.take j))).length ((nums k (byt (zs.take j))).map (Value.int .i64))) ∧ Hid (Below w.heap.size w wr)) (fun _ i _ => zs.length - (intOf i).toNat)
  case atStart => exact ⟨0, by omega, rfl, World.ownsRow_nil _ _ _ _, Below.refl _ _⟩
  case round =>
    obtain ⟨j, hj, rfl, HO, HB⟩ := hrel
    have hs := HB.out.size
    by_cases hlt : j < zs.length
    · obtain ⟨b, off, rfl, hbs, hcell⟩ := (HP.out.later HB.out).at_ (by omega)
      have hc := hcell j hlt
      have HT := Lib.hid (byt_take zs j hlt)
      clear hcell
      generalize (zs[j]?.getD ByteArray.empty) = s at hc HT
      have HK := Lib.hid (kind_any s wr)
      have HN := Lib.hid (nums_snoc k (byt (zs.take j)) s.data.toList)
      rw [← HT.out] at HN
      clear HT
      have hbd := kind_bd s.data.toList
      have hll := nums_len k (byt (zs.take j))
      rw [byt_len, List.length_take] at hll
      generalize nums k (byt (zs.take j)) = o at *
      generalize ho2 : nums k (byt (zs.take (j + 1))) = o2 at *
      have HQ := Lib.hid ho2
      clear ho2
      generalize kindOf s.data.toList = z at *
      obtain ⟨q, m⟩ := z
      simp only at hbd HN
      go_wp2_with fail
      refine HK.out.mono ?_
      rintro e w1 ⟨rfl, rfl⟩
      by_cases hq : q = k
      · subst hq
        rw [if_pos rfl] at HN
        have hown := HO.out
        go_wp2_with (first
          | (at_builtin; refine wpList_append_own _ rfl _ _ 29 rfl w.heap.size 3 i0 (.int .i64 0) 1 8 Tryd.underlying29 hi0 hz0 hz1 hz2 rfl (by decide) _ _ _ rfl (hown.alloc _) ⟨wr.heap.size, 0, none⟩ 1 1 [.int .i64 m] rfl rfl ?c1 ?c2 ?c3 ?c4 ?c5 ?_)
          | fail)
        case c1 =>
          intro j u hj
          match j, hj with
          | 0, hj => simp at hj; subst hj; simp [Addr.add]
        case c2 => intro u hu; simp at hu; subst hu; rfl
        case c3 => unfold maxLen; omega
        case c4 => omega
        case c5 => simp; omega
        · intro v' w2 hown' hgrow _
          have R1 : Hid (w2.ownsRow w.heap.size 3 1 v' o2.length (o2.map (Value.int .i64))) := by
            unfold Hid
            rw [HN.out, List.length_append, List.map_append]; exact hown'
          have R2 : Hid (Below w.heap.size w w2) := (HB.out.alloc HB.out.size _).grown hgrow (by simp; omega) (fun k hk => (hown.lt k hk).1)
          clear hown' hgrow hown hc
          go_wp2_with fail
          go_roundw
          case rel => exact ⟨j + 1, by omega, by go_num, by rw [HQ.out]; exact R1, R2⟩
          case measure => simp [intOf]; omega
      · rw [if_neg hq] at HN
        have hqk : (q == k) = false := by simpa using hq
        have HN2 := HN.out
        subst HN2
        go_wp2_with fail
        go_roundw
        case rel => exact ⟨j + 1, by omega, by go_num, by rw [HQ.out]; exact HO, HB⟩
        case measure => simp [intOf]; omega
    · obtain rfl : j = zs.length := by omega
      rw [List.take_length] at HO
      have hll := nums_len k (byt zs)
      rw [byt_len] at hll
      have HS := Lib.hid (sort_own w.heap.size _ _ wr hs HO.out (by omega))
      have HL := Lib.hid (insAll_len (nums k (byt zs)))
      clear HO
      generalize ho : nums k (byt zs) = o at *
      have HQ := Lib.hid ho
      clear ho
      go_wp2_with fail
      refine HS.out.mono ?_
      rintro e w1 ⟨rfl, h1, h2⟩
      rw [← HL.out] at h1
      obtain ⟨a', cap', rfl, hR⟩ := row_own h1
      have HR := Lib.hid hR
      have HB2 := Lib.hid (HB.out.trans h2)
      clear h1 h2 hR HS
      go_wp2_with fail
      go_ret
      rw [HQ.out]
      exact ⟨a', cap', rfl, HR.out, HB2.out⟩
end Go.Proofs.YtinepcgjmcbcfaaDoor.Nm
