/- All frames: the document's; and whether frames are the same. -/
import Derived.Test.YtjmkjdflfmjliaaFrAll
import Derived.OwnWalk
namespace Go.Proofs.Ytjmkjdflfmjliaa.Fr
open Go.RowKit

theorem er_end {s : ByteArray} (h : pos (fs s) = s.size) : er s = 0 := by unfold er; rw [if_pos h]
theorem er_err {s : ByteArray} (h : ¬pos (fs s) = s.size) : er s = (tk (rst s (pos (fs s)))).2.2 := by unfold er; rw [if_neg h]

theorem own_later {w w' : World} {base : Nat} {e : TypeId} {size : Nat} {v : Value} {n : Nat} {xs : List Value} (h : w.ownsRow base e size v n xs) (hb : Below w.heap.size w w') : w'.ownsRow base e size v n xs := by
  refine h.kept (row := none) (grown_of hb) ?_
  cases h : v.ownBlock with
  | none => exact .inl rfl
  | some g => exact .inr (by simp)

set_option maxRecDepth 100000 in
set_option maxHeartbeats 4000000 in
theorem rall_any (s : ByteArray) (hs : s.size ≤ 100000) (w : World) :
    Calls Try.prog 14 #[.string s] w fun e w' => ∃ v, e = .returned (.tuple #[v, .int .i64 (pos (fs s)), .int .i64 (er s)]) ∧ w'.ownsRow w.heap.size 27 2 v (fs s).length (cells (fs s)) ∧ Below w.heap.size w w' := by
  obtain ⟨i0, hi, hz0, hz1, hz2⟩ := info_parts info27
  go_enter Try.func14, Try.ntmps14
  go_wp2_with fail
  go_loopw [5, 6] (fun v p wr => ∃ (pre : List Fm) (k : Nat), Hid (Way s pre k) ∧ p = .int .i64 (pos pre) ∧ Hid (wr.ownsRow w.heap.size 27 2 v pre.length (cells pre)) ∧ Hid (Below w.heap.size w wr)) (fun _ p _ => s.size + 1 - (intOf p).toNat)
  case atStart => exact ⟨[], s.size + 1, Way.start s, rfl, World.ownsRow_nil _ _ _ _, Below.refl _ _⟩
  case round =>
    obtain ⟨pre, k, HW, rfl, HO, HB⟩ := hrel
    have hle := HW.out.2.2
    by_cases hlt : pos pre < s.size
    · have ht := fun w => rtake_any (rst s (pos pre)) (by rw [rst_size]; omega) w
      unfold TkV at ht
      have HT := Lib.hid ht
      clear ht
      by_cases hz : (tk (rst s (pos pre))).2.2 = 0
      · obtain ⟨k', HW', hk, hp, hlen⟩ := HW.out.next hz
        have HW2 := Lib.hid HW'
        have HP := Lib.hid hp
        clear HW' hp
        have htk := tk_ok hz
        rw [rst_size] at htk
        have hN := fs_len s
        have hlen2 : pre.length ≤ 100000 := by omega
        generalize tk (rst s (pos pre)) = t at *
        obtain ⟨⟨q, d⟩, m, er⟩ := t
        obtain rfl : er = 0 := hz
        simp only at htk
        have HM := Lib.hid htk.1
        have hm := htk.2
        clear htk
        have hown := HO.out
        go_wp2_with fail
        refine (HT.out wr).mono ?_
        rintro e w1 ⟨rfl, hb1⟩
        have hown1 := own_later hown hb1
        have hB1 := Lib.hid (HB.out.trans (hb1.mono HB.out.size))
        clear hb1
        have hown2 := hown1.alloc (.cells #[.int .i64 q, .string d] 27)
        go_wp2_with (at_builtin; refine wpList_append_own _ rfl _ _ 30 rfl w.heap.size 27 i0 (.agg #[.int .i64 0, .string ⟨#[]⟩]) 2 24 Try.underlying30 hi hz0 hz1 hz2 rfl (by decide) _ _ _ rfl (hown2.alloc _) ⟨w1.heap.size + 1, 0, none⟩ 1 1 [.int .i64 q, .string d] rfl rfl ?c1 ?c2 ?c3 ?c4 ?c5 ?_)
        case c1 => have := cell_two_new (w1.alloc (.cells #[.int .i64 q, .string d] 27)) (.int .i64 q) (.string d) 27; simpa using this
        case c2 => intro u hu; simp at hu; rcases hu with rfl | rfl <;> rfl
        case c3 => unfold maxLen; omega
        case c4 => omega
        case c5 => have := hB1.out.size; simp; omega
        · intro v' w2 hown' hgrow _
          have R1 : Hid (w2.ownsRow w.heap.size 27 2 v' (pre ++ [(q, d)]).length (cells (pre ++ [(q, d)]))) := by
            show World.ownsRow _ _ _ _ _ _ _
            rw [cells_snoc, List.length_append]; exact hown'
          have R2 : Hid (Below w.heap.size w w2) := ((hB1.out.alloc hB1.out.size _).alloc (by have := hB1.out.size; simp; omega) _).grown hgrow (by have := hB1.out.size; simp; omega) (fun k hk => (hown.lt k hk).1)
          have hps : (pos pre : Int) + (m : Int) = (pos (pre ++ [(q, d)]) : Nat) := by rw [HP.out]; omega
          have hlim : pos (pre ++ [(q, d)]) ≤ s.size := HW2.out.2.2
          clear hown' hgrow hown hown1 hown2
          go_wp2_with fail
          go_roundw
          case rel => exact ⟨pre ++ [(q, d)], k', HW2, rfl, R1, R2⟩
          case measure => have h1 := HP.out; have h2 := HM.out; simp [intOf]; omega
      · have hd := HW.out.done hz
        have hr : er s = (tk (rst s (pos pre))).2.2 := by rw [hd]; refine er_err ?_; rw [← hd]; omega
        have HR := Lib.hid hr
        have HD := Lib.hid hd
        clear hd hr
        have hown := HO.out
        generalize tk (rst s (pos pre)) = t at *
        obtain ⟨⟨q, d⟩, m, er⟩ := t
        simp only at hz
        have hne : ((er : Int) != 0) = true := by simp; omega
        go_wp2_with fail
        refine (HT.out wr).mono ?_
        rintro e w1 ⟨rfl, hb1⟩
        have hown2 := Lib.hid ((own_later hown hb1).alloc (.cells #[.int .i64 q, .string d] 27))
        have hB2 := Lib.hid ((HB.out.trans (hb1.mono HB.out.size)).alloc (by have := HB.out.size; have := hb1.size; omega) (.cells #[.int .i64 q, .string d] 27))
        clear hb1 hown
        go_wp2_with fail
        refine bodyPost_ret (results_tmp3 rfl _ _ _) rfl ?_
        rw [HR.out, ← HD.out]
        exact ⟨_, rfl, hown2.out, hB2.out⟩
    · have hd := HW.out.done (by rw [tk_end (by omega)]; decide)
      have hr : er s = 0 := er_end (by rw [← hd]; omega)
      have HR := Lib.hid hr
      have HD := Lib.hid hd
      clear hd hr
      go_wp2_with fail
      refine bodyPost_ret (results_tmp3 rfl _ _ _) rfl ?_
      rw [HR.out, ← HD.out]
      exact ⟨_, rfl, HO.out, HB.out⟩
end Go.Proofs.Ytjmkjdflfmjliaa.Fr
