/- What must come, whatever the arguments are. -/
import Derived.Test.YthcofcpnhopnnaaAvCode
set_option linter.unusedSimpArgs false
namespace Go.Proofs.Ythcofcpnhopnnaa.Av
open Go.RowKit

theorem ht_low : ∀ t : T, t.toL.length + 1 ≤ 2 ^ t.ht
  | .nil => Nat.le_refl _
  | .nd a k u b => by
    have h1 := ht_low a
    have h2 := ht_low b
    rw [toL_nd, ht_nd, Nat.pow_succ]
    simp only [List.length_append, List.length_cons]
    have h3 : 2 ^ a.ht ≤ 2 ^ (max a.ht b.ht) := Nat.pow_le_pow_right (by omega) (Nat.le_max_left _ _)
    have h4 : 2 ^ b.ht ≤ 2 ^ (max a.ht b.ht) := Nat.pow_le_pow_right (by omega) (Nat.le_max_right _ _)
    omega
theorem ht_seven {t : T} (hb : t.Bal) (h : t.toL.length = 7) : t.ht = 3 ∨ t.ht = 4 := by
  have h1 := T.least t hb
  have h2 := ht_low t
  rw [h] at h1 h2
  have h3 : ¬ t.ht ≤ 2 := fun hle => by
    have : 2 ^ t.ht ≤ 2 ^ 2 := Nat.pow_le_pow_right (by omega) hle
    omega
  have h4 : ¬ 5 ≤ t.ht := fun hge => by
    have : least 5 ≤ least t.ht := least_le_of hge
    have e : least 5 = 12 := by decide
    omega
  omega
theorem ints_new (W : World) (xs : List Int) (ty : TypeId) : Ints (some ⟨W.heap.size, 0, none⟩) xs.length xs (W.alloc (.cells ⟨ns xs⟩ ty)) := by
  refine ⟨rfl, fun _ => ⟨_, 0, rfl, by simp, fun i x hx => ?_⟩⟩
  rw [Nat.zero_add, World.cell?_alloc_mark W ⟨ns xs⟩ ty (0, 0) i]
  simp [ns, hx]
/-- the first keys -/
def Lk (j : Nat) : List Pr := (List.range j).map fun i => (((i : Nat) : Int) + 1, 10 * (((i : Nat) : Int) + 1))
theorem lk_put : ∀ j, j < 7 → putM (Lk j) ((j : Int) + 1) (10 * ((j : Int) + 1)) = Lk (j + 1) ∧ isAt (Lk j) ((j : Int) + 1) = false := by decide

set_option maxHeartbeats 3200000 in
set_option maxRecDepth 100000 in
theorem awake_any (w : World) : Calls Try.prog 6 #[] w fun e w' => e = .returned (.bool true) ∧ Below w.heap.size w w' := by
  go_enter Try.func6, Try.ntmps6
  go_wp2_with fail
  go_loopw [2] (fun i wr => ∃ j : Nat, j ≤ 7 ∧ i = .int .i64 ((j : Int) + 1) ∧ Hid (Mp w.heap.size wr w.heap.size (Lk j)) ∧ Hid (Below w.heap.size w wr)) (fun i _ => 8 - (intOf i).toNat)
  case atStart => exact ⟨0, by omega, by simp, mp_new w, (Below.refl _ _).alloc (Nat.le_refl _) _⟩
  case round =>
    obtain ⟨j, hj, rfl, HM, HB⟩ := hrel
    by_cases hj7 : j < 7
    · have hle : ((j : Int) + 1) ≤ 7 := by omega
      have hmul : IntKind.i64.wrap (10 * ((j : Int) + 1)) = 10 * ((j : Int) + 1) := by rw [IntKind.wrap_i64]; omega
      obtain ⟨e1, e2⟩ := lk_put j hj7
      have hp := mput_any ((j : Int) + 1) (10 * ((j : Int) + 1)) HM.out (by simp [Lk]; omega)
      rw [e1, e2] at hp
      have HP := Lib.hid hp
      clear e1 e2 hp
      go_wp2_with fail
      refine HP.out.mono ?_
      rintro e w1 ⟨rfl, hm, hk⟩
      have HM2 := Lib.hid hm
      have HB2 := Lib.hid (HB.out.trans (hk.below HB.out.size))
      clear hm hk
      go_wp2_with fail
      go_roundw
      case rel => exact ⟨j + 1, by omega, by go_num, HM2.out, HB2.out⟩
      case measure => simp [intOf]; omega
    · obtain rfl : j = 7 := by omega
      have hle : ¬ (((7 : Nat) : Int) + 1) ≤ 7 := by omega
      obtain ⟨p, t, h3, h4, h5, h6, _, _⟩ := HM.out.read
      have hht := ht_seven h5 (by rw [h6]; rfl)
      have hc := (cells2 h3).1
      have HD := Lib.hid (mdepth_any hc h4)
      have e1 : getV (Lk 7) 3 = .tuple #[.int .i64 30, .bool true] := by rfl
      have HG := Lib.hid (get_any 3 HM.out)
      rw [e1] at HG
      have HL := Lib.hid (last_any HM.out)
      rw [show lastK (Lk 7) = 7 from rfl, show decide (0 < (Lk 7).length) = true from rfl] at HL
      have HN := Lib.hid (len_any HM.out)
      rw [show (Lk 7).length = 7 from rfl] at HN
      have HP := Lib.hid (mput_any 3 1 HM.out (by decide))
      rw [show isAt (Lk 7) 3 = true from rfl] at HP
      clear h3 h4 h5 h6 hc e1
      rcases hht with hh | hh <;> rw [hh] at HD
      all_goals
        go_wp2_with fail
        refine HG.out.mono ?_
        rintro e w1 ⟨rfl, rfl⟩
        go_wp2_with fail
        refine HL.out.mono ?_
        rintro e w1 ⟨rfl, rfl⟩
        go_wp2_with fail
        refine HN.out.mono ?_
        rintro e w1 ⟨rfl, rfl⟩
        go_wp2_with fail
        refine HD.out.mono ?_
        rintro e w1 ⟨rfl, rfl⟩
        go_wp2_with fail
        try (refine HD.out.mono ?_; rintro e w1 ⟨rfl, rfl⟩; go_wp2_with fail)
        refine HP.out.mono ?_
        rintro e w1 ⟨rfl, hm1, hk1⟩
        have HM1 := Lib.hid hm1
        have HB1 := Lib.hid (HB.out.trans (hk1.below HB.out.size))
        have HQ := Lib.hid (mdrop_any 7 HM1.out (by decide))
        rw [show decide ((dropM (putM (Lk 7) 3 1) 7).length < (putM (Lk 7) 3 1).length) = true from rfl] at HQ
        clear hm1 hk1
        go_wp2_with fail
        refine HQ.out.mono ?_
        rintro e w2 ⟨rfl, hm2, hk2⟩
        have HM2 := Lib.hid hm2
        have HB2 := Lib.hid (HB1.out.trans (hk2.below HB1.out.size))
        have HQ2 := Lib.hid (mdrop_any 7 HM2.out (by decide))
        rw [show decide ((dropM (dropM (putM (Lk 7) 3 1) 7) 7).length < (dropM (putM (Lk 7) 3 1) 7).length) = false from rfl] at HQ2
        clear hm2 hk2
        go_wp2_with fail
        refine HQ2.out.mono ?_
        rintro e w3 ⟨rfl, hm3, hk3⟩
        have HM3 := Lib.hid hm3
        have HB3 := Lib.hid (HB2.out.trans (hk3.below HB2.out.size))
        have HK := Lib.hid (theCode.keys HM3.out (by decide))
        rw [show (dropM (dropM (putM (Lk 7) 3 1) 7) 7).length = 6 from rfl, show keysM (dropM (dropM (putM (Lk 7) 3 1) 7) 7) = [1, 2, 3, 4, 5, 6] from rfl] at HK
        clear hm3 hk3
        go_wp2_with fail
        refine HK.out.mono ?_
        rintro e w4 ⟨⟨a, cap, rfl, hi⟩, hb4⟩
        have HI := Lib.hid hi
        have HB4 := Lib.hid (HB3.out.trans (hb4.mono HB3.out.size))
        clear hi hb4
        go_wp2_with fail
        refine (same_ints _ _ 6 _ _ [1, 2, 3, 4, 5, 6] _ (HI.out.later ((Below.refl _ _).alloc (Nat.le_refl _) _)) (ints_new _ [1, 2, 3, 4, 5, 6] 3) (by omega)).mono ?_
        rintro e w5 ⟨rfl, hb5⟩
        have HB5 := Lib.hid ((HB4.out.alloc HB4.out.size (.cells #[.int .i64 1, .int .i64 2, .int .i64 3, .int .i64 4, .int .i64 5, .int .i64 6] 3)).trans (hb5.mono (by have := HB4.out.size; simp; omega)))
        clear hb5
        go_wp2_with fail
        go_ret
        exact ⟨rfl, HB5.out⟩
end Go.Proofs.Ythcofcpnhopnnaa.Av
