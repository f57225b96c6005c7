/- What the laws of layer 6 ask of a few constants: true. -/
import Derived.Test.YtjmkjdflfmjliaaFrSame
namespace Go.Proofs.Ytjmkjdflfmjliaa.Fr
open Go.RowKit

abbrev ab : ByteArray := ⟨#[97, 98]⟩
theorem fs_cat (l : List Fm) (hl : ∀ x ∈ l, May x) : fs (cat l) = l ∧ er (cat l) = 0 := by
  have h := whole l (pos l) l.length hl (Nat.le_refl _) (Nat.le_refl _) (by rw [List.take_length]; exact Nat.le_refl _) (fun h => absurd h (by omega))
  have e : (cat l).extract 0 (pos l) = cat l := by
    apply B_ext
    rw [B_extract, List.drop_zero, List.take_of_length_le (by rw [B_len, cat_size]; omega)]
  rw [e, List.take_length, if_pos rfl] at h
  exact h
theorem cat_two (x : Fm) : fbS x.1.toNat x.2 ++ fbS x.1.toNat x.2 = cat [x, x] := by
  apply B_ext
  simp only [cat, B_append]
  rw [show B ⟨#[]⟩ = [] from rfl, List.append_nil]
theorem may_ab : May (7, ab) := ⟨by decide, by decide, by decide⟩
theorem two_ab : fs (fbS 7 ab ++ fbS 7 ab) = [(7, ab), (7, ab)] ∧ er (fbS 7 ab ++ fbS 7 ab) = 0 := by
  have h := fs_cat [(7, ab), (7, ab)] (fun x hx => by
    simp only [List.mem_cons, List.not_mem_nil, or_false, or_self] at hx
    subst hx; exact may_ab)
  rw [← cat_two (7, ab)] at h
  exact h
theorem size_ab : (fbS 7 ab).size = 18 := fbS_size 7 ab

set_option maxHeartbeats 1600000 in
set_option maxRecDepth 100000 in
theorem awake_any (w : World) :
    Calls Try.prog 8 #[] w fun e w' => e = .returned (.bool true) ∧ Below w.heap.size w w' := by
  have hs := size_ab
  have hP : Hid (∀ w, Calls Try.prog 9 #[.int .i64 7, .string ab] w fun e w' => e = .returned (.tuple #[.string (fbS 7 ab), .int .i64 0]) ∧ Below w.heap.size w w') := fun w => fput_ok 7 ab (by decide) (by decide) (by decide) w
  have hT : Hid (∀ w, Calls Try.prog 11 #[.string (fbS 7 ab ++ ⟨#[120]⟩)] w fun e w' => e = .returned (.tuple #[.agg #[.int .i64 7, .string ab], .int .i64 18, .int .i64 0]) ∧ Below w.heap.size w w') := fun w => by
    have h := ftake_any (fbS 7 ab ++ ⟨#[120]⟩) (by rw [ByteArray.size_append, hs]; decide) w
    rw [tk_fb 7 ab _ (by decide) (by decide) (by decide)] at h
    exact h
  have hA : Hid (∀ w, Calls Try.prog 13 #[.string (fbS 7 ab ++ fbS 7 ab)] w fun e w' => ∃ g c, e = .returned (.tuple #[.slice (some ⟨g, 0, none⟩) 2 c, .int .i64 36, .int .i64 0]) ∧ Below w.heap.size w w') := fun w => by
    have h := fall_any (fbS 7 ab ++ fbS 7 ab) (by rw [ByteArray.size_append, hs]; decide) w
    rw [two_ab.1, two_ab.2] at h
    refine h.mono ?_
    rintro e w' ⟨v, rfl, h1, h2⟩
    obtain ⟨g, c, rfl⟩ := ownsRow_succ h1
    exact ⟨g, c, rfl, h2⟩
  have h0 : Hid (∀ w, Calls Try.prog 11 #[.string ⟨#[]⟩] w fun e w' => e = .returned (.tuple #[.agg #[.int .i64 0, .string ⟨#[]⟩], .int .i64 0, .int .i64 3]) ∧ Below w.heap.size w w') := fun w => by
    have h := ftake_any ⟨#[]⟩ (by decide) w
    rw [tk_short (by decide)] at h
    exact h
  generalize fbS 7 ab = F at *
  go_enter Try.func8, Try.ntmps8
  go_wp2_with fail
  refine (hP.out w).mono ?_
  rintro e w1 ⟨rfl, b1⟩
  go_wp2_with fail
  refine (hT.out w1).mono ?_
  rintro e w2 ⟨rfl, b2⟩
  have H2 := Bx.start w2 27 (.int .i64 7) (.string ab)
  go_wp2_with fail
  refine (hA.out _).mono ?_
  rintro e w3 ⟨g, c, rfl, b3⟩
  have H3 := H2.later b3
  go_wp2_with fail
  refine (h0.out w3).mono ?_
  rintro e w4 ⟨rfl, b4⟩
  have H4 := H3.later (b4.alloc b4.size (.cells #[.int .i64 0, .string ⟨#[]⟩] 27))
  have c0 := H4.c0
  have c1 := H4.c1
  have hB : Hid (Below w.heap.size w (w4.alloc (.cells #[.int .i64 0, .string ⟨#[]⟩] 27))) := by
    have e1 := b1.size
    have e2 := b2.size
    have e3 := b3.size
    have e4 := b4.size
    simp at e3
    exact b1.trans ((b2.mono e1).trans (((((Below.refl _ w2).alloc (Nat.le_refl _) _).trans (b3.mono (by simp))).trans ((b4.alloc b4.size _).mono (by omega))).mono (by omega)))
  clear b1 b2 b3 b4 H2 H3 H4
  go_wp2_with fail
  trace_state
  go_ret
  exact ⟨rfl, hB.out⟩
end Go.Proofs.Ytjmkjdflfmjliaa.Fr
