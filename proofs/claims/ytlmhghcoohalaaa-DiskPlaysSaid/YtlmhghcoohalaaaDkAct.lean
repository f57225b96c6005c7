/- What holds of acts: the disk stays right, and takes up no more than is let in; one that is not up stays as it is. -/
import Derived.Test.YtlmhghcoohalaaaDkDo
namespace Go.Proofs.Ytlmhghcoohalaaa.Dk
open Go.RowKit

theorem begun_room (s : St) : (begun s).room = s.room := by unfold begun; split <;> rfl
theorem begun_ops (s : St) : (begun s).ops = s.ops + 1 := by unfold begun; split <;> rfl
theorem begun_made (s : St) : (begun s).made = s.made := by unfold begun; split <;> rfl

/-- what a call leaves of a disk: its room, whether it was made, one operation more at most, so many bytes more at most -/
structure More (s t : St) (n : Nat) : Prop where
  room : t.room = s.room
  made : t.made = s.made
  ops : t.ops ≤ s.ops + 1
  used : used t.fs ≤ used s.fs + n
theorem More.same (s : St) (n : Nat) : More s s n := ⟨rfl, rfl, by omega, by omega⟩
theorem More.begun (s : St) (fs : List Fi) (n : Nat) (h : Dk.used fs ≤ Dk.used s.fs + n) : More s (begun { s with fs := fs }) n :=
  ⟨by rw [begun_room], by rw [begun_made], by rw [begun_ops]; exact Nat.le_refl _, by rw [begun_fs]; exact h⟩
theorem More.begun0 (s : St) (n : Nat) : More s (Dk.begun s) n := ⟨by rw [begun_room], by rw [begun_made], by rw [begun_ops]; exact Nat.le_refl _, by rw [begun_fs]; omega⟩

theorem app_more {s : St} (h : Ok s) (n t : ByteArray) : More s (app s n t).1 t.size := by
  unfold app
  split
  · exact More.same _ _
  split
  · exact More.same _ _
  split
  · exact More.same _ _
  refine More.begun s _ _ ?_
  cases hh : has s.fs n with
  | true =>
    simp only [if_true]
    obtain ⟨h1, _⟩ := at_has h.sorted hh
    generalize at_ s.fs (pos s.fs n) = f at *
    have hu := used_set s.fs (pos s.fs n) { f with bs := f.bs ++ t.data.toList } h1
    simp only [List.length_append] at hu
    have htl : t.data.toList.length = t.size := by simp
    omega
  | false =>
    simp only [Bool.false_eq_true, if_false]
    have h1 := ins_at (pos_le s.fs n) ⟨n, [], 0⟩
    rw [at_some h1]
    have hu := used_set _ (pos s.fs n) ⟨n, [] ++ t.data.toList, 0⟩ h1
    rw [used_ins] at hu
    simp only [List.length_append, List.length_nil] at hu
    have htl : t.data.toList.length = t.size := by simp
    simp only at hu ⊢
    omega
theorem sync_more {s : St} (h : Ok s) (n : ByteArray) (k : Nat) : More s (sync s n).1 k := by
  unfold sync
  split
  · exact More.same _ _
  rename_i hl
  split
  · exact More.begun0 _ _
  obtain ⟨_, hh⟩ := look_has (by simpa using hl)
  obtain ⟨h1, _⟩ := at_has h.sorted hh
  have hu := used_set s.fs _ (setF (at_ s.fs (pos s.fs n))) h1
  exact More.begun s _ _ (by simp only [setF] at hu ⊢; omega)
theorem rem_more {s : St} (h : Ok s) (n : ByteArray) (k : Nat) : More s (rem s n).1 k := by
  unfold rem
  split
  · exact More.same _ _
  rename_i hl
  split
  · exact More.begun0 _ _
  obtain ⟨_, hh⟩ := look_has (by simpa using hl)
  obtain ⟨h1, _⟩ := at_has h.sorted hh
  have hu := used_del s.fs _ h1
  exact More.begun s _ _ (by omega)
theorem cut_more {s : St} (h : Ok s) (n : ByteArray) (i : Int) (k : Nat) : More s (cut s n i).1 k := by
  unfold cut
  split
  · exact More.same _ _
  rename_i hl
  split
  · exact More.same _ _
  split
  · exact More.begun0 _ _
  obtain ⟨_, hh⟩ := look_has (by simpa using hl)
  obtain ⟨h1, _⟩ := at_has h.sorted hh
  have hu := used_set s.fs _ (cutF (at_ s.fs (pos s.fs n)) i.toNat) h1
  refine More.begun s _ _ ?_
  simp only [cutF, List.length_take] at hu ⊢
  omega
theorem renF_used {s : St} (h : Ok s) {a : ByteArray} (b : ByteArray) (hh : has s.fs a = true) : used (renF s.fs a b) ≤ used s.fs := by
  obtain ⟨h1, _⟩ := at_has h.sorted hh
  have hd := h.del h1
  have hu := used_del s.fs _ h1
  unfold renF
  simp only
  rw [used_ins]
  simp only
  cases hb : has (del s.fs (pos s.fs a)) b with
  | true =>
    obtain ⟨h3, _⟩ := at_has hd.sorted hb
    have hu2 := used_del _ _ h3
    simp only [if_true] at hu2 ⊢
    omega
  | false => simp only [Bool.false_eq_true, if_false]; omega
theorem ren_more {s : St} (h : Ok s) (a b : ByteArray) (k : Nat) : More s (ren s a b).1 k := by
  unfold ren
  split
  · exact More.same _ _
  rename_i hl
  split
  · exact More.same _ _
  split
  · exact More.begun0 _ _
  obtain ⟨_, hh⟩ := look_has (by simpa using hl)
  exact More.begun s _ _ (Nat.le_trans (renF_used h b hh) (by omega))
theorem up_more (s : St) (ks : List Int) (k : Nat) : More s (up s ks) k := by
  unfold up; split
  · exact More.same _ _
  · exact ⟨rfl, rfl, by simp, Nat.le_trans (upF_used s.fs ks) (by omega)⟩

theorem act_ok {s : St} (h : Ok s) (a : Act) (hn : a.n ≤ 9223372036854775807) : Ok (act s a).1 := by
  unfold act
  split
  · exact h.app _ _
  split
  · exact h.sync _
  split
  · exact h.ren _ _
  split
  · exact h.rem _
  split
  · exact h.cut _ _
  split
  · exact h.fused _ hn
  split
  · exact h.crashed
  split
  · exact h.up _
  · exact h
theorem act_more {s : St} (h : Ok s) (a : Act) : More s (act s a).1 a.s.size := by
  unfold act
  split
  · exact app_more h _ _
  split
  · exact sync_more h _ _
  split
  · exact ren_more h _ _ _
  split
  · exact rem_more h _ _
  split
  · exact cut_more h _ _ _
  split
  · exact ⟨rfl, rfl, by simp [fused], by simp [fused]⟩
  split
  · exact ⟨rfl, rfl, by simp [crashed], by simp [crashed]⟩
  split
  · exact up_more _ _ _
  · exact More.same _ _

/-- what is not up stays as it is, but by Up -/
theorem act_off {s : St} (a : Act) (h : s.on = false) (h8 : a.kind ≠ 8) : (act s a).1.on = false ∧ (act s a).1.fs = s.fs ∧ (act s a).1.ops = s.ops ∧ (act s a).2 = actN a := by
  have hl : ∀ n, look s n = 9 := fun n => (look_off h).1
  unfold act actN
  split
  · rename_i hk
    have : app s a.name a.s = (s, 9) := by unfold app; simp [h]
    rw [this, if_pos (by omega)]; exact ⟨h, rfl, rfl, rfl⟩
  split
  · have : sync s a.name = (s, 9) := by unfold sync; simp [hl]
    rw [this, if_pos (by omega)]; exact ⟨h, rfl, rfl, rfl⟩
  split
  · have : ren s a.name a.to = (s, 9) := by unfold ren; simp [hl]
    rw [this, if_pos (by omega)]; exact ⟨h, rfl, rfl, rfl⟩
  split
  · have : rem s a.name = (s, 9) := by unfold rem; simp [hl]
    rw [this, if_pos (by omega)]; exact ⟨h, rfl, rfl, rfl⟩
  split
  · have : cut s a.name a.n = (s, 9) := by unfold cut; simp [hl]
    rw [this, if_pos (by omega)]; exact ⟨h, rfl, rfl, rfl⟩
  split
  · rw [if_neg (by omega)]; exact ⟨h, rfl, rfl, rfl⟩
  split
  · rw [if_neg (by omega)]; exact ⟨rfl, rfl, rfl, rfl⟩
  rw [if_neg (by omega)]
  exact ⟨h, rfl, rfl, rfl⟩

theorem ok_born (room : Int) (h : room ≤ 9223372036854775807) : Ok (born room) :=
  ⟨List.Pairwise.nil, by simp [born], fun _ h => by simp [born] at h, fun _ h => by simp [born] at h, by simp [born]; omega, by simp [born]; omega, by simp [born, used]; omega, by simp [born], by simp [born]⟩
theorem ok_nobody : Ok nobody :=
  ⟨List.Pairwise.nil, by simp [nobody], fun _ h => by simp [nobody] at h, fun _ h => by simp [nobody] at h, by simp [nobody], by simp [nobody], by simp [nobody, used], by simp [nobody], by simp [nobody]⟩
end Go.Proofs.Ytlmhghcoohalaaa.Dk
