/- A disk's state as plain data, what each call makes of it, and what holds of it all the time. -/
import Derived.Test.YtlmhghcoohalaaaDkMath
namespace Go.Proofs.Ytlmhghcoohalaaa.Dk

structure St where
  made : Bool
  on : Bool
  room : Int
  fs : List Fi
  ops : Nat
  fuse : Int

/-- may a letter stand in a name? -/
def okB (c : UInt8) : Bool := (decide (97 ≤ c.toNat) && decide (c.toNat ≤ 122)) || (decide (48 ≤ c.toNat) && decide (c.toNat ≤ 57)) || decide (c.toNat = 46) || decide (c.toNat = 45)
def nameB (s : ByteArray) : Bool := decide (1 ≤ s.size) && decide (s.size ≤ 24) && s.data.toList.all okB

def begun (s : St) : St :=
  if s.fuse = 0 then { s with ops := s.ops + 1, on := false, fuse := -1 } else { s with ops := s.ops + 1, fuse := if 0 < s.fuse then s.fuse - 1 else s.fuse }
def goes (s : St) : Bool := decide (s.fuse ≠ 0)
def crashed (s : St) : St := { s with on := false, fuse := -1 }
def fused (s : St) (n : Int) : St := { s with fuse := max n (-1) }
def look (s : St) (n : ByteArray) : Int := if s.on = false then 9 else if has s.fs n = false then 7 else 0

def cutF (f : Fi) (n : Nat) : Fi := { f with bs := f.bs.take n, su := min f.su n }
def setF (f : Fi) : Fi := { f with su := f.bs.length }

/-- the file that stands at a place -/
def at_ (fs : List Fi) (k : Nat) : Fi := fs[k]?.getD ⟨⟨#[]⟩, [], 0⟩

def app (s : St) (n t : ByteArray) : St × Int :=
  if s.on = false then (s, 9) else if nameB n = false then (s, 1) else
  if s.room - used s.fs < t.size ∨ (has s.fs n = false ∧ s.fs.length = 64) then (s, 5) else
  let fs := if has s.fs n then s.fs else ins s.fs (pos s.fs n) ⟨n, [], 0⟩
  let f := at_ fs (pos s.fs n)
  (begun { s with fs := fs.set (pos s.fs n) { f with bs := f.bs ++ t.data.toList } }, if goes s then 0 else 9)
def sync (s : St) (n : ByteArray) : St × Int :=
  if look s n ≠ 0 then (s, look s n) else if goes s = false then (begun s, 9) else
  (begun { s with fs := s.fs.set (pos s.fs n) (setF (at_ s.fs (pos s.fs n))) }, 0)
def renF (fs : List Fi) (a b : ByteArray) : List Fi :=
  let f := at_ fs (pos fs a)
  let fs1 := del fs (pos fs a)
  let fs2 := if has fs1 b then del fs1 (pos fs1 b) else fs1
  ins fs2 (pos fs1 b) { f with nm := b }
def ren (s : St) (a b : ByteArray) : St × Int :=
  if look s a ≠ 0 then (s, look s a) else if nameB b = false then (s, 1) else if goes s = false then (begun s, 9) else
  (begun { s with fs := renF s.fs a b }, 0)
def rem (s : St) (n : ByteArray) : St × Int :=
  if look s n ≠ 0 then (s, look s n) else if goes s = false then (begun s, 9) else
  (begun { s with fs := del s.fs (pos s.fs n) }, 0)
def cut (s : St) (n : ByteArray) (k : Int) : St × Int :=
  if look s n ≠ 0 then (s, look s n) else if k < 0 ∨ ((at_ s.fs (pos s.fs n)).bs.length : Int) < k then (s, 11) else if goes s = false then (begun s, 9) else
  (begun { s with fs := s.fs.set (pos s.fs n) (cutF (at_ s.fs (pos s.fs n)) k.toNat) }, 0)

/-- how many unsure bytes are kept of a file -/
def kept (f : Fi) (ks : List Int) : Nat := min (ks.head?.getD 0).toNat (f.bs.length - f.su)
def upOne (f : Fi) (ks : List Int) : Fi := if f.bs.length - f.su = 0 then f else { f with bs := f.bs.take (f.su + kept f ks), su := f.su + kept f ks }
def upRest (f : Fi) (ks : List Int) : List Int := if f.bs.length - f.su = 0 then ks else ks.tail
def upF : List Fi → List Int → List Fi
  | [], _ => []
  | f :: r, ks => upOne f ks :: upF r (upRest f ks)
def up (s : St) (ks : List Int) : St := if s.made = false then s else { s with fs := upF s.fs ks, on := true, fuse := -1 }

/-- what holds of a disk all the time -/
structure Ok (s : St) : Prop where
  sorted : Sorted s.fs
  few : s.fs.length ≤ 64
  su : ∀ f ∈ s.fs, f.su ≤ f.bs.length
  names : ∀ f ∈ s.fs, f.nm.size ≤ 24
  room0 : 0 ≤ s.room
  room1 : s.room ≤ 9223372036854775807
  full : used s.fs ≤ s.room
  fuse0 : -1 ≤ s.fuse
  fuse1 : s.fuse ≤ 9223372036854775807

theorem nameB_size {s : ByteArray} (h : nameB s = true) : s.size ≤ 24 := by simp [nameB] at h; omega
theorem at_some {fs : List Fi} {k : Nat} {f : Fi} (h : fs[k]? = some f) : at_ fs k = f := by unfold at_; rw [h]; rfl
theorem at_has {fs : List Fi} (hs : Sorted fs) {n : ByteArray} (h : has fs n = true) : fs[pos fs n]? = some (at_ fs (pos fs n)) ∧ (at_ fs (pos fs n)).nm = n := by
  obtain ⟨f, h1, h2⟩ := has_at hs h
  rw [at_some h1]; exact ⟨h1, h2⟩
theorem look_has {s : St} {n : ByteArray} (h : look s n = 0) : s.on = true ∧ has s.fs n = true := by
  unfold look at h; split at h
  · omega
  · split at h
    · omega
    · simp_all

theorem Ok.begun {s : St} (h : Ok s) : Ok (begun s) := by
  unfold Dk.begun; split
  · exact ⟨h.sorted, h.few, h.su, h.names, h.room0, h.room1, h.full, by simp, by simp⟩
  · have := h.fuse0; have := h.fuse1
    refine ⟨h.sorted, h.few, h.su, h.names, h.room0, h.room1, h.full, ?_, ?_⟩ <;> simp only <;> split <;> omega
theorem Ok.crashed {s : St} (h : Ok s) : Ok (crashed s) := ⟨h.sorted, h.few, h.su, h.names, h.room0, h.room1, h.full, by simp [Dk.crashed], by simp [Dk.crashed]⟩
theorem Ok.fused {s : St} (h : Ok s) (n : Int) (hn : n ≤ 9223372036854775807) : Ok (fused s n) :=
  ⟨h.sorted, h.few, h.su, h.names, h.room0, h.room1, h.full, by simp [Dk.fused]; omega, by simp [Dk.fused]; omega⟩
theorem Ok.fs {s : St} (h : Ok s) {fs : List Fi} (h1 : Sorted fs) (h2 : fs.length ≤ 64) (h3 : ∀ f ∈ fs, f.su ≤ f.bs.length) (h4 : ∀ f ∈ fs, f.nm.size ≤ 24) (h5 : used fs ≤ s.room) : Ok { s with fs := fs } :=
  ⟨h1, h2, h3, h4, h.room0, h.room1, h5, h.fuse0, h.fuse1⟩
theorem Ok.set {s : St} (h : Ok s) {k : Nat} {f : Fi} (g : Fi) (hk : s.fs[k]? = some f) (hn : g.nm = f.nm) (hs : g.su ≤ g.bs.length) (hu : used (s.fs.set k g) ≤ s.room) : Ok { s with fs := s.fs.set k g } := by
  have hm := List.mem_of_getElem? hk
  refine h.fs (sorted_set h.sorted k hk hn) (by rw [List.length_set]; exact h.few) (fun x hx => ?_) (fun x hx => ?_) hu
  · rcases mem_set hx with rfl | hx
    · exact hs
    · exact h.su x hx
  · rcases mem_set hx with rfl | hx
    · rw [hn]; exact h.names f hm
    · exact h.names x hx

theorem ins_at {fs : List Fi} {k : Nat} (hk : k ≤ fs.length) (f : Fi) : (ins fs k f)[k]? = some f := by
  unfold ins
  rw [List.getElem?_append_right (by simp; omega)]
  simp [Nat.min_eq_left hk]
theorem Ok.ins {s : St} (h : Ok s) (f : Fi) (hh : has s.fs f.nm = false) (hl : s.fs.length < 64) (hs : f.su ≤ f.bs.length) (hn : f.nm.size ≤ 24) (hu : (used s.fs + f.bs.length : Nat) ≤ s.room) : Ok { s with fs := ins s.fs (pos s.fs f.nm) f } := by
  refine h.fs (sorted_ins h.sorted hh) (by rw [ins_len]; omega) (fun x hx => ?_) (fun x hx => ?_) (by rw [used_ins]; exact hu)
  · rcases mem_ins.1 hx with rfl | hx
    · exact hs
    · exact h.su x hx
  · rcases mem_ins.1 hx with rfl | hx
    · exact hn
    · exact h.names x hx
theorem Ok.del {s : St} (h : Ok s) {k : Nat} {f : Fi} (hk : s.fs[k]? = some f) : Ok { s with fs := del s.fs k } := by
  have hlt := (List.getElem?_eq_some_iff.1 hk).1
  have := h.few
  have := h.full
  have hu := used_del s.fs k hk
  have hl := del_len s.fs k hlt
  exact h.fs (sorted_del h.sorted k) (by omega) (fun x hx => h.su x (mem_del hx)) (fun x hx => h.names x (mem_del hx)) (by omega)

theorem Ok.app {s : St} (h : Ok s) (n t : ByteArray) : Ok (app s n t).1 := by
  unfold Dk.app
  split
  · exact h
  split
  · exact h
  rename_i hnb
  have hn : n.size ≤ 24 := nameB_size (by simpa using hnb)
  split
  · exact h
  rename_i hno
  have hroom : (t.size : Int) ≤ s.room - used s.fs := by omega
  have htl : t.data.toList.length = t.size := by simp
  by_cases hh : has s.fs n = true
  · simp only [hh, if_true]
    obtain ⟨h1, h2⟩ := at_has h.sorted hh
    generalize at_ s.fs (pos s.fs n) = f at *
    have hu := used_set s.fs (pos s.fs n) { f with bs := f.bs ++ t.data.toList } h1
    refine (h.set { f with bs := f.bs ++ t.data.toList } h1 rfl ?_ ?_).begun
    · have := h.su _ (List.mem_of_getElem? h1); simp; omega
    · simp only [List.length_append] at hu; omega
  · have hf : has s.fs n = false := by simpa using hh
    simp only [hf, Bool.false_eq_true, if_false]
    have hl : s.fs.length < 64 := by have := h.few; have : s.fs.length ≠ 64 := fun e => hno (.inr ⟨hf, e⟩); omega
    have h0 : Ok { s with fs := Dk.ins s.fs (pos s.fs n) ⟨n, [], 0⟩ } := h.ins ⟨n, [], 0⟩ hf hl (Nat.le_refl _) hn (by have := h.full; simp; omega)
    have h1 := ins_at (pos_le s.fs n) ⟨n, [], 0⟩
    rw [at_some h1]
    have hu := used_set _ (pos s.fs n) ⟨n, [] ++ t.data.toList, 0⟩ h1
    rw [used_ins] at hu
    refine (h0.set ⟨n, [] ++ t.data.toList, 0⟩ h1 rfl (Nat.zero_le _) ?_).begun
    simp only [List.length_append, List.length_nil] at hu ⊢; omega

theorem Ok.sync {s : St} (h : Ok s) (n : ByteArray) : Ok (sync s n).1 := by
  unfold Dk.sync
  split
  · exact h
  rename_i hl
  split
  · exact h.begun
  obtain ⟨_, hh⟩ := look_has (by simpa using hl)
  obtain ⟨h1, h2⟩ := at_has h.sorted hh
  have hu := used_set s.fs _ (setF (at_ s.fs (pos s.fs n))) h1
  have := h.full
  exact (h.set (setF (at_ s.fs (pos s.fs n))) h1 rfl (Nat.le_refl _) (by simp only [setF] at hu ⊢; omega)).begun
theorem Ok.rem {s : St} (h : Ok s) (n : ByteArray) : Ok (rem s n).1 := by
  unfold Dk.rem
  split
  · exact h
  rename_i hl
  split
  · exact h.begun
  obtain ⟨_, hh⟩ := look_has (by simpa using hl)
  obtain ⟨h1, h2⟩ := at_has h.sorted hh
  exact (h.del h1).begun
theorem Ok.cut {s : St} (h : Ok s) (n : ByteArray) (k : Int) : Ok (cut s n k).1 := by
  unfold Dk.cut
  split
  · exact h
  rename_i hl
  split
  · exact h
  split
  · exact h.begun
  obtain ⟨_, hh⟩ := look_has (by simpa using hl)
  obtain ⟨h1, h2⟩ := at_has h.sorted hh
  have hu := used_set s.fs _ (cutF (at_ s.fs (pos s.fs n)) k.toNat) h1
  have := h.full
  have hs := h.su _ (List.mem_of_getElem? h1)
  refine (h.set (cutF (at_ s.fs (pos s.fs n)) k.toNat) h1 rfl ?_ ?_).begun
  · simp only [cutF, List.length_take]; omega
  · simp only [cutF, List.length_take] at hu ⊢; omega
theorem sorted_pos_del {fs : List Fi} (hs : Sorted fs) {b : ByteArray} (h : has fs b = true) : has (del fs (pos fs b)) b = false ∧ pos (del fs (pos fs b)) b = pos fs b := by
  obtain ⟨h1, h2⟩ := at_has hs h
  generalize at_ fs (pos fs b) = f at h1 h2
  obtain ⟨hk, hf⟩ := List.getElem?_eq_some_iff.1 h1
  have hp := del_perm fs _ h1
  refine ⟨not_has.2 fun g hg => ?_, pos_is _ _ _ ?_ (fun j g hj hg => ?_) (fun g hg => ?_)⟩
  · have h3 : (f :: del fs (pos fs b)).Pairwise fun x y => x.nm ≠ y.nm :=
      hp.pairwise (List.Pairwise.imp (fun h => lt_ne h) hs) (fun h => Ne.symm h)
    have := (List.pairwise_cons.1 h3).1 g hg
    rw [h2] at this
    exact Ne.symm this
  · have := del_len fs _ hk; omega
  · unfold del at hg
    rw [List.getElem?_append_left (by rw [List.length_take]; omega), List.getElem?_take, if_pos hj] at hg
    exact pos_lt fs b j g hj hg
  · unfold del at hg
    rw [List.getElem?_append_right (by rw [List.length_take]; omega), List.getElem?_drop] at hg
    exact pos_ge fs hs b _ g (by omega) hg

theorem Ok.ren {s : St} (h : Ok s) (a b : ByteArray) : Ok (ren s a b).1 := by
  unfold Dk.ren
  split
  · exact h
  rename_i hl
  split
  · exact h
  rename_i hnb
  have hn : b.size ≤ 24 := nameB_size (by simpa using hnb)
  split
  · exact h.begun
  obtain ⟨_, hh⟩ := look_has (by simpa using hl)
  obtain ⟨h1, h2⟩ := at_has h.sorted hh
  have hd := h.del h1
  have hu := used_del s.fs _ h1
  have hlt := (List.getElem?_eq_some_iff.1 h1).1
  have hld := del_len s.fs _ hlt
  have hful := h.full
  have hfew := h.few
  have hsu := h.su _ (List.mem_of_getElem? h1)
  generalize hf : at_ s.fs (pos s.fs a) = f at *
  generalize hfs1 : Dk.del s.fs (pos s.fs a) = fs1 at *
  refine Ok.begun ?_
  unfold renF
  rw [hf, hfs1]
  simp only
  by_cases hb : has fs1 b = true
  · obtain ⟨h3, h4⟩ := at_has hd.sorted hb
    obtain ⟨h5, h6⟩ := sorted_pos_del hd.sorted hb
    have hd2 := hd.del h3
    simp only at h3 h5 h6 hd2
    have hu2 := used_del fs1 _ h3
    have hl2 := del_len fs1 _ (List.getElem?_eq_some_iff.1 h3).1
    simp only [hb, if_true]
    have := hd2.ins { f with nm := b } h5 (by simp only; omega) hsu hn (by simp only; omega)
    simp only [h6] at this
    exact this
  · have hb' : has fs1 b = false := by simpa using hb
    simp only [hb', Bool.false_eq_true, if_false]
    exact hd.ins { f with nm := b } hb' (by simp only; omega) hsu hn (by simp only; omega)

theorem upOne_nm (f : Fi) (ks : List Int) : (upOne f ks).nm = f.nm := by unfold upOne; split <;> rfl
theorem upOne_su (f : Fi) (ks : List Int) (h : f.su ≤ f.bs.length) : (upOne f ks).su ≤ (upOne f ks).bs.length := by
  unfold upOne; split
  · exact h
  · have : kept f ks ≤ f.bs.length - f.su := Nat.min_le_right _ _
    simp; omega
theorem upOne_len (f : Fi) (ks : List Int) : (upOne f ks).bs.length ≤ f.bs.length := by
  unfold upOne; split
  · exact Nat.le_refl _
  · simp; omega
theorem upF_len : ∀ (fs : List Fi) (ks : List Int), (upF fs ks).length = fs.length
  | [], _ => rfl
  | f :: r, ks => by simp [upF, upF_len r]
theorem upF_names : ∀ (fs : List Fi) (ks : List Int), (upF fs ks).map (·.nm) = fs.map (·.nm)
  | [], _ => rfl
  | f :: r, ks => by simp [upF, upF_names r, upOne_nm]
theorem upF_used : ∀ (fs : List Fi) (ks : List Int), used (upF fs ks) ≤ used fs
  | [], _ => Nat.le_refl _
  | f :: r, ks => by
    have h1 := upOne_len f ks
    have h2 := upF_used r (upRest f ks)
    unfold used at h2 ⊢
    simp only [upF, List.map_cons, List.sum_cons]; omega
theorem upF_mem : ∀ (fs : List Fi) (ks : List Int) (g : Fi), g ∈ upF fs ks → ∃ f ∈ fs, ∃ k, g = upOne f k
  | [], _, _, h => by simp [upF] at h
  | f :: r, ks, g, h => by
    rcases List.mem_cons.1 h with rfl | h
    · exact ⟨f, List.mem_cons_self .., ks, rfl⟩
    · obtain ⟨x, hx, k, rfl⟩ := upF_mem r _ g h
      exact ⟨x, List.mem_cons_of_mem _ hx, k, rfl⟩
theorem sorted_names {fs : List Fi} : Sorted fs ↔ (fs.map (·.nm)).Pairwise lt := by unfold Sorted; rw [List.pairwise_map]
theorem Ok.up {s : St} (h : Ok s) (ks : List Int) : Ok (up s ks) := by
  unfold Dk.up; split
  · exact h
  have hu := upF_used s.fs ks
  have hful := h.full
  refine ⟨sorted_names.2 (by rw [upF_names]; exact sorted_names.1 h.sorted), by simp only [upF_len]; exact h.few, fun g hg => ?_, fun g hg => ?_, h.room0, h.room1, by simp only; omega, by simp, by simp⟩
  · obtain ⟨f, hf, k, rfl⟩ := upF_mem _ _ g hg
    exact upOne_su f k (h.su f hf)
  · obtain ⟨f, hf, k, rfl⟩ := upF_mem _ _ g hg
    rw [upOne_nm]; exact h.names f hf
theorem begun_fs (s : St) : (begun s).fs = s.fs := by unfold begun; split <;> rfl
theorem begun_set (s : St) (fs : List Fi) : begun { s with fs := fs } = { begun s with fs := fs } := by unfold begun; simp only; split <;> rfl
end Go.Proofs.Ytlmhghcoohalaaa.Dk
