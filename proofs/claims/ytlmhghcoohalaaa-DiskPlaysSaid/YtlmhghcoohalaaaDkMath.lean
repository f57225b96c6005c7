/- A disk as plain data: files in a list that rises by names, and what each call makes of it. -/
import Derived.Lib.Bytealg
import GoSem.Op.String
namespace Go.Proofs.Ytlmhghcoohalaaa.Dk

/-! ### the order of names -/

/-- a text stands ahead of another one, byte by byte -/
def lt (a b : ByteArray) : Prop := Op.bytesLess a.data.toList b.data.toList = true
instance (a b : ByteArray) : Decidable (lt a b) := by unfold lt; infer_instance

theorem bl_irrefl : ∀ x : List UInt8, Op.bytesLess x x = false
  | [] => rfl
  | a :: x => by simp [Op.bytesLess, bl_irrefl x]
theorem bl_trans : ∀ x y z : List UInt8, Op.bytesLess x y = true → Op.bytesLess y z = true → Op.bytesLess x z = true
  | _, _, [], _, h => by simp [Op.bytesLess] at h
  | [], _, _ :: _, _, _ => rfl
  | _ :: _, [], _ :: _, h, _ => by simp [Op.bytesLess] at h
  | a :: x, b :: y, c :: z, h, k => by
    simp only [Op.bytesLess, Bool.or_eq_true, decide_eq_true_eq, Bool.and_eq_true, beq_iff_eq] at h k ⊢
    rcases h with h | ⟨rfl, h⟩
    · rcases k with k | ⟨rfl, k⟩
      · exact .inl (UInt8.lt_trans h k)
      · exact .inl h
    · rcases k with k | ⟨rfl, k⟩
      · exact .inl k
      · exact .inr ⟨rfl, bl_trans x y z h k⟩
theorem bl_total : ∀ x y : List UInt8, x ≠ y → Op.bytesLess x y = true ∨ Op.bytesLess y x = true
  | [], [], h => absurd rfl h
  | [], _ :: _, _ => .inl rfl
  | _ :: _, [], _ => .inr rfl
  | a :: x, b :: y, h => by
    simp only [Op.bytesLess, Bool.or_eq_true, decide_eq_true_eq, Bool.and_eq_true, beq_iff_eq]
    by_cases e : a = b
    · subst e
      have hxy : x ≠ y := fun e => h (by rw [e])
      rcases bl_total x y hxy with h | h
      · exact .inl (.inr ⟨rfl, h⟩)
      · exact .inr (.inr ⟨rfl, h⟩)
    · rcases UInt8.lt_or_lt_of_ne e with h | h
      · exact .inl (.inl h)
      · exact .inr (.inl h)
theorem cmp_cases : ∀ x y : List UInt8, (Op.bytesLess x y = true ∧ Lib.compareBytes x y = -1) ∨ (x = y ∧ Lib.compareBytes x y = 0) ∨ (Op.bytesLess y x = true ∧ Lib.compareBytes x y = 1)
  | [], [] => .inr (.inl ⟨rfl, rfl⟩)
  | [], _ :: _ => .inl ⟨rfl, rfl⟩
  | _ :: _, [] => .inr (.inr ⟨rfl, rfl⟩)
  | a :: x, b :: y => by
    unfold Lib.compareBytes
    by_cases h : a < b
    · exact .inl ⟨by simp [Op.bytesLess, h], by simp [h]⟩
    · by_cases k : b < a
      · exact .inr (.inr ⟨by simp [Op.bytesLess, k], by simp [h, k]⟩)
      · obtain rfl : a = b := UInt8.le_antisymm (UInt8.not_lt.1 k) (UInt8.not_lt.1 h)
        simp only [h, if_false]
        rcases cmp_cases x y with ⟨h1, h2⟩ | ⟨h1, h2⟩ | ⟨h1, h2⟩
        · exact .inl ⟨by simp [Op.bytesLess, h1], h2⟩
        · exact .inr (.inl ⟨by rw [h1], h2⟩)
        · exact .inr (.inr ⟨by simp [Op.bytesLess, h1], h2⟩)

theorem ba_ext {a b : ByteArray} (h : a.data.toList = b.data.toList) : a = b := by
  obtain ⟨⟨x⟩⟩ := a; obtain ⟨⟨y⟩⟩ := b; simp at h; rw [h]
theorem lt_irrefl (a : ByteArray) : ¬ lt a a := by unfold lt; rw [bl_irrefl]; simp
theorem lt_trans {a b c : ByteArray} (h : lt a b) (k : lt b c) : lt a c := bl_trans _ _ _ h k
theorem lt_asymm {a b : ByteArray} (h : lt a b) : ¬ lt b a := fun k => lt_irrefl a (lt_trans h k)
theorem lt_total {a b : ByteArray} (h : a ≠ b) : lt a b ∨ lt b a := bl_total _ _ fun e => h (ba_ext e)
theorem lt_ne {a b : ByteArray} (h : lt a b) : a ≠ b := fun e => by subst e; exact lt_irrefl _ h

/-! ### files, and lists of them -/

/-- a file: its name, its bytes, how many of them are sure -/
structure Fi where
  nm : ByteArray
  bs : List UInt8
  su : Nat

def Sorted (fs : List Fi) : Prop := fs.Pairwise fun x y => lt x.nm y.nm
/-- where a name stands, or would stand -/
def pos (fs : List Fi) (n : ByteArray) : Nat := (fs.takeWhile fun f => decide (lt f.nm n)).length
def has (fs : List Fi) (n : ByteArray) : Bool := fs.any fun f => decide (f.nm = n)
def used (fs : List Fi) : Nat := (fs.map fun f => f.bs.length).sum
def ins (fs : List Fi) (k : Nat) (f : Fi) : List Fi := fs.take k ++ f :: fs.drop k
def del (fs : List Fi) (k : Nat) : List Fi := fs.take k ++ fs.drop (k + 1)

theorem pos_le (fs : List Fi) (n : ByteArray) : pos fs n ≤ fs.length := by
  unfold pos
  induction fs with
  | nil => simp
  | cons f r ih => rw [List.takeWhile_cons]; split <;> simp <;> omega

theorem pos_is : ∀ (fs : List Fi) (n : ByteArray) (k : Nat), k ≤ fs.length → (∀ j f, j < k → fs[j]? = some f → lt f.nm n) → (∀ f, fs[k]? = some f → ¬ lt f.nm n) → pos fs n = k
  | [], _, k, hk, _, _ => by simp at hk; subst hk; rfl
  | f :: r, n, 0, _, _, h2 => by
    unfold pos
    rw [List.takeWhile_cons, if_neg]
    · rfl
    · simpa using h2 f rfl
  | f :: r, n, k + 1, hk, h1, h2 => by
    have ih := pos_is r n k (by simpa using hk) (fun j g hj hg => h1 (j + 1) g (by omega) (by simpa using hg)) (fun g hg => h2 g (by simpa using hg))
    unfold pos at ih ⊢
    rw [List.takeWhile_cons, if_pos]
    · simp [ih]
    · simpa using h1 0 f (by omega) rfl

/-- what stands ahead of a name's place is less -/
theorem pos_lt : ∀ (fs : List Fi) (n : ByteArray) (j : Nat) (f : Fi), j < pos fs n → fs[j]? = some f → lt f.nm n
  | [], _, _, _, h, _ => by simp [pos] at h
  | g :: r, n, j, f, h, hf => by
    unfold pos at h
    rw [List.takeWhile_cons] at h
    split at h
    · rename_i hg
      cases j with
      | zero => simp at hf; subst hf; simpa using hg
      | succ j => exact pos_lt r n j f (by unfold pos; simpa using h) (by simpa using hf)
    · simp at h
/-- what stands at it, or behind it, is not -/
theorem pos_ge (fs : List Fi) (hs : Sorted fs) (n : ByteArray) : ∀ (j : Nat) (f : Fi), pos fs n ≤ j → fs[j]? = some f → ¬ lt f.nm n := by
  induction fs with
  | nil => intro j f _ h; simp at h
  | cons g r ih =>
    intro j f h hf
    obtain ⟨h1, h2⟩ := List.pairwise_cons.1 hs
    unfold pos at h
    rw [List.takeWhile_cons] at h
    split at h
    · cases j with
      | zero => simp at h
      | succ j => exact ih h2 j f (by unfold pos; simpa using h) (by simpa using hf)
    · rename_i hg
      have hg' : ¬ lt g.nm n := by simpa using hg
      cases j with
      | zero => simp at hf; subst hf; exact hg'
      | succ j =>
        have hm : f ∈ r := List.mem_of_getElem? (by simpa using hf)
        exact fun hl => hg' (lt_trans (h1 f hm) hl)

theorem has_iff {fs : List Fi} {n : ByteArray} : has fs n = true ↔ ∃ f ∈ fs, f.nm = n := by simp [has]
theorem not_has {fs : List Fi} {n : ByteArray} : has fs n = false ↔ ∀ f ∈ fs, f.nm ≠ n := by
  rw [← Bool.not_eq_true, has_iff]; simp
/-- a name that is there stands at its place -/
theorem has_at {fs : List Fi} (hs : Sorted fs) {n : ByteArray} (h : has fs n = true) : ∃ f, fs[pos fs n]? = some f ∧ f.nm = n := by
  obtain ⟨f, hf, rfl⟩ := has_iff.1 h
  obtain ⟨j, hj⟩ := List.getElem?_of_mem hf
  have h1 : pos fs f.nm ≤ j := Nat.le_of_not_lt fun hl => lt_irrefl _ (pos_lt fs _ j f hl hj)
  rcases Nat.lt_or_eq_of_le h1 with h2 | h2
  · exfalso
    obtain ⟨g, hg⟩ : ∃ g, fs[pos fs f.nm]? = some g := ⟨_, List.getElem?_eq_getElem (by have := (List.getElem?_eq_some_iff.1 hj).1; omega)⟩
    have h3 := pos_ge fs hs f.nm _ g (Nat.le_refl _) hg
    obtain ⟨ha, hb⟩ := List.getElem?_eq_some_iff.1 hg
    obtain ⟨hc, hd⟩ := List.getElem?_eq_some_iff.1 hj
    have h4 := List.pairwise_iff_getElem.1 hs _ _ ha hc h2
    rw [hb, hd] at h4
    exact h3 h4
  · exact ⟨f, by rw [h2]; exact hj, rfl⟩
/-- one that is not there does not -/
theorem has_not {fs : List Fi} {n : ByteArray} (h : has fs n = false) {f : Fi} (hf : fs[pos fs n]? = some f) : f.nm ≠ n := not_has.1 h f (List.mem_of_getElem? hf)
theorem has_lt {fs : List Fi} (hs : Sorted fs) {n : ByteArray} (h : has fs n = true) : pos fs n < fs.length := by
  obtain ⟨f, hf, _⟩ := has_at hs h
  exact (List.getElem?_eq_some_iff.1 hf).1

theorem used_ins (fs : List Fi) (k : Nat) (f : Fi) : used (ins fs k f) = used fs + f.bs.length := by
  unfold used ins
  have : (fs.map fun f => f.bs.length).sum = ((fs.take k).map fun f => f.bs.length).sum + ((fs.drop k).map fun f => f.bs.length).sum := by
    rw [← List.sum_append, ← List.map_append, List.take_append_drop]
  rw [List.map_append, List.sum_append, List.map_cons, List.sum_cons]
  omega
theorem used_del (fs : List Fi) (k : Nat) {f : Fi} (h : fs[k]? = some f) : used (del fs k) + f.bs.length = used fs := by
  obtain ⟨hk, rfl⟩ := List.getElem?_eq_some_iff.1 h
  unfold used del
  have e : fs = fs.take k ++ fs[k] :: fs.drop (k + 1) := by rw [← List.drop_eq_getElem_cons hk, List.take_append_drop]
  have : (fs.map fun f => f.bs.length).sum = ((fs.take k).map fun f => f.bs.length).sum + (fs[k].bs.length + ((fs.drop (k + 1)).map fun f => f.bs.length).sum) := by
    conv => lhs; rw [e]
    rw [List.map_append, List.sum_append, List.map_cons, List.sum_cons]
  rw [List.map_append, List.sum_append]
  omega
theorem used_set (fs : List Fi) (k : Nat) {f : Fi} (g : Fi) (h : fs[k]? = some f) : used (fs.set k g) + f.bs.length = used fs + g.bs.length := by
  obtain ⟨hk, rfl⟩ := List.getElem?_eq_some_iff.1 h
  unfold used
  have e : fs = fs.take k ++ fs[k] :: fs.drop (k + 1) := by rw [← List.drop_eq_getElem_cons hk, List.take_append_drop]
  have : (fs.map fun f => f.bs.length).sum = ((fs.take k).map fun f => f.bs.length).sum + (fs[k].bs.length + ((fs.drop (k + 1)).map fun f => f.bs.length).sum) := by
    conv => lhs; rw [e]
    rw [List.map_append, List.sum_append, List.map_cons, List.sum_cons]
  rw [List.set_eq_take_append_cons_drop, if_pos hk, List.map_append, List.sum_append, List.map_cons, List.sum_cons]
  omega
theorem used_mem {fs : List Fi} {f : Fi} (h : f ∈ fs) : f.bs.length ≤ used fs := by
  unfold used
  induction fs with
  | nil => simp at h
  | cons g r ih => rw [List.map_cons, List.sum_cons]; rcases List.mem_cons.1 h with rfl | h; exact Nat.le_add_right _ _; have := ih h; omega

theorem ins_len (fs : List Fi) (k : Nat) (f : Fi) : (ins fs k f).length = fs.length + 1 := by unfold ins; simp; omega
theorem del_len (fs : List Fi) (k : Nat) (h : k < fs.length) : (del fs k).length + 1 = fs.length := by unfold del; simp; omega
theorem ins_perm (fs : List Fi) (k : Nat) (f : Fi) : (ins fs k f).Perm (f :: fs) := by
  unfold ins
  refine List.perm_middle.trans ?_
  rw [List.take_append_drop]
theorem del_perm (fs : List Fi) (k : Nat) {f : Fi} (h : fs[k]? = some f) : fs.Perm (f :: del fs k) := by
  obtain ⟨hk, rfl⟩ := List.getElem?_eq_some_iff.1 h
  have e : fs = fs.take k ++ fs[k] :: fs.drop (k + 1) := by rw [← List.drop_eq_getElem_cons hk, List.take_append_drop]
  conv => lhs; rw [e]
  exact List.perm_middle
theorem mem_ins {fs : List Fi} {k : Nat} {f g : Fi} : g ∈ ins fs k f ↔ g = f ∨ g ∈ fs := by rw [(ins_perm fs k f).mem_iff, List.mem_cons]
theorem mem_del {fs : List Fi} {k : Nat} {g : Fi} (h : g ∈ del fs k) : g ∈ fs := by
  unfold del at h
  rcases List.mem_append.1 h with h | h
  · exact List.mem_of_mem_take h
  · exact List.mem_of_mem_drop h

theorem sorted_del {fs : List Fi} (hs : Sorted fs) (k : Nat) : Sorted (del fs k) := by
  refine List.Pairwise.sublist ?_ hs
  unfold del
  conv => rhs; rw [← List.take_append_drop k fs]
  exact List.Sublist.append (List.Sublist.refl _) (List.drop_sublist_drop_left fs (by omega))
theorem sorted_ins {fs : List Fi} (hs : Sorted fs) {f : Fi} (h : has fs f.nm = false) : Sorted (ins fs (pos fs f.nm) f) := by
  unfold ins Sorted
  have hs' := hs
  unfold Sorted at hs'
  rw [← List.take_append_drop (pos fs f.nm) fs] at hs'
  obtain ⟨h1, h2, h3⟩ := List.pairwise_append.1 hs'
  refine List.pairwise_append.2 ⟨h1, List.pairwise_cons.2 ⟨fun g hg => ?_, h2⟩, fun x hx y hy => ?_⟩
  · obtain ⟨i, hi⟩ := List.getElem?_of_mem hg
    rw [List.getElem?_drop] at hi
    have hn := pos_ge fs hs f.nm _ g (by omega) hi
    have hne := not_has.1 h g (List.mem_of_getElem? hi)
    rcases lt_total hne with h | h
    · exact absurd h hn
    · exact h
  · rcases List.mem_cons.1 hy with rfl | hy
    · obtain ⟨i, hi⟩ := List.getElem?_of_mem hx
      rw [List.getElem?_take] at hi
      split at hi
      · rename_i hlt; exact pos_lt fs y.nm i x hlt hi
      · cases hi
    · exact h3 x hx y hy
theorem sorted_set {fs : List Fi} (hs : Sorted fs) (k : Nat) {f g : Fi} (h : fs[k]? = some f) (hn : g.nm = f.nm) : Sorted (fs.set k g) := by
  refine List.pairwise_iff_getElem.2 fun i j hi hj hij => ?_
  simp only [List.length_set] at hi hj
  have hp := List.pairwise_iff_getElem.1 hs i j hi hj hij
  obtain ⟨hk, rfl⟩ := List.getElem?_eq_some_iff.1 h
  rw [List.getElem_set, List.getElem_set]
  split
  · subst_vars
    rw [if_neg (by omega), hn]; exact hp
  · split
    · subst_vars; rw [hn]; exact hp
    · exact hp

theorem mem_set {fs : List Fi} {k : Nat} {f g : Fi} (h : g ∈ fs.set k f) : g = f ∨ g ∈ fs := by
  rcases List.mem_or_eq_of_mem_set h with h | h
  · exact .inr h
  · exact .inl h
end Go.Proofs.Ytlmhghcoohalaaa.Dk
