/- What is sure is never lost: as plain data. -/
import Derived.Test.YtlmhghcoohalaaaDkAct
namespace Go.Proofs.Ytlmhghcoohalaaa.Dk
open Go.RowKit

/-- what must be there: names, and the first bytes -/
abbrev Must := List (ByteArray × ByteArray)
def dropS (l : Must) (n : ByteArray) : Must := l.filter fun x => decide (x.1 ≠ n)
def setS (l : Must) (n t : ByteArray) : Must := dropS l n ++ [(n, t)]
def getS (l : Must) (n : ByteArray) : ByteArray := match l.find? fun x => decide (x.1 = n) with | some x => x.2 | none => ⟨#[]⟩
/-- how much of a text is left -/
def clampS (t : ByteArray) (n : Int) : Nat := (max 0 (min (t.size : Int) n)).toNat
def noteS (s : St) (l : Must) (a : Act) : Must :=
  if a.kind = 2 then setS l a.name (readOf s a.name) else if a.kind = 3 then setS (dropS l a.name) a.to (getS l a.name) else if a.kind = 4 then dropS l a.name else
  if a.kind = 5 then setS l a.name ((getS l a.name).extract 0 (clampS (getS l a.name) a.n)) else l

/-- a file has what must be there of it, and it is sure -/
def Has (fs : List Fi) (n : ByteArray) (t : List UInt8) : Prop := ∃ f ∈ fs, f.nm = n ∧ t <+: f.bs.take f.su
def Inv (fs : List Fi) (l : Must) : Prop := ∀ x ∈ l, Has fs x.1 x.2.data.toList

theorem getS_has {fs : List Fi} {l : Must} (h : Inv fs l) {n : ByteArray} {f : Fi} (hf : f ∈ fs) (hs : Sorted fs) (hn : f.nm = n) : (getS l n).data.toList <+: f.bs.take f.su := by
  unfold getS
  cases hg : l.find? fun x => decide (x.1 = n) with
  | none => exact List.nil_prefix
  | some x =>
    obtain ⟨g, hgm, hgn, hp⟩ := h x (List.mem_of_find?_eq_some hg)
    have hx : x.1 = n := by simpa using List.find?_some hg
    have : g = f := by
      obtain ⟨i, hi⟩ := List.getElem?_of_mem hgm
      obtain ⟨j, hj⟩ := List.getElem?_of_mem hf
      obtain ⟨i1, i2⟩ := List.getElem?_eq_some_iff.1 hi
      obtain ⟨j1, j2⟩ := List.getElem?_eq_some_iff.1 hj
      rcases Nat.lt_trichotomy i j with h' | h' | h'
      · have := List.pairwise_iff_getElem.1 hs i j i1 j1 h'; rw [i2, j2, hgn, hx, hn] at this; exact absurd this (lt_irrefl _)
      · subst h'; rw [hi] at hj; cases hj; rfl
      · have := List.pairwise_iff_getElem.1 hs j i j1 i1 h'; rw [i2, j2, hgn, hx, hn] at this; exact absurd this (lt_irrefl _)
    rw [← this]; exact hp

theorem Inv.keep {fs gs : List Fi} {l : Must} (h : Inv fs l) (hk : ∀ f ∈ fs, ∃ g ∈ gs, g.nm = f.nm ∧ f.bs.take f.su <+: g.bs.take g.su) : Inv gs l := fun x hx => by
  obtain ⟨f, hf, hn, hp⟩ := h x hx
  obtain ⟨g, hg, hgn, hgp⟩ := hk f hf
  exact ⟨g, hg, hgn.trans hn, hp.trans hgp⟩
theorem Inv.drop {fs gs : List Fi} {l : Must} {n : ByteArray} (h : Inv fs l) (hk : ∀ f ∈ fs, f.nm ≠ n → f ∈ gs) : Inv gs (dropS l n) := fun x hx => by
  obtain ⟨hx1, hx2⟩ := List.mem_filter.1 hx
  obtain ⟨f, hf, hn, hp⟩ := h x hx1
  exact ⟨f, hk f hf (by rw [hn]; simpa using hx2), hn, hp⟩
theorem Inv.set {fs gs : List Fi} {l : Must} {n t : ByteArray} (h : Inv fs l) (hk : ∀ f ∈ fs, f.nm ≠ n → f ∈ gs) (ht : Has gs n t.data.toList) : Inv gs (setS l n t) := fun x hx => by
  rcases List.mem_append.1 hx with hx | hx
  · exact h.drop hk x hx
  · simp at hx; subst hx; exact ht

theorem mem_set_of {fs : List Fi} {k : Nat} {f g x : Fi} (hk : fs[k]? = some f) (hx : x ∈ fs) (hn : x.nm ≠ f.nm) : x ∈ fs.set k g := by
  obtain ⟨j, hj⟩ := List.getElem?_of_mem hx
  refine List.mem_of_getElem? (i := j) ?_
  rw [List.getElem?_set, if_neg ?_]
  · exact hj
  · intro e; subst e; rw [hk] at hj; cases hj; exact hn rfl
theorem mem_set_self {fs : List Fi} {k : Nat} {f g : Fi} (hk : fs[k]? = some f) : g ∈ fs.set k g := by
  refine List.mem_of_getElem? (i := k) ?_
  rw [List.getElem?_set_self (List.getElem?_eq_some_iff.1 hk).1]
theorem mem_del_of {fs : List Fi} {k : Nat} {f x : Fi} (hk : fs[k]? = some f) (hx : x ∈ fs) (hn : x.nm ≠ f.nm) : x ∈ del fs k := by
  have hp := del_perm fs k hk
  rcases List.mem_cons.1 (hp.mem_iff.1 hx) with rfl | h
  · exact absurd rfl hn
  · exact h
theorem mem_renF {fs : List Fi} (hs : Sorted fs) {a b : ByteArray} (hh : has fs a = true) : ({ at_ fs (pos fs a) with nm := b } : Fi) ∈ renF fs a b ∧ ∀ f ∈ fs, f.nm ≠ a → f.nm ≠ b → f ∈ renF fs a b := by
  obtain ⟨h1, h2⟩ := at_has hs hh
  unfold renF
  simp only
  refine ⟨mem_ins.2 (.inl rfl), fun f hf hna hnb => mem_ins.2 (.inr ?_)⟩
  have hd := mem_del_of h1 hf (by rw [h2]; exact hna)
  cases hb : has (del fs (pos fs a)) b with
  | true =>
    obtain ⟨h3, h4⟩ := at_has (sorted_del hs (pos fs a)) hb
    simp only [if_true]
    exact mem_del_of h3 hd (by rw [h4]; exact hnb)
  | false => simpa using hd

theorem upF_keep : ∀ (fs : List Fi) (ks : List Int), ∀ f ∈ fs, ∃ g ∈ upF fs ks, ∃ k, g = upOne f k
  | [], _, _, h => by cases h
  | x :: r, ks, f, h => by
    rcases List.mem_cons.1 h with rfl | h
    · exact ⟨_, List.mem_cons_self .., ks, rfl⟩
    · obtain ⟨g, hg, k, rfl⟩ := upF_keep r (upRest x ks) f h
      exact ⟨_, List.mem_cons_of_mem _ hg, k, rfl⟩
theorem upOne_pre (f : Fi) (ks : List Int) : f.bs.take f.su <+: (upOne f ks).bs.take (upOne f ks).su := by
  unfold upOne; split
  · exact List.prefix_refl _
  · simp only [List.take_take, Nat.min_self]
    exact List.take_prefix_take_left (by omega)

theorem begun_on {s : St} (hg : goes s = true) (h : s.on = true) : (begun s).on = true := by
  unfold begun
  rw [if_neg (by simpa [goes] using hg)]; exact h
theorem set_names {fs : List Fi} {k : Nat} {f g : Fi} (hk : fs[k]? = some f) (hn : g.nm = f.nm) : (fs.set k g).map (·.nm) = fs.map (·.nm) := by
  rw [List.map_set]
  apply List.ext_getElem?
  intro i
  rw [List.getElem?_set]
  split
  · subst_vars
    rw [List.length_map, if_pos (List.getElem?_eq_some_iff.1 hk).1, List.getElem?_map, hk, hn]; rfl
  · rfl

/-- what an act that notes nothing leaves -/
theorem inv_plain {s : St} (ho : Ok s) {l : Must} (h : Inv s.fs l) (a : Act) (hno : (act s a).2 ≠ 0 ∨ a.kind < 2 ∨ 5 < a.kind) : Inv (act s a).1.fs l := by
  unfold act at hno ⊢
  split at hno
  · rename_i hk
    rw [if_pos hk]
    unfold app
    split
    · exact h
    split
    · exact h
    split
    · exact h
    simp only [begun_fs]
    refine h.keep fun f hf => ?_
    cases hh : has s.fs a.name with
    | true =>
      simp only [if_true]
      obtain ⟨h1, h2⟩ := at_has ho.sorted hh
      by_cases e : f.nm = a.name
      · refine ⟨_, mem_set_self h1, by simp only; rw [h2, e], ?_⟩
        have hsu := ho.su _ (List.mem_of_getElem? h1)
        have hfe : f = at_ s.fs (pos s.fs a.name) := by
          obtain ⟨j, hj⟩ := List.getElem?_of_mem hf
          obtain ⟨j1, j2⟩ := List.getElem?_eq_some_iff.1 hj
          obtain ⟨i1, i2⟩ := List.getElem?_eq_some_iff.1 h1
          rcases Nat.lt_trichotomy j (pos s.fs a.name) with h' | h' | h'
          · have := List.pairwise_iff_getElem.1 ho.sorted _ _ j1 i1 h'; rw [i2, j2, h2, e] at this; exact absurd this (lt_irrefl _)
          · subst h'; rw [h1] at hj; cases hj; rfl
          · have := List.pairwise_iff_getElem.1 ho.sorted _ _ i1 j1 h'; rw [i2, j2, h2, e] at this; exact absurd this (lt_irrefl _)
        rw [hfe]
        simp only
        rw [List.take_append_of_le_length hsu]
        exact List.prefix_refl _
      · exact ⟨f, mem_set_of h1 hf (by rw [h2]; exact e), rfl, List.prefix_refl _⟩
    | false =>
      simp only [Bool.false_eq_true, if_false]
      have h1 := ins_at (pos_le s.fs a.name) ⟨a.name, [], 0⟩
      have e := not_has.1 hh f hf
      exact ⟨f, mem_set_of h1 (mem_ins.2 (.inr hf)) e, rfl, List.prefix_refl _⟩
  rename_i k1
  rw [if_neg k1]
  split at hno
  · rename_i hk
    rw [if_pos hk]
    rcases hno with hno | hno | hno
    · unfold sync at hno ⊢
      split at hno
      · rename_i q; rw [if_pos q]; exact h
      · rename_i q; rw [if_neg q]; split at hno
        · rename_i q2; rw [if_pos q2]; simp only [begun_fs]; exact h
        · exact absurd rfl hno
    · omega
    · omega
  rename_i k2
  rw [if_neg k2]
  split at hno
  · rename_i hk
    rw [if_pos hk]
    rcases hno with hno | hno | hno
    · unfold ren at hno ⊢
      split at hno
      · rename_i q; rw [if_pos q]; exact h
      · rename_i q; rw [if_neg q]; split at hno
        · rename_i q2; rw [if_pos q2]; exact h
        · rename_i q2; rw [if_neg q2]; split at hno
          · rename_i q3; rw [if_pos q3]; simp only [begun_fs]; exact h
          · exact absurd rfl hno
    · omega
    · omega
  rename_i k3
  rw [if_neg k3]
  split at hno
  · rename_i hk
    rw [if_pos hk]
    rcases hno with hno | hno | hno
    · unfold rem at hno ⊢
      split at hno
      · rename_i q; rw [if_pos q]; exact h
      · rename_i q; rw [if_neg q]; split at hno
        · rename_i q2; rw [if_pos q2]; simp only [begun_fs]; exact h
        · exact absurd rfl hno
    · omega
    · omega
  rename_i k4
  rw [if_neg k4]
  split at hno
  · rename_i hk
    rw [if_pos hk]
    rcases hno with hno | hno | hno
    · unfold cut at hno ⊢
      split at hno
      · rename_i q; rw [if_pos q]; exact h
      · rename_i q; rw [if_neg q]; split at hno
        · rename_i q2; rw [if_pos q2]; exact h
        · rename_i q2; rw [if_neg q2]; split at hno
          · rename_i q3; rw [if_pos q3]; simp only [begun_fs]; exact h
          · exact absurd rfl hno
    · omega
    · omega
  rename_i k5
  rw [if_neg k5]
  clear hno
  split
  · exact h
  split
  · exact h
  split
  · unfold up; split
    · exact h
    · refine h.keep fun f hf => ?_
      obtain ⟨g, hg, k, rfl⟩ := upF_keep s.fs a.keep f hf
      exact ⟨_, hg, upOne_nm f k, upOne_pre f k⟩
  · exact h
theorem has_names {fs gs : List Fi} (h : gs.map (·.nm) = fs.map (·.nm)) (n : ByteArray) : has gs n = has fs n := by
  have e : ∀ l : List Fi, has l n = (l.map (·.nm)).any fun x => decide (x = n) := fun l => by unfold has; rw [List.any_map]; rfl
  rw [e, e, h]
theorem pos_names : ∀ {fs gs : List Fi} (_ : gs.map (·.nm) = fs.map (·.nm)) (n : ByteArray), pos gs n = pos fs n
  | [], [], _, _ => rfl
  | [], _ :: _, h, _ => by simp at h
  | _ :: _, [], h, _ => by simp at h
  | f :: r, g :: q, h, n => by
    simp only [List.map_cons, List.cons.injEq] at h
    have ih := pos_names h.2 n
    unfold pos at ih ⊢
    rw [List.takeWhile_cons, List.takeWhile_cons, h.1]
    split
    · simp [ih]
    · rfl

/-- what an act notes -/
theorem inv_note {s : St} (ho : Ok s) {l : Must} (h : Inv s.fs l) (a : Act) (h2 : 2 ≤ a.kind) (h5 : a.kind ≤ 5) (he : (act s a).2 = 0) : Inv (act s a).1.fs (noteS (act s a).1 l a) := by
  have n1 : ¬ a.kind = 1 := by omega
  unfold noteS
  unfold act at he ⊢
  rw [if_neg n1] at he
  simp only [if_neg n1]
  split at he
  · rename_i hk
    simp only [if_pos hk]
    unfold sync at he ⊢
    split at he
    · rename_i q; exact absurd he q
    rename_i q
    simp only [if_neg q]
    split at he
    · simp at he
    rename_i q2
    simp only [if_neg q2]
    obtain ⟨hon, hh⟩ := look_has (by simpa using q)
    obtain ⟨h1, hn⟩ := at_has ho.sorted hh
    have hg : goes s = true := by simpa using q2
    have hnm := set_names (g := setF (at_ s.fs (pos s.fs a.name))) h1 rfl
    have hon2 : (begun { s with fs := s.fs.set (pos s.fs a.name) (setF (at_ s.fs (pos s.fs a.name))) }).on = true := begun_on hg hon
    have hrd : readOf (begun { s with fs := s.fs.set (pos s.fs a.name) (setF (at_ s.fs (pos s.fs a.name))) }) a.name = ⟨(at_ s.fs (pos s.fs a.name)).bs.toArray⟩ := by
      unfold readOf
      rw [if_pos (look_yes hon2 (by rw [begun_fs]; exact (has_names hnm _).trans hh)).1, begun_fs]
      simp only
      rw [pos_names hnm, at_some (List.getElem?_set_self (List.getElem?_eq_some_iff.1 h1).1)]
      rfl
    rw [hrd]
    simp only [begun_fs]
    refine h.set (fun f hf hne => mem_set_of h1 hf (by rw [hn]; exact hne)) ⟨_, mem_set_self h1, hn, ?_⟩
    simp [setF]
  rename_i k2
  simp only [if_neg k2]
  split at he
  · rename_i hk
    simp only [if_pos hk]
    unfold ren at he ⊢
    split at he
    · rename_i q; exact absurd he q
    rename_i q
    simp only [if_neg q]
    split at he
    · simp at he
    rename_i q2
    simp only [if_neg q2]
    split at he
    · simp at he
    rename_i q3
    simp only [if_neg q3, begun_fs]
    obtain ⟨hon, hh⟩ := look_has (by simpa using q)
    obtain ⟨h1, hn⟩ := at_has ho.sorted hh
    obtain ⟨m1, m2⟩ := mem_renF ho.sorted (b := a.to) hh
    have hp := getS_has h (List.mem_of_getElem? h1) ho.sorted hn
    intro x hx
    rcases List.mem_append.1 hx with hx | hx
    · obtain ⟨hx1, hx2⟩ := List.mem_filter.1 hx
      obtain ⟨hx3, hx4⟩ := List.mem_filter.1 hx1
      obtain ⟨f, hf, hfn, hfp⟩ := h x hx3
      exact ⟨f, m2 f hf (by rw [hfn]; simpa using hx4) (by rw [hfn]; simpa using hx2), hfn, hfp⟩
    · simp at hx; subst hx
      exact ⟨_, m1, rfl, hp⟩
  rename_i k3
  simp only [if_neg k3]
  split at he
  · rename_i hk
    simp only [if_pos hk]
    unfold rem at he ⊢
    split at he
    · rename_i q; exact absurd he q
    rename_i q
    simp only [if_neg q]
    split at he
    · simp at he
    rename_i q2
    simp only [if_neg q2, begun_fs]
    obtain ⟨hon, hh⟩ := look_has (by simpa using q)
    obtain ⟨h1, hn⟩ := at_has ho.sorted hh
    exact h.drop fun f hf hne => mem_del_of h1 hf (by rw [hn]; exact hne)
  rename_i k4
  have hk : a.kind = 5 := by omega
  simp only [if_neg k4, if_pos hk] at he ⊢
  unfold cut at he ⊢
  split at he
  · rename_i q; exact absurd he q
  rename_i q
  simp only [if_neg q]
  split at he
  · simp at he
  rename_i q2
  simp only [if_neg q2]
  split at he
  · simp at he
  rename_i q3
  simp only [if_neg q3, begun_fs]
  obtain ⟨hon, hh⟩ := look_has (by simpa using q)
  obtain ⟨h1, hn⟩ := at_has ho.sorted hh
  have hp := getS_has h (List.mem_of_getElem? h1) ho.sorted hn
  refine h.set (fun f hf hne => mem_set_of h1 hf (by rw [hn]; exact hne)) ⟨_, mem_set_self h1, hn, ?_⟩
  have e : ((getS l a.name).extract 0 (clampS (getS l a.name) a.n)).data.toList = (getS l a.name).data.toList.take a.n.toNat := by
    rw [ByteArray.data_extract, Array.toList_extract]
    simp only [List.extract, List.drop_zero, Nat.sub_zero]
    apply List.ext_getElem?
    intro i
    have hsz : (getS l a.name).data.toList.length = (getS l a.name).size := by simp
    rw [List.getElem?_take, List.getElem?_take]
    unfold clampS
    split <;> split
    · rfl
    · omega
    · rw [List.getElem?_eq_none (by omega)]
    · rfl
  show _ <+: _
  rw [e]
  simp only [cutF, List.take_take]
  rw [show min (min (at_ s.fs (pos s.fs a.name)).su a.n.toNat) a.n.toNat = min a.n.toNat (at_ s.fs (pos s.fs a.name)).su by omega, ← List.take_take]
  obtain ⟨r, hr⟩ := hp
  rw [← hr]
  by_cases hl : a.n.toNat ≤ (getS l a.name).data.toList.length
  · rw [List.take_append_of_le_length hl]; exact List.prefix_refl _
  · rw [List.take_of_length_le (by omega), List.take_append, List.take_of_length_le (by omega)]
    exact List.prefix_append _ _
end Go.Proofs.Ytlmhghcoohalaaa.Dk
