/- What is written is read as it was; cut off anywhere it is too short: plain facts on what is read. -/
import Derived.Test.YtbadlcjpddonpaaPkFour
namespace Go.Proofs.Ytbadlcjpddonpaa.Pk
open Go.RowKit
open Va (digs zig putD takeR takeS fst)

/-- a part that is read as it was written -/
def Ok3 (K N : Int) : Prop := (K = 1 ∧ 0 ≤ N) ∨ K = 2 ∨ K = 3 ∨ K = 4
/-- what is read of a part -/
def back (K N : Int) (S : ByteArray) : P3 := (K, if K = 3 then 0 else if K = 4 then (if N = 1 then 1 else 0) else N, if K = 3 then S else ⟨#[]⟩)

theorem ext_from (s : ByteArray) (a : Nat) : (s.extract a s.size).data.toList = s.data.toList.drop a := by
  rw [ByteArray.data_extract, Array.toList_extract]
  simp only [List.extract]
  exact List.take_of_length_le (by simp)
theorem ext_upto (s : ByteArray) (b : Nat) : (s.extract 0 b).data.toList = s.data.toList.take b := by
  rw [ByteArray.data_extract, Array.toList_extract]
  simp [List.extract]
theorem ext_mid (s : ByteArray) (a b : Nat) : (s.extract a (a + b)).data.toList = (s.data.toList.drop a).take b := by
  rw [ByteArray.data_extract, Array.toList_extract]
  simp [List.extract]
theorem of_list {s t : ByteArray} (h : s.data.toList = t.data.toList) : s = t := ByteArray.ext (Array.toList_inj.1 h)

theorem putD_digs {n : Int} (h : 0 ≤ n) : putD n = digs n.toNat := if_pos h

theorem rd_put {K N : Int} {S : ByteArray} (ok : Ok3 K N) (hf : Fits N S) (hs : S.size ≤ 300) {s : ByteArray} {r : List UInt8} (h : s.data.toList = putP K N S ++ r) :
    ∃ s', rdPart K 300 s 0 = (back K N S, s', 0) ∧ s'.data.toList = r := by
  obtain ⟨h0, h1, _⟩ := hf
  rcases ok with ⟨rfl, hn⟩ | rfl | rfl | rfl
  · have hp : putP 1 N S = digs N.toNat := putD_digs hn
    rw [hp] at h
    have ht : takeR 9 s.data.toList = (N.toNat, (digs N.toNat).length, 0) := by rw [h]; exact Va.takeR_put _ (by omega) r
    have hk : tkN s = (N, (digs N.toNat).length, 0) := by unfold tkN; rw [ht]; simp only []; rw [Int.toNat_of_nonneg hn]
    refine ⟨s.extract (digs N.toNat).length s.size, ?_, ?_⟩
    · show (((1 : Int), (rdNum (tkN s) s 0).1, (⟨#[]⟩ : ByteArray)), (rdNum (tkN s) s 0).2) = _
      rw [hk]; rfl
    · rw [ext_from, h, List.drop_left]
  · have hp : putP 2 N S = digs (zig N) := rfl
    rw [hp] at h
    have hk : tkS s = (N, (digs (zig N)).length, 0) := by unfold tkS; rw [h]; exact Va.takeS_put N h0 h1 r
    refine ⟨s.extract (digs (zig N)).length s.size, ?_, ?_⟩
    · show (((2 : Int), (rdNum (tkS s) s 0).1, (⟨#[]⟩ : ByteArray)), (rdNum (tkS s) s 0).2) = _
      rw [hk]; rfl
    · rw [ext_from, h, List.drop_left]
  · have hp : putP 3 N S = digs S.size ++ S.data.toList := by
      show putD (S.size : Nat) ++ _ = _
      rw [putD_digs (by omega)]; rfl
    rw [hp, List.append_assoc] at h
    have ht : takeR 9 s.data.toList = (S.size, (digs S.size).length, 0) := by rw [h]; exact Va.takeR_put _ (by omega) _
    have hl : s.size = (digs S.size).length + (S.size + r.length) := by rw [← byte_len', h, List.length_append, List.length_append, byte_len']
    have hx : rdText 300 s 0 = (s.extract (digs S.size).length ((digs S.size).length + S.size), s.extract ((digs S.size).length + S.size) s.size, 0) := by
      unfold rdText
      rw [ht]
      simp only []
      rw [if_pos trivial, if_pos trivial, if_neg (by omega), if_neg (by omega)]
    have hS : s.extract (digs S.size).length ((digs S.size).length + S.size) = S := of_list (by rw [ext_mid, h, List.drop_left, ← byte_len' S, List.take_left])
    refine ⟨s.extract ((digs S.size).length + S.size) s.size, ?_, ?_⟩
    · show (((3 : Int), (0 : Int), (rdText 300 s 0).1), (rdText 300 s 0).2) = _
      rw [hx, hS]; rfl
    · rw [ext_from, h, ← List.append_assoc]
      rw [show (digs S.size).length + S.size = (digs S.size ++ S.data.toList).length by rw [List.length_append, byte_len']]
      exact List.drop_left
  · have hd : ∀ c : UInt8, s.data.toList = c :: r → (s.extract 1 s.size).data.toList = r := fun c hc => by rw [ext_from, hc]; rfl
    by_cases n1 : N = 1
    · subst n1
      have hc : s.data.toList = 1 :: r := h
      refine ⟨s.extract 1 s.size, ?_, hd _ hc⟩
      show (((4 : Int), if (rdFlag s 0).1 then (1 : Int) else 0, (⟨#[]⟩ : ByteArray)), (rdFlag s 0).2) = _
      rw [rdFlag_one hc rfl]; rfl
    · have hp : putP 4 N S = [0] := by simp [putP, n1]
      have hc : s.data.toList = 0 :: r := by rw [h, hp]; rfl
      refine ⟨s.extract 1 s.size, ?_, hd _ hc⟩
      show (((4 : Int), if (rdFlag s 0).1 then (1 : Int) else 0, (⟨#[]⟩ : ByteArray)), (rdFlag s 0).2) = _
      rw [rdFlag_zero hc rfl]
      simp [back, n1]

/-- digits that are cut off have no end -/
theorem fst_cut {u m : Nat} {s t : List UInt8} (ht : t ≠ []) (h : s ++ t = digs u) (hm : (digs u).length ≤ m) : fst m s = none := by
  have hf := Va.fst_digs u u m [] (Nat.le_refl _) hm
  rw [List.append_nil] at hf
  obtain ⟨_, _, _, h4⟩ := (Va.fst_some_iff m _ _).1 hf
  have hl := congrArg List.length h
  rw [List.length_append] at hl
  have htl : 1 ≤ t.length := by cases t with | nil => exact absurd rfl ht | cons a b => simp
  refine (Va.fst_none_iff m s).2 fun j _ hj => ?_
  have := h4 j (by omega)
  rw [← h, List.getD_eq_getElem?_getD, List.getElem?_append_left hj, ← List.getD_eq_getElem?_getD] at this
  exact this

theorem cut_len {s t l : List UInt8} (ht : t ≠ []) (h : s ++ t = l) : s.length < l.length := by
  have hl := congrArg List.length h
  rw [List.length_append] at hl
  have htl : 1 ≤ t.length := by cases t with | nil => exact absurd rfl ht | cons a b => simp
  omega

theorem rd_cut {K N : Int} {S : ByteArray} (ok : Ok3 K N) (hf : Fits N S) (hs : S.size ≤ 300) {s : ByteArray} {t : List UInt8} (ht : t ≠ []) (h : s.data.toList ++ t = putP K N S) : (rdPart K 300 s 0).2 = (s, 3) := by
  obtain ⟨h0, h1, _⟩ := hf
  rcases ok with ⟨rfl, hn⟩ | rfl | rfl | rfl
  · have hp : putP 1 N S = digs N.toNat := putD_digs hn
    rw [hp] at h
    have hl := cut_len ht h
    have h9 := Va.digs_len9 (u := N.toNat) (by omega)
    have hk : takeR 9 s.data.toList = (0, 0, 3) := Va.takeR_short (fst_cut ht h h9) (by omega)
    show (rdNum (tkN s) s 0).2 = _
    unfold tkN; rw [hk]; rfl
  · have hp : putP 2 N S = digs (zig N) := rfl
    rw [hp] at h
    have hl := cut_len ht h
    have h10 := Va.digs_len10 (Va.zig_lt h0 h1)
    have hk : takeS s.data.toList = (0, 0, 3) := Va.takeS_short (fst_cut ht h h10) (by omega)
    show (rdNum (tkS s) s 0).2 = _
    unfold tkS; rw [hk]; rfl
  · have hp : putP 3 N S = digs S.size ++ S.data.toList := by
      show putD (S.size : Nat) ++ _ = _
      rw [putD_digs (by omega)]; rfl
    rw [hp] at h
    show (rdText 300 s 0).2 = _
    have h9 := Va.digs_len9 (u := S.size) (by omega)
    rcases List.append_eq_append_iff.1 h with ⟨a, ha, hb⟩ | ⟨a, ha, hb⟩
    · -- s ends inside the digits, or with them
      cases a with
      | nil =>
        rw [List.append_nil] at ha
        rw [List.nil_append] at hb
        have hk : takeR 9 s.data.toList = (S.size, (digs S.size).length, 0) := by rw [← ha]; have := Va.takeR_put S.size (by omega) []; rwa [List.append_nil] at this
        have hz : s.size = (digs S.size).length := by rw [← byte_len', ← ha]
        have hS : 1 ≤ S.size := by
          rw [← byte_len' S, ← hb]
          cases t with | nil => exact absurd rfl ht | cons a b => simp
        unfold rdText; rw [hk]; simp only []
        rw [if_pos trivial, if_pos trivial, if_neg (by omega), if_pos (by omega)]
      | cons c a =>
        have hk : takeR 9 s.data.toList = (0, 0, 3) := Va.takeR_short (fst_cut (t := c :: a) (by simp) ha.symm h9) (by have := cut_len (t := c :: a) (by simp) ha.symm; omega)
        unfold rdText; rw [hk]; rfl
    · have hk : takeR 9 s.data.toList = (S.size, (digs S.size).length, 0) := by rw [ha]; exact Va.takeR_put S.size (by omega) a
      have hz : s.size = (digs S.size).length + a.length := by rw [← byte_len', ha, List.length_append]
      have hS : a.length < S.size := by rw [← byte_len' S]; exact cut_len ht hb.symm
      unfold rdText; rw [hk]; simp only []
      rw [if_pos trivial, if_pos trivial, if_neg (by omega), if_pos (by omega)]
  · have hp : (putP 4 N S).length = 1 := by by_cases n1 : N = 1 <;> simp [putP, n1]
    have hl := cut_len ht h
    have hn : s.data.toList = [] := List.eq_nil_of_length_eq_zero (by omega)
    show (rdFlag s 0).2 = _
    rw [rdFlag_nil hn]

theorem rd_err (k most : Int) (s : ByteArray) {e : Nat} (he : e ≠ 0) : (rdPart k most s e).2 = (s, e) := by
  unfold rdPart
  split
  · unfold rdNum; rw [if_neg he]
  · split
    · unfold rdNum; rw [if_neg he]
    · split
      · unfold rdText; rw [if_neg he]
      · split
        · unfold rdFlag; rw [if_neg he]
        · rfl

theorem putP_pos {K N : Int} {S : ByteArray} (ok : Ok3 K N) : 1 ≤ (putP K N S).length := by
  rcases ok with ⟨rfl, hn⟩ | rfl | rfl | rfl
  · show 1 ≤ (putD N).length
    rw [putD_digs hn]; exact Va.digs_pos _
  · exact Va.digs_pos _
  · show 1 ≤ (putD (S.size : Nat) ++ S.data.toList).length
    rw [putD_digs (by omega), List.length_append]
    have := Va.digs_pos ((S.size : Nat) : Int).toNat
    omega
  · by_cases n1 : N = 1 <;> simp [putP, n1]

theorem putAll_drop (ps : List P3) (k : Nat) (h : k < ps.length) : putAll (ps.drop k) = putP (at3 ps k).1 (at3 ps k).2.1 (at3 ps k).2.2 ++ putAll (ps.drop (k + 1)) := by
  unfold putAll at3
  rw [List.drop_eq_getElem_cons h, List.flatMap_cons, List.getElem?_eq_getElem h]
  rfl
theorem putAll_len : ∀ (ps : List P3), (∀ j, j < ps.length → Ok3 (at3 ps j).1 (at3 ps j).2.1) → ps.length ≤ (putAll ps).length
  | [], _ => Nat.zero_le _
  | p :: r, h => by
    have h1 := putAll_len r (fun j hj => h (j + 1) (by simpa using hj))
    have h2 := putP_pos (S := p.2.2) (h 0 (by simp))
    have e : putAll (p :: r) = putP p.1 p.2.1 p.2.2 ++ putAll r := by simp [putAll]
    have e2 : at3 (p :: r) 0 = p := rfl
    rw [e2] at h2
    rw [e, List.length_append, List.length_cons]
    omega

/-- a step of a reader of what was cut off -/
theorem cut_step {K N : Int} {S : ByteArray} (ok : Ok3 K N) (hf : Fits N S) (hs : S.size ≤ 300) {s : ByteArray} {e : Nat} {r : List UInt8}
    (h : e = 3 ∨ e = 0 ∧ ∃ t, t ≠ [] ∧ s.data.toList ++ t = putP K N S ++ r) :
    (rdPart K 300 s e).2.2 = 3 ∨ (rdPart K 300 s e).2.2 = 0 ∧ ∃ t, t ≠ [] ∧ (rdPart K 300 s e).2.1.data.toList ++ t = r := by
  rcases h with rfl | ⟨rfl, t, ht, h⟩
  · left; rw [rd_err K 300 s (by decide)]
  · rcases List.append_eq_append_iff.1 h with ⟨a, ha, hb⟩ | ⟨a, ha, hb⟩
    · cases a with
      | nil =>
        rw [List.append_nil] at ha
        rw [List.nil_append] at hb
        obtain ⟨s', h1, h2⟩ := rd_put ok hf hs (s := s) (r := []) (by rw [List.append_nil]; exact ha.symm)
        right
        rw [h1]
        exact ⟨rfl, t, ht, by simp only []; rw [h2, hb]; rfl⟩
      | cons c a =>
        left
        rw [rd_cut ok hf hs (t := c :: a) (by simp) ha.symm]
    · obtain ⟨s', h1, h2⟩ := rd_put ok hf hs ha
      right
      rw [h1]
      exact ⟨rfl, t, ht, by simp only []; rw [h2, hb]⟩
end Go.Proofs.Ytbadlcjpddonpaa.Pk
