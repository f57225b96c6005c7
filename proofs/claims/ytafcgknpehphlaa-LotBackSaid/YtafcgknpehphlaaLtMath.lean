/- Lots of records, plainly: their bytes, what is taken of bytes, and that what is put is taken as it was; cut off anywhere it is too short. -/
import Derived.Test.YtafcgknpehphlaaCdPut
namespace Go.Proofs.Ytafcgknpehphlaa.Lt
open Go.RowKit
open Pk (tkN tkS rdNum rdText rdFlag byte_len')
open Cd (Rec Fit may recB zeroR rdAll rdRec putD_digs txB flB)
open Va (digs zig putD takeR takeS fst)

set_option linter.unusedSimpArgs false
set_option linter.unusedVariables false

/-! Cut off anywhere. -/
theorem fst_cut {u m : Nat} {s t : List UInt8} (ht : t ≠ []) (h : s ++ t = digs u) (hm : (digs u).length ≤ m) : fst m s = none := by
  have hf := Va.fst_digs u u m [] (Nat.le_refl _) hm
  rw [List.append_nil] at hf
  obtain ⟨_, _, _, h4⟩ := (Va.fst_some_iff m _ _).1 hf
  have hl := congrArg List.length h
  rw [List.length_append] at hl
  have htl : 1 ≤ t.length := by cases t with | nil => exact absurd rfl ht | cons a b => simp
  refine (Va.fst_none_iff m s).2 fun j _ hj => ?_
  have := h4 j (by omega)
  rw [← h, List.getD_eq_getElem?_getD, List.getElem?_append_left hj, ← List.getD_eq_getElem?_getD] at this
  exact this
theorem cut_len {s t l : List UInt8} (ht : t ≠ []) (h : s ++ t = l) : s.length < l.length := by
  have hl := congrArg List.length h
  rw [List.length_append] at hl
  have htl : 1 ≤ t.length := by cases t with | nil => exact absurd rfl ht | cons a b => simp
  omega
theorem cut_split {A B s t : List UInt8} (h : s ++ t = A ++ B) (ht : t ≠ []) : (∃ c, c ≠ [] ∧ s ++ c = A) ∨ (∃ q, s = A ++ q ∧ q ++ t = B) := by
  rcases List.append_eq_append_iff.1 h with ⟨a, ha, hb⟩ | ⟨a, ha, hb⟩
  · cases a with
    | nil =>
      rw [List.append_nil] at ha
      rw [List.nil_append] at hb
      exact .inr ⟨[], by rw [List.append_nil, ha], by rw [List.nil_append, hb]⟩
    | cons c a => exact .inl ⟨c :: a, by simp, ha.symm⟩
  · exact .inr ⟨a, ha, hb.symm⟩
theorem num_cut {N : Int} (hn : 0 ≤ N) (h1 : N ≤ 9223372036854775807) {s : ByteArray} {t : List UInt8} (ht : t ≠ []) (h : s.data.toList ++ t = putD N) : rdNum (tkN s) s 0 = (0, s, 3) := by
  rw [putD_digs hn] at h
  have hl := cut_len ht h
  have h9 := Va.digs_len9 (u := N.toNat) (by omega)
  have hk : takeR 9 s.data.toList = (0, 0, 3) := Va.takeR_short (fst_cut ht h h9) (by omega)
  unfold tkN; rw [hk]; rfl
theorem sig_cut {N : Int} (h0 : -9223372036854775808 ≤ N) (h1 : N ≤ 9223372036854775807) {s : ByteArray} {t : List UInt8} (ht : t ≠ []) (h : s.data.toList ++ t = digs (zig N)) : rdNum (tkS s) s 0 = (0, s, 3) := by
  have hl := cut_len ht h
  have h10 := Va.digs_len10 (Va.zig_lt h0 h1)
  have hk : takeS s.data.toList = (0, 0, 3) := Va.takeS_short (fst_cut ht h h10) (by omega)
  unfold tkS; rw [hk]; rfl
theorem text_cut {S : ByteArray} (hs : S.size ≤ 24) {s : ByteArray} {t : List UInt8} (ht : t ≠ []) (h : s.data.toList ++ t = txB S) : rdText 24 s 0 = (⟨#[]⟩, s, 3) := by
  have hp : txB S = digs S.size ++ S.data.toList := by
    show putD (S.size : Nat) ++ _ = _
    rw [putD_digs (by omega)]; rfl
  rw [hp] at h
  have h9 := Va.digs_len9 (u := S.size) (by omega)
  rcases cut_split h ht with ⟨c, hc, hd⟩ | ⟨q, hq, hr⟩
  · have hk : takeR 9 s.data.toList = (0, 0, 3) := Va.takeR_short (fst_cut hc hd h9) (by have := cut_len hc hd; omega)
    unfold rdText; rw [hk]; rfl
  · have hk : takeR 9 s.data.toList = (S.size, (digs S.size).length, 0) := by rw [hq]; exact Va.takeR_put S.size (by omega) q
    have hz : s.size = (digs S.size).length + q.length := by rw [← byte_len', hq, List.length_append]
    have hS : q.length < S.size := by rw [← byte_len' S]; exact cut_len ht hr
    unfold rdText; rw [hk]; simp only []
    rw [if_pos trivial, if_pos trivial, if_neg (by omega), if_pos (by omega)]
theorem flag_cut {b : Bool} {s : ByteArray} {t : List UInt8} (ht : t ≠ []) (h : s.data.toList ++ t = flB b) : rdFlag s 0 = (false, s, 3) := by
  have hl := cut_len ht h
  have hn : s.data.toList = [] := List.eq_nil_of_length_eq_zero (by have : (flB b).length = 1 := rfl; omega)
  exact Pk.rdFlag_nil hn
/-- an error stays -/
theorem num_err (t : Int × Nat × Nat) (s : ByteArray) {e : Nat} (he : e ≠ 0) : rdNum t s e = (0, s, e) := by unfold rdNum; rw [if_neg he]
theorem text_err (m : Int) (s : ByteArray) {e : Nat} (he : e ≠ 0) : rdText m s e = (⟨#[]⟩, s, e) := by unfold rdText; rw [if_neg he]
theorem flag_err (s : ByteArray) {e : Nat} (he : e ≠ 0) : rdFlag s e = (false, s, e) := by unfold rdFlag; rw [if_neg he]
theorem all_err (s : ByteArray) {e : Nat} (he : e ≠ 0) : (rdAll s e).2 = (s, e) := by
  unfold rdAll
  simp only [num_err _ _ he, text_err _ _ he, flag_err _ he]
theorem rec_err (s : ByteArray) {e : Nat} (he : e ≠ 0) : rdRec s e = (zeroR, s, e) := by
  have h := all_err s he
  unfold rdRec
  rw [h]
  exact if_neg he
theorem ne3 : (3 : Nat) ≠ 0 := by decide
/-- a record's bytes, cut off -/
theorem all_cut {x : Rec} (hf : Fit x) (hm : may x = 0) {s : ByteArray} {t : List UInt8} (ht : t ≠ []) (h : s.data.toList ++ t = recB x) : (rdAll s 0).2.2 = 3 := by
  obtain ⟨m0, m1, m2, m3, m4, m5, m6, m7⟩ := (Cd.may_iff x).1 hm
  unfold recB at h
  simp only [List.append_assoc] at h
  have e := @num_err
  rcases cut_split h ht with ⟨c, hc, g⟩ | ⟨q, hq, h⟩
  · unfold rdAll; simp only [num_cut (by omega) hf.tr hc g, num_err _ _ ne3, text_err _ _ ne3, flag_err _ ne3]
  obtain ⟨s1, k0, r0⟩ := Cd.rd_num (by omega) hf.tr hq
  rw [← r0] at h
  rcases cut_split h ht with ⟨c, hc, g⟩ | ⟨q, hq, h⟩
  · unfold rdAll; simp only [k0, num_cut (by omega) hf.id hc g, num_err _ _ ne3, text_err _ _ ne3, flag_err _ ne3]
  obtain ⟨s2, k1, r1⟩ := Cd.rd_num (by omega) hf.id hq
  rw [← r1] at h
  rcases cut_split h ht with ⟨c, hc, g⟩ | ⟨q, hq, h⟩
  · unfold rdAll; simp only [k0, k1, num_cut (by omega) hf.pa hc g, num_err _ _ ne3, text_err _ _ ne3, flag_err _ ne3]
  obtain ⟨s3, k2, r2⟩ := Cd.rd_num (by omega) hf.pa hq
  rw [← r2] at h
  rcases cut_split h ht with ⟨c, hc, g⟩ | ⟨q, hq, h⟩
  · unfold rdAll; simp only [k0, k1, k2, num_cut (by omega) hf.rv hc g, num_err _ _ ne3, text_err _ _ ne3, flag_err _ ne3]
  obtain ⟨s4, k3, r3⟩ := Cd.rd_num (by omega) hf.rv hq
  rw [← r3] at h
  rcases cut_split h ht with ⟨c, hc, g⟩ | ⟨q, hq, h⟩
  · unfold rdAll; simp only [k0, k1, k2, k3, text_cut (Cd.nameB_size m4).2 hc g, num_err _ _ ne3, text_err _ _ ne3, flag_err _ ne3]
  obtain ⟨s5, k4, r4⟩ := Cd.rd_text (Cd.nameB_size m4).2 hq
  rw [← r4] at h
  rcases cut_split h ht with ⟨c, hc, g⟩ | ⟨q, hq, h⟩
  · unfold rdAll; simp only [k0, k1, k2, k3, k4, text_cut (Cd.nameB_size m5).2 hc g, num_err _ _ ne3, text_err _ _ ne3, flag_err _ ne3]
  obtain ⟨s6, k5, r5⟩ := Cd.rd_text (Cd.nameB_size m5).2 hq
  rw [← r5] at h
  rcases cut_split h ht with ⟨c, hc, g⟩ | ⟨q, hq, h⟩
  · unfold rdAll; simp only [k0, k1, k2, k3, k4, k5, sig_cut hf.st0 hf.st1 hc g, num_err _ _ ne3, flag_err _ ne3]
  obtain ⟨s7, k6, r6⟩ := Cd.rd_sig hf.st0 hf.st1 hq
  rw [← r6] at h
  rcases cut_split h ht with ⟨c, hc, g⟩ | ⟨q, hq, h⟩
  · unfold rdAll; simp only [k0, k1, k2, k3, k4, k5, k6, sig_cut hf.du0 hf.du1 hc g, flag_err _ ne3]
  obtain ⟨s8, k7, r7⟩ := Cd.rd_sig hf.du0 hf.du1 hq
  rw [← r7] at h
  unfold rdAll; simp only [k0, k1, k2, k3, k4, k5, k6, k7, flag_cut ht h]

/-! What is put is read as it was, with more behind it. -/
theorem all_more {x : Rec} (hf : Fit x) (hm : may x = 0) {s : ByteArray} {r : List UInt8} (h : s.data.toList = recB x ++ r) : ∃ s9, rdAll s 0 = (x, s9, 0) ∧ s9.data.toList = r := by
  obtain ⟨m0, m1, m2, m3, m4, m5, m6, m7⟩ := (Cd.may_iff x).1 hm
  unfold recB at h
  simp only [List.append_assoc] at h
  obtain ⟨s1, h0, r0⟩ := Cd.rd_num (by omega) hf.tr h
  obtain ⟨s2, h1, r1⟩ := Cd.rd_num (by omega) hf.id r0
  obtain ⟨s3, h2, r2⟩ := Cd.rd_num (by omega) hf.pa r1
  obtain ⟨s4, h3, r3⟩ := Cd.rd_num (by omega) hf.rv r2
  obtain ⟨s5, h4, r4⟩ := Cd.rd_text (Cd.nameB_size m4).2 r3
  obtain ⟨s6, h5, r5⟩ := Cd.rd_text (Cd.nameB_size m5).2 r4
  obtain ⟨s7, h6, r6⟩ := Cd.rd_sig hf.st0 hf.st1 r5
  obtain ⟨s8, h7, r7⟩ := Cd.rd_sig hf.du0 hf.du1 r6
  obtain ⟨s9, h8, r8⟩ := Cd.rd_flag r7
  refine ⟨s9, ?_, r8⟩
  unfold rdAll
  simp only [h0, h1, h2, h3, h4, h5, h6, h7, h8]

/-! Lots. -/
/-- records that may be -/
def Good (l : List Rec) : Prop := ∀ x ∈ l, Fit x ∧ may x = 0
/-- the parts of records one behind the other -/
def recsB (l : List Rec) : List UInt8 := l.flatMap recB
theorem recsB_snoc (l : List Rec) (x : Rec) : recsB (l ++ [x]) = recsB l ++ recB x := by unfold recsB; rw [List.flatMap_append]; simp
/-- the bytes of a lot -/
def lotB (l : List Rec) : List UInt8 := putD (l.length : Nat) ++ recsB l
theorem recsB_len : ∀ {l : List Rec}, (∀ x ∈ l, Fit x) → (recsB l).length ≤ 2100 * l.length
  | [], _ => Nat.le_refl _
  | x :: r, h => by
    have h1 := Cd.recB_len (h x (List.mem_cons_self ..))
    have h2 := recsB_len (l := r) (fun y hy => h y (List.mem_cons_of_mem _ hy))
    show (recB x ++ recsB r).length ≤ 2100 * (r.length + 1)
    rw [List.length_append]; omega
/-- what Put tells: the bytes, and the error -/
def putL (l : List Rec) : List UInt8 × Nat := if 256 < l.length then ([], 12) else if l.all (fun x => may x == 0) then (lotB l, 0) else ([], 1)
/-- records that are read one behind the other -/
def rds : Nat → ByteArray → Nat → List Rec × ByteArray × Nat
  | 0, s, e => ([], s, e)
  | n + 1, s, e => ((rdRec s e).1 :: (rds n (rdRec s e).2.1 (rdRec s e).2.2).1, (rds n (rdRec s e).2.1 (rdRec s e).2.2).2)
theorem rds_snoc : ∀ (n : Nat) (s : ByteArray) (e : Nat), rds (n + 1) s e = ((rds n s e).1 ++ [(rdRec (rds n s e).2.1 (rds n s e).2.2).1], (rdRec (rds n s e).2.1 (rds n s e).2.2).2)
  | 0, _, _ => by simp only [rds, List.nil_append]
  | n + 1, s, e => by
    have ih := rds_snoc n (rdRec s e).2.1 (rdRec s e).2.2
    have h : rds (n + 1 + 1) s e = ((rdRec s e).1 :: (rds (n + 1) (rdRec s e).2.1 (rdRec s e).2.2).1, (rds (n + 1) (rdRec s e).2.1 (rdRec s e).2.2).2) := by simp only [rds]
    rw [h, ih]
    simp only [rds, List.cons_append]
theorem rds_len : ∀ (n : Nat) (s : ByteArray) (e : Nat), (rds n s e).1.length = n
  | 0, _, _ => rfl
  | n + 1, s, e => by show (rds n _ _).1.length + 1 = n + 1; rw [rds_len n]
theorem rds_err : ∀ (n : Nat) (s : ByteArray) {e : Nat}, e ≠ 0 → rds n s e = (List.replicate n zeroR, s, e)
  | 0, _, _, _ => rfl
  | n + 1, s, e, he => by
    show ((rdRec s e).1 :: (rds n (rdRec s e).2.1 (rdRec s e).2.2).1, (rds n (rdRec s e).2.1 (rdRec s e).2.2).2) = _
    rw [rec_err s he]
    show (zeroR :: (rds n s e).1, (rds n s e).2) = _
    rw [rds_err n s he]
    rfl
theorem rds_put : ∀ {l : List Rec} {s : ByteArray} {r : List UInt8}, Good l → s.data.toList = recsB l ++ r → ∃ s', rds l.length s 0 = (l, s', 0) ∧ s'.data.toList = r
  | [], s, r, _, h => ⟨s, rfl, h⟩
  | x :: l, s, r, g, h => by
    have h : s.data.toList = recB x ++ (recsB l ++ r) := by rw [h]; show recB x ++ recsB l ++ r = _; rw [List.append_assoc]
    obtain ⟨hf, hm⟩ := g x (List.mem_cons_self ..)
    obtain ⟨s1, h1, r1⟩ := all_more hf hm h
    obtain ⟨s2, h2, r2⟩ := rds_put (l := l) (fun y hy => g y (List.mem_cons_of_mem _ hy)) r1
    refine ⟨s2, ?_, r2⟩
    show ((rdRec s 0).1 :: (rds l.length (rdRec s 0).2.1 (rdRec s 0).2.2).1, (rds l.length (rdRec s 0).2.1 (rdRec s 0).2.2).2) = _
    rw [Cd.rdRec_ok h1]
    show (x :: (rds l.length s1 0).1, (rds l.length s1 0).2) = _
    rw [h2]
theorem rds_cut : ∀ {l : List Rec} {s : ByteArray} {t : List UInt8}, Good l → t ≠ [] → s.data.toList ++ t = recsB l → (rds l.length s 0).2.2 = 3
  | [], s, t, _, ht, h => by
    have h : s.data.toList ++ t = [] := h
    exact absurd (List.append_eq_nil_iff.1 h).2 ht
  | x :: l, s, t, g, ht, h => by
    have h : s.data.toList ++ t = recB x ++ recsB l := h
    obtain ⟨hf, hm⟩ := g x (List.mem_cons_self ..)
    show (rds l.length (rdRec s 0).2.1 (rdRec s 0).2.2).2.2 = 3
    rcases cut_split h ht with ⟨c, hc, k⟩ | ⟨q, hq, k⟩
    · obtain ⟨⟨y, s9, e9⟩, h9⟩ : ∃ z, rdAll s 0 = z := ⟨_, rfl⟩
      have h3 := all_cut hf hm hc k
      rw [h9] at h3
      obtain rfl : e9 = 3 := h3
      rw [Cd.rdRec_bad h9 ne3, rds_err _ _ ne3]
    · obtain ⟨s1, h1, r1⟩ := all_more hf hm hq
      rw [Cd.rdRec_ok h1]
      exact rds_cut (l := l) (fun y hy => g y (List.mem_cons_of_mem _ hy)) ht (by rw [r1]; exact k)
theorem rds_back : ∀ {n : Nat} {l : List Rec} {s s' : ByteArray} {e : Nat}, rds n s e = (l, s', 0) → e = 0 ∧ s.data.toList = recsB l ++ s'.data.toList ∧ ∀ x ∈ l, Fit x
  | 0, l, s, s', e, h => by
    have h : (([] : List Rec), s, e) = (l, s', 0) := h
    injection h with h1 h2
    injection h2 with h2 h3
    subst h1; subst h2; subst h3
    exact ⟨rfl, rfl, fun x hx => by cases hx⟩
  | n + 1, l, s, s', e, h => by
    by_cases he : e = 0
    · subst he
      have h : ((rdRec s 0).1 :: (rds n (rdRec s 0).2.1 (rdRec s 0).2.2).1, (rds n (rdRec s 0).2.1 (rdRec s 0).2.2).2) = (l, s', 0) := h
      obtain ⟨⟨y, s9, e9⟩, h9⟩ : ∃ z, rdAll s 0 = z := ⟨_, rfl⟩
      by_cases h0 : e9 = 0
      · subst h0
        rw [Cd.rdRec_ok h9] at h
        obtain ⟨⟨l2, s2, e2⟩, hr⟩ : ∃ z, rds n s9 0 = z := ⟨_, rfl⟩
        have h : (y :: (rds n s9 0).1, (rds n s9 0).2) = (l, s', 0) := h
        rw [hr] at h
        injection h with h1 h2
        injection h2 with h2 h3
        subst h1; subst h2
        have h3 : e2 = 0 := h3
        subst h3
        obtain ⟨_, k1, k2⟩ := rds_back hr
        obtain ⟨b1, b2⟩ := Cd.all_back h9
        refine ⟨rfl, ?_, fun x hx => ?_⟩
        · rw [b1, k1]; show _ = recB y ++ recsB l2 ++ _; rw [List.append_assoc]
        · rcases List.mem_cons.1 hx with rfl | hx
          · exact b2
          · exact k2 x hx
      · rw [Cd.rdRec_bad h9 h0] at h
        have h : (zeroR :: (rds n s9 e9).1, (rds n s9 e9).2) = (l, s', 0) := h
        rw [rds_err n s9 h0] at h
        injection h with _ h2
        injection h2 with _ h3
        exact absurd h3 h0
    · rw [rds_err _ _ he] at h
      injection h with _ h2
      injection h2 with _ h3
      exact absurd h3 he
/-- what Take tells: the records, and the error -/
def takeL (s : ByteArray) : List Rec × Nat :=
  if (rdNum (tkN s) s 0).2.2 = 0 ∧ 256 < (rdNum (tkN s) s 0).1 then ([], 12)
  else
    let b := rds (rdNum (tkN s) s 0).1.toNat (rdNum (tkN s) s 0).2.1 (rdNum (tkN s) s 0).2.2
    if Pk.endE b.2.1 b.2.2 ≠ 0 then ([], Pk.endE b.2.1 b.2.2) else if b.1.all (fun x => may x == 0) then (b.1, 0) else ([], 1)
theorem all_good {l : List Rec} (g : Good l) : l.all (fun x => may x == 0) = true := by
  rw [List.all_eq_true]
  intro x hx
  rw [(g x hx).2]; rfl
theorem putL_good {l : List Rec} (g : Good l) (h : l.length ≤ 256) : putL l = (lotB l, 0) := by
  unfold putL
  rw [if_neg (by omega), if_pos (all_good g)]
theorem take_put {l : List Rec} (g : Good l) (hl : l.length ≤ 256) {s : ByteArray} (h : s.data.toList = lotB l) : takeL s = (l, 0) := by
  obtain ⟨s1, h1, r1⟩ := Cd.rd_num (N := (l.length : Nat)) (by omega) (by omega) h
  obtain ⟨s2, h2, r2⟩ := rds_put g (r := []) (by rw [r1, List.append_nil])
  unfold takeL
  rw [h1]
  show (if (0 : Nat) = 0 ∧ (256 : Int) < (l.length : Nat) then _ else _) = _
  rw [if_neg (by omega)]
  show (let b := rds (((l.length : Nat) : Int)).toNat s1 0; if Pk.endE b.2.1 b.2.2 ≠ 0 then (([] : List Rec), Pk.endE b.2.1 b.2.2) else if b.1.all (fun x => may x == 0) then (b.1, 0) else ([], 1)) = _
  rw [show (((l.length : Nat) : Int)).toNat = l.length by omega, h2]
  show (if Pk.endE s2 0 ≠ 0 then (([] : List Rec), Pk.endE s2 0) else if l.all (fun x => may x == 0) then (l, 0) else ([], 1)) = _
  rw [Cd.endE_nil r2, if_neg (by simp), if_pos (all_good g)]
theorem endE_err (s : ByteArray) {e : Nat} (he : e ≠ 0) : Pk.endE s e = e := if_neg (fun h => he h.1)
theorem take_cut {l : List Rec} (g : Good l) (hl : l.length ≤ 256) {s : ByteArray} {t : List UInt8} (ht : t ≠ []) (h : s.data.toList ++ t = lotB l) : takeL s = ([], 3) := by
  unfold takeL
  rcases cut_split h ht with ⟨c, hc, k⟩ | ⟨q, hq, k⟩
  · rw [num_cut (by omega) (by omega) hc k]
    show (if (3 : Nat) = 0 ∧ (256 : Int) < 0 then _ else if Pk.endE s 3 ≠ 0 then (([] : List Rec), Pk.endE s 3) else _) = _
    rw [if_neg (by decide), endE_err s ne3, if_pos ne3]
  · obtain ⟨s1, h1, r1⟩ := Cd.rd_num (N := (l.length : Nat)) (by omega) (by omega) hq
    have h3 := rds_cut g ht (s := s1) (by rw [r1]; exact k)
    rw [h1]
    show (if (0 : Nat) = 0 ∧ (256 : Int) < (l.length : Nat) then _ else _) = _
    rw [if_neg (by omega)]
    show (let b := rds (((l.length : Nat) : Int)).toNat s1 0; if Pk.endE b.2.1 b.2.2 ≠ 0 then (([] : List Rec), Pk.endE b.2.1 b.2.2) else if b.1.all (fun x => may x == 0) then (b.1, 0) else ([], 1)) = _
    rw [show (((l.length : Nat) : Int)).toNat = l.length by omega]
    show (if Pk.endE (rds l.length s1 0).2.1 (rds l.length s1 0).2.2 ≠ 0 then (([] : List Rec), Pk.endE (rds l.length s1 0).2.1 (rds l.length s1 0).2.2) else _) = _
    rw [h3, endE_err _ ne3, if_pos ne3]
/-- what was taken was put so; or there is an error, and none -/
theorem take_back (s : ByteArray) : (∃ l, takeL s = (l, 0) ∧ Good l ∧ l.length ≤ 256 ∧ s.data.toList = lotB l) ∨ (∃ e, e ≠ 0 ∧ takeL s = ([], e)) := by
  obtain ⟨⟨n, s1, e1⟩, h1⟩ : ∃ z, rdNum (tkN s) s 0 = z := ⟨_, rfl⟩
  unfold takeL
  rw [h1]
  show (∃ l, (if e1 = 0 ∧ 256 < n then (([] : List Rec), 12) else (let b := rds n.toNat s1 e1; if Pk.endE b.2.1 b.2.2 ≠ 0 then (([] : List Rec), Pk.endE b.2.1 b.2.2) else if b.1.all (fun x => may x == 0) then (b.1, 0) else ([], 1))) = (l, 0) ∧ _) ∨ (∃ e, e ≠ 0 ∧ (if e1 = 0 ∧ 256 < n then (([] : List Rec), 12) else (let b := rds n.toNat s1 e1; if Pk.endE b.2.1 b.2.2 ≠ 0 then (([] : List Rec), Pk.endE b.2.1 b.2.2) else if b.1.all (fun x => may x == 0) then (b.1, 0) else ([], 1))) = ([], e))
  by_cases hb : e1 = 0 ∧ 256 < n
  · right
    exact ⟨12, by decide, if_pos hb⟩
  rw [if_neg hb]
  obtain ⟨⟨l, s2, e2⟩, h2⟩ : ∃ z, rds n.toNat s1 e1 = z := ⟨_, rfl⟩
  rw [h2]
  show (∃ l', (if Pk.endE s2 e2 ≠ 0 then (([] : List Rec), Pk.endE s2 e2) else if l.all (fun x => may x == 0) then (l, 0) else ([], 1)) = (l', 0) ∧ _) ∨ (∃ e, e ≠ 0 ∧ (if Pk.endE s2 e2 ≠ 0 then (([] : List Rec), Pk.endE s2 e2) else if l.all (fun x => may x == 0) then (l, 0) else ([], 1)) = ([], e))
  by_cases he : Pk.endE s2 e2 = 0
  · rw [if_neg (by simp [he])]
    obtain ⟨h3, h4⟩ := Cd.endE_zero he
    subst h3
    obtain ⟨h5, h6, h7⟩ := rds_back h2
    subst h5
    obtain ⟨_, k1, k2, _⟩ := Cd.num_back h1
    have hn := rds_len n.toNat s1 0
    rw [h2] at hn
    have hn : l.length = n.toNat := hn
    by_cases ha : l.all (fun x => may x == 0) = true
    · left
      rw [if_pos ha]
      rw [List.all_eq_true] at ha
      refine ⟨l, rfl, fun x hx => ⟨h7 x hx, by simpa using ha x hx⟩, by omega, ?_⟩
      rw [k1, h6, h4, List.append_nil]
      unfold lotB
      rw [show ((l.length : Nat) : Int) = n by omega]
    · right
      rw [if_neg ha]
      exact ⟨1, by decide, rfl⟩
  · right
    rw [if_pos (by simpa using he)]
    exact ⟨_, he, rfl⟩

/-! Lots that are cut. -/
/-- the j-th lot of n records -/
def chunk (n : Nat) (l : List Rec) (j : Nat) : List Rec := (l.drop (j * n)).take n
/-- how many lots there are -/
def chunks (n : Nat) (l : List Rec) : Nat := (l.length + n - 1) / n
theorem chunk_join (n : Nat) (l : List Rec) : ∀ j, ((List.range j).map (chunk n l)).flatten = l.take (j * n)
  | 0 => by simp
  | j + 1 => by
    rw [List.range_succ, List.map_append, List.flatten_append, chunk_join n l j]
    simp only [List.map_cons, List.map_nil, List.flatten_cons, List.flatten_nil, List.append_nil]
    unfold chunk
    rw [Nat.add_mul, Nat.one_mul, List.take_add]
end Go.Proofs.Ytafcgknpehphlaa.Lt
