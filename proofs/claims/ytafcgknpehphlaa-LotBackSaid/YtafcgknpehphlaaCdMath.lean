/- Records as bytes, plainly: which may be, the bytes of one, what is read of bytes; what is put is taken as it was, and what is taken was put so. -/
import Derived.Test.YtafcgknpehphlaaPkRest
import Derived.Test.YtafcgknpehphlaaPkRead
import Derived.Test.YtafcgknpehphlaaPkWrite
namespace Go.Proofs.Ytafcgknpehphlaa.Cd
open Go.RowKit
open Va (digs zig putD takeR takeS fst)
open Pk (rdNum rdText rdFlag tkN tkS byte_len')

/-- a record -/
structure Rec where
  tr : Int
  id : Int
  pa : Int
  rv : Int
  sv : ByteArray
  op : ByteArray
  st : Int
  du : Int
  gn : Bool
def zeroR : Rec := ⟨0, 0, 0, 0, ⟨#[]⟩, ⟨#[]⟩, 0, 0, false⟩
/-- a record as a value -/
def recV (x : Rec) : Value := .agg #[.int .i64 x.tr, .int .i64 x.id, .int .i64 x.pa, .int .i64 x.rv, .string x.sv, .string x.op, .int .i64 x.st, .int .i64 x.du, .bool x.gn]

/-- a letter of a name -/
def let_ (c : UInt8) : Bool := decide (33 ≤ c.toNat) && decide (c.toNat ≤ 126)
/-- is it a name? -/
def nameB (s : ByteArray) : Bool := decide (1 ≤ s.size) && decide (s.size ≤ 24) && s.data.toList.all let_

/-- what a record may not be: an error's number -/
def may (x : Rec) : Nat :=
  if 1 ≤ x.tr ∧ 1 ≤ x.id ∧ 0 ≤ x.pa ∧ 0 ≤ x.rv ∧ nameB x.sv = true ∧ nameB x.op = true ∧ -4611686018427387904 ≤ x.st ∧ x.st ≤ 4611686018427387903 then 0 else 1
theorem may_01 (x : Rec) : may x = 0 ∨ may x = 1 := by unfold may; split <;> simp
theorem may_iff (x : Rec) : may x = 0 ↔ (1 ≤ x.tr ∧ 1 ≤ x.id ∧ 0 ≤ x.pa ∧ 0 ≤ x.rv ∧ nameB x.sv = true ∧ nameB x.op = true ∧ -4611686018427387904 ≤ x.st ∧ x.st ≤ 4611686018427387903) := by
  unfold may; split <;> simp_all

/-- numbers of 64 bits, and names that are not endless -/
structure Fit (x : Rec) : Prop where
  tr : x.tr ≤ 9223372036854775807
  id : x.id ≤ 9223372036854775807
  pa : x.pa ≤ 9223372036854775807
  rv : x.rv ≤ 9223372036854775807
  sv : x.sv.size ≤ 1000
  op : x.op.size ≤ 1000
  st0 : -9223372036854775808 ≤ x.st
  st1 : x.st ≤ 9223372036854775807
  du0 : -9223372036854775808 ≤ x.du
  du1 : x.du ≤ 9223372036854775807

/-- the bytes of a text as a part -/
def txB (s : ByteArray) : List UInt8 := putD (s.size : Nat) ++ s.data.toList
def flB (b : Bool) : List UInt8 := [if b then 1 else 0]
/-- a record's bytes -/
def recB (x : Rec) : List UInt8 :=
  putD x.tr ++ putD x.id ++ putD x.pa ++ putD x.rv ++ txB x.sv ++ txB x.op ++ digs (zig x.st) ++ digs (zig x.du) ++ flB x.gn

theorem txB_len {s : ByteArray} (h : s.size ≤ 1000) : (txB s).length ≤ 1010 := by
  have := Pk.putD_len (n := ((s.size : Nat) : Int)) (by omega)
  unfold txB
  rw [List.length_append, byte_len']; omega
theorem recB_len {x : Rec} (h : Fit x) : (recB x).length ≤ 2100 := by
  have h1 := Pk.putD_len h.tr
  have h2 := Pk.putD_len h.id
  have h3 := Pk.putD_len h.pa
  have h4 := Pk.putD_len h.rv
  have h5 := txB_len h.sv
  have h6 := txB_len h.op
  have h7 := Va.digs_len10 (Va.zig_lt h.st0 h.st1)
  have h8 := Va.digs_len10 (Va.zig_lt h.du0 h.du1)
  unfold recB flB
  simp only [List.length_append, List.length_singleton]
  omega

/-- a record's parts, read one behind the other -/
def rdAll (s : ByteArray) (e : Nat) : Rec × ByteArray × Nat :=
  let a0 := rdNum (tkN s) s e
  let a1 := rdNum (tkN a0.2.1) a0.2.1 a0.2.2
  let a2 := rdNum (tkN a1.2.1) a1.2.1 a1.2.2
  let a3 := rdNum (tkN a2.2.1) a2.2.1 a2.2.2
  let a4 := rdText 24 a3.2.1 a3.2.2
  let a5 := rdText 24 a4.2.1 a4.2.2
  let a6 := rdNum (tkS a5.2.1) a5.2.1 a5.2.2
  let a7 := rdNum (tkS a6.2.1) a6.2.1 a6.2.2
  let a8 := rdFlag a7.2.1 a7.2.2
  (⟨a0.1, a1.1, a2.1, a3.1, a4.1, a5.1, a6.1, a7.1, a8.1⟩, a8.2)
/-- what stands when a record's parts are read -/
structure Way (s : ByteArray) (e : Nat) (x : Rec) (s1 : ByteArray) (e1 : Nat) (s2 : ByteArray) (e2 : Nat) (s3 : ByteArray) (e3 : Nat) (s4 : ByteArray) (e4 : Nat) (s5 : ByteArray) (e5 : Nat) (s6 : ByteArray) (e6 : Nat) (s7 : ByteArray) (e7 : Nat) (s8 : ByteArray) (e8 : Nat) (s9 : ByteArray) (e9 : Nat) : Prop where
  a0 : rdNum (tkN s) s e = (x.tr, s1, e1)
  a1 : rdNum (tkN s1) s1 e1 = (x.id, s2, e2)
  a2 : rdNum (tkN s2) s2 e2 = (x.pa, s3, e3)
  a3 : rdNum (tkN s3) s3 e3 = (x.rv, s4, e4)
  a4 : rdText 24 s4 e4 = (x.sv, s5, e5)
  a5 : rdText 24 s5 e5 = (x.op, s6, e6)
  a6 : rdNum (tkS s6) s6 e6 = (x.st, s7, e7)
  a7 : rdNum (tkS s7) s7 e7 = (x.du, s8, e8)
  a8 : rdFlag s8 e8 = (x.gn, s9, e9)
  z1 : s1.size ≤ s.size
  z2 : s2.size ≤ s.size
  z3 : s3.size ≤ s.size
  z4 : s4.size ≤ s.size
  z5 : s5.size ≤ s.size
  z6 : s6.size ≤ s.size
  z7 : s7.size ≤ s.size
  z8 : s8.size ≤ s.size
  z9 : s9.size ≤ s.size

theorem ext_size (s : ByteArray) (a : Nat) : (s.extract a s.size).size ≤ s.size := by rw [ByteArray.size_extract]; omega
theorem rdNum_size (t : Int × Nat × Nat) (s : ByteArray) (e : Nat) : (rdNum t s e).2.1.size ≤ s.size := by
  unfold rdNum
  split
  · split
    · exact ext_size s _
    · exact Nat.le_refl _
  · exact Nat.le_refl _
theorem rdText_size (most : Int) (s : ByteArray) (e : Nat) : (rdText most s e).2.1.size ≤ s.size := by
  unfold rdText
  split
  · split
    · split
      · exact Nat.le_refl _
      · split
        · exact Nat.le_refl _
        · exact ext_size s _
    · exact Nat.le_refl _
  · exact Nat.le_refl _
theorem rdFlag_size (s : ByteArray) (e : Nat) : (rdFlag s e).2.1.size ≤ s.size := by
  unfold rdFlag
  split
  · split
    · exact Nat.le_refl _
    · split
      · exact ext_size s _
      · split
        · exact ext_size s _
        · exact Nat.le_refl _
  · exact Nat.le_refl _

theorem way (s : ByteArray) (e : Nat) : ∃ x s1 e1 s2 e2 s3 e3 s4 e4 s5 e5 s6 e6 s7 e7 s8 e8 s9 e9, Way s e x s1 e1 s2 e2 s3 e3 s4 e4 s5 e5 s6 e6 s7 e7 s8 e8 s9 e9 ∧ rdAll s e = (x, s9, e9) := by
  obtain ⟨⟨v0, s1, e1⟩, h0⟩ : ∃ t, rdNum (tkN s) s e = t := ⟨_, rfl⟩
  obtain ⟨⟨v1, s2, e2⟩, h1⟩ : ∃ t, rdNum (tkN s1) s1 e1 = t := ⟨_, rfl⟩
  obtain ⟨⟨v2, s3, e3⟩, h2⟩ : ∃ t, rdNum (tkN s2) s2 e2 = t := ⟨_, rfl⟩
  obtain ⟨⟨v3, s4, e4⟩, h3⟩ : ∃ t, rdNum (tkN s3) s3 e3 = t := ⟨_, rfl⟩
  obtain ⟨⟨v4, s5, e5⟩, h4⟩ : ∃ t, rdText 24 s4 e4 = t := ⟨_, rfl⟩
  obtain ⟨⟨v5, s6, e6⟩, h5⟩ : ∃ t, rdText 24 s5 e5 = t := ⟨_, rfl⟩
  obtain ⟨⟨v6, s7, e7⟩, h6⟩ : ∃ t, rdNum (tkS s6) s6 e6 = t := ⟨_, rfl⟩
  obtain ⟨⟨v7, s8, e8⟩, h7⟩ : ∃ t, rdNum (tkS s7) s7 e7 = t := ⟨_, rfl⟩
  obtain ⟨⟨v8, s9, e9⟩, h8⟩ : ∃ t, rdFlag s8 e8 = t := ⟨_, rfl⟩
  have z1 : s1.size ≤ s.size := by have := rdNum_size (tkN s) s e; rw [h0] at this; exact this
  have z2 : s2.size ≤ s.size := by have := rdNum_size (tkN s1) s1 e1; rw [h1] at this; exact Nat.le_trans this z1
  have z3 : s3.size ≤ s.size := by have := rdNum_size (tkN s2) s2 e2; rw [h2] at this; exact Nat.le_trans this z2
  have z4 : s4.size ≤ s.size := by have := rdNum_size (tkN s3) s3 e3; rw [h3] at this; exact Nat.le_trans this z3
  have z5 : s5.size ≤ s.size := by have := rdText_size 24 s4 e4; rw [h4] at this; exact Nat.le_trans this z4
  have z6 : s6.size ≤ s.size := by have := rdText_size 24 s5 e5; rw [h5] at this; exact Nat.le_trans this z5
  have z7 : s7.size ≤ s.size := by have := rdNum_size (tkS s6) s6 e6; rw [h6] at this; exact Nat.le_trans this z6
  have z8 : s8.size ≤ s.size := by have := rdNum_size (tkS s7) s7 e7; rw [h7] at this; exact Nat.le_trans this z7
  have z9 : s9.size ≤ s.size := by have := rdFlag_size s8 e8; rw [h8] at this; exact Nat.le_trans this z8
  refine ⟨⟨v0, v1, v2, v3, v4, v5, v6, v7, v8⟩, s1, e1, s2, e2, s3, e3, s4, e4, s5, e5, s6, e6, s7, e7, s8, e8, s9, e9, ⟨h0, h1, h2, h3, h4, h5, h6, h7, h8, z1, z2, z3, z4, z5, z6, z7, z8, z9⟩, ?_⟩
  unfold rdAll
  simp only [h0, h1, h2, h3, h4, h5, h6, h7, h8]

/-- a record that is read; a zero one behind an error -/
def rdRec (s : ByteArray) (e : Nat) : Rec × ByteArray × Nat := if (rdAll s e).2.2 = 0 then rdAll s e else (zeroR, (rdAll s e).2)
theorem rdRec_ok {s s9 : ByteArray} {e : Nat} {x : Rec} (h : rdAll s e = (x, s9, 0)) : rdRec s e = (x, s9, 0) := by unfold rdRec; rw [h]; rfl
theorem rdRec_bad {s s9 : ByteArray} {e e9 : Nat} {x : Rec} (h : rdAll s e = (x, s9, e9)) (he : e9 ≠ 0) : rdRec s e = (zeroR, s9, e9) := by unfold rdRec; rw [h]; exact if_neg he

/-- the record of bytes -/
def takeRec (s : ByteArray) : Rec × Nat :=
  if Pk.endE (rdRec s 0).2.1 (rdRec s 0).2.2 = 0 then (if may (rdRec s 0).1 = 0 then ((rdRec s 0).1, 0) else (zeroR, may (rdRec s 0).1)) else (zeroR, Pk.endE (rdRec s 0).2.1 (rdRec s 0).2.2)

/-! What is put is read as it was. -/
theorem ext_from (s : ByteArray) (a : Nat) : (s.extract a s.size).data.toList = s.data.toList.drop a := by
  rw [ByteArray.data_extract, Array.toList_extract]
  simp only [List.extract]
  exact List.take_of_length_le (by simp)
theorem ext_mid (s : ByteArray) (a b : Nat) : (s.extract a (a + b)).data.toList = (s.data.toList.drop a).take b := by
  rw [ByteArray.data_extract, Array.toList_extract]
  simp [List.extract]
theorem of_list {s t : ByteArray} (h : s.data.toList = t.data.toList) : s = t := ByteArray.ext (Array.toList_inj.1 h)
theorem putD_digs {n : Int} (h : 0 ≤ n) : putD n = digs n.toNat := if_pos h

theorem rd_num {N : Int} (hn : 0 ≤ N) (h1 : N ≤ 9223372036854775807) {s : ByteArray} {r : List UInt8} (h : s.data.toList = putD N ++ r) :
    ∃ s', rdNum (tkN s) s 0 = (N, s', 0) ∧ s'.data.toList = r := by
  rw [putD_digs hn] at h
  have ht : takeR 9 s.data.toList = (N.toNat, (digs N.toNat).length, 0) := by rw [h]; exact Va.takeR_put _ (by omega) r
  have hk : tkN s = (N, (digs N.toNat).length, 0) := by unfold tkN; rw [ht]; simp only []; rw [Int.toNat_of_nonneg hn]
  refine ⟨s.extract (digs N.toNat).length s.size, ?_, ?_⟩
  · rw [hk]; rfl
  · rw [ext_from, h, List.drop_left]
theorem rd_sig {N : Int} (h0 : -9223372036854775808 ≤ N) (h1 : N ≤ 9223372036854775807) {s : ByteArray} {r : List UInt8} (h : s.data.toList = digs (zig N) ++ r) :
    ∃ s', rdNum (tkS s) s 0 = (N, s', 0) ∧ s'.data.toList = r := by
  have hk : tkS s = (N, (digs (zig N)).length, 0) := by unfold tkS; rw [h]; exact Va.takeS_put N h0 h1 r
  refine ⟨s.extract (digs (zig N)).length s.size, ?_, ?_⟩
  · rw [hk]; rfl
  · rw [ext_from, h, List.drop_left]
theorem rd_text {S : ByteArray} (hs : S.size ≤ 24) {s : ByteArray} {r : List UInt8} (h : s.data.toList = txB S ++ r) :
    ∃ s', rdText 24 s 0 = (S, s', 0) ∧ s'.data.toList = r := by
  have hp : txB S = digs S.size ++ S.data.toList := by
    show putD (S.size : Nat) ++ _ = _
    rw [putD_digs (by omega)]; rfl
  rw [hp, List.append_assoc] at h
  have ht : takeR 9 s.data.toList = (S.size, (digs S.size).length, 0) := by rw [h]; exact Va.takeR_put _ (by omega) _
  have hl : s.size = (digs S.size).length + (S.size + r.length) := by rw [← byte_len', h, List.length_append, List.length_append, byte_len']
  have hx : rdText 24 s 0 = (s.extract (digs S.size).length ((digs S.size).length + S.size), s.extract ((digs S.size).length + S.size) s.size, 0) := by
    unfold rdText
    rw [ht]
    simp only []
    rw [if_pos trivial, if_pos trivial, if_neg (by omega), if_neg (by omega)]
  have hS : s.extract (digs S.size).length ((digs S.size).length + S.size) = S := of_list (by rw [ext_mid, h, List.drop_left, ← byte_len' S, List.take_left])
  refine ⟨s.extract ((digs S.size).length + S.size) s.size, ?_, ?_⟩
  · rw [hx, hS]
  · rw [ext_from, h, ← List.append_assoc]
    rw [show (digs S.size).length + S.size = (digs S.size ++ S.data.toList).length by rw [List.length_append, byte_len']]
    exact List.drop_left
theorem rd_flag {b : Bool} {s : ByteArray} {r : List UInt8} (h : s.data.toList = flB b ++ r) :
    ∃ s', rdFlag s 0 = (b, s', 0) ∧ s'.data.toList = r := by
  have hd : ∀ c : UInt8, s.data.toList = c :: r → (s.extract 1 s.size).data.toList = r := fun c hc => by rw [ext_from, hc]; rfl
  cases b
  · have hc : s.data.toList = 0 :: r := h
    exact ⟨s.extract 1 s.size, Pk.rdFlag_zero hc rfl, hd _ hc⟩
  · have hc : s.data.toList = 1 :: r := h
    exact ⟨s.extract 1 s.size, Pk.rdFlag_one hc rfl, hd _ hc⟩

theorem nameB_size {s : ByteArray} (h : nameB s = true) : 1 ≤ s.size ∧ s.size ≤ 24 := by
  unfold nameB at h
  simp at h
  exact ⟨h.1.1, h.1.2⟩

theorem all_put {x : Rec} (hf : Fit x) (hm : may x = 0) {s : ByteArray} (h : s.data.toList = recB x) : ∃ s9, rdAll s 0 = (x, s9, 0) ∧ s9.data.toList = [] := by
  obtain ⟨m0, m1, m2, m3, m4, m5, m6, m7⟩ := (may_iff x).1 hm
  unfold recB at h
  simp only [List.append_assoc] at h
  obtain ⟨s1, h0, r0⟩ := rd_num (by omega) hf.tr h
  obtain ⟨s2, h1, r1⟩ := rd_num (by omega) hf.id r0
  obtain ⟨s3, h2, r2⟩ := rd_num (by omega) hf.pa r1
  obtain ⟨s4, h3, r3⟩ := rd_num (by omega) hf.rv r2
  obtain ⟨s5, h4, r4⟩ := rd_text (nameB_size m4).2 r3
  obtain ⟨s6, h5, r5⟩ := rd_text (nameB_size m5).2 r4
  obtain ⟨s7, h6, r6⟩ := rd_sig hf.st0 hf.st1 r5
  obtain ⟨s8, h7, r7⟩ := rd_sig hf.du0 hf.du1 r6
  obtain ⟨s9, h8, r8⟩ := rd_flag (r := []) (by rw [r7, List.append_nil])
  refine ⟨s9, ?_, r8⟩
  unfold rdAll
  simp only [h0, h1, h2, h3, h4, h5, h6, h7, h8]

theorem endE_nil {s : ByteArray} (h : s.data.toList = []) : Pk.endE s 0 = 0 := by
  have := byte_len' s
  rw [h] at this
  exact if_neg (fun g => by have := g.2; simp at *; omega)

/-- what is put is taken as it was -/
theorem take_put {x : Rec} (hf : Fit x) (hm : may x = 0) {s : ByteArray} (h : s.data.toList = recB x) : takeRec s = (x, 0) := by
  obtain ⟨s9, h1, h2⟩ := all_put hf hm h
  unfold takeRec
  rw [rdRec_ok h1]
  simp only []
  rw [endE_nil h2, if_pos rfl, if_pos hm]

/-! What was taken was put so. -/
theorem num_back {s s' : ByteArray} {e : Nat} {n : Int} (h : rdNum (tkN s) s e = (n, s', 0)) : e = 0 ∧ s.data.toList = putD n ++ s'.data.toList ∧ 0 ≤ n ∧ n ≤ 9223372036854775807 := by
  by_cases he : e = 0
  · subst he
    unfold rdNum at h
    rw [if_pos rfl] at h
    have hb := Va.takeR_back s.data.toList
    have hlt := Va.takeR_n 9 s.data.toList
    have hv := Va.val_digs' (takeR 9 s.data.toList).1
    unfold tkN at h
    generalize takeR 9 s.data.toList = t at *
    obtain ⟨v, k, er⟩ := t
    simp only at h hb hlt hv
    by_cases hr : er = 0
    · rw [if_pos hr] at h
      injection h with h1 h2
      injection h2 with h2 _
      rcases hb with ⟨_, _, b3, b4⟩ | ⟨b1, _⟩
      · subst h1; subst h2
        refine ⟨rfl, ?_, by omega, ?_⟩
        · rw [putD_digs (by omega), show ((v : Int)).toNat = v from rfl, b4, ext_from, List.take_append_drop]
        · rw [b4] at hv
          have h3 := Va.val_lt (s.data.toList.take k)
          have h4 : (s.data.toList.take k).length ≤ 9 := by rw [List.length_take]; omega
          have h5 : 128 ^ (s.data.toList.take k).length ≤ 128 ^ 9 := Nat.pow_le_pow_right (by omega) h4
          have h6 : v < 128 ^ 9 := by rw [← hv]; exact Nat.lt_of_lt_of_le h3 h5
          have h7 : (128 : Nat) ^ 9 = 9223372036854775808 := rfl
          omega
      · exact absurd hr b1
    · rw [if_neg hr] at h
      injection h with _ h2
      injection h2 with _ h2
      exact absurd h2 hr
  · unfold rdNum at h
    rw [if_neg he] at h
    injection h with _ h2
    injection h2 with _ h2
    exact absurd h2 he

theorem zag_lo (u : Nat) (h : u < 18446744073709551616) : -9223372036854775808 ≤ Va.zag u ∧ Va.zag u ≤ 9223372036854775807 := by
  unfold Va.zag
  split <;> omega
theorem takeS_lo (s : List UInt8) : -9223372036854775808 ≤ (takeS s).1 ∧ (takeS s).1 ≤ 9223372036854775807 := by
  cases hf : fst 10 s with
  | none =>
    by_cases hl : s.length < 10
    · rw [Va.takeS_short hf hl]; decide
    · rw [Va.takeS_long hf hl]; decide
  | some k =>
    by_cases hz : (k ≠ 0 ∧ (s.getD k 0).toNat = 0) ∨ (k = 9 ∧ 1 < (s.getD k 0).toNat)
    · rw [Va.takeS_bad hf hz]; decide
    · rw [Va.takeS_ok hf hz]
      exact zag_lo _ (Nat.mod_lt _ (by decide))

theorem sig_back {s s' : ByteArray} {e : Nat} {n : Int} (h : rdNum (tkS s) s e = (n, s', 0)) : e = 0 ∧ s.data.toList = digs (zig n) ++ s'.data.toList ∧ -9223372036854775808 ≤ n ∧ n ≤ 9223372036854775807 := by
  by_cases he : e = 0
  · subst he
    unfold rdNum at h
    rw [if_pos rfl] at h
    have hb := Va.takeS_back s.data.toList
    have hlo := takeS_lo s.data.toList
    unfold tkS at h
    generalize takeS s.data.toList = t at *
    obtain ⟨v, k, er⟩ := t
    simp only at h hb hlo
    by_cases hr : er = 0
    · rw [if_pos hr] at h
      injection h with h1 h2
      injection h2 with h2 _
      rcases hb with ⟨_, _, b3, b4⟩ | ⟨b1, _⟩
      · subst h1; subst h2
        refine ⟨rfl, ?_, hlo⟩
        rw [b4, ext_from, List.take_append_drop]
      · exact absurd hr b1
    · rw [if_neg hr] at h
      injection h with _ h2
      injection h2 with _ h2
      exact absurd h2 hr
  · unfold rdNum at h
    rw [if_neg he] at h
    injection h with _ h2
    injection h2 with _ h2
    exact absurd h2 he

theorem text_back {s s' S : ByteArray} {e : Nat} (h : rdText 24 s e = (S, s', 0)) : e = 0 ∧ s.data.toList = txB S ++ s'.data.toList ∧ S.size ≤ 24 := by
  by_cases he : e = 0
  · subst he
    unfold rdText at h
    rw [if_pos rfl] at h
    have hb := Va.takeR_back s.data.toList
    generalize takeR 9 s.data.toList = t at *
    obtain ⟨v, k, er⟩ := t
    simp only at h hb
    by_cases hr : er = 0
    · rw [if_pos hr] at h
      by_cases hm : (v : Int) > 24
      · rw [if_pos hm] at h
        injection h with _ h2
        injection h2 with _ h2
        cases h2
      rw [if_neg hm] at h
      by_cases hv : v > s.size - k
      · rw [if_pos hv] at h
        injection h with _ h2
        injection h2 with _ h2
        cases h2
      rw [if_neg hv] at h
      injection h with h1 h2
      injection h2 with h2 _
      rcases hb with ⟨_, b2, b3, b4⟩ | ⟨b1, _⟩
      · rw [byte_len'] at b3
        have hz : S.size = v := by rw [← h1, ByteArray.size_extract]; omega
        refine ⟨rfl, ?_, by omega⟩
        unfold txB
        rw [hz, putD_digs (by omega), show ((v : Int)).toNat = v from rfl, b4, ← h1, ← h2, ext_mid, ext_from, ← List.drop_drop, List.append_assoc, List.take_append_drop, List.take_append_drop]
      · exact absurd hr b1
    · rw [if_neg hr] at h
      injection h with _ h2
      injection h2 with _ h2
      exact absurd h2 hr
  · unfold rdText at h
    rw [if_neg he] at h
    injection h with _ h2
    injection h2 with _ h2
    exact absurd h2 he

theorem flag_back {s s' : ByteArray} {e : Nat} {b : Bool} (h : rdFlag s e = (b, s', 0)) : e = 0 ∧ s.data.toList = flB b ++ s'.data.toList := by
  by_cases he : e = 0
  · subst he
    refine ⟨rfl, ?_⟩
    cases hl : s.data.toList with
    | nil => rw [Pk.rdFlag_nil hl] at h; injection h with _ h; injection h with _ h; cases h
    | cons c r =>
      by_cases c0 : c.toNat = 0
      · rw [Pk.rdFlag_zero hl c0] at h
        injection h with h1 h; injection h with h2 _
        rw [← h1, ← h2, ext_from, hl]
        obtain rfl : c = 0 := UInt8.toNat_inj.1 c0
        rfl
      · by_cases c1 : c.toNat = 1
        · rw [Pk.rdFlag_one hl c1] at h
          injection h with h1 h; injection h with h2 _
          rw [← h1, ← h2, ext_from, hl]
          obtain rfl : c = 1 := UInt8.toNat_inj.1 c1
          rfl
        · rw [Pk.rdFlag_else hl c0 c1] at h; injection h with _ h; injection h with _ h; cases h
  · unfold rdFlag at h
    rw [if_neg he] at h
    injection h with _ h2
    injection h2 with _ h2
    exact absurd h2 he

theorem all_back {s s9 : ByteArray} {x : Rec} (h : rdAll s 0 = (x, s9, 0)) : s.data.toList = recB x ++ s9.data.toList ∧ Fit x := by
  obtain ⟨y, s1, e1, s2, e2, s3, e3, s4, e4, s5, e5, s6, e6, s7, e7, s8, e8, s9', e9, W, hW⟩ := way s 0
  rw [h] at hW
  injection hW with h1 h2
  injection h2 with h2 h3
  subst h1; subst h2; subst h3
  obtain ⟨rfl, b8⟩ := flag_back W.a8
  obtain ⟨rfl, b7, f7, g7⟩ := sig_back W.a7
  obtain ⟨rfl, b6, f6, g6⟩ := sig_back W.a6
  obtain ⟨rfl, b5, f5⟩ := text_back W.a5
  obtain ⟨rfl, b4, f4⟩ := text_back W.a4
  obtain ⟨rfl, b3, _, f3⟩ := num_back W.a3
  obtain ⟨rfl, b2, _, f2⟩ := num_back W.a2
  obtain ⟨rfl, b1, _, f1⟩ := num_back W.a1
  obtain ⟨_, b0, _, f0⟩ := num_back W.a0
  refine ⟨?_, f0, f1, f2, f3, by omega, by omega, f6, g6, f7, g7⟩
  rw [b0, b1, b2, b3, b4, b5, b6, b7, b8]
  unfold recB
  simp only [List.append_assoc]

theorem endE_zero {s : ByteArray} {e : Nat} (h : Pk.endE s e = 0) : e = 0 ∧ s.data.toList = [] := by
  unfold Pk.endE at h
  by_cases he : e = 0 ∧ 0 < s.size
  · rw [if_pos he] at h; cases h
  · rw [if_neg he] at h
    refine ⟨h, List.eq_nil_of_length_eq_zero ?_⟩
    rw [byte_len']
    by_cases hs : 0 < s.size
    · exact absurd ⟨h, hs⟩ he
    · omega

/-- what was taken was put so; or it is none -/
theorem take_back (s : ByteArray) : (∃ x, takeRec s = (x, 0) ∧ may x = 0 ∧ Fit x ∧ s.data.toList = recB x) ∨ (∃ e, e ≠ 0 ∧ takeRec s = (zeroR, e)) := by
  unfold takeRec
  by_cases he : Pk.endE (rdRec s 0).2.1 (rdRec s 0).2.2 = 0
  · rw [if_pos he]
    by_cases hm : may (rdRec s 0).1 = 0
    · left
      rw [if_pos hm]
      obtain ⟨h1, h2⟩ := endE_zero he
      obtain ⟨x, s9, hx⟩ : ∃ x s9, rdAll s 0 = (x, s9, 0) := by
        obtain ⟨⟨x, s9, e9⟩, hx⟩ : ∃ t, rdAll s 0 = t := ⟨_, rfl⟩
        by_cases h9 : e9 = 0
        · subst h9; exact ⟨x, s9, hx⟩
        · rw [rdRec_bad hx h9] at h1; exact absurd h1 h9
      rw [rdRec_ok hx] at hm h2 ⊢
      obtain ⟨b1, b2⟩ := all_back hx
      refine ⟨x, rfl, hm, b2, ?_⟩
      rw [b1, h2, List.append_nil]
    · right
      rw [if_neg hm]
      exact ⟨_, hm, rfl⟩
  · right
    rw [if_neg he]
    exact ⟨_, he, rfl⟩

theorem recB_inj {x y : Rec} (hx : Fit x) (hy : Fit y) (mx : may x = 0) (my : may y = 0) (h : recB x = recB y) : x = y := by
  have e : (ByteArray.mk (recB x).toArray).data.toList = recB x := rfl
  have h1 := take_put hx mx e
  rw [take_put hy my (by rw [e, h])] at h1
  injection h1 with h1 _
  exact h1.symm
end Go.Proofs.Ytafcgknpehphlaa.Cd
