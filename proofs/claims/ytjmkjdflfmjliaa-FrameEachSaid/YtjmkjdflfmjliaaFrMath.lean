/- Frames, in plain bytes: numbers of bytes, the greatest first; what bytes begin with; frames one behind the other, cut off anywhere. -/
import Derived.Test.YtjmkjdflfmjliaaCrChg
namespace Go.Proofs.Ytjmkjdflfmjliaa.Fr
open Cr (sumB)

/-- a number's lowest bytes, so many, the greatest first -/
def be : Nat → Nat → List UInt8
  | 0, _ => []
  | k + 1, n => be k (n / 256) ++ [UInt8.ofNat (n % 256)]
/-- the number of bytes -/
def val (l : List UInt8) : Nat := l.foldl (fun a c => a * 256 + c.toNat) 0

theorem be_len (k n : Nat) : (be k n).length = k := by
  induction k generalizing n with
  | zero => rfl
  | succ k ih => simp [be, ih]
theorem val_snoc (l : List UInt8) (c : UInt8) : val (l ++ [c]) = val l * 256 + c.toNat := by simp [val]
theorem val_lt_from (l : List UInt8) : ∀ a : Nat, l.foldl (fun a c => a * 256 + c.toNat) a < (a + 1) * 256 ^ l.length := by
  induction l with
  | nil => intro a; simp
  | cons c l ih =>
    intro a
    have h := ih (a * 256 + c.toNat)
    have hc := Cr.byte_lt c
    have h2 : (a * 256 + c.toNat + 1) * 256 ^ l.length ≤ ((a + 1) * 256) * 256 ^ l.length := Nat.mul_le_mul_right _ (by omega)
    simp only [List.foldl_cons, List.length_cons, Nat.pow_succ]
    rw [Nat.mul_comm (256 ^ l.length) 256, ← Nat.mul_assoc]
    exact Nat.lt_of_lt_of_le h h2
theorem val_lt (l : List UInt8) : val l < 256 ^ l.length := by have := val_lt_from l 0; simpa [val] using this
theorem val_be (k n : Nat) : val (be k n) = n % 256 ^ k := by
  induction k generalizing n with
  | zero => simp [be, val, Nat.mod_one]
  | succ k ih =>
    have e1 : (UInt8.ofNat (n % 256)).toNat = n % 256 := by rw [UInt8.toNat_ofNat']; omega
    have e2 : 256 ^ (k + 1) = 256 * 256 ^ k := by rw [Nat.pow_succ, Nat.mul_comm]
    rw [be, val_snoc, ih, e1, e2, Nat.mod_mul]
    omega
theorem be_cons (k n : Nat) : be (k + 1) n = UInt8.ofNat (n / 256 ^ k % 256) :: be k n := by
  induction k generalizing n with
  | zero => simp [be]
  | succ k ih =>
    rw [be, ih (n / 256), List.cons_append, Nat.div_div_eq_div_mul, Nat.pow_succ, Nat.mul_comm 256]
    rfl

/-- a number of 64 bits, with a sign -/
def sg (v : Nat) : Int := if v < 9223372036854775808 then (v : Int) else (v : Int) - 18446744073709551616

/-- bytes of a text -/
abbrev B (s : ByteArray) : List UInt8 := s.data.toList
theorem B_ext {s t : ByteArray} (h : B s = B t) : s = t := ByteArray.ext (Array.toList_inj.1 h)
theorem B_len (s : ByteArray) : (B s).length = s.size := by simp
theorem B_extract (s : ByteArray) (a b : Nat) : B (s.extract a b) = ((B s).drop a).take (b - a) := by
  simp [B, ByteArray.data_extract, Array.toList_extract, List.extract_eq_take_drop]
theorem B_append (s t : ByteArray) : B (s ++ t) = B s ++ B t := by simp [B]
theorem B_mk (l : List UInt8) : B ⟨l.toArray⟩ = l := rfl
theorem size_mk (l : List UInt8) : (⟨l.toArray⟩ : ByteArray).size = l.length := by rw [← B_len]

/-- the count, the sum and the number that bytes begin with, and the sum of what stands there -/
def cnt (l : List UInt8) : Nat := val (l.take 4)
def chk (l : List UInt8) : Nat := val ((l.drop 4).take 4)
def num (l : List UInt8) : Int := sg (val ((l.drop 8).take 8))
def own (l : List UInt8) : Nat := sumB 0 (l.take 4 ++ (l.drop 8).take (8 + cnt l))

/-- a frame: its number and its data -/
abbrev Fm := Int × ByteArray
/-- no frame -/
def no : Fm := (0, ⟨#[]⟩)
/-- the frame that bytes begin with, how many bytes it has, why there is none -/
def tk (s : ByteArray) : Fm × Nat × Nat :=
  if s.size < 16 then (no, 0, 3)
  else if 65536 < cnt (B s) then (no, 0, 12)
  else if s.size < 16 + cnt (B s) then (no, 0, 3)
  else if own (B s) ≠ chk (B s) then (no, 0, 4)
  else if num (B s) < 1 then (no, 0, 2)
  else ((num (B s), s.extract 16 (16 + cnt (B s))), 16 + cnt (B s), 0)

theorem tk_ok {s : ByteArray} (h : (tk s).2.2 = 0) : (tk s).2.1 = 16 + (tk s).1.2.size ∧ (tk s).2.1 ≤ s.size := by
  unfold tk at h ⊢
  split at h <;> try (simp at h)
  split at h <;> try (simp at h)
  split at h <;> try (simp at h)
  split at h <;> try (simp at h)
  split at h <;> try (simp at h)
  rename_i h1 h2 h3 h4 h5
  rw [if_neg h1, if_neg h2, if_neg h3, if_neg (not_not_intro h4), if_neg h5]
  have : (s.extract 16 (16 + cnt (B s))).size = cnt (B s) := by rw [ByteArray.size_extract]; omega
  exact ⟨by simp only [this], by simp only; omega⟩
theorem tk_no {s : ByteArray} (h : (tk s).2.2 ≠ 0) : (tk s).1 = no ∧ (tk s).2.1 = 0 := by
  unfold tk at h ⊢
  split
  · exact ⟨rfl, rfl⟩
  split
  · exact ⟨rfl, rfl⟩
  split
  · exact ⟨rfl, rfl⟩
  split
  · exact ⟨rfl, rfl⟩
  split
  · exact ⟨rfl, rfl⟩
  · rename_i h1 h2 h3 h4 h5
    rw [if_neg h1, if_neg h2, if_neg h3, if_neg h4, if_neg h5] at h
    exact absurd rfl h
theorem tk_err (s : ByteArray) : (tk s).2.2 ≤ 12 := by
  unfold tk
  split
  · simp
  split
  · simp
  split
  · simp
  split
  · simp
  split <;> simp
theorem tk_short {s : ByteArray} (h : s.size < 16) : tk s = (no, 0, 3) := by unfold tk; rw [if_pos h]

/-- the sum of a frame -/
def sm (q : Nat) (d : List UInt8) : Nat := sumB 0 (be 4 d.length ++ (be 8 q ++ d))
/-- a frame's bytes -/
def fb (q : Nat) (d : List UInt8) : List UInt8 := be 4 d.length ++ (be 4 (sm q d) ++ (be 8 q ++ d))
def fbS (q : Nat) (d : ByteArray) : ByteArray := ⟨(fb q (B d)).toArray⟩
theorem sm_lt (q : Nat) (d : List UInt8) : sm q d < 4294967296 := Cr.sumB_lt (by decide) _
theorem fb_len (q : Nat) (d : List UInt8) : (fb q d).length = 16 + d.length := by simp [fb, be_len]; omega
theorem fbS_size (q : Nat) (d : ByteArray) : (fbS q d).size = 16 + d.size := by unfold fbS; rw [size_mk, fb_len, B_len]

/-- what stands at the places of a frame -/
theorem four_parts (a b r : List UInt8) (ha : a.length = 4) (hb : b.length = 4) :
    (a ++ (b ++ r)).take 4 = a ∧ ((a ++ (b ++ r)).drop 4).take 4 = b ∧ (a ++ (b ++ r)).drop 8 = r := by
  match a, b, ha, hb with
  | [a0, a1, a2, a3], [b0, b1, b2, b3], _, _ => exact ⟨rfl, rfl, rfl⟩
theorem four_all (a b c r : List UInt8) (ha : a.length = 4) (hb : b.length = 4) (hc : c.length = 8) :
    (a ++ (b ++ (c ++ r))).take 4 = a ∧ ((a ++ (b ++ (c ++ r))).drop 4).take 4 = b ∧ ((a ++ (b ++ (c ++ r))).drop 8).take 8 = c ∧ ((a ++ (b ++ (c ++ r))).drop 16) = r ∧
      ∀ n, ((a ++ (b ++ (c ++ r))).drop 8).take (8 + n) = c ++ r.take n := by
  match a, b, c, ha, hb, hc with
  | [a0, a1, a2, a3], [b0, b1, b2, b3], [c0, c1, c2, c3, c4, c5, c6, c7], _, _, _ => exact ⟨rfl, rfl, rfl, rfl, fun n => by rw [Nat.add_comm]; rfl⟩

theorem cnt_of (n : Nat) (hn : n ≤ 65536) : val (be 4 n) = n := by rw [val_be]; exact Nat.mod_eq_of_lt (by omega)
theorem num_of (q : Nat) (hq : q < 9223372036854775808) : sg (val (be 8 q)) = q := by
  rw [val_be, Nat.mod_eq_of_lt (by omega)]; unfold sg; rw [if_pos hq]

/-- a frame that was put is taken as it was, whatever stands behind -/
theorem tk_fb (q : Nat) (d more : ByteArray) (h1 : 1 ≤ q) (h2 : q < 9223372036854775808) (hd : d.size ≤ 65536) : tk (fbS q d ++ more) = (((q : Int), d), 16 + d.size, 0) := by
  have hB : B (fbS q d ++ more) = be 4 (B d).length ++ (be 4 (sm q (B d)) ++ (be 8 q ++ (B d ++ B more))) := by
    rw [B_append]
    show fb q (B d) ++ B more = _
    unfold fb
    simp only [List.append_assoc]
  have hsz : (fbS q d ++ more).size = 16 + d.size + more.size := by rw [ByteArray.size_append, fbS_size]
  obtain ⟨p1, p2, p3, p4, p5⟩ := four_all (be 4 (B d).length) (be 4 (sm q (B d))) (be 8 q) (B d ++ B more) (be_len _ _) (be_len _ _) (be_len _ _)
  have hdl := B_len d
  have c1 : cnt (B (fbS q d ++ more)) = d.size := by unfold cnt; rw [hB, p1, hdl, cnt_of _ hd]
  have c2 : chk (B (fbS q d ++ more)) = sm q (B d) := by unfold chk; rw [hB, p2, val_be]; exact Nat.mod_eq_of_lt (sm_lt _ _)
  have c3 : num (B (fbS q d ++ more)) = q := by unfold num; rw [hB, p3, num_of q h2]
  have c4 : own (B (fbS q d ++ more)) = sm q (B d) := by
    unfold own
    rw [c1, hB, p1, p5, List.take_append_of_le_length (by omega), List.take_of_length_le (by omega)]
    rfl
  unfold tk
  rw [if_neg (by omega), c1, if_neg (by omega), if_neg (by omega), c2, c4, if_neg (by simp), c3, if_neg (by omega)]
  have : (fbS q d ++ more).extract 16 (16 + d.size) = d := by
    apply B_ext
    rw [B_extract, hB, p4, show 16 + d.size - 16 = d.size by omega, List.take_append_of_le_length (by omega), List.take_of_length_le (by omega)]
  rw [this]

/-- cut off anywhere it is too short -/
theorem tk_cut (q : Nat) (d : ByteArray) (c : Nat) (hc : c < 16 + d.size) (hd : d.size ≤ 65536) : tk ((fbS q d).extract 0 c) = (no, 0, 3) := by
  have hsz : ((fbS q d).extract 0 c).size = c := by rw [ByteArray.size_extract, fbS_size]; omega
  by_cases h : c < 16
  · exact tk_short (by omega)
  · have c1 : cnt (B ((fbS q d).extract 0 c)) = d.size := by
      obtain ⟨p1, _⟩ := four_all (be 4 (B d).length) (be 4 (sm q (B d))) (be 8 q) (B d) (be_len _ _) (be_len _ _) (be_len _ _)
      unfold cnt
      rw [B_extract, List.drop_zero, List.take_take, show min 4 (c - 0) = 4 by omega]
      show val ((fb q (B d)).take 4) = _
      unfold fb
      rw [p1, B_len, cnt_of _ hd]
    unfold tk
    rw [if_neg (by omega), c1, if_neg (by omega), if_pos (by omega)]

/-- with bits changed in its number and its data it is no frame -/
theorem tk_chg (q : Nat) (d : ByteArray) (k bs : Nat) (hk : 8 ≤ k) (hk4 : k + 4 ≤ 16 + d.size) (hd : d.size ≤ 65536) (hb : 0 < bs) (h2 : bs < 4294967296) :
    tk ⟨(Cr.chg (fb q (B d)) k bs 4).toArray⟩ = (no, 0, 4) := by
  obtain ⟨j, rfl⟩ : ∃ j, k = 8 + j := ⟨k - 8, by omega⟩
  have hdl := B_len d
  obtain ⟨m, hm⟩ : ∃ m, m = be 8 q ++ B d := ⟨_, rfl⟩
  have hml : m.length = 8 + d.size := by rw [hm, List.length_append, be_len, hdl]
  have hs : sm q (B d) = sumB 0 (be 4 (B d).length ++ m) := by rw [hm]; rfl
  have e1 : Cr.chg (fb q (B d)) (8 + j) bs 4 = be 4 (B d).length ++ (be 4 (sm q (B d)) ++ Cr.chg m j bs 4) := by
    have := Cr.chg_append (be 4 (B d).length ++ be 4 (sm q (B d))) m j bs 4
    rw [List.length_append, be_len, be_len] at this
    unfold fb
    rw [← hm, ← List.append_assoc, this, List.append_assoc]
  have hcl : (Cr.chg m j bs 4).length = 8 + d.size := by rw [Cr.chg_len, hml]
  have hne := Cr.chg_sum (be 4 (B d).length ++ m) (4 + j) bs (by rw [List.length_append, be_len, hml]; omega) hb h2
  have e2 := Cr.chg_append (be 4 (B d).length) m j bs 4
  rw [be_len] at e2
  rw [e2, ← hs] at hne
  rw [e1]
  obtain ⟨p1, p2, p3⟩ := four_parts (be 4 (B d).length) (be 4 (sm q (B d))) (Cr.chg m j bs 4) (be_len _ _) (be_len _ _)
  have c1 : cnt (be 4 (B d).length ++ (be 4 (sm q (B d)) ++ Cr.chg m j bs 4)) = d.size := by unfold cnt; rw [p1, hdl, cnt_of _ hd]
  have c2 : chk (be 4 (B d).length ++ (be 4 (sm q (B d)) ++ Cr.chg m j bs 4)) = sm q (B d) := by unfold chk; rw [p2, val_be]; exact Nat.mod_eq_of_lt (sm_lt _ _)
  have c4 : own (be 4 (B d).length ++ (be 4 (sm q (B d)) ++ Cr.chg m j bs 4)) = sumB 0 (be 4 (B d).length ++ Cr.chg m j bs 4) := by
    unfold own
    rw [c1, p1, p3, List.take_of_length_le (by omega)]
  unfold tk
  rw [size_mk, B_mk]
  have hl : (be 4 (B d).length ++ (be 4 (sm q (B d)) ++ Cr.chg m j bs 4)).length = 16 + d.size := by rw [List.length_append, List.length_append, be_len, be_len, hcl]; omega
  rw [hl, if_neg (by omega), c1, if_neg (by omega), if_neg (by omega), c2, c4, if_pos hne]

/-- how many bytes frames have -/
def pos : List Fm → Nat
  | [] => 0
  | x :: l => 16 + x.2.size + pos l
theorem pos_append (a b : List Fm) : pos (a ++ b) = pos a + pos b := by
  induction a with
  | nil => simp [pos]
  | cons x a ih => simp [pos, ih]; omega
theorem pos_snoc (a : List Fm) (x : Fm) : pos (a ++ [x]) = pos a + (16 + x.2.size) := by rw [pos_append]; simp [pos]
theorem pos_len (l : List Fm) : 16 * l.length ≤ pos l := by
  induction l with
  | nil => simp [pos]
  | cons x l ih => simp [pos]; omega

/-- what is left of bytes -/
def rst (s : ByteArray) (a : Nat) : ByteArray := s.extract a s.size
theorem rst_size (s : ByteArray) (a : Nat) : (rst s a).size = s.size - a := by unfold rst; rw [ByteArray.size_extract]; omega
theorem rst_zero (s : ByteArray) : rst s 0 = s := by apply B_ext; rw [rst, B_extract, List.drop_zero, Nat.sub_zero, List.take_of_length_le (by rw [B_len]; exact Nat.le_refl _)]
theorem B_rst (s : ByteArray) (a : Nat) : B (rst s a) = (B s).drop a := by
  rw [rst, B_extract, List.take_of_length_le (by rw [List.length_drop, B_len]; exact Nat.le_refl _)]
theorem rst_rst (s : ByteArray) (a b : Nat) : rst (rst s a) b = rst s (a + b) := by
  apply B_ext; rw [B_rst, B_rst, B_rst, List.drop_drop]

/-- the frames of bytes, from a place on; with so many tries -/
def ws : Nat → ByteArray → Nat → List Fm
  | 0, _, _ => []
  | k + 1, s, a => if (tk (rst s a)).2.2 = 0 then (tk (rst s a)).1 :: ws k s (a + (tk (rst s a)).2.1) else []
/-- all frames that bytes begin with, how many bytes they have, why no further one comes -/
def fs (s : ByteArray) : List Fm := ws (s.size + 1) s 0
def er (s : ByteArray) : Nat := if pos (fs s) = s.size then 0 else (tk (rst s (pos (fs s)))).2.2

/-- the way through bytes: the frames that were told, and those that are still to come -/
def Way (s : ByteArray) (pre : List Fm) (k : Nat) : Prop := pre ++ ws k s (pos pre) = fs s ∧ s.size - pos pre < k ∧ pos pre ≤ s.size
theorem Way.start (s : ByteArray) : Way s [] (s.size + 1) := by
  refine ⟨?_, by simp only [pos]; omega, Nat.zero_le _⟩
  unfold fs
  rw [List.nil_append, pos]
theorem Way.next {s : ByteArray} {pre : List Fm} {k : Nat} (h : Way s pre k) (ho : (tk (rst s (pos pre))).2.2 = 0) :
    ∃ k', Way s (pre ++ [(tk (rst s (pos pre))).1]) k' ∧ k' < k ∧ pos (pre ++ [(tk (rst s (pos pre))).1]) = pos pre + (tk (rst s (pos pre))).2.1 ∧ pre.length < (fs s).length := by
  obtain ⟨h1, h2, h3⟩ := h
  obtain ⟨t1, t2⟩ := tk_ok ho
  rw [rst_size] at t2
  obtain ⟨k', rfl⟩ : ∃ k', k = k' + 1 := ⟨k - 1, by omega⟩
  rw [ws, if_pos ho] at h1
  have hp : pos (pre ++ [(tk (rst s (pos pre))).1]) = pos pre + (tk (rst s (pos pre))).2.1 := by rw [pos_snoc, t1]
  refine ⟨k', ⟨?_, ?_, ?_⟩, by omega, hp, ?_⟩
  · rw [hp, List.append_assoc]; exact h1
  · rw [hp]; omega
  · rw [hp]; omega
  · rw [← h1]; simp
theorem Way.done {s : ByteArray} {pre : List Fm} {k : Nat} (h : Way s pre k) (ho : (tk (rst s (pos pre))).2.2 ≠ 0) : pre = fs s := by
  obtain ⟨h1, h2, h3⟩ := h
  obtain ⟨k', rfl⟩ : ∃ k', k = k' + 1 := ⟨k - 1, by omega⟩
  rw [ws, if_neg ho, List.append_nil] at h1
  exact h1
theorem Way.pre {s : ByteArray} {pre : List Fm} {k : Nat} (h : Way s pre k) : pre <+: fs s := ⟨_, h.1⟩
theorem tk_end {s : ByteArray} {a : Nat} (h : s.size ≤ a) : (tk (rst s a)).2.2 = 3 := by rw [tk_short (by rw [rst_size]; omega)]

theorem ws_le (s : ByteArray) : ∀ (k a : Nat), a ≤ s.size → a + pos (ws k s a) ≤ s.size := by
  intro k
  induction k with
  | zero => intro a h; simpa [ws, pos] using h
  | succ k ih =>
    intro a h
    rw [ws]
    by_cases ho : (tk (rst s a)).2.2 = 0
    · rw [if_pos ho]
      obtain ⟨t1, t2⟩ := tk_ok ho
      rw [rst_size] at t2
      have := ih (a + (tk (rst s a)).2.1) (by omega)
      simp only [pos]
      omega
    · rw [if_neg ho]; simpa [pos] using h
theorem fs_le (s : ByteArray) : pos (fs s) ≤ s.size := by have := ws_le s (s.size + 1) 0 (Nat.zero_le _); rw [Nat.zero_add] at this; exact this
theorem fs_len (s : ByteArray) : 16 * (fs s).length ≤ s.size := Nat.le_trans (pos_len _) (fs_le s)

/-- the bytes of frames one behind the other -/
def cat : List Fm → ByteArray
  | [] => ⟨#[]⟩
  | x :: l => fbS x.1.toNat x.2 ++ cat l
/-- frames that may be -/
def May (x : Fm) : Prop := 1 ≤ x.1 ∧ x.1 < 9223372036854775808 ∧ x.2.size ≤ 65536
theorem cat_size (l : List Fm) : (cat l).size = pos l := by
  induction l with
  | nil => rfl
  | cons x l ih => rw [cat, ByteArray.size_append, fbS_size, ih]; rfl
theorem cat_snoc (l : List Fm) (x : Fm) : cat (l ++ [x]) = cat l ++ fbS x.1.toNat x.2 := by
  induction l with
  | nil => apply B_ext; simp [cat]
  | cons y l ih => rw [List.cons_append, cat, ih, cat, ByteArray.append_assoc]

theorem ext_left (a b : ByteArray) (m : Nat) (h : m ≤ a.size) : (a ++ b).extract 0 m = a.extract 0 m := by
  apply B_ext
  rw [B_extract, B_extract, B_append, List.drop_zero, List.drop_zero, List.take_append_of_le_length (by rw [B_len]; omega)]
theorem ext_right (a b : ByteArray) (m : Nat) (h : a.size ≤ m) : (a ++ b).extract 0 m = a ++ b.extract 0 (m - a.size) := by
  apply B_ext
  rw [B_extract, B_append, B_append, B_extract, List.drop_zero, List.drop_zero, List.take_append, List.take_of_length_le (by rw [B_len]; omega), B_len]
  simp
theorem rst_append (a b : ByteArray) : rst (a ++ b) a.size = b := by
  apply B_ext; rw [B_rst, B_append, ← B_len, List.drop_left]

theorem whole_from (s : ByteArray) : ∀ (l : List Fm) (a m j F : Nat), (∀ x ∈ l, May x) → rst s a = (cat l).extract 0 m → m ≤ pos l → j ≤ l.length → pos (l.take j) ≤ m → (j < l.length → m < pos (l.take (j + 1))) → m < F →
    ws F s a = l.take j ∧ (tk (rst s (a + pos (l.take j)))).2.2 = 3 := by
  intro l
  induction l with
  | nil =>
    intro a m j F _ hr _ hj _ _ hF
    obtain rfl : j = 0 := by simpa using hj
    have h0 : tk (rst s a) = (no, 0, 3) := by
      apply tk_short; rw [hr, ByteArray.size_extract]; show min m 0 - 0 < 16; omega
    obtain ⟨F, rfl⟩ : ∃ F', F = F' + 1 := ⟨F - 1, by omega⟩
    refine ⟨?_, ?_⟩
    · rw [ws, h0, if_neg (by simp)]; rfl
    · simp [pos, h0]
  | cons x l ih =>
    intro a m j F hl hr hm hj hp hn hF
    obtain ⟨F, rfl⟩ : ∃ F', F = F' + 1 := ⟨F - 1, by omega⟩
    obtain ⟨x1, x2, x3⟩ := hl x (by simp)
    have hq : ((x.1.toNat : Nat) : Int) = x.1 := Int.toNat_of_nonneg (by omega)
    cases j with
    | zero =>
      have hm' : m < 16 + x.2.size := by simpa [pos] using hn (by simp)
      have h0 : tk (rst s a) = (no, 0, 3) := by
        rw [hr, cat, ext_left _ _ _ (by rw [fbS_size]; omega)]
        exact tk_cut _ _ _ hm' x3
      refine ⟨?_, ?_⟩
      · rw [ws, h0, if_neg (by simp)]; rfl
      · simp [pos, h0]
    | succ j =>
      simp only [List.take_succ_cons, pos] at hp hn hm
      have hsz := fbS_size x.1.toNat x.2
      have hr2 : rst s a = fbS x.1.toNat x.2 ++ (cat l).extract 0 (m - (16 + x.2.size)) := by
        rw [hr, cat, ext_right _ _ _ (by omega), hsz]
      have h0 : tk (rst s a) = (x, 16 + x.2.size, 0) := by
        rw [hr2, tk_fb _ _ _ (by omega) (by omega) x3, hq]
      have hr3 : rst s (a + (16 + x.2.size)) = (cat l).extract 0 (m - (16 + x.2.size)) := by
        rw [← rst_rst, hr2, ← hsz, rst_append]
      obtain ⟨i1, i2⟩ := ih (a + (16 + x.2.size)) (m - (16 + x.2.size)) j F (fun y hy => hl y (by simp [hy])) hr3 (by omega) (by simpa using hj) (by omega)
        (fun h => by have := hn (by simpa using h); omega) (by omega)
      refine ⟨?_, ?_⟩
      · rw [ws, h0, if_pos rfl, List.take_succ_cons, i1]
      · simp only [List.take_succ_cons, pos]
        rw [← Nat.add_assoc]; exact i2
/-- of frames one behind the other, cut off anywhere, the whole ones are told -/
theorem whole (l : List Fm) (m j : Nat) (hl : ∀ x ∈ l, May x) (hm : m ≤ pos l) (hj : j ≤ l.length) (hp : pos (l.take j) ≤ m) (hn : j < l.length → m < pos (l.take (j + 1))) :
    fs ((cat l).extract 0 m) = l.take j ∧ er ((cat l).extract 0 m) = if pos (l.take j) = m then 0 else 3 := by
  have hs : ((cat l).extract 0 m).size = m := by rw [ByteArray.size_extract, cat_size]; omega
  obtain ⟨h1, h2⟩ := whole_from ((cat l).extract 0 m) l 0 m j (m + 1) hl (rst_zero _) hm hj hp hn (by omega)
  have h3 : fs ((cat l).extract 0 m) = l.take j := by unfold fs; rw [hs]; exact h1
  refine ⟨h3, ?_⟩
  unfold er
  rw [h3, hs]
  rw [Nat.zero_add] at h2
  rw [h2]
end Go.Proofs.Ytjmkjdflfmjliaa.Fr
