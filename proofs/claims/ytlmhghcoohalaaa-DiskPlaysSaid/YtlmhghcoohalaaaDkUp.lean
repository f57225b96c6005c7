/- The disk's call that lets it be up again: of each file as many unsure bytes as the next number says. -/
import Derived.Test.YtlmhghcoohalaaaDkOps
namespace Go.Proofs.Ytlmhghcoohalaaa.Dk
open Go.RowKit

/-- the numbers that are left when so many files were done, and the files then -/
def ksAt : List Fi → List Int → Nat → List Int
  | [], ks, _ => ks
  | _ :: _, ks, 0 => ks
  | f :: r, ks, k + 1 => ksAt r (upRest f ks) k
def upTo : List Fi → List Int → Nat → List Fi
  | [], _, _ => []
  | f :: r, _, 0 => f :: r
  | f :: r, ks, k + 1 => upOne f ks :: upTo r (upRest f ks) k
theorem ksAt_zero (fs : List Fi) (ks : List Int) : ksAt fs ks 0 = ks := by cases fs <;> rfl
theorem upTo_zero (fs : List Fi) (ks : List Int) : upTo fs ks 0 = fs := by cases fs <;> rfl
theorem upTo_len : ∀ (fs : List Fi) (ks : List Int) (k : Nat), (upTo fs ks k).length = fs.length
  | [], _, _ => rfl
  | _ :: _, _, 0 => rfl
  | f :: r, ks, k + 1 => by simp [upTo, upTo_len r]
theorem upTo_at : ∀ (fs : List Fi) (ks : List Int) (k : Nat), (upTo fs ks k)[k]? = fs[k]?
  | [], _, _ => by simp [upTo]
  | _ :: _, _, 0 => rfl
  | f :: r, ks, k + 1 => by simp [upTo, upTo_at r]
theorem upTo_next : ∀ (fs : List Fi) (ks : List Int) (k : Nat) (f : Fi), fs[k]? = some f → upTo fs ks (k + 1) = (upTo fs ks k).set k (upOne f (ksAt fs ks k)) ∧ ksAt fs ks (k + 1) = upRest f (ksAt fs ks k)
  | [], _, _, _, h => by simp at h
  | g :: r, ks, 0, f, h => by
    simp at h; subst h
    exact ⟨by simp [upTo, upTo_zero, ksAt], by simp [ksAt, ksAt_zero]⟩
  | g :: r, ks, k + 1, f, h => by
    obtain ⟨h1, h2⟩ := upTo_next r (upRest g ks) k f (by simpa using h)
    exact ⟨by simp only [upTo, ksAt, List.set_cons_succ]; rw [← h1], by simp only [ksAt]; exact h2⟩
theorem upTo_all : ∀ (fs : List Fi) (ks : List Int), upTo fs ks fs.length = upF fs ks
  | [], _ => rfl
  | f :: r, ks => by simp only [List.length_cons, upTo, upF]; rw [upTo_all r]
theorem upTo_used : ∀ (fs : List Fi) (ks : List Int) (k : Nat), used (upTo fs ks k) ≤ used fs
  | [], _, _ => Nat.le_refl _
  | _ :: _, _, 0 => Nat.le_refl _
  | f :: r, ks, k + 1 => by
    have h1 := upOne_len f ks
    have h2 := upTo_used r (upRest f ks) k
    unfold used at h2 ⊢
    simp only [upTo, List.map_cons, List.sum_cons]; omega

theorem set_same {l : List Fi} {k : Nat} {f : Fi} (h : l[k]? = some f) : l.set k f = l := by
  apply List.ext_getElem?
  intro i
  rw [List.getElem?_set]
  split
  · subst_vars
    obtain ⟨h1, h2⟩ := List.getElem?_eq_some_iff.1 h
    rw [if_pos h1, h]
  · rfl
/-- cut, and made sure: what Up makes of a file -/
theorem upOne_cut (f : Fi) (ks : List Int) (h : f.su ≤ f.bs.length) (hz : ¬ f.bs.length - f.su = 0) : setF (cutF f (f.su + kept f ks)) = upOne f ks := by
  have h1 : kept f ks ≤ f.bs.length - f.su := Nat.min_le_right _ _
  unfold upOne setF cutF
  rw [if_neg hz]
  simp only [List.length_take]
  congr 1
  omega

/-- numbers that came in one behind the other, where no call of the disk writes -/
structure KRow (base B : Nat) (w : World) (a : Option Addr) (len cap : Nat) (zs : List Int) : Prop where
  len_is : zs.length = len
  cap_ge : len ≤ cap
  cap_le : cap ≤ 9223372036854775807
  rng : ∀ z ∈ zs, -9223372036854775808 ≤ z ∧ z ≤ 9223372036854775807
  at_ : 0 < len → ∃ b off o, a = some ⟨b, off, none⟩ ∧ w.heap[b]? = some o ∧ (b < base ∨ (b ≠ B ∧ ∀ t ∈ TS, tg o ≠ some t)) ∧ ∀ j z, zs[j]? = some z → w.cell? ⟨b, off + j, none⟩ = some (.int .i64 z)
theorem KRow.kp {base B len cap : Nat} {w w' : World} {a : Option Addr} {zs : List Int} (h : KRow base B w a len cap zs) (hk : Kp base B TS w w') : KRow base B w' a len cap zs :=
  ⟨h.len_is, h.cap_ge, h.cap_le, h.rng, fun h0 => by
    obtain ⟨b, off, o, h1, h2, h3, h4⟩ := h.at_ h0
    have h5 := hk.block b o h2 h3
    exact ⟨b, off, o, h1, h5, h3, fun j z hz => (World.cell?_of_block (w := w) (a := ⟨b, off + j, none⟩) (by show w'.heap[b]? = w.heap[b]?; rw [h5, h2])).trans (h4 j z hz)⟩⟩

/-- the first of them, and the others -/
theorem KRow.uncons {base B len cap : Nat} {w : World} {a : Option Addr} {z : Int} {zs : List Int} (h : KRow base B w a len cap (z :: zs)) :
    ∃ b off, a = some ⟨b, off, none⟩ ∧ 0 < len ∧ w.cell? ⟨b, off, none⟩ = some (.int .i64 z) ∧ -9223372036854775808 ≤ z ∧ z ≤ 9223372036854775807 ∧
      KRow base B w (if cap = 1 then some ⟨b, off, none⟩ else some ⟨b, off + 1, none⟩) (len - 1) (cap - 1) zs := by
  have hl := h.len_is
  rw [List.length_cons] at hl
  obtain ⟨b, off, o, h1, h2, h3, h4⟩ := h.at_ (by omega)
  have hr := h.rng z (List.mem_cons_self ..)
  refine ⟨b, off, h1, by omega, h4 0 z rfl, hr.1, hr.2, by omega, by have := h.cap_ge; omega, by have := h.cap_le; omega, fun x hx => h.rng x (List.mem_cons_of_mem _ hx), fun h0 => ?_⟩
  have hc := h.cap_ge
  exact ⟨b, off + 1, o, by rw [if_neg (by omega)], h2, h3, fun j x hx => by rw [Nat.add_assoc, Nat.add_comm 1 j]; exact h4 (j + 1) x (by simpa using hx)⟩

set_option maxHeartbeats 1600000 in
set_option maxRecDepth 100000 in
theorem up_any (base B : Nat) (s : St) (a : Option Addr) (len cap : Nat) (ks : List Int) (w : World) (h : Dk base w B s) (ho : Ok s) (hl : Lim s) (hk : KRow base B w a len cap ks) :
    Calls Try.prog 27 #[.pointer (some ⟨B, 0, none⟩), .slice a len cap] w fun e w' => e = .returned (.tuple #[]) ∧ Dk base w' B (up s ks) ∧ Kp base B TS w w' := by
  cases hm : s.made with
  | false =>
    have HR : Hid (up s ks = s) := by show _ = _; unfold up; simp [hm]
    rw [HR.out]
    have HD := Lib.hid h
    obtain ⟨v, L, hd⟩ := h
    have c0 := blk_cell (i := 0) hd.blk rfl
    rw [hm] at c0
    clear hd ho hl hk hm
    go_enter Try.func27, Try.ntmps27
    go_wp2_with fail
    refine bodyPost_ret (results_none rfl _ _ _) rfl ?_
    exact ⟨rfl, HD.out, Kp.refl _ _ _ _⟩
  | true =>
    have HR : Hid (up s ks = { s with fs := upF s.fs ks, on := true, fuse := -1 }) := by show _ = _; unfold up; simp [hm]
    rw [HR.out]
    obtain ⟨v, L, hd⟩ := h
    have hn : L.length ≤ 64 := by have := ho.few; rw [hd.fs, List.length_map] at this; exact this
    have hnf : s.fs.length = L.length := by rw [hd.fs, List.length_map]
    have c0 := blk_cell (i := 0) hd.blk rfl
    have c3 := blk_cell (i := 3) hd.blk rfl
    rw [hm] at c0
    obtain ⟨fa, fcap, rfl, _⟩ := row_slice hd.row
    have hsu := ho.su
    have HSU := Lib.hid hsu
    have HUS := Lib.hid hl.used
    have HALL := Lib.hid (upTo_all s.fs ks)
    have HD0 : Hid (∃ L1, DkAt base w B { s with fs := upTo s.fs ks 0 } (.slice fa L.length fcap) L1) := ⟨L, by rw [upTo_zero]; exact hd⟩
    have HK0 : Hid (KRow base B w a len cap (ksAt s.fs ks 0)) := by show KRow _ _ _ _ _ _ _; rw [ksAt_zero]; exact hk
    have HB0 : Hid (base ≤ w.heap.size) := by show base ≤ _; have := hd.ge; have := lt_of_block hd.blk; omega
    obtain ⟨n, hnn⟩ : ∃ n, L.length = n := ⟨_, rfl⟩
    rw [hnn] at c3 hn hnf HD0
    have HNF := Lib.hid hnf
    clear hd ho hl hk hm hsu hnf hnn
    go_enter Try.func27, Try.ntmps27
    go_wp2_with fail
    go_loopw [1, 5, 6, 7, 22] (fun kv _ _ _ i wr => ∃ (k : Nat) (a' : Option Addr) (l' c' : Nat), k ≤ n ∧ i = .int .i64 (k : Int) ∧ kv = .slice a' l' c' ∧ Hid (KRow base B wr a' l' c' (ksAt s.fs ks k)) ∧ Hid (∃ L1, DkAt base wr B { s with fs := upTo s.fs ks k } (.slice fa n fcap) L1) ∧ Hid (Kp base B TS w wr)) (fun _ _ _ _ i _ => n - (intOf i).toNat)
    case atStart => exact ⟨0, a, len, cap, by omega, rfl, rfl, HK0, HD0, Kp.refl _ _ _ _⟩
    case round =>
      obtain ⟨k, a', l', c', hk, rfl, rfl, HK, HD, HP⟩ := hrel
      by_cases hlt : k < n
      · obtain ⟨f, hf⟩ : ∃ f, s.fs[k]? = some f := ⟨_, List.getElem?_eq_getElem (by rw [HNF.out]; exact hlt)⟩
        have hfm := List.mem_of_getElem? hf
        have hsf := HSU.out f hfm
        have hlf : f.bs.length ≤ 17592186044416 := Nat.le_trans (used_mem hfm) HUS.out
        obtain ⟨hn1, hn2⟩ := upTo_next s.fs ks k f hf
        obtain ⟨L1, hd⟩ := HD.out
        have hat : ({ s with fs := upTo s.fs ks k } : St).fs[k]? = some f := by show (upTo s.fs ks k)[k]? = _; rw [upTo_at]; exact hf
        have hat2 := hat
        rw [hd.fs, List.getElem?_map] at hat2
        obtain ⟨e, he, hef⟩ := Option.map_eq_some_iff.1 hat2
        obtain ⟨g, cap', hv, _, _, cg, _, c1, c2⟩ := En.reads hd he
        injection hv with q1 q2 q3
        subst q1 q3
        obtain ⟨a2, cap2, hv, _⟩ := row_slice (hd.all e (List.mem_of_getElem? he)).2.2
        rw [hv, hef] at c1
        rw [hef] at c2
        have HN1 := Lib.hid hn1
        have HN2 := Lib.hid hn2
        have HDA := Lib.hid hd
        have HE := Lib.hid he
        have HEF := Lib.hid hef
        have HFK := Lib.hid hf
        clear hn1 hn2 hd he hef hv hf hfm hat hat2 q2
        have hsub : IntKind.i64.wrap ((f.bs.length : Int) - (f.su : Int)) = ((f.bs.length - f.su : Nat) : Int) := by rw [IntKind.wrap_i64]; omega
        by_cases hz : f.bs.length - f.su = 0
        · have HSUB := Lib.hid hsub
          have hze : (((f.bs.length - f.su : Nat) : Int) == 0) = true := by simp; omega
          have HO1 : Hid (upOne f (ksAt s.fs ks k) = f ∧ upRest f (ksAt s.fs ks k) = ksAt s.fs ks k) := ⟨by unfold upOne; rw [if_pos hz], by unfold upRest; rw [if_pos hz]⟩
          clear hsub hz
          have hsub := HSUB.out
          generalize f.bs.length - f.su = u at *
          go_wp2_with fail
          go_quiet (fail)
          clear hsub
          go_wp2_with fail
          go_roundw
          case rel =>
            refine ⟨k + 1, _, _, _, by omega, by go_num, rfl, ?_, ?_, HP.out.trans (Kp.of_below (drewN_below (Below.refl _ _) nq))⟩
            · show KRow _ _ _ _ _ _ _
              rw [HN2.out, HO1.out.2]
              exact HK.out.kp (Kp.of_below (drewN_below (Below.refl _ _) nq))
            · obtain ⟨L2, h'⟩ := HD.out
              refine ⟨L2, ?_⟩
              rw [HN1.out, HO1.out.1, set_same (by rw [upTo_at]; exact HFK.out)]
              exact ⟨h'.blk, h'.ge, h'.row, h'.all, h'.sep, h'.fs⟩
          case measure => simp [intOf]; omega
        · have HUC := Lib.hid (upOne_cut f (ksAt s.fs ks k) hsf hz)
          have hze : (((f.bs.length - f.su : Nat) : Int) == 0) = false := by simp; omega
          have HUR : Hid (upRest f (ksAt s.fs ks k) = (ksAt s.fs ks k).tail) := by show _ = _; unfold upRest; rw [if_neg hz]
          have HSUB := Lib.hid hsub
          clear hsub
          obtain ⟨kl, hkl⟩ : ∃ kl, ksAt s.fs ks k = kl := ⟨_, rfl⟩
          have HKL := Lib.hid hkl
          have hrow := HK.out
          rw [hkl] at hrow
          clear hkl
          cases kl with
          | nil =>
            have h0 := hrow.len_is
            simp at h0
            subst h0
            have HKEPT : Hid (kept f (ksAt s.fs ks k) = 0) := by show _ = _; rw [HKL.out]; simp [kept]
            have HRE : Hid (upRest f (ksAt s.fs ks k) = []) := by show _ = _; rw [HUR.out, HKL.out]; rfl
            have HKR := Lib.hid hrow
            clear hrow hz
            have hsub := HSUB.out
            generalize hu : f.bs.length - f.su = u at *
            have HU := Lib.hid hu
            clear hu
            go_wp2_with fail
            go_quiet (fail)
            clear hsub
            go_wp2_with fail
            have hd2 : DkAt base (wr.drewN nq) B { s with fs := upTo s.fs ks k } (.slice (some ⟨g, 0, none⟩) n fcap) L1 := by have h' := HDA.out; exact ⟨h'.blk, h'.ge, h'.row, h'.all, h'.sep, h'.fs⟩
            have hk2 : Kp base B TS wr (wr.drewN nq) := Kp.of_below (drewN_below (Below.refl _ _) nq)
            have hbw : base ≤ ((wr.drewN nq)).heap.size := by have := hd2.ge; have := lt_of_block hd2.blk; omega
            have hkn : ((f.su : Int) : Int) = ((f.su + kept f (ksAt s.fs ks k) : Nat) : Int) := by have := HKEPT.out; omega
            have hkl : kept f (ksAt s.fs ks k) ≤ f.bs.length - f.su := Nat.min_le_right _ _
            have HC := Lib.hid (cut_at base B k _ _ L1 e ((f.su : Int)) (wr.drewN nq) hd2 HE.out (by omega) (by rw [HEF.out]; omega) (by rw [HEF.out]; omega) hbw)
            have HKN : Hid (((f.su : Int) : Int).toNat = f.su + kept f (ksAt s.fs ks k)) := by show _ = _; omega
            rw [HKN.out, HEF.out] at HC
            have HP2 := Lib.hid hk2
            clear hbw hd2 hkn hkl hk2
            refine HC.out.mono ?_
            rintro r wr3 ⟨rfl, ⟨v3, hd3⟩, k3⟩
            have hl1 : k < L1.length := (List.getElem?_eq_some_iff.1 HE.out).1
            have HS := Lib.hid (settle_at base B k _ _ _ (⟨e.b, v3, cutF f (f.su + kept f (ksAt s.fs ks k))⟩ : En) wr3 hd3 (List.getElem?_set_self hl1))
            have K3 := Lib.hid k3
            clear hd3 k3 hl1
            go_wp2_with fail
            refine HS.out.mono ?_
            rintro r wr4 ⟨rfl, ⟨L4, hd4⟩, k4⟩
            have HP4 := Lib.hid ((HP2.out.trans K3.out).trans k4)
            have HD4 : Hid (∃ L1, DkAt base wr4 B { s with fs := upTo s.fs ks (k + 1) } (.slice (some ⟨g, 0, none⟩) n fcap) L1) := ⟨L4, by
              rw [HN1.out, ← HUC.out]
              have := hd4
              simp only [List.set_set] at this
              exact this⟩
            have HK4 : Hid (KRow base B wr4 a' 0 c' (ksAt s.fs ks (k + 1))) := by
              show KRow _ _ _ _ _ _ _
              rw [HN2.out, HRE.out]
              exact HKR.out.kp HP4.out
            clear hd4 k4
            go_wp2_with fail
            go_roundw
            case rel => exact ⟨k + 1, _, _, _, by omega, by go_num, rfl, HK4, HD4, HP.out.trans HP4.out⟩
            case measure => simp [intOf]; omega
          | cons z zs =>
            obtain ⟨kb, koff, rfl, hl0, cz, hz1, hz2, hrow2⟩ := hrow.uncons
            have HKR := Lib.hid hrow2
            have hl0' : (0 : Int) < (l' : Int) := by omega
            have hcg := hrow.cap_ge
            have hcl := hrow.cap_le
            have HKEPT : Hid (kept f (ksAt s.fs ks k) = min z.toNat (f.bs.length - f.su)) := by show _ = _; rw [HKL.out]; simp [kept]
            have HRE : Hid (upRest f (ksAt s.fs ks k) = zs) := by show _ = _; rw [HUR.out, HKL.out]; rfl
            clear hrow hrow2 hz
            have hsub := HSUB.out
            generalize hu : f.bs.length - f.su = u at *
            have HU := Lib.hid hu
            have hub : u ≤ f.bs.length := by omega
            clear hu
            obtain ⟨q, hq⟩ : ∃ q, min z.toNat u = q := ⟨_, rfl⟩
            have hmin : min (max z 0) (u : Int) = (q : Int) := by omega
            have hqb : q ≤ 17592186044416 := by omega
            rw [hq] at HKEPT
            clear hq
            by_cases hc1 : c' = 1
            · subst hc1
              obtain rfl : l' = 1 := by omega
              have HKR : Hid (KRow base B wr (some ⟨kb, koff, none⟩) 0 0 zs) := HKR.out
              go_wp2_with fail
              go_quiet (fail)
              clear hsub
              obtain ⟨nq1, rfl⟩ : ∃ m, m = nq := ⟨nq, rfl⟩
              go_wp2_with fail
              go_quiet (fail)
              go_wp2_with fail
              have hd2 : DkAt base (wr.drewN (nq1 + nq)) B { s with fs := upTo s.fs ks k } (.slice (some ⟨g, 0, none⟩) n fcap) L1 := by have h' := HDA.out; exact ⟨h'.blk, h'.ge, h'.row, h'.all, h'.sep, h'.fs⟩
              have hk2 : Kp base B TS wr (wr.drewN (nq1 + nq)) := Kp.of_below (drewN_below (Below.refl _ _) (nq1 + nq))
              have hbw : base ≤ ((wr.drewN (nq1 + nq))).heap.size := by have := hd2.ge; have := lt_of_block hd2.blk; omega
              have hkn : ((f.su : Int) + (q : Int) : Int) = ((f.su + kept f (ksAt s.fs ks k) : Nat) : Int) := by have := HKEPT.out; omega
              have hkl : kept f (ksAt s.fs ks k) ≤ f.bs.length - f.su := Nat.min_le_right _ _
              have HC := Lib.hid (cut_at base B k _ _ L1 e ((f.su : Int) + (q : Int)) (wr.drewN (nq1 + nq)) hd2 HE.out (by omega) (by rw [HEF.out]; omega) (by rw [HEF.out]; omega) hbw)
              have HKN : Hid (((f.su : Int) + (q : Int) : Int).toNat = f.su + kept f (ksAt s.fs ks k)) := by show _ = _; omega
              rw [HKN.out, HEF.out] at HC
              have HP2 := Lib.hid hk2
              clear hbw hd2 hkn hkl hk2
              refine HC.out.mono ?_
              rintro r wr3 ⟨rfl, ⟨v3, hd3⟩, k3⟩
              have hl1 : k < L1.length := (List.getElem?_eq_some_iff.1 HE.out).1
              have HS := Lib.hid (settle_at base B k _ _ _ (⟨e.b, v3, cutF f (f.su + kept f (ksAt s.fs ks k))⟩ : En) wr3 hd3 (List.getElem?_set_self hl1))
              have K3 := Lib.hid k3
              clear hd3 k3 hl1
              go_wp2_with fail
              refine HS.out.mono ?_
              rintro r wr4 ⟨rfl, ⟨L4, hd4⟩, k4⟩
              have HP4 := Lib.hid ((HP2.out.trans K3.out).trans k4)
              have HD4 : Hid (∃ L1, DkAt base wr4 B { s with fs := upTo s.fs ks (k + 1) } (.slice (some ⟨g, 0, none⟩) n fcap) L1) := ⟨L4, by
                rw [HN1.out, ← HUC.out]
                have := hd4
                simp only [List.set_set] at this
                exact this⟩
              have HK4 : Hid (KRow base B wr4 (some ⟨kb, koff, none⟩) 0 0 (ksAt s.fs ks (k + 1))) := by
                show KRow _ _ _ _ _ _ _
                rw [HN2.out, HRE.out]
                exact HKR.out.kp HP4.out
              clear hd4 k4
              go_wp2_with fail
              go_roundw
              case rel => exact ⟨k + 1, _, _, _, by omega, by go_num, rfl, HK4, HD4, HP.out.trans HP4.out⟩
              case measure => simp [intOf]; omega
            · have HKR : Hid (KRow base B wr (some ⟨kb, koff + 1, none⟩) (l' - 1) (c' - 1) zs) := by have := HKR.out; rw [if_neg hc1] at this; exact this
              go_wp2_with fail
              go_quiet (fail)
              clear hsub
              obtain ⟨nq1, rfl⟩ : ∃ m, m = nq := ⟨nq, rfl⟩
              go_wp2_with fail
              go_quiet (fail)
              go_wp2_with fail
              have hd2 : DkAt base (wr.drewN (nq1 + nq)) B { s with fs := upTo s.fs ks k } (.slice (some ⟨g, 0, none⟩) n fcap) L1 := by have h' := HDA.out; exact ⟨h'.blk, h'.ge, h'.row, h'.all, h'.sep, h'.fs⟩
              have hk2 : Kp base B TS wr (wr.drewN (nq1 + nq)) := Kp.of_below (drewN_below (Below.refl _ _) (nq1 + nq))
              have hbw : base ≤ ((wr.drewN (nq1 + nq))).heap.size := by have := hd2.ge; have := lt_of_block hd2.blk; omega
              have hkn : ((f.su : Int) + (q : Int) : Int) = ((f.su + kept f (ksAt s.fs ks k) : Nat) : Int) := by have := HKEPT.out; omega
              have hkl : kept f (ksAt s.fs ks k) ≤ f.bs.length - f.su := Nat.min_le_right _ _
              have HC := Lib.hid (cut_at base B k _ _ L1 e ((f.su : Int) + (q : Int)) (wr.drewN (nq1 + nq)) hd2 HE.out (by omega) (by rw [HEF.out]; omega) (by rw [HEF.out]; omega) hbw)
              have HKN : Hid (((f.su : Int) + (q : Int) : Int).toNat = f.su + kept f (ksAt s.fs ks k)) := by show _ = _; omega
              rw [HKN.out, HEF.out] at HC
              have HP2 := Lib.hid hk2
              clear hbw hd2 hkn hkl hk2
              refine HC.out.mono ?_
              rintro r wr3 ⟨rfl, ⟨v3, hd3⟩, k3⟩
              have hl1 : k < L1.length := (List.getElem?_eq_some_iff.1 HE.out).1
              have HS := Lib.hid (settle_at base B k _ _ _ (⟨e.b, v3, cutF f (f.su + kept f (ksAt s.fs ks k))⟩ : En) wr3 hd3 (List.getElem?_set_self hl1))
              have K3 := Lib.hid k3
              clear hd3 k3 hl1
              go_wp2_with fail
              refine HS.out.mono ?_
              rintro r wr4 ⟨rfl, ⟨L4, hd4⟩, k4⟩
              have HP4 := Lib.hid ((HP2.out.trans K3.out).trans k4)
              have HD4 : Hid (∃ L1, DkAt base wr4 B { s with fs := upTo s.fs ks (k + 1) } (.slice (some ⟨g, 0, none⟩) n fcap) L1) := ⟨L4, by
                rw [HN1.out, ← HUC.out]
                have := hd4
                simp only [List.set_set] at this
                exact this⟩
              have HK4 : Hid (KRow base B wr4 (some ⟨kb, koff + 1, none⟩) (l' - 1) (c' - 1) (ksAt s.fs ks (k + 1))) := by
                show KRow _ _ _ _ _ _ _
                rw [HN2.out, HRE.out]
                exact HKR.out.kp HP4.out
              clear hd4 k4
              go_wp2_with fail
              go_roundw
              case rel => exact ⟨k + 1, _, _, _, by omega, by go_num, rfl, HK4, HD4, HP.out.trans HP4.out⟩
              case measure => simp [intOf]; omega
      · obtain rfl : k = n := by omega
        have hd := HD.out
        rw [← HNF.out, HALL.out] at hd
        obtain ⟨L1, hd⟩ := hd
        have h1 := hd.set (t := { s with fs := upF s.fs ks, on := true }) 1 (.bool true) rfl rfl
        have h2 := h1.set (t := { s with fs := upF s.fs ks, on := true, fuse := -1 }) 5 (.int .i64 (-1)) rfl rfl
        have hk2 := (HP.out.setB hd.ge 1 (.bool true)).setB hd.ge 5 (.int .i64 (-1))
        have d1 := blk_cell (i := 1) hd.blk rfl
        have f1 := blk_free hd.blk 1
        have d5 := blk_cell (i := 5) h1.blk rfl
        have f5 := blk_free h1.blk 5
        have H2 := Lib.hid h2
        have HK2 := Lib.hid hk2
        clear hd h1 h2 hk2
        go_wp2_with fail
        go_end0
        exact ⟨rfl, ⟨_, _, H2.out⟩, HK2.out⟩
end Go.Proofs.Ytlmhghcoohalaaa.Dk
