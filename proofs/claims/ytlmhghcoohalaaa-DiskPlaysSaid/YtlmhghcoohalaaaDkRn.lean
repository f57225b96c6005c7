/- The document's disk: all names, sorted by insertion. (Made by wip/tools/mkDkRn.py.) -/
import Derived.Test.YtlmhghcoohalaaaDkRg
import Derived.Laws.OwnMore
import Derived.Test.YtlmhghcoohalaaaDkSu2
namespace Go.Proofs.Ytlmhghcoohalaaa.Dk
set_option linter.unusedSimpArgs false
open Go.RowKit

theorem add_n (b off i : Nat) : (⟨b, off, none⟩ : Addr).add i = ⟨b, off + i, none⟩ := by unfold Addr.add; split <;> simp_all
/-- more texts behind a row -/
theorem app_many (base n : Nat) (v : Value) (xs : List Value) (g o m c : Nat) (news : List Value) (w : World) (hown : w.ownsRow base 9 1 v n xs) (hl : news.length = m) (hs : ∀ j u, news[j]? = some u → w.cell? ⟨g, o + j, none⟩ = some u) (h1 : ∀ u ∈ news, u.oneCell' = true) (hn : n + m ≤ 1000000) (hbw : base ≤ w.heap.size) (ty : TypeId) :
    ∃ v' w', (Builtin.append_ #[44, 44] ty #[v, .slice (some ⟨g, o, none⟩) m c]).run Try.prog w = .ok v' w' ∧ w'.ownsRow base 9 1 v' (n + m) (xs ++ news) ∧ w.grownBy w' v.ownBlock := by
  obtain ⟨i0, hi0, hz0, hzs, hzb⟩ := info_parts info9
  obtain ⟨v', w', hr, h2, h3, _⟩ := run_append_own (P := Try.prog) w base 44 ty 9 i0 (.string ⟨#[]⟩) 1 16 Try.underlying44 hi0 hz0 hzs hzb rfl (by decide) v n xs hown ⟨g, o, none⟩ m c news (by omega) (fun j u hj => by
    rw [add_n]; exact hs j u hj) h1 (by unfold maxLen; omega) (by omega) hbw
  exact ⟨v', w', hr, h2, h3⟩
theorem nms_one {l : List ByteArray} : ∀ u ∈ nms l, u.oneCell' = true := fun u hu => by
  obtain ⟨x, _, rfl⟩ := List.mem_map.1 hu; rfl
theorem nms_len (l : List ByteArray) : (nms l).length = l.length := by simp [nms]
theorem nms_at {l : List ByteArray} {k : Nat} {x : ByteArray} (h : l[k]? = some x) : (nms l)[k]? = some (.string x) := by unfold nms; rw [List.getElem?_map, h]; rfl
theorem nms_ins (M : List Fi) (k : Nat) (f : Fi) : nms ((M.map (·.nm)).take k) ++ [.string f.nm] ++ nms ((M.map (·.nm)).drop k) = nms ((ins M k f).map (·.nm)) := by
  unfold ins nms
  simp [List.map_take, List.map_drop]
theorem below_size {B : Nat} {w w' : World} (h : Below B w w') : w.heap.size ≤ w'.heap.size := h.size

/-- the names of the first files of a list, sorted -/
structure Srt (L M : List Fi) (i : Nat) : Prop where
  perm : M.Perm (L.take i)
  sorted : Sorted M
theorem Srt.len {L M : List Fi} {i : Nat} (h : Srt L M i) (hi : i ≤ L.length) : M.length = i := by rw [h.perm.length_eq, List.length_take]; omega
theorem Srt.next {L M : List Fi} {i : Nat} {f : Fi} (h : Srt L M i) (hf : L[i]? = some f) (hnd : L.Pairwise fun x y => x.nm ≠ y.nm) : Srt L (ins M (pos M f.nm) f) (i + 1) := by
  obtain ⟨hi, rfl⟩ := List.getElem?_eq_some_iff.1 hf
  have hh : has M L[i].nm = false := not_has.2 fun g hg e => by
    have hg2 := h.perm.mem_iff.1 hg
    obtain ⟨j, hj⟩ := List.getElem?_of_mem hg2
    rw [List.getElem?_take] at hj
    split at hj
    · rename_i hlt
      obtain ⟨j1, j2⟩ := List.getElem?_eq_some_iff.1 hj
      have := List.pairwise_iff_getElem.1 hnd _ _ j1 hi hlt
      rw [j2, e] at this
      exact this rfl
    · cases hj
  refine ⟨?_, sorted_ins h.sorted hh⟩
  refine (ins_perm _ _ _).trans ?_
  rw [List.take_succ_eq_append_getElem hi]
  exact (h.perm.cons _).trans (List.perm_append_comm (l₁ := [L[i]]))
theorem srt_eq {M N : List Fi} (h : M.Perm N) (hm : Sorted M) (hn : Sorted N) : M = N :=
  h.eq_of_pairwise (fun _ _ _ _ h1 h2 => absurd h2 (lt_asymm h1)) hm hn

set_option maxHeartbeats 6400000 in
set_option maxRecDepth 100000 in
theorem rnames_any (base X : Nat) (s : St) (v : Value) (L : List Fi) (w : World) (h : RdAt base w X s v L) (ho : Ok s) :
    Calls Try.prog 18 #[.pointer (some ⟨X, 0, none⟩)] w fun e w' => ∃ r, e = .returned r ∧ w'.ownsRow w.heap.size 9 1 r s.fs.length (nms (s.fs.map (·.nm))) ∧ Below w.heap.size w w' := by
  have hfew := ho.few
  rw [← h.perm.length_eq] at hfew ⊢
  have HND : Hid (L.Pairwise fun x y => x.nm ≠ y.nm) := h.perm.symm.pairwise (List.Pairwise.imp (fun h => lt_ne h) ho.sorted) (fun h => Ne.symm h)
  have HEND : Hid (∀ M, Srt L M L.length → M = s.fs) := fun M hM => srt_eq (by have := hM.perm; rw [List.take_length] at this; exact this.trans h.perm) hM.sorted ho.sorted
  have HRD := Lib.hid h
  have HBASE : Hid (base ≤ w.heap.size) := by show base ≤ _; have := h.ge; have := lt_of_block h.blk; omega
  obtain ⟨a, cap, rfl, _, _, _⟩ := row3_slice h.row
  clear h ho
  obtain ⟨len, hlen⟩ : ∃ len, L.length = len := ⟨_, rfl⟩
  rw [hlen] at hfew HRD HEND ⊢
  have HL := Lib.hid hlen
  clear hlen
  go_enter Try.func18, Try.ntmps18
  go_wp2_with fail
  go_loopw [3, 4, 5, 6] (fun r i _ _ wr => ∃ (k : Nat) (M : List Fi), k ≤ len ∧ i = .int .i64 (k : Int) ∧ Hid (Srt L M k) ∧ Hid (wr.ownsRow w.heap.size 9 1 r k (nms (M.map (·.nm)))) ∧ Hid (Below w.heap.size w wr) ∧ Hid (k = 0 → r = .slice none 0 0)) (fun _ i _ _ _ => len - (intOf i).toNat)
  case atStart => exact ⟨0, [], by omega, rfl, ⟨List.Perm.refl _, List.Pairwise.nil⟩, World.ownsRow_nil _ _ _ _, Below.refl _ _, fun _ => rfl⟩
  case round =>
    obtain ⟨i, M, hi, rfl, HS, HR, HB, HZ⟩ := hrel
    have HBW : Hid (w.heap.size ≤ wr.heap.size) := HB.out.size
    have HDR : Hid (RdAt base wr X s (.slice a len cap) L) := HRD.out.later HB.out
    have HML : Hid (M.length = i) := HS.out.len (by rw [HL.out]; exact hi)
    by_cases hlt : i < len
    · obtain ⟨f, hf⟩ : ∃ f, L[i]? = some f := ⟨_, List.getElem?_eq_getElem (by rw [HL.out]; exact hlt)⟩
      have HF := Lib.hid hf
      have HNEXT := Lib.hid (HS.out.next hf HND.out)
      obtain ⟨g, cap', hv, _, c0, q0, _, _⟩ := HDR.out.reads hf
      rw [HL.out] at c0 hv
      injection hv with e1 e2 e3
      subst e1 e3
      obtain ⟨oa, oc, rfl, ho1, ho2, ho3⟩ := row_slice HR.out
      have HO3 := Lib.hid ho3
      obtain ⟨wo, hwo⟩ : ∃ wo : World, wo = wr := ⟨_, rfl⟩
      subst hwo
      clear hf ho3
      go_wp2_with fail
      go_loopw [5] (fun j wi => ∃ k : Nat, k ≤ i ∧ j = .int .i64 (k : Int) ∧ Hid (∀ (q : Nat) (y : Fi), q < k → M[q]? = some y → lt y.nm f.nm) ∧ Hid (Below wo.heap.size wo wi)) (fun j _ => i - (intOf j).toNat)
      case atStart => exact ⟨0, by omega, rfl, fun q _ hq => absurd hq (by omega), Below.refl _ _⟩
      case round =>
        obtain ⟨k, hk, rfl, HJ, HBI⟩ := hrel
        have HDI := Lib.hid (HDR.out.later HBI.out)
        have HRI : Hid (wr.ownsRow w.heap.size 9 1 (.slice oa i oc) i (nms (M.map (·.nm)))) := row_at HR.out fun b cs _ hc => (HBI.out.block b (lt_of_block hc)).trans hc
        obtain ⟨gi, capi, hv, _, c0, q0, _, _⟩ := HDI.out.reads HF.out
        rw [HL.out] at c0 hv
        injection hv with e1 e2 e3
        injection e1 with e1; injection e1 with e1
        subst e1 e3
        by_cases hki : k < i
        · obtain ⟨y, hy⟩ : ∃ y, M[k]? = some y := ⟨_, List.getElem?_eq_getElem (by rw [HML.out]; exact hki)⟩
          obtain ⟨oa', oc', hv, _, _, hcell⟩ := row_slice HRI.out
          injection hv with e1 e2 e3
          subst e1 e3
          obtain ⟨go, rfl, hgb, hgl, hcs⟩ := hcell (by omega)
          have p0 := hcs k (.string y.nm) (nms_at (by rw [List.getElem?_map, hy]; rfl))
          have HY := Lib.hid hy
          clear hy
          by_cases hly : lt y.nm f.nm
          · have hlb : Op.bytesLess y.nm.toList f.nm.toList = true := by rw [ByteArray.toList_eq, ByteArray.toList_eq]; exact hly
            have HJ2 : Hid (∀ (q : Nat) (z : Fi), q < k + 1 → M[q]? = some z → lt z.nm f.nm) := fun q z hq hz => by
              rcases Nat.lt_or_eq_of_le (Nat.le_of_lt_succ hq) with h1 | h1
              · exact HJ.out q z h1 hz
              · subst h1; rw [HY.out] at hz; cases hz; exact hly
            clear hcs hly
            go_wp2_with fail
            go_quiet (fail)
            go_wp2_with fail
            go_roundw
            case rel => exact ⟨k + 1, by omega, by go_num, HJ2, drewN_below HBI.out nq⟩
            case measure => simp [intOf]; omega
          · have hlb : Op.bytesLess y.nm.toList f.nm.toList = false := by rw [ByteArray.toList_eq, ByteArray.toList_eq]; simpa [lt] using hly
            have hpos : pos M f.nm = k := pos_is M f.nm k (by rw [HML.out]; exact hk) HJ.out (fun z hz => by rw [HY.out] at hz; cases hz; exact hly)
            rw [hpos] at HNEXT
            have hck : ¬ oc = k := by omega
            clear hcs hly hpos
            go_wp2_with fail
            go_quiet (fail)
            have hb0 := drewN_below HBI.out nq
            generalize wr.drewN nq = wn at hb0 ⊢
            have hsz : wo.heap.size ≤ wn.heap.size := hb0.size
            have hrn := row_at HR.out fun b cs _ hc => (hb0.block b (lt_of_block hc)).trans hc
            obtain ⟨oa', oc', hv, _, _, hcell⟩ := row_slice hrn
            injection hv with e1 e2 e3
            subst e1 e3
            obtain ⟨go', e1, hgb, hgl, hcs⟩ := hcell (by omega)
            injection e1 with e1; injection e1 with e1
            subst e1
            have hml := HML.out
            obtain ⟨v1, w1, r1, o1, g1⟩ := app_many wn.heap.size 0 (.slice none 0 0) [] go 0 k oc (nms ((M.map (·.nm)).take k)) wn (World.ownsRow_nil _ _ _ _) (by rw [nms_len, List.length_take, List.length_map]; omega) (fun j u hj => by
              rw [Nat.zero_add]
              refine hcs j u ?_
              unfold nms at hj ⊢
              rw [List.getElem?_map, List.getElem?_take] at hj
              split at hj
              · rw [List.getElem?_map]; exact hj
              · simp at hj) nms_one (by omega) (Nat.le_refl _) 44
            have hb1 : Below wn.heap.size wn w1 := (Below.refl _ _).grown g1 (Nat.le_refl _) (fun _ h => by cases h)
            have hd1 := HDR.out.later (hb0.trans (hb1.mono hsz))
            obtain ⟨g1', cap1, hv, _, d0, p1, _, _⟩ := hd1.reads HF.out
            rw [HL.out] at d0 hv
            injection hv with e1 e2 e3
            injection e1 with e1; injection e1 with e1
            subst e1 e3
            obtain ⟨v2, w2, r2, o2, g2, _⟩ := app_one wn.heap.size (0 + k) v1 _ f.nm w1 o1 (by omega) hb1.size 44
            have hb2 : Below wn.heap.size wn w2 := hb1.grown g2 hb1.size (fun q hq => (o1.lt q hq).1)
            obtain ⟨v3, w3, r3, o3, g3⟩ := app_many wn.heap.size (0 + k + 1) v2 _ go k (i - k) (oc - k) (nms ((M.map (·.nm)).drop k)) w2 o2 (by rw [nms_len, List.length_drop, List.length_map]; omega) (fun j u hj => by
              have hj2 : (nms (M.map (·.nm)))[k + j]? = some u := by unfold nms at hj ⊢; rw [List.getElem?_map, List.getElem?_drop] at hj; rw [List.getElem?_map]; exact hj
              have hlt2 : k + j < i := by have := (List.getElem?_eq_some_iff.1 hj2).1; rw [nms_len, List.length_map] at this; omega
              first
                | exact (hb2.cell (p := ⟨go, k + j, none⟩) hgl).trans (hcs _ _ hj2)
                | omega) nms_one (by omega) hb2.size 44
            have hb3 : Below wn.heap.size wn w3 := hb2.grown g3 hb2.size (fun q hq => (o2.lt q hq).1)
            rw [List.nil_append, nms_ins, show 0 + k + 1 + (i - k) = i + 1 by omega] at o3
            have HR3 := Lib.hid (row_base o3 (Nat.le_trans HBW.out hsz))
            have HB3 : Hid (Below w.heap.size w w3) := HB.out.trans ((hb0.trans (hb3.mono hsz)).mono HBW.out)
            clear o1 o2 o3 g1 g2 hb0 hb1 hb2 hb3 hd1 g3 hrn hcs hcell
            go_wp2_with (first
              | (at_builtin; refine Lib.wpList_append_run _ rfl _ _ _ _ rfl _ _ rfl rfl _ _ r1 ?_)
              | (at_builtin; refine Lib.wpList_append_run _ rfl _ _ _ _ rfl _ _ rfl rfl _ _ r2 ?_)
              | (at_builtin; refine Lib.wpList_append_run _ rfl _ _ _ _ rfl _ _ rfl rfl _ _ r3 ?_))
            go_roundw
            case rel => exact ⟨i + 1, ins M k f, by omega, by go_num, HNEXT, HR3, HB3, fun h => absurd h (by omega)⟩
            case measure => simp [intOf]; omega
        · obtain rfl : i = k := by omega
          have hpos : pos M f.nm = i := pos_is M f.nm i (by rw [HML.out]; exact Nat.le_refl _) HJ.out (fun z hz => by have := (List.getElem?_eq_some_iff.1 hz).1; rw [HML.out] at this; omega)
          rw [hpos] at HNEXT
          clear hpos
          by_cases hz : i = 0
          · have hzz := HZ.out hz
            subst hz
            injection hzz with e1 e2 e3
            subst e1 e3
            go_wp2_with fail
            go_quiet (fail)
            have hb0 := drewN_below HBI.out nq
            generalize wr.drewN nq = wn at hb0 ⊢
            have hsz : wo.heap.size ≤ wn.heap.size := hb0.size
            obtain ⟨v1, hv1⟩ : ∃ v1, v1 = Value.slice none 0 0 := ⟨_, rfl⟩
            have o1 : wn.ownsRow wn.heap.size 9 1 v1 (0 + 0) ([] ++ nms ((M.map (·.nm)).take 0)) := by subst hv1; exact World.ownsRow_nil _ _ _ _
            have r1 : (Builtin.append_ #[44, 44] 44 #[.slice none 0 0, .slice none 0 0]).run Try.prog wn = .ok v1 wn := by
              obtain ⟨i0, hi0, _⟩ := info_parts info9
              subst hv1
              exact run_append_owned_none wn wn.heap.size 44 _ 9 i0 1 Try.underlying44 hi0 _ 0 [] (World.ownsRow_nil _ _ _ _)
            obtain ⟨w1, hw1⟩ : ∃ w1, w1 = wn := ⟨_, rfl⟩
            have g1 : wn.grownBy w1 none := by subst hw1; exact ⟨rfl, rfl, rfl, Nat.le_refl _, fun _ _ _ => rfl⟩
            have r1 : (Builtin.append_ #[44, 44] 44 #[.slice none 0 0, .slice none 0 0]).run Try.prog wn = .ok v1 w1 := by rw [hw1]; exact r1
            rw [show wn.ownsRow wn.heap.size 9 1 v1 (0 + 0) ([] ++ nms ((M.map (·.nm)).take 0)) = w1.ownsRow wn.heap.size 9 1 v1 (0 + 0) ([] ++ nms ((M.map (·.nm)).take 0)) by rw [hw1]] at o1
            clear hw1 hv1
            have hb1 : Below wn.heap.size wn w1 := (Below.refl _ _).grown g1 (Nat.le_refl _) (fun _ h => by cases h)
            have hd1 := HDR.out.later (hb0.trans (hb1.mono hsz))
            obtain ⟨g1', cap1, hv, _, d0, p1, _, _⟩ := hd1.reads HF.out
            rw [HL.out] at d0 hv
            injection hv with e1 e2 e3
            injection e1 with e1; injection e1 with e1
            subst e1 e3
            obtain ⟨v2, w2, r2, o2, g2, _⟩ := app_one wn.heap.size (0 + 0) v1 _ f.nm w1 o1 (by omega) hb1.size 44
            have hb2 : Below wn.heap.size wn w2 := hb1.grown g2 hb1.size (fun q hq => (o1.lt q hq).1)
            have r3 : (Builtin.append_ #[44, 44] 44 #[v2, .slice none 0 0]).run Try.prog w2 = .ok v2 w2 := by
              obtain ⟨i0, hi0, _⟩ := info_parts info9
              exact run_append_owned_none w2 wn.heap.size 44 _ 9 i0 1 Try.underlying44 hi0 _ _ _ o2
            have hml := HML.out
            obtain rfl : M = [] := List.eq_nil_of_length_eq_zero (by omega)
            obtain ⟨v3, hv3⟩ : ∃ v3, v3 = v2 := ⟨_, rfl⟩
            obtain ⟨w3, hw3⟩ : ∃ w3, w3 = w2 := ⟨_, rfl⟩
            have hb3 : Below wn.heap.size wn w3 := by rw [hw3]; exact hb2
            have o3 : w3.ownsRow wn.heap.size 9 1 v3 (0 + 1) (nms ((ins [] 0 f).map (·.nm))) := by subst hv3 hw3; exact o2
            subst hv3 hw3
            have HR3 := Lib.hid (row_base o3 (Nat.le_trans HBW.out hsz))
            have HB3 : Hid (Below w.heap.size w w3) := HB.out.trans ((hb0.trans (hb3.mono hsz)).mono HBW.out)
            clear o1 o2 o3 g1 g2 hb0 hb1 hb2 hb3 hd1 
            go_wp2_with (first
              | (at_builtin; refine Lib.wpList_append_run _ rfl _ _ _ _ rfl _ _ rfl rfl _ _ r1 ?_)
              | (at_builtin; refine Lib.wpList_append_run _ rfl _ _ _ _ rfl _ _ rfl rfl _ _ r2 ?_)
              | (at_builtin; refine Lib.wpList_append_run _ rfl _ _ _ _ rfl _ _ rfl rfl _ _ r3 ?_))
            go_roundw
            case rel => exact ⟨0 + 1, ins [] 0 f, by omega, by go_num, HNEXT, HR3, HB3, fun h => absurd h (by omega)⟩
            case measure => simp [intOf]; omega
          · obtain ⟨oa', oc', hv, _, _, hcell⟩ := row_slice HRI.out
            injection hv with e1 e2 e3
            subst e1 e3
            obtain ⟨go, rfl, _, _, _⟩ := hcell (by omega)
            clear hcell
            by_cases hck : oc = i
            · go_wp2_with fail
              go_quiet (fail)
              have hb0 := drewN_below HBI.out nq
              generalize wr.drewN nq = wn at hb0 ⊢
              have hsz : wo.heap.size ≤ wn.heap.size := hb0.size
              have hrn := row_at HR.out fun b cs _ hc => (hb0.block b (lt_of_block hc)).trans hc
              obtain ⟨oa', oc', hv, _, _, hcell⟩ := row_slice hrn
              injection hv with e1 e2 e3
              subst e1 e3
              obtain ⟨go', e1, hgb, hgl, hcs⟩ := hcell (by omega)
              injection e1 with e1; injection e1 with e1
              subst e1
              have hml := HML.out
              obtain ⟨v1, w1, r1, o1, g1⟩ := app_many wn.heap.size 0 (.slice none 0 0) [] go 0 i oc (nms ((M.map (·.nm)).take i)) wn (World.ownsRow_nil _ _ _ _) (by rw [nms_len, List.length_take, List.length_map]; omega) (fun j u hj => by
                rw [Nat.zero_add]
                refine hcs j u ?_
                unfold nms at hj ⊢
                rw [List.getElem?_map, List.getElem?_take] at hj
                split at hj
                · rw [List.getElem?_map]; exact hj
                · simp at hj) nms_one (by omega) (Nat.le_refl _) 44
              have hb1 : Below wn.heap.size wn w1 := (Below.refl _ _).grown g1 (Nat.le_refl _) (fun _ h => by cases h)
              have hd1 := HDR.out.later (hb0.trans (hb1.mono hsz))
              obtain ⟨g1', cap1, hv, _, d0, p1, _, _⟩ := hd1.reads HF.out
              rw [HL.out] at d0 hv
              injection hv with e1 e2 e3
              injection e1 with e1; injection e1 with e1
              subst e1 e3
              obtain ⟨v2, w2, r2, o2, g2, _⟩ := app_one wn.heap.size (0 + i) v1 _ f.nm w1 o1 (by omega) hb1.size 44
              have hb2 : Below wn.heap.size wn w2 := hb1.grown g2 hb1.size (fun q hq => (o1.lt q hq).1)
              obtain ⟨v3, w3, r3, o3, g3⟩ := app_many wn.heap.size (0 + i + 1) v2 _ go 0 (0) (oc - i) (nms ((M.map (·.nm)).drop i)) w2 o2 (by rw [nms_len, List.length_drop, List.length_map]; omega) (fun j u hj => by
                have hj2 : (nms (M.map (·.nm)))[i + j]? = some u := by unfold nms at hj ⊢; rw [List.getElem?_map, List.getElem?_drop] at hj; rw [List.getElem?_map]; exact hj
                have hlt2 : i + j < i := by have := (List.getElem?_eq_some_iff.1 hj2).1; rw [nms_len, List.length_map] at this; omega
                first
                  | exact (hb2.cell (p := ⟨go, 0 + j, none⟩) hgl).trans (hcs _ _ hj2)
                  | omega) nms_one (by omega) hb2.size 44
              have hb3 : Below wn.heap.size wn w3 := hb2.grown g3 hb2.size (fun q hq => (o2.lt q hq).1)
              rw [List.nil_append, nms_ins, show 0 + i + 1 + (0) = i + 1 by omega] at o3
              have HR3 := Lib.hid (row_base o3 (Nat.le_trans HBW.out hsz))
              have HB3 : Hid (Below w.heap.size w w3) := HB.out.trans ((hb0.trans (hb3.mono hsz)).mono HBW.out)
              clear o1 o2 o3 g1 g2 hb0 hb1 hb2 hb3 hd1 g3 hrn hcs hcell
              go_wp2_with (first
                | (at_builtin; refine Lib.wpList_append_run _ rfl _ _ _ _ rfl _ _ rfl rfl _ _ r1 ?_)
                | (at_builtin; refine Lib.wpList_append_run _ rfl _ _ _ _ rfl _ _ rfl rfl _ _ r2 ?_)
                | (at_builtin; refine Lib.wpList_append_run _ rfl _ _ _ _ rfl _ _ rfl rfl _ _ r3 ?_))
              go_roundw
              case rel => exact ⟨i + 1, ins M i f, by omega, by go_num, HNEXT, HR3, HB3, fun h => absurd h (by omega)⟩
              case measure => simp [intOf]; omega
            · go_wp2_with fail
              go_quiet (fail)
              have hb0 := drewN_below HBI.out nq
              generalize wr.drewN nq = wn at hb0 ⊢
              have hsz : wo.heap.size ≤ wn.heap.size := hb0.size
              have hrn := row_at HR.out fun b cs _ hc => (hb0.block b (lt_of_block hc)).trans hc
              obtain ⟨oa', oc', hv, _, _, hcell⟩ := row_slice hrn
              injection hv with e1 e2 e3
              subst e1 e3
              obtain ⟨go', e1, hgb, hgl, hcs⟩ := hcell (by omega)
              injection e1 with e1; injection e1 with e1
              subst e1
              have hml := HML.out
              obtain ⟨v1, w1, r1, o1, g1⟩ := app_many wn.heap.size 0 (.slice none 0 0) [] go 0 i oc (nms ((M.map (·.nm)).take i)) wn (World.ownsRow_nil _ _ _ _) (by rw [nms_len, List.length_take, List.length_map]; omega) (fun j u hj => by
                rw [Nat.zero_add]
                refine hcs j u ?_
                unfold nms at hj ⊢
                rw [List.getElem?_map, List.getElem?_take] at hj
                split at hj
                · rw [List.getElem?_map]; exact hj
                · simp at hj) nms_one (by omega) (Nat.le_refl _) 44
              have hb1 : Below wn.heap.size wn w1 := (Below.refl _ _).grown g1 (Nat.le_refl _) (fun _ h => by cases h)
              have hd1 := HDR.out.later (hb0.trans (hb1.mono hsz))
              obtain ⟨g1', cap1, hv, _, d0, p1, _, _⟩ := hd1.reads HF.out
              rw [HL.out] at d0 hv
              injection hv with e1 e2 e3
              injection e1 with e1; injection e1 with e1
              subst e1 e3
              obtain ⟨v2, w2, r2, o2, g2, _⟩ := app_one wn.heap.size (0 + i) v1 _ f.nm w1 o1 (by omega) hb1.size 44
              have hb2 : Below wn.heap.size wn w2 := hb1.grown g2 hb1.size (fun q hq => (o1.lt q hq).1)
              obtain ⟨v3, w3, r3, o3, g3⟩ := app_many wn.heap.size (0 + i + 1) v2 _ go i (0) (oc - i) (nms ((M.map (·.nm)).drop i)) w2 o2 (by rw [nms_len, List.length_drop, List.length_map]; omega) (fun j u hj => by
                have hj2 : (nms (M.map (·.nm)))[i + j]? = some u := by unfold nms at hj ⊢; rw [List.getElem?_map, List.getElem?_drop] at hj; rw [List.getElem?_map]; exact hj
                have hlt2 : i + j < i := by have := (List.getElem?_eq_some_iff.1 hj2).1; rw [nms_len, List.length_map] at this; omega
                first
                  | exact (hb2.cell (p := ⟨go, i + j, none⟩) hgl).trans (hcs _ _ hj2)
                  | omega) nms_one (by omega) hb2.size 44
              have hb3 : Below wn.heap.size wn w3 := hb2.grown g3 hb2.size (fun q hq => (o2.lt q hq).1)
              rw [List.nil_append, nms_ins, show 0 + i + 1 + (0) = i + 1 by omega] at o3
              have HR3 := Lib.hid (row_base o3 (Nat.le_trans HBW.out hsz))
              have HB3 : Hid (Below w.heap.size w w3) := HB.out.trans ((hb0.trans (hb3.mono hsz)).mono HBW.out)
              clear o1 o2 o3 g1 g2 hb0 hb1 hb2 hb3 hd1 g3 hrn hcs hcell
              go_wp2_with (first
                | (at_builtin; refine Lib.wpList_append_run _ rfl _ _ _ _ rfl _ _ rfl rfl _ _ r1 ?_)
                | (at_builtin; refine Lib.wpList_append_run _ rfl _ _ _ _ rfl _ _ rfl rfl _ _ r2 ?_)
                | (at_builtin; refine Lib.wpList_append_run _ rfl _ _ _ _ rfl _ _ rfl rfl _ _ r3 ?_))
              go_roundw
              case rel => exact ⟨i + 1, ins M i f, by omega, by go_num, HNEXT, HR3, HB3, fun h => absurd h (by omega)⟩
              case measure => simp [intOf]; omega
    · obtain rfl : i = len := by omega
      have hend := HEND.out M HS.out
      have HE := Lib.hid hend
      have c0 := blk_cell (i := 0) HDR.out.blk rfl
      clear hend
      go_wp2_with fail
      go_ret
      exact ⟨_, rfl, by have := HR.out; rw [HE.out] at this; exact this, HB.out⟩
end Go.Proofs.Ytlmhghcoohalaaa.Dk
