/- A file's bytes anew, cut; all of them sure; a name anew. -/
import Derived.Test.YtlmhghcoohalaaaDkFew
import Derived.Lib.AppendStr
import Derived.Lib.SliceRun
import Derived.Deep.RegionWith
namespace Go.Proofs.Ytlmhghcoohalaaa.Dk
open Go.RowKit

theorem info8 : (Try.prog.info? 5).map (fun i => (i.zero, i.size, i.bytes)) = some (some (.int .u8 0), 1, 1) := by kernel_rfl

set_option maxHeartbeats 1600000 in
set_option maxRecDepth 100000 in
/-- slices.Clone of the first bytes -/
theorem bytes_any (base len k cap : Nat) (a : Option Addr) (l : List UInt8) (w : World) (hown : w.ownsRow base 5 1 (.slice a len cap) len (bs l)) (hk : k ≤ len) (hl : len ≤ 35184372088832) :
    Calls Try.prog 58 #[.slice a k cap] w fun e w' => ∃ v, e = .returned v ∧ w'.ownsRow w.heap.size 5 1 v k (bs (l.take k)) ∧ Below w.heap.size w w' := by
  have hll : l.length = len := by have := hown.1; rw [bs_len] at this; omega
  rcases hown.2 with ⟨hv, h0⟩ | ⟨g, cp, cur, hv, hbg, hg, hnc, hcm, hcs, htake⟩
  · injection hv with h1 h2 h3
    subst h1 h3
    obtain rfl : k = 0 := by omega
    have heq := Lib.run_eql_slice_nil (P := Try.prog) w 65 5 none 0 0 0 0 Try.underlying65
    clear hown
    go_enter Try.func58, Try.ntmps58
    go_wp2
    go_ret
    exact ⟨_, rfl, World.ownsRow_nil _ _ _ _, Below.refl _ _⟩
  · injection hv with h1 h2 h3
    subst h1 h3
    have hcell := hown.cells (g := g) rfl
    obtain ⟨i0, hi0, hz0, hzs, hzb⟩ := info_parts info8
    have hmade := World.ownsRow_made (base := w.heap.size) (e := 5) (size := 1) w #[] 0 (Nat.le_refl _) (by unfold maxLen; omega) (by rfl)
    have hnews : ∀ j u, (bs (l.take k))[j]? = some u → (w.alloc (.cells #[] 5)).cell? ((⟨g, 0, none⟩ : Addr).add j) = some u := fun j u hu => by
      have h2 : (bs l)[j]? = some u := by
        unfold bs at hu ⊢
        rw [List.map_take, List.getElem?_take] at hu
        split at hu
        · exact hu
        · cases hu
      have h3 := hcell j u h2
      rw [Addr.add_lit] at h3 ⊢
      exact (World.cell?_alloc_lt w _ _ (lt_of_block hg)).trans h3
    have HN := Lib.hid hnews
    have HM := Lib.hid hmade
    have H1 : Hid (∀ u ∈ bs (l.take k), u.oneCell' = true) := fun u hu => by
      unfold bs at hu; obtain ⟨x, _, rfl⟩ := List.mem_map.1 hu; rfl
    have HL : Hid ((bs (l.take k)).length = k * 1) := by show _ = _; rw [bs_len, List.length_take]; omega
    have heq := Lib.run_eql_slice_nil (P := Try.prog) w 65 5 (some ⟨g, 0, none⟩) k cap 0 0 Try.underlying65
    clear hown hcell hg hnews hmade htake h2
    go_enter Try.func58, Try.ntmps58
    go_wp2_with (at_builtin; refine wpList_append_own _ rfl _ _ 65 rfl w.heap.size 5 i0 (.int .u8 0) 1 1 Try.underlying65 hi0 hz0 hzs hzb rfl (by decide) _ _ _ rfl HM.out ⟨g, 0, none⟩ k cap (bs (l.take k)) rfl HL.out HN.out H1.out ?c3 ?c4 ?c5 ?_)
    case c3 => unfold maxLen; omega
    case c4 => omega
    case c5 => simp
    · intro v' w3 hown' hgrow _
      have hB : Below w.heap.size w w3 := ((Below.refl _ w).alloc (Nat.le_refl _) _).grown hgrow (by simp) (fun q hq => by simp [Value.ownBlock] at hq; omega)
      have HO := Lib.hid hown'
      have HB := Lib.hid hB
      clear hown' hgrow hB
      go_wp2_with fail
      go_ret
      exact ⟨_, rfl, HO.out, HB.out⟩
/-- one file's block, and its bytes, are another: the disk has that one -/
theorem DkAt.upd {base B p : Nat} {w w' : World} {s : St} {v : Value} {L : List En} {e : En} (h : DkAt base w B s v L) (he : L[p]? = some e) (e' : En) (hb : e'.b = e.b) (h1 : Fl base w' e')
    (h2 : ∀ k o, w.heap[k]? = some o → k ≠ e.b → e.v.ownBlock ≠ some k → w'.heap[k]? = some o) (h3 : ∀ k, e'.v.ownBlock = some k → e.v.ownBlock = some k ∨ w.heap.size ≤ k) :
    DkAt base w' B { s with fs := s.fs.set p e'.f } v (L.set p e') := by
  obtain ⟨hp, hpe⟩ := List.getElem?_eq_some_iff.1 he
  have hm : e ∈ L := List.mem_of_getElem? he
  obtain ⟨f1, f2, f3⟩ := h.all e hm
  have hown : ∀ k cs t, w.heap[k]? = some (Obj.cells cs t (0, 0)) → t ≠ 5 → e.v.ownBlock ≠ some k := fun k cs t hk ht ho => by
    obtain ⟨_, c, hc⟩ := row_tag f3 ho
    rw [hk] at hc; cases hc; exact ht rfl
  have hsep : ∀ j (hj : j < L.length), j ≠ p → Sep L[j] e := fun j hj hne => by
    rcases Nat.lt_or_gt_of_ne hne with h' | h'
    · have := List.pairwise_iff_getElem.1 h.sep j p hj hp h'; rw [hpe] at this; exact this
    · have := List.pairwise_iff_getElem.1 h.sep p j hp hj h'; rw [hpe] at this; exact this.symm
  have hothers : ∀ j (hj : j < L.length), j ≠ p → Fl base w' L[j] := fun j hj hne => by
    obtain ⟨s1, s2⟩ := hsep j hj hne
    obtain ⟨g1, g2, g3⟩ := h.all _ (List.getElem_mem hj)
    refine ⟨h2 _ _ g1 s1 (hown _ _ _ g1 (by decide)), g2, row_at g3 fun k cs ho hc => h2 _ _ hc (ne_of_tag hc f1 (by decide)) ?_⟩
    exact fun h' => s2 k ho h'
  refine ⟨h2 _ _ h.blk (ne_of_tag h.blk f1 (by decide)) (hown _ _ _ h.blk (by decide)), h.ge, ?_, fun x hx => ?_, ?_, ?_⟩
  · have hmap : (L.set p e').map ptr = L.map ptr := by
      rw [List.map_set]
      apply List.ext_getElem?
      intro i
      rw [List.getElem?_set]
      split
      · subst_vars
        rw [List.length_map, if_pos hp, List.getElem?_map, he]
        simp [ptr, hb]
      · rfl
    rw [hmap, List.length_set]
    exact row_at h.row fun k cs _ hc => h2 _ _ hc (ne_of_tag hc f1 (by decide)) (hown _ _ _ hc (by decide))
  · obtain ⟨j, hj, rfl⟩ := List.getElem_of_mem hx
    rw [List.length_set] at hj
    rw [List.getElem_set]
    split
    · exact h1
    · rename_i hne; exact hothers j hj (fun e => hne e.symm)
  · have hnew : ∀ j (hj : j < L.length), j ≠ p → Sep L[j] e' := fun j hj hne => by
      obtain ⟨s1, s2⟩ := hsep j hj hne
      obtain ⟨_, _, g3⟩ := h.all _ (List.getElem_mem hj)
      refine ⟨by rw [hb]; exact s1, fun k ho ho' => ?_⟩
      rcases h3 k ho' with h' | h'
      · exact s2 k ho h'
      · have := (World.ownsRow.lt g3 k ho).2; omega
    refine List.pairwise_iff_getElem.2 fun i j hi hj hij => ?_
    have hi' : i < L.length := by simpa using hi
    have hj' : j < L.length := by simpa using hj
    rw [List.getElem_set, List.getElem_set]
    split
    · subst_vars
      rw [if_neg (by omega)]
      exact (hnew j hj' (by omega)).symm
    · split
      · subst_vars; exact hnew i hi' (by omega)
      · exact List.pairwise_iff_getElem.1 h.sep i j hi' hj' hij
  · rw [List.map_set, ← h.fs]

/-- a file's block, written at one place -/
theorem blk3_set {w : World} {b i : Nat} {cs ds : Array Value} {t : TypeId} {u : Value} (h : w.heap[b]? = some (.cells cs t (0, 0))) (he : cs.setIfInBounds i u = ds) : (w.setCell ⟨b, i, none⟩ u).heap[b]? = some (.cells ds t (0, 0)) := by
  rw [heap_setCell_same w b i cs t u h, he]

set_option maxHeartbeats 800000 in
theorem settle_at (base B p : Nat) (s : St) (v : Value) (L : List En) (e : En) (w : World) (h : DkAt base w B s v L) (he : L[p]? = some e) :
    Calls Try.prog 45 #[.pointer (some ⟨e.b, 0, none⟩)] w fun r w' => r = .returned (.tuple #[]) ∧
      (∃ L', DkAt base w' B { s with fs := s.fs.set p (setF e.f) } v L') ∧ Kp base B TS w w' := by
  obtain ⟨f1, f2, f3⟩ := h.all e (List.mem_of_getElem? he)
  have c1 := blk_cell (i := 1) f1 rfl
  have c2 := blk_cell (i := 2) f1 rfl
  have g2 := blk_free f1 2
  obtain ⟨a, cap, hv, _⟩ := row_slice f3
  have h2 := blk3_set (i := 2) (u := .int .i64 (e.f.bs.length : Int)) f1 rfl
  have hne : ∀ k o, w.heap[k]? = some o → k ≠ e.b → (w.setCell ⟨e.b, 2, none⟩ (.int .i64 (e.f.bs.length : Int))).heap[k]? = some o := fun k o ho hk => by rw [heap_setCell_other _ _ _ _ hk]; exact ho
  have HD := Lib.hid (h.upd he ⟨e.b, e.v, setF e.f⟩ rfl ⟨h2, f2, row_at f3 fun k cs _ hc => hne k _ hc (ne_of_tag hc f1 (by decide))⟩ (fun k o ho hk _ => hne k o ho hk) (fun k hk => .inl hk))
  have HK := Lib.hid ((Kp.refl base B TS w).setT f1 f2 (by simp) (i := 2) (.int .i64 (e.f.bs.length : Int)))
  rw [hv] at c1
  clear h he f1 f2 f3 hv h2 hne
  generalize e.f.bs.length = m at *
  go_enter Try.func45, Try.ntmps45
  go_wp2
  go_end0
  exact ⟨rfl, ⟨_, HD.out⟩, HK.out⟩
set_option maxHeartbeats 1600000 in
theorem cut_at (base B p : Nat) (s : St) (v : Value) (L : List En) (e : En) (n : Int) (w : World) (h : DkAt base w B s v L) (he : L[p]? = some e) (h0 : 0 ≤ n) (hn : n ≤ (e.f.bs.length : Int)) (hl : e.f.bs.length ≤ 35184372088832) (hbw : base ≤ w.heap.size) :
    Calls Try.prog 47 #[.pointer (some ⟨e.b, 0, none⟩), .int .i64 n] w fun r w' => r = .returned (.tuple #[]) ∧
      (∃ v1, DkAt base w' B { s with fs := s.fs.set p (cutF e.f n.toNat) } v (L.set p ⟨e.b, v1, cutF e.f n.toNat⟩)) ∧ Kp base B TS w w' := by
  obtain ⟨k, rfl⟩ := Int.eq_ofNat_of_zero_le h0
  rw [Int.toNat_natCast]
  obtain ⟨f1, f2, f3⟩ := h.all e (List.mem_of_getElem? he)
  have c1 := blk_cell (i := 1) f1 rfl
  obtain ⟨a, cap, hv, hlc, hcm, _⟩ := row_slice f3
  rw [hv] at c1
  have hown := f3
  rw [hv] at hown
  have HC := Lib.hid (bytes_any base e.f.bs.length k cap a e.f.bs w hown (by omega) hl)
  have HD := Lib.hid h
  have HE := Lib.hid he
  have F1 := Lib.hid f1
  have hkc : (k : Int) ≤ (cap : Int) := by omega
  have hkn : (k : Int) ≤ (e.f.bs.length : Int) := by omega
  clear h he f1 f3 hv hown
  obtain ⟨len, hlen⟩ : ∃ len, e.f.bs.length = len := ⟨_, rfl⟩
  rw [hlen] at c1 hkn hlc hl hn
  have HLEN := Lib.hid hlen
  clear hlen
  go_enter Try.func47, Try.ntmps47
  go_wp2_with fail
  refine HC.out.mono ?_
  rintro r w1 ⟨v1, rfl, hr1, hb1⟩
  have g1 : w1.heap[e.b]? = _ := (hb1.block e.b (lt_of_block F1.out)).trans F1.out
  obtain ⟨a1, cap1, rfl, _⟩ := row_slice hr1
  have d1 := blk_cell (i := 1) g1 rfl
  have d1f := blk_free g1 1
  have g2 := blk3_set (i := 1) (u := .slice a1 k cap1) g1 rfl
  have d2 := blk_cell (i := 2) g2 rfl
  have d2f := blk_free g2 2
  have hne : ∀ (u u' : Value) j o, w1.heap[j]? = some o → j ≠ e.b → ((w1.setCell ⟨e.b, 1, none⟩ u).setCell ⟨e.b, 2, none⟩ u').heap[j]? = some o := fun u u' j o ho hk => by
    rw [heap_setCell_other _ _ _ _ hk, heap_setCell_other _ _ _ _ hk]; exact ho
  have HDD : Hid (∀ q : Nat, min e.f.su k = q → (∃ v1, DkAt base ((w1.setCell ⟨e.b, 1, none⟩ (.slice a1 k cap1)).setCell ⟨e.b, 2, none⟩ (.int .i64 (q : Int))) B { s with fs := s.fs.set p (cutF e.f k) } v (L.set p ⟨e.b, v1, cutF e.f k⟩)) ∧ Kp base B TS w ((w1.setCell ⟨e.b, 1, none⟩ (.slice a1 k cap1)).setCell ⟨e.b, 2, none⟩ (.int .i64 (q : Int)))) := by
    rintro q rfl
    have g3 := blk3_set (i := 2) (u := .int .i64 ((min e.f.su k : Nat) : Int)) g2 rfl
    refine ⟨⟨_, HD.out.upd HE.out ⟨e.b, .slice a1 k cap1, cutF e.f k⟩ rfl ⟨g3, f2, ?_⟩ (fun j o ho hk _ => hne _ _ j o ((hb1.block j (lt_of_block ho)).trans ho) hk) (fun j hj => .inr (row_tag hr1 hj).1)⟩, ?_⟩
    · have hlt : (cutF e.f k).bs.length = k := by simp only [cutF, List.length_take]; have := HLEN.out; omega
      show World.ownsRow _ _ _ _ (.slice a1 k cap1) (cutF e.f k).bs.length (bs (e.f.bs.take k))
      rw [hlt]
      obtain ⟨r1, r2⟩ := hr1
      refine row_at ⟨r1, r2.imp id fun ⟨g, c, cu, q1, q2, q3⟩ => ⟨g, c, cu, q1, Nat.le_trans hbw q2, q3⟩⟩ fun j cs _ hc => hne _ _ j _ hc (ne_of_tag hc g1 (by decide))
    · exact ((Kp.of_below hb1).setT g1 f2 (by simp) (.slice a1 k cap1)).setT g2 f2 (by simp) _
  clear g1 g2 hne hr1 hb1
  have HF := Lib.hid (HDD.out (min e.f.su k) rfl)
  have HMIN := Lib.hid (show min (e.f.su : Int) (k : Int) = ((min e.f.su k : Nat) : Int) by omega)
  clear HDD
  generalize e.f.su = su at *
  go_wp2_with fail
  go_end0
  rw [HMIN.out]
  exact ⟨rfl, HF.out.1, HF.out.2⟩
end Go.Proofs.Ytlmhghcoohalaaa.Dk
