/- A file among others: let in by its name, or taken out. -/
import Derived.Test.YtlmhghcoohalaaaDkCut
import Derived.Test.YtlmhghcoohalaaaDkDel
import Derived.Lib.BufferWrite
namespace Go.Proofs.Ytlmhghcoohalaaa.Dk
open Go.RowKit

theorem byte_len' (s : ByteArray) : s.data.toList.length = s.size := by simp

set_option maxHeartbeats 800000 in
set_option maxRecDepth 100000 in
/-- a text's own bytes anew -/
theorem lite_any (s : ByteArray) (w : World) (hlim : s.size ≤ 1099511627776) :
    Calls Try.prog 60 #[.string s] w fun e w' => e = .returned (.string s) ∧ Below w.heap.size w w' := by
  by_cases h0 : s.size = 0
  · obtain rfl : s = ⟨#[]⟩ := ByteArray.ext (Array.eq_empty_of_size_eq_zero h0)
    go_enter Try.func60, Try.ntmps60
    go_wp2
    go_ret
    exact ⟨rfl, Below.refl _ _⟩
  · obtain ⟨i0, hi, hz0, hz1, hz2⟩ := info_parts info8
    have hmk := run_make_row' (P := Try.prog) 65 5 (.int .u8 0) 1 Try.underlying65 info8 rfl .i64 .i64 s.size (by omega) (by omega)
    obtain ⟨M, hM⟩ : ∃ M, M = madeCells #[Value.int .u8 0] s.size := ⟨_, rfl⟩
    rw [← hM] at hmk
    have hMs : M.size = s.size := by rw [hM, size_madeCells]
    clear hM
    have hg : (w.alloc (.cells M 5)).heap[w.heap.size]? = some (.cells M 5 (0, 0)) := heap_alloc_new w _
    have hcp := Lib.run_copy_row_string (P := Try.prog) (w.alloc (.cells M 5)) 65 9 3 5 w.heap.size 0 s.size s.size s M 5 Try.underlying65 (by rw [hi]; simp [hz1]) hg (Nat.le_refl _) (by omega)
    obtain ⟨W2, hW2⟩ : ∃ W2, W2 = (w.alloc (.cells M 5)).setRow w.heap.size (M.toList.take 0 ++ Lib.byteCells s.data.toList ++ M.toList.drop (0 + s.size)).toArray := ⟨_, rfl⟩
    have hg2 : W2.heap[w.heap.size]? = some (.cells (Lib.byteCells s.data.toList).toArray 5 (0, 0)) := by
      rw [hW2, setRow_heap _ _ M _ 5 (0, 0) hg]
      simp only [List.take_zero, List.nil_append]
      rw [List.drop_eq_nil_of_le (by rw [Array.length_toList]; omega), List.append_nil]
    have hb2 : Below w.heap.size w W2 := by
      rw [hW2]
      exact ((Below.refl _ w).alloc (Nat.le_refl _) _).trans ⟨rfl, rfl, rfl, by simp, fun k hk => setRow_other _ _ _ _ (by omega)⟩
    rw [← hW2] at hcp
    clear hW2 hg
    have hl := byte_len' s
    have hus := Lib.run_unsafeString_row (P := Try.prog) W2 87 3 9 5 Try.underlying87 (by kernel_rfl) w.heap.size s.size (by unfold World.shape?; rw [hg2]; simp [Lib.byteCells]) s.data.toList (by intro e; rw [e] at hl; simp at hl; omega) (by omega) (by omega)
      (fun j x hx => by
        have e : (⟨w.heap.size, 0, none⟩ : Addr).add j = ⟨w.heap.size, j, none⟩ := by unfold Addr.add; split <;> simp_all
        rw [e, World.cell?, hg2]
        simp [Lib.byteCells, hx])
    rw [hl] at hus
    have HB2 := Lib.hid hb2
    clear hb2 hg2 hl
    go_enter Try.func60, Try.ntmps60
    go_wp2
    go_ret
    exact ⟨rfl, Lib.below_freeze HB2.out (p := ⟨w.heap.size, 0, none⟩) (Nat.le_refl _) _⟩

set_option maxHeartbeats 800000 in
set_option maxRecDepth 100000 in
theorem clone_any (s : ByteArray) (w : World) (hlim : s.size ≤ 1099511627776) :
    Calls Try.prog 55 #[.string s] w fun e w' => e = .returned (.string s) ∧ Below w.heap.size w w' := by
  go_enter Try.func55, Try.ntmps55
  go_wp2_with fail
  refine (lite_any s w hlim).mono ?_
  rintro e w1 ⟨rfl, h1⟩
  go_wp2_with fail
  go_ret
  exact ⟨rfl, h1⟩


theorem own_len (a : Option Addr) (n c m d : Nat) : (Value.slice a n c).ownBlock = (Value.slice a m d).ownBlock := by cases a <;> rfl

/-- one more file, at its place -/
theorem DkAt.more {base B i : Nat} {w w5 : World} {s : St} {v v' : Value} {L : List En} {e : En} {nm : ByteArray} (h : DkAt base w B s v L) (he : Fl base w e) (hs : ∀ x ∈ L, Sep x e)
    (hB : w5.heap[B]? = some (.cells #[.bool s.made, .bool s.on, .int .i64 s.room, v', .int .i64 (s.ops : Int), .int .i64 s.fuse] 31 (0, 0)))
    (hrow : w5.ownsRow base 64 1 v' (L.length + 1) ((L.map ptr).take i ++ ptr e :: (L.map ptr).drop i))
    (hf : w5.heap[e.b]? = some (.cells #[.string nm, e.v, .int .i64 (e.f.su : Int)] 67 (0, 0)))
    (hk : ∀ k cs t, w.heap[k]? = some (Obj.cells cs t (0, 0)) → k ≠ e.b → (t = 67 ∨ t = 5) → w5.heap[k]? = some (Obj.cells cs t (0, 0))) :
    DkAt base w5 B { s with fs := ins s.fs i { e.f with nm := nm } } v' (L.take i ++ ⟨e.b, e.v, { e.f with nm := nm }⟩ :: L.drop i) := by
  have hperm : (L.take i ++ (⟨e.b, e.v, { e.f with nm := nm }⟩ : En) :: L.drop i).Perm (⟨e.b, e.v, { e.f with nm := nm }⟩ :: L) := by
    refine List.perm_middle.trans ?_
    rw [List.take_append_drop]
  have hlen : (L.take i ++ (⟨e.b, e.v, { e.f with nm := nm }⟩ : En) :: L.drop i).length = L.length + 1 := by rw [hperm.length_eq, List.length_cons]
  have hmap : (L.take i ++ (⟨e.b, e.v, { e.f with nm := nm }⟩ : En) :: L.drop i).map ptr = (L.map ptr).take i ++ ptr e :: (L.map ptr).drop i := by
    rw [List.map_append, List.map_cons, List.map_take, List.map_drop]; rfl
  obtain ⟨f1, f2, f3⟩ := he
  refine ⟨hB, h.ge, by rw [hlen, hmap]; exact hrow, fun x hx => ?_, ?_, ?_⟩
  · rcases List.mem_cons.1 (hperm.mem_iff.1 hx) with rfl | hx
    · exact ⟨hf, f2, row_at f3 fun k cs _ hc => hk k cs _ hc (ne_of_tag hc f1 (by decide)) (.inr rfl)⟩
    · obtain ⟨s1, s2⟩ := hs x hx
      obtain ⟨g1, g2, g3⟩ := h.all x hx
      exact ⟨hk _ _ _ g1 s1 (.inl rfl), g2, row_at g3 fun k cs _ hc => hk k cs _ hc (ne_of_tag hc f1 (by decide)) (.inr rfl)⟩
  · refine (hperm.pairwise_iff (fun h => Sep.symm h)).2 (List.pairwise_cons.2 ⟨fun x hx => ?_, h.sep⟩)
    obtain ⟨s1, s2⟩ := hs x hx
    exact ⟨fun e => s1 e.symm, fun k h1 h2 => s2 k h2 h1⟩
  · show ins s.fs i _ = _
    unfold ins
    rw [List.map_append, List.map_cons, List.map_take, List.map_drop, ← h.fs]

/-- one file less -/
theorem DkAt.less {base B i : Nat} {w w5 : World} {s : St} {v v' : Value} {L : List En} {e : En} (h : DkAt base w B s v L) (he : L[i]? = some e)
    (hB : w5.heap[B]? = some (.cells #[.bool s.made, .bool s.on, .int .i64 s.room, v', .int .i64 (s.ops : Int), .int .i64 s.fuse] 31 (0, 0)))
    (hrow : w5.ownsRow base 64 1 v' (L.length - 1) ((L.map ptr).take i ++ (L.map ptr).drop (i + 1)))
    (hk : ∀ (k : Nat) (cs : Array Value) (t : TypeId), w.heap[k]? = some (Obj.cells cs t (0, 0)) → (t = 67 ∨ t = 5) → w5.heap[k]? = some (Obj.cells cs t (0, 0))) :
    DkAt base w5 B { s with fs := del s.fs i } v' (L.take i ++ L.drop (i + 1)) ∧ Fl base w5 e ∧ ∀ x ∈ L.take i ++ L.drop (i + 1), Sep x e ∧ x ∈ L := by
  obtain ⟨hi, rfl⟩ := List.getElem?_eq_some_iff.1 he
  have hFl : ∀ x ∈ L, Fl base w5 x := fun x hx => by
    obtain ⟨g1, g2, g3⟩ := h.all x hx
    exact ⟨hk _ _ _ g1 (.inl rfl), g2, row_at g3 fun k cs _ hc => hk k cs _ hc (.inr rfl)⟩
  have hmem : ∀ x ∈ L.take i ++ L.drop (i + 1), x ∈ L := fun x hx => by
    rcases List.mem_append.1 hx with hx | hx
    · exact List.mem_of_mem_take hx
    · exact List.mem_of_mem_drop hx
  have hperm : L.Perm (L[i] :: (L.take i ++ L.drop (i + 1))) := by
    have e : L = L.take i ++ L[i] :: L.drop (i + 1) := by rw [← List.drop_eq_getElem_cons hi, List.take_append_drop]
    conv => lhs; rw [e]
    exact List.perm_middle
  have hp := List.pairwise_cons.1 ((hperm.pairwise_iff (fun h => Sep.symm h)).1 h.sep)
  have hlen : (L.take i ++ L.drop (i + 1)).length = L.length - 1 := by simp; omega
  have hmap : (L.take i ++ L.drop (i + 1)).map ptr = (L.map ptr).take i ++ (L.map ptr).drop (i + 1) := by rw [List.map_append, List.map_take, List.map_drop]
  refine ⟨⟨hB, h.ge, by rw [hlen, hmap]; exact hrow, fun x hx => hFl x (hmem x hx), hp.2, ?_⟩, hFl _ (List.getElem_mem hi), fun x hx => ⟨(hp.1 x hx).symm, hmem x hx⟩⟩
  show del s.fs i = _
  unfold del
  rw [List.map_append, List.map_take, List.map_drop, ← h.fs]

set_option maxHeartbeats 1600000 in
theorem remove_at (base B i : Nat) (s : St) (v : Value) (L : List En) (e : En) (w : World) (h : DkAt base w B s v L) (he : L[i]? = some e) (hl : L.length ≤ 1000000) :
    Calls Try.prog 46 #[.pointer (some ⟨B, 0, none⟩), .int .i64 (i : Int)] w fun r w' => r = .returned (.tuple #[]) ∧
      (∃ v' L', DkAt base w' B { s with fs := del s.fs i } v' L' ∧ Fl base w' e ∧ ∀ x ∈ L', Sep x e ∧ x ∈ L) ∧ Kp base B [64] w w' := by
  have hi : i < L.length := (List.getElem?_eq_some_iff.1 he).1
  have HC := Lib.hid (delete_any base L.length i v (L.map ptr) w h.row hi (fun u hu => by obtain ⟨x, _, rfl⟩ := List.mem_map.1 hu; rfl))
  obtain ⟨a, cap, rfl, _⟩ := row_slice h.row
  have c3 := blk_cell (i := 3) h.blk rfl
  have HD := Lib.hid h
  have HE := Lib.hid he
  have hw1 : IntKind.i64.wrap ((i : Int) + 1) = (i : Int) + 1 := by rw [IntKind.wrap_i64]; omega
  clear h he
  obtain ⟨len, hlen⟩ : ∃ len, L.length = len := ⟨_, rfl⟩
  rw [hlen] at c3 hi hl HD HC
  have HLEN := Lib.hid hlen
  clear hlen
  go_enter Try.func46, Try.ntmps46
  go_wp2_with fail
  refine HC.out.mono ?_
  rintro r w1 ⟨v1, rfl, hr1, ho1, hg1⟩
  have hd := HD.out
  rw [← HLEN.out] at hd
  have hBrow : ∀ k, some k = (Value.slice a L.length cap).ownBlock → ∃ cs, w.heap[k]? = some (Obj.cells cs 64 (0, 0)) := fun k hk => (row_tag hd.row hk.symm).2
  have hkeep : ∀ k cs t, w.heap[k]? = some (Obj.cells cs t (0, 0)) → t ≠ 64 → w1.heap[k]? = some (Obj.cells cs t (0, 0)) := fun k cs t hk ht => by
    rw [hg1.block k (lt_of_block hk) fun e => ?_]
    · exact hk
    · obtain ⟨c, hc⟩ := hBrow k (by rw [e]; exact own_len _ _ _ _ _)
      rw [hk] at hc; cases hc; exact ht rfl
  have hb1 := hkeep B _ _ hd.blk (by decide)
  have d3 := blk_cell (i := 3) hb1 rfl
  have f3 := blk_free hb1 3
  have hb2 := blk3_set (i := 3) (u := v1) hb1 rfl
  have hk2 : ∀ k cs t, w1.heap[k]? = some (Obj.cells cs t (0, 0)) → t ≠ 31 → (w1.setCell ⟨B, 3, none⟩ v1).heap[k]? = some (Obj.cells cs t (0, 0)) := fun k cs t hk ht => by
    rw [heap_setCell_other _ _ _ _ (ne_of_tag hk hb1 ht)]; exact hk
  have hres := hd.less HE.out hb2 (by rw [HLEN.out]; exact row_at hr1 fun k cs _ hc => hk2 k cs _ hc (by decide)) (fun k cs t hk ht => hk2 k cs t (hkeep k cs t hk (by rcases ht with rfl | rfl <;> decide)) (by rcases ht with rfl | rfl <;> decide))
  have hK : Kp base B [64] w (w1.setCell ⟨B, 3, none⟩ v1) := (Kp.of_grown hg1 (fun k hk => by
    refine ⟨(row_tag hd.row (by rw [← hk]; exact own_len _ _ _ _ _)).1, fun o ho => ?_⟩
    obtain ⟨c, hc⟩ := hBrow k (by rw [← hk]; exact own_len _ _ _ _ _)
    rw [hc] at ho; cases ho; exact ⟨_, by simp, rfl⟩)).setB hd.ge 3 v1
  have HR : Hid ((∃ v' L', DkAt base (w1.setCell ⟨B, 3, none⟩ v1) B { s with fs := del s.fs i } v' L' ∧ Fl base (w1.setCell ⟨B, 3, none⟩ v1) e ∧ ∀ x ∈ L', Sep x e ∧ x ∈ L) ∧ Kp base B [64] w (w1.setCell ⟨B, 3, none⟩ v1)) := ⟨⟨_, _, hres⟩, hK⟩
  obtain ⟨a1, cap1, rfl, _⟩ := row_slice hr1
  clear hres hK hb1 hb2 hk2 hkeep hBrow hd hr1 ho1 hg1 HD HC
  go_wp2_with fail
  go_end0
  exact ⟨rfl, HR.out.1, HR.out.2⟩
set_option maxHeartbeats 3200000 in
theorem insert_at (base B i : Nat) (s : St) (v : Value) (L : List En) (e : En) (nm : ByteArray) (w : World) (h : DkAt base w B s v L) (he : Fl base w e) (hs : ∀ x ∈ L, Sep x e) (hi : i ≤ L.length) (hl : L.length ≤ 1000000) (hn : nm.size ≤ 1099511627776) (hbw : base ≤ w.heap.size) :
    Calls Try.prog 43 #[.pointer (some ⟨B, 0, none⟩), .int .i64 (i : Int), .pointer (some ⟨e.b, 0, none⟩), .string nm] w fun r w' => r = .returned (.tuple #[]) ∧
      (∃ v' L', DkAt base w' B { s with fs := ins s.fs i { e.f with nm := nm } } v' L') ∧ Kp base B TS w w' := by
  have HD := Lib.hid h
  have HE := Lib.hid he
  have HS := Lib.hid hs
  clear h he hs
  go_enter Try.func43, Try.ntmps43
  go_wp2_with fail
  refine (clone_any nm w hn).mono ?_
  rintro r w1 ⟨rfl, hb1⟩
  -- the name is laid
  have e1 : w1.heap[e.b]? = some (Obj.cells #[.string e.f.nm, e.v, .int .i64 (e.f.su : Int)] 67 (0, 0)) := (hb1.block _ (lt_of_block HE.out.1)).trans HE.out.1
  have d0 := blk_cell (i := 0) e1 rfl
  have g0 := blk_free e1 0
  have e2 := blk3_set (i := 0) (u := .string nm) e1 (ds := #[.string nm, e.v, .int .i64 (e.f.su : Int)]) rfl
  have k2 : ∀ (k : Nat) (o : Obj), w.heap[k]? = some o → k ≠ e.b → (w1.setCell ⟨e.b, 0, none⟩ (.string nm)).heap[k]? = some o := fun k o ho hk => by
    rw [heap_setCell_other _ _ _ _ hk]; exact (hb1.block k (lt_of_block ho)).trans ho
  have hBe : B ≠ e.b := ne_of_tag HD.out.blk HE.out.1 (by decide)
  have b2 := k2 B _ HD.out.blk hBe
  have K2 : Kp base B TS w (w1.setCell ⟨e.b, 0, none⟩ (.string nm)) := (Kp.of_below hb1).setT e1 HE.out.2.1 (by simp) _
  have r2 : (w1.setCell ⟨e.b, 0, none⟩ (.string nm)).ownsRow base 64 1 v L.length (L.map ptr) := row_at HD.out.row fun k cs _ hc => k2 k _ hc (ne_of_tag hc HE.out.1 (by decide))
  have c2 := blk_cell (i := 3) b2 rfl
  obtain ⟨W2, hW2⟩ : ∃ W2, W2 = w1.setCell ⟨e.b, 0, none⟩ (.string nm) := ⟨_, rfl⟩
  rw [← hW2] at e2 k2 b2 K2 r2 c2
  have HW2 := Lib.hid hW2
  have E2 := Lib.hid e2
  have HK2 := Lib.hid k2
  have B2 := Lib.hid b2
  have KK2 := Lib.hid K2
  have HB1 := Lib.hid hb1
  -- the row takes the file
  have hv3 : (W2.alloc (.cells #[ptr e] 64)).heap[W2.heap.size]? = some (Obj.cells #[ptr e] 64 (0, 0)) := heap_alloc_new W2 _
  have r3 := r2.alloc (.cells #[ptr e] 64)
  have hvb : v.ownBlock ≠ some W2.heap.size := fun h' => by have := (World.ownsRow.lt r2 _ h').2; omega
  have HI := Lib.hid (insert_any base L.length i W2.heap.size v (L.map ptr) (ptr e) (W2.alloc (.cells #[ptr e] 64)) r3 hl hi hv3 hvb (fun u hu => by obtain ⟨x, _, rfl⟩ := List.mem_map.1 hu; rfl) rfl (by have := K2.size; simp; omega))
  have hrt : ∀ k, some k = v.ownBlock → base ≤ k ∧ ∃ cs, W2.heap[k]? = some (Obj.cells cs 64 (0, 0)) := fun k hk => row_tag r2 hk.symm
  have HRT := Lib.hid hrt
  have hsz : w1.heap.size = W2.heap.size := by rw [hW2]; simp
  have HSZ := Lib.hid hsz
  obtain ⟨a, cap, rfl, _⟩ := row_slice r2
  unfold ptr at HI
  rw [← hsz, hW2] at HI
  rw [hW2] at c2
  clear e1 e2 k2 b2 K2 r2 hW2 hv3 r3 hvb hrt hsz hb1
  obtain ⟨len, hlen⟩ : ∃ len, L.length = len := ⟨_, rfl⟩
  rw [hlen] at c2 hi hl HD HI B2 HRT
  have HLEN := Lib.hid hlen
  clear hlen
  go_wp2_with fail
  refine HI.out.mono ?_
  rintro r w4 ⟨v4, rfl, r4, g4⟩
  rw [← HW2.out] at g4
  have hk4 : ∀ (k : Nat) (cs : Array Value) (t : TypeId), W2.heap[k]? = some (Obj.cells cs t (0, 0)) → t ≠ 64 → w4.heap[k]? = some (Obj.cells cs t (0, 0)) := fun k cs t hk ht => by
    have h3 : (W2.alloc (.cells #[ptr e] 64)).heap[k]? = some (Obj.cells cs t (0, 0)) := by rw [Below.heap_alloc _ _ _ (lt_of_block hk)]; exact hk
    rw [← h3]
    refine g4.block k (lt_of_block h3) fun e' => ?_
    obtain ⟨_, c, hc⟩ := HRT.out k e'
    rw [hk] at hc; cases hc; exact ht rfl
  have b4 := hk4 B _ _ B2.out (by decide)
  have e4 := hk4 e.b _ _ E2.out (by decide)
  have d3 := blk_cell (i := 3) b4 rfl
  have f3 := blk_free b4 3
  have b5 := blk3_set (i := 3) (u := v4) b4 rfl
  have hk5 : ∀ (k : Nat) (cs : Array Value) (t : TypeId), w4.heap[k]? = some (Obj.cells cs t (0, 0)) → t ≠ 31 → (w4.setCell ⟨B, 3, none⟩ v4).heap[k]? = some (Obj.cells cs t (0, 0)) := fun k cs t hk ht => by
    rw [heap_setCell_other _ _ _ _ (ne_of_tag hk b4 ht)]; exact hk
  have hd := HD.out
  have hres := hd.more (nm := nm) (i := i) HE.out HS.out b5 (by rw [HLEN.out]; exact row_at r4 fun k cs _ hc => hk5 k cs _ hc (by decide)) (hk5 _ _ _ e4 (by decide)) (fun k cs t hk hne ht => hk5 k cs t (hk4 k cs t (HK2.out k _ hk hne) (by rcases ht with rfl | rfl <;> decide)) (by rcases ht with rfl | rfl <;> decide))
  have hK : Kp base B TS w (w4.setCell ⟨B, 3, none⟩ v4) := ((KK2.out.trans (Kp.of_below ((Below.refl _ _).alloc (Nat.le_refl _) _))).trans (Kp.of_grown g4 (fun k hk => by
    obtain ⟨h1, c, hc⟩ := HRT.out k hk.symm
    refine ⟨h1, fun o ho => ?_⟩
    rw [Below.heap_alloc _ _ _ (lt_of_block hc), hc] at ho
    cases ho; exact ⟨_, by simp, rfl⟩))).setB hd.ge 3 v4
  have HR : Hid ((∃ v' L', DkAt base (w4.setCell ⟨B, 3, none⟩ v4) B { s with fs := ins s.fs i { e.f with nm := nm } } v' L') ∧ Kp base B TS w (w4.setCell ⟨B, 3, none⟩ v4)) := ⟨⟨_, _, hres⟩, hK⟩
  obtain ⟨a1, cap1, rfl, _⟩ := row_slice r4
  clear hres hK b4 b5 e4 hk5 hk4 hd r4 g4
  go_wp2_with fail
  go_end0
  exact ⟨rfl, HR.out.1, HR.out.2⟩
end Go.Proofs.Ytlmhghcoohalaaa.Dk
