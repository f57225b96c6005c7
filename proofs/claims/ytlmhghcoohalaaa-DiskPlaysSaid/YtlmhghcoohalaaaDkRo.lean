/- The document's disk: what is read of it; a file is taken out. -/
import Derived.Test.YtlmhghcoohalaaaDkRn
namespace Go.Proofs.Ytlmhghcoohalaaa.Dk
set_option linter.unusedSimpArgs false
open Go.RowKit

theorem RdAt.as {base X : Nat} {w : World} {s t : St} {v : Value} {L : List Fi} (h : RdAt base w X s v L) (h1 : t.room = s.room) (h2 : t.on = s.on) (h3 : t.fuse = s.fuse) (h4 : t.ops = s.ops) (hp : L.Perm t.fs) : RdAt base w X t v L :=
  ⟨by rw [h1, h2, h3, h4]; exact h.blk, h.ge, h.row, hp⟩

set_option maxHeartbeats 800000 in
theorem rread_any (base X : Nat) (s : St) (v : Value) (L : List Fi) (n : ByteArray) (w : World) (h : RdAt base w X s v L) (ho : Ok s) :
    Calls Try.prog 20 #[.pointer (some ⟨X, 0, none⟩), .string n] w fun e w' => e = .returned (.tuple #[.string (readOf s n), .int .i64 (look s n)]) ∧ w = w' := by
  have hfew := ho.few
  rw [← h.perm.length_eq] at hfew
  have HF := Lib.hid (rfind_any base X s v L n w h (by omega))
  have hfound := h.found ho n
  have c2 := blk_cell (i := 2) h.blk rfl
  cases hon : s.on with
  | false =>
    obtain ⟨hl, _⟩ := look_off (n := n) hon
    have HR : Hid (readOf s n = ⟨#[]⟩ ∧ look s n = 9) := ⟨by unfold readOf; rw [if_neg (by omega)], hl⟩
    rw [hon] at c2
    clear h hfound hl
    generalize fidx L n = q at *
    go_enter Try.func20, Try.ntmps20
    go_wp2_with fail
    refine HF.out.mono ?_
    rintro e w1 ⟨rfl, rfl⟩
    go_wp2_with fail
    go_ret2
    exact ⟨by rw [HR.out.1, HR.out.2]; rfl, rfl⟩
  | true =>
    rw [hon] at c2
    rcases hfound with ⟨hh, hi, _⟩ | ⟨hh, k, hi, hk, _⟩
    · obtain ⟨hl, _⟩ := look_no hon hh
      have HR : Hid (readOf s n = ⟨#[]⟩ ∧ look s n = 7) := ⟨by unfold readOf; rw [if_neg (by omega)], hl⟩
      rw [hi] at HF
      clear h hl
      go_enter Try.func20, Try.ntmps20
      go_wp2_with fail
      refine HF.out.mono ?_
      rintro e w1 ⟨rfl, rfl⟩
      go_wp2_with fail
      go_ret2
      exact ⟨by rw [HR.out.1, HR.out.2]; rfl, rfl⟩
    · obtain ⟨hl, _⟩ := look_yes hon hh
      have HR : Hid (readOf s n = ⟨(at_ s.fs (pos s.fs n)).bs.toArray⟩ ∧ look s n = 0) := ⟨by unfold readOf; rw [if_pos hl], hl⟩
      obtain ⟨g, cap, rfl, hlt, c0, _, q1, _⟩ := h.reads hk
      rw [hi] at HF
      have hlt' : ((k : Nat) : Int) < (L.length : Int) := by omega
      clear h hl hk hi
      generalize at_ s.fs (pos s.fs n) = x at *
      generalize L.length = len at *
      go_enter Try.func20, Try.ntmps20
      go_wp2_with fail
      refine HF.out.mono ?_
      rintro e w1 ⟨rfl, rfl⟩
      go_wp2_with fail
      go_ret2
      exact ⟨by rw [HR.out.1, HR.out.2]; rfl, rfl⟩

theorem info49 : (Try.prog.info? 49).map (fun i => (i.zero, i.size, i.bytes)) = some (some (.agg #[.string ⟨#[]⟩, .string ⟨#[]⟩, .int .i64 0]), 3, 40) := by kernel_rfl
/-- one more file behind a row -/
theorem app_file (base n : Nat) (v : Value) (xs : List Value) (f : Fi) (w : World) (hown : w.ownsRow base 49 3 v n xs) (hn : n ≤ 1000000) (hbw : base ≤ w.heap.size) (ty : TypeId) :
    ∃ v' w', (Builtin.append_ #[39, 39] ty #[v, .slice (some ⟨w.heap.size, 0, none⟩) 1 1]).run Try.prog (w.alloc (.cells #[.string f.nm, .string ⟨f.bs.toArray⟩, .int .i64 (f.su : Int)] 49)) = .ok v' w' ∧
      w'.ownsRow base 49 3 v' (n + 1) (xs ++ fc f) ∧ w.grownBy w' v.ownBlock := by
  obtain ⟨i0, hi0, hz0, hzs, hzb⟩ := info_parts info49
  have hnews : ∀ j u, (fc f)[j]? = some u → (w.alloc (.cells #[.string f.nm, .string ⟨f.bs.toArray⟩, .int .i64 (f.su : Int)] 49)).cell? ((⟨w.heap.size, 0, none⟩ : Addr).add j) = some u := fun j u hj => by
    rw [add_n, Nat.zero_add, cell_of_row _ _ j _ _ (0, 0) (heap_alloc_new w _)]
    simpa [fc] using hj
  have hown1 := hown.alloc (.cells #[.string f.nm, .string ⟨f.bs.toArray⟩, .int .i64 (f.su : Int)] 49)
  have hone : ∀ u ∈ fc f, u.oneCell' = true := fun u hu => by
    simp only [fc, List.mem_cons, List.not_mem_nil, or_false] at hu
    rcases hu with rfl | rfl | rfl <;> rfl
  obtain ⟨v', w', hr, h1, h2, h3⟩ := run_append_own (P := Try.prog) _ base 39 ty 49 i0 _ 3 40 Try.underlying39 hi0 hz0 hzs hzb rfl (by decide) v n xs hown1 ⟨w.heap.size, 0, none⟩ 1 1 (fc f) rfl hnews hone (by unfold maxLen; omega) (by omega) (by simp; omega)
  refine ⟨v', w', hr, h1, ?_⟩
  have h0 := World.grownBy_alloc w (.cells #[.string f.nm, .string ⟨f.bs.toArray⟩, .int .i64 (f.su : Int)] 49) v.ownBlock
  exact ⟨h2.os.trans h0.os, h2.tape.trans h0.tape, h2.output.trans h0.output, Nat.le_trans h0.size h2.size, fun k hk hne => (h2.block k (Nat.lt_of_lt_of_le hk h0.size) hne).trans (h0.block k hk hne)⟩

/-- all files but those of a name -/
def wo (L : List Fi) (n : ByteArray) : List Fi := L.filter fun f => decide (f.nm ≠ n)
theorem wo_len (L : List Fi) (n : ByteArray) : (wo L n).length ≤ L.length := List.length_filter_le _ _
theorem wo_next {L : List Fi} {n : ByteArray} {k : Nat} {x : Fi} (hk : L[k]? = some x) : wo (L.take (k + 1)) n = wo (L.take k) n ++ (if x.nm = n then [] else [x]) := by
  obtain ⟨h1, rfl⟩ := List.getElem?_eq_some_iff.1 hk
  unfold wo
  rw [List.take_succ_eq_append_getElem h1, List.filter_append]
  congr 1
  by_cases e : L[k].nm = n <;> simp [e]

set_option maxHeartbeats 3200000 in
set_option maxRecDepth 100000 in
theorem without_any (base X : Nat) (s : St) (v : Value) (L : List Fi) (n : ByteArray) (w : World) (h : RdAt base w X s v L) (hl : L.length ≤ 100000) :
    Calls Try.prog 50 #[.pointer (some ⟨X, 0, none⟩), .string n] w fun e w' => e = .returned (.tuple #[]) ∧ (∃ v', RdAt base w' X { s with fs := wo L n } v' (wo L n)) ∧ Kp base X [] w w' := by
  have HBW : Hid (base ≤ w.heap.size) := by show base ≤ _; have := h.ge; have := lt_of_block h.blk; omega
  have HS := Lib.hid h
  obtain ⟨a, cap, rfl, _, _, _⟩ := row3_slice h.row
  clear h
  obtain ⟨len, hlen⟩ : ∃ len, L.length = len := ⟨_, rfl⟩
  rw [hlen] at hl HS
  have HL := Lib.hid hlen
  have HTA : Hid (L.take len = L) := by show L.take len = L; rw [← hlen]; exact List.take_length
  clear hlen
  go_enter Try.func50, Try.ntmps50
  go_wp2_with fail
  go_loopw [4, 5] (fun v i wr => ∃ k : Nat, k ≤ len ∧ i = .int .i64 (k : Int) ∧ Hid (wr.ownsRow w.heap.size 49 3 v (wo (L.take k) n).length (fcs (wo (L.take k) n))) ∧ Hid (Below w.heap.size w wr)) (fun _ i _ => len - (intOf i).toNat)
  case atStart => exact ⟨0, by omega, rfl, World.ownsRow_nil _ _ _ _, Below.refl _ _⟩
  case round =>
    obtain ⟨k, hk, rfl, HT, HB⟩ := hrel
    have HD := Lib.hid (HS.out.later HB.out)
    have c0 := blk_cell (i := 0) HD.out.blk rfl
    by_cases hlt : k < len
    · obtain ⟨x, hx⟩ : ∃ x, L[k]? = some x := ⟨_, List.getElem?_eq_getElem (by rw [HL.out]; exact hlt)⟩
      obtain ⟨g, cap', hv, _, _, q0, q1, q2⟩ := HD.out.reads hx
      rw [HL.out] at hv
      injection hv with e1 e2 e3
      subst e1 e3
      have hq := ba_eq (a := x.nm) (b := n)
      have hnx := wo_next (n := n) hx
      have hml : (wo (L.take k) n).length ≤ 100000 := Nat.le_trans (wo_len _ _) (by rw [List.length_take]; omega)
      by_cases he : x.nm = n
      · rw [decide_eq_true he] at hq
        rw [if_pos he, List.append_nil] at hnx
        have HNX := Lib.hid hnx
        have hnq : (!(x.nm.toList == n.toList)) = false := by rw [hq]; rfl
        clear hx he hnx
        obtain ⟨xn, xb, xs⟩ := x
        simp only at *
        go_wp2_with fail
        go_roundw
        case rel => exact ⟨k + 1, by omega, by go_num, by rw [HNX.out]; exact HT, HB⟩
        case measure => simp [intOf]; omega
      · rw [decide_eq_false he] at hq
        rw [if_neg he] at hnx
        obtain ⟨v1, w1, r1, o1, g1⟩ := app_file w.heap.size _ _ _ x wr HT.out (by omega) HB.out.size 39
        have HB1 := Lib.hid (HB.out.grown g1 HB.out.size fun q hq => (HT.out.lt q hq).1)
        have HT2 : Hid (w1.ownsRow w.heap.size 49 3 v1 (wo (L.take (k + 1)) n).length (fcs (wo (L.take (k + 1)) n))) := by
          show World.ownsRow _ _ _ _ _ _ _
          rw [hnx, List.length_append, fcs_append, fcs_one]; exact o1
        have hnq : (!(x.nm.toList == n.toList)) = true := by rw [hq]; rfl
        clear hx he hnx o1 g1
        obtain ⟨xn, xb, xs⟩ := x
        simp only at *
        generalize (wo (L.take k) n).length = m at *
        go_wp2_with (at_builtin; refine Lib.wpList_append_run _ rfl _ _ _ _ rfl _ _ rfl rfl _ _ r1 ?_)
        go_roundw
        case rel => exact ⟨k + 1, by omega, by go_num, HT2, HB1⟩
        case measure => simp [intOf]; omega
    · obtain rfl : k = len := by omega
      have ht := HT.out
      rw [HTA.out] at ht
      obtain ⟨va, vc, rfl, _⟩ := row3_slice ht
      have hx1 := HD.out.blk
      have f0 := blk_free hx1 0
      have hx2 := heap_setCell_same wr X 0 _ _ (.slice va (wo L n).length vc) hx1
      have HR : Hid (∃ v', RdAt base (wr.setCell ⟨X, 0, none⟩ (.slice va (wo L n).length vc)) X { s with fs := wo L n } v' (wo L n)) :=
        ⟨_, hx2, HD.out.ge, row_at (row_base ht HBW.out) fun j cs _ hc => by
          rw [heap_setCell_other _ _ _ _ (ne_of_tag hc hx1 (by decide))]; exact hc, List.Perm.refl _⟩
      have HK : Hid (Kp base X [] w (wr.setCell ⟨X, 0, none⟩ (.slice va (wo L n).length vc))) := (Kp.of_below HB.out).setB HD.out.ge 0 _
      clear ht hx1 hx2 HT
      generalize (wo L n).length = m at *
      go_wp2_with fail
      go_end0
      exact ⟨rfl, HR.out, HK.out⟩
end Go.Proofs.Ytlmhghcoohalaaa.Dk
