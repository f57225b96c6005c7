/- What is told of a disk: how many bytes all files have, their names, a file's bytes. -/
import Derived.Test.YtlmhghcoohalaaaDkRead
namespace Go.Proofs.Ytlmhghcoohalaaa.Dk
open Go.RowKit

theorem used_snoc {L : List En} {k : Nat} {e : En} (he : L[k]? = some e) : used ((L.take (k + 1)).map (·.f)) = used ((L.take k).map (·.f)) + e.f.bs.length := by
  obtain ⟨hk, rfl⟩ := List.getElem?_eq_some_iff.1 he
  rw [List.take_succ_eq_append_getElem hk, List.map_append]
  unfold used
  rw [List.map_append, List.sum_append]
  simp
theorem used_take_le (L : List En) (k : Nat) : used ((L.take k).map (·.f)) ≤ used (L.map (·.f)) := by
  have : L.map (·.f) = (L.take k).map (·.f) ++ (L.drop k).map (·.f) := by rw [← List.map_append, List.take_append_drop]
  rw [this]; unfold used; rw [List.map_append, List.sum_append]; omega

set_option maxHeartbeats 800000 in
theorem used_any (base B : Nat) (s : St) (w : World) (h : Dk base w B s) (ho : Ok s) :
    Calls Try.prog 14 #[.pointer (some ⟨B, 0, none⟩)] w fun e w' => e = .returned (.int .i64 (used s.fs : Int)) ∧ w = w' := by
  obtain ⟨v, L, h⟩ := h
  have hful := ho.full
  have hroom := ho.room1
  have hfew := ho.few
  rw [h.fs] at hful hfew ⊢
  rw [List.length_map] at hfew
  obtain ⟨a, cap, rfl, _⟩ := row_slice h.row
  have HA := Lib.hid (all_any base B s _ L w h)
  have HD := Lib.hid h
  clear h
  have HT := Lib.hid (List.take_length (l := L))
  have hub : used (L.map (·.f)) ≤ 9223372036854775807 := by omega
  obtain ⟨len, hlen⟩ : ∃ len, L.length = len := ⟨_, rfl⟩
  rw [hlen] at HD HA HT hfew
  have HL := Lib.hid hlen
  clear hlen hful
  go_enter Try.func14, Try.ntmps14
  go_wp2_with fail
  refine HA.out.mono ?_
  rintro e w1 ⟨rfl, rfl⟩
  go_wp2_with fail
  go_loop [3, 5, 9] (fun n _ i => ∃ k : Nat, k ≤ len ∧ i = .int .i64 (k : Int) ∧ n = .int .i64 (used ((L.take k).map (·.f)) : Int)) (fun _ _ i => len - (intOf i).toNat)
  case atStart => exact ⟨0, by omega, rfl, rfl⟩
  case round =>
    obtain ⟨k, hk, rfl, rfl⟩ := hrel
    by_cases hlt : k < len
    · obtain ⟨e, he⟩ : ∃ e, L[k]? = some e := ⟨_, List.getElem?_eq_getElem (by rw [HL.out]; exact hlt)⟩
      have hd := HD.out
      rw [← HL.out] at hd
      obtain ⟨g, cap', hv, _, _, cg, _, c1, _⟩ := En.reads hd he
      have hfl := hd.all e (List.mem_of_getElem? he)
      injection hv with hv1 hv2 hv3
      subst hv1 hv3
      obtain ⟨a2, cap2, hv, _⟩ := row_slice hfl.2.2
      rw [hv] at c1
      have hsn := used_snoc he
      have hle := used_take_le L (k + 1)
      have hb : used ((L.take k).map (·.f)) + e.f.bs.length ≤ 9223372036854775807 := by omega
      have HN := Lib.hid hsn
      clear hd he hfl hv hsn hle
      generalize e.f.bs.length = m at *
      generalize used ((L.take k).map (·.f)) = u at *
      go_wp2_with fail
      go_round
      case rel => exact ⟨k + 1, by omega, by go_num, by rw [HN.out]; rfl⟩
      case measure => simp [intOf]; omega
    · obtain rfl : k = len := by omega
      rw [HT.out]
      go_wp2_with fail
      go_ret
      exact ⟨rfl, rfl⟩

/-- names as cells -/
def nms (l : List ByteArray) : List Value := l.map Value.string
theorem info9 : (Try.prog.info? 9).map (fun i => (i.zero, i.size, i.bytes)) = some (some (.string ⟨#[]⟩), 1, 16) := by kernel_rfl

set_option maxHeartbeats 1600000 in
theorem names_any (base B : Nat) (s : St) (w : World) (h : Dk base w B s) (ho : Ok s) :
    Calls Try.prog 17 #[.pointer (some ⟨B, 0, none⟩)] w fun e w' => ∃ r, e = .returned r ∧ w'.ownsRow w.heap.size 9 1 r s.fs.length (nms (s.fs.map (·.nm))) ∧ Below w.heap.size w w' := by
  obtain ⟨v, L, h⟩ := h
  have hfew := ho.few
  rw [h.fs] at hfew ⊢
  rw [List.length_map] at hfew ⊢
  obtain ⟨a, cap, rfl, _⟩ := row_slice h.row
  have HA := Lib.hid (all_any base B s _ L w h)
  have HD := Lib.hid h
  clear h
  have HT := Lib.hid (List.take_length (l := L))
  obtain ⟨len, hlen⟩ : ∃ len, L.length = len := ⟨_, rfl⟩
  rw [hlen] at HD HA HT hfew ⊢
  have HL := Lib.hid hlen
  clear hlen
  obtain ⟨i0, hi, hz0, hz1, hz2⟩ := info_parts info9
  go_enter Try.func17, Try.ntmps17
  go_wp2_with fail
  refine HA.out.mono ?_
  rintro e w1 ⟨rfl, rfl⟩
  go_wp2_with fail
  go_loopw [3, 5, 9] (fun r _ i wr => ∃ k : Nat, k ≤ len ∧ i = .int .i64 (k : Int) ∧ Hid (wr.ownsRow w.heap.size 9 1 r k (nms ((L.map (·.f.nm)).take k))) ∧ Hid (Below w.heap.size w wr)) (fun _ _ i _ => len - (intOf i).toNat)
  case atStart => exact ⟨0, by omega, rfl, World.ownsRow_nil _ _ _ _, Below.refl _ _⟩
  case round =>
    obtain ⟨k, hk, rfl, HR, HB⟩ := hrel
    by_cases hlt : k < len
    · obtain ⟨e, he⟩ : ∃ e, L[k]? = some e := ⟨_, List.getElem?_eq_getElem (by rw [HL.out]; exact hlt)⟩
      have hd := HD.out.later HB.out
      rw [← HL.out] at hd
      obtain ⟨g, cap', hv, _, _, cg, c0, _, _⟩ := En.reads hd he
      injection hv with hv1 hv2 hv3
      subst hv1 hv3
      have HE : Hid (nms ((L.map (·.f.nm)).take (k + 1)) = nms ((L.map (·.f.nm)).take k) ++ [.string e.f.nm]) := by
        obtain ⟨hk, rfl⟩ := List.getElem?_eq_some_iff.1 he
        show _ = _
        rw [List.take_succ_eq_append_getElem (by rw [List.length_map]; exact hk)]; unfold nms; rw [List.map_append, List.getElem_map]; rfl
      clear hd he hv2
      generalize e.f.nm = x at *
      have hown := HR.out
      have hsz := HB.out.size
      have HSZ := Lib.hid hsz
      clear hsz
      go_wp2_with (at_builtin; refine wpList_append_own _ rfl _ _ 44 rfl w.heap.size 9 i0 (.string ⟨#[]⟩) 1 16 Try.underlying44 hi hz0 hz1 hz2 rfl (by decide) _ _ _ rfl (hown.alloc _) ⟨wr.heap.size, 0, none⟩ 1 1 [.string x] rfl rfl ?c1 ?c2 ?c3 ?c4 ?c5 ?_)
      case c2 => rfl
      case c3 => unfold maxLen; omega
      case c4 => omega
      case c5 => have := HSZ.out; simp; omega
      · intro v' w3 hown' hgrow _
        have R1 : Hid (w3.ownsRow w.heap.size 9 1 v' (k + 1) (nms ((L.map (·.f.nm)).take (k + 1)))) := by
          show World.ownsRow _ _ _ _ _ _ _
          rw [HE.out]; exact hown'
        have R2 : Hid (Below w.heap.size w w3) := (HB.out.alloc HSZ.out _).grown hgrow (by have := HSZ.out; simp; omega) (fun k hk => (hown.lt k hk).1)
        clear hown' hgrow hown cg c0
        go_wp2_with fail
        go_roundw
        case rel => exact ⟨k + 1, by omega, by go_num, R1, R2⟩
        case measure => simp [intOf]; omega
    · obtain rfl : k = len := by omega
      have HR2 := HR.out
      rw [← List.map_take, HT.out] at HR2
      have HR3 := Lib.hid HR2
      clear HR2
      go_wp2_with fail
      go_ret
      exact ⟨_, rfl, by rw [List.map_map]; exact HR3.out, HB.out⟩
theorem conv_own {w : World} {base n : Nat} {v : Value} {l : List UInt8} (h : w.ownsRow base 5 1 v n (bs l)) :
    (convert 65 9 v).run Try.prog w = .ok (.string ⟨l.toArray⟩) w := by
  have hn : l.length = n := by have := h.1; rw [bs_len] at this; omega
  have hcells := fun g (hg : v.ownBlock = some g) => h.cells hg
  obtain ⟨_, h2⟩ := h
  rcases h2 with ⟨rfl, h0⟩ | ⟨g, cap, cur, rfl, _⟩
  · obtain rfl : l = [] := List.eq_nil_of_length_eq_zero (by omega)
    exact run_convert_bytes_nil w _ _ Try.underlying65 Try.underlying5 0 0 _ Try.underlying9
  · subst hn
    refine run_convert_bytes_back w _ _ _ ⟨g, 0, none⟩ cap l Try.underlying65 Try.underlying5 Try.underlying9 ?_
    intro j hj
    exact hcells g rfl j _ (by simp [bs, hj])

/-- what Read tells -/
def readOf (s : St) (n : ByteArray) : ByteArray := if look s n = 0 then ⟨(at_ s.fs (pos s.fs n)).bs.toArray⟩ else ⟨#[]⟩
set_option maxHeartbeats 800000 in
theorem read_any (base B : Nat) (s : St) (n : ByteArray) (w : World) (h : Dk base w B s) (ho : Ok s) :
    Calls Try.prog 19 #[.pointer (some ⟨B, 0, none⟩), .string n] w fun e w' => e = .returned (.tuple #[.string (readOf s n), .int .i64 (look s n)]) ∧ Below w.heap.size w w' := by
  have HL := Lib.hid (look_any base B s n w h ho)
  have HD := Lib.hid h
  have HO := Lib.hid ho
  clear h ho
  by_cases hz : look s n = 0
  · have HE : Hid (readOf s n = ⟨(at_ s.fs (pos s.fs n)).bs.toArray⟩) := by show readOf s n = _; simp [readOf, hz]
    have HA : Hid (lookAt s n = pos s.fs n) := by show lookAt s n = _; simp [lookAt, hz]
    have hh := look_has hz
    rw [hz] at HL ⊢
    rw [HA.out] at HL
    clear hz
    go_enter Try.func19, Try.ntmps19
    go_wp2_with fail
    refine HL.out.mono ?_
    rintro e w1 ⟨rfl, hb⟩
    have HB := Lib.hid hb
    obtain ⟨v, L, h1⟩ := HD.out.later hb
    clear hb
    obtain ⟨e, he, hef, _⟩ := En.here h1 HO.out hh.2
    obtain ⟨g, cap, rfl, hlt, c3, cg, _, c1, _⟩ := En.reads h1 he
    have hlt' : ((pos s.fs n : Nat) : Int) < (L.length : Int) := by omega
    have hown := (h1.all e (List.mem_of_getElem? he)).2.2
    rw [hef] at hown
    obtain ⟨a2, cap2, hv, _⟩ := row_slice hown
    have hcv := conv_own hown
    rw [hv] at c1 hcv
    clear he h1 hef hh hown hv
    generalize at_ s.fs (pos s.fs n) = x at *
    generalize pos s.fs n = p at *
    generalize L.length = len at *
    generalize x.bs.length = m at *
    go_wp2_with fail
    go_ret2
    exact ⟨by rw [HE.out]; rfl, HB.out⟩
  · have HE : Hid (readOf s n = ⟨#[]⟩) := by show readOf s n = _; simp [readOf, hz]
    have HA : Hid (lookAt s n = 0) := by show lookAt s n = _; simp [lookAt, hz]
    have hne : (look s n != 0) = true := by simpa using hz
    rw [HA.out] at HL
    clear hz
    go_enter Try.func19, Try.ntmps19
    go_wp2_with fail
    refine HL.out.mono ?_
    rintro e w1 ⟨rfl, hb⟩
    go_wp2_with fail
    go_ret2
    exact ⟨by rw [HE.out]; rfl, hb⟩
theorem read_nil (n : ByteArray) (w : World) :
    Calls Try.prog 19 #[.pointer none, .string n] w fun e w' => e = .returned (.tuple #[.string ⟨#[]⟩, .int .i64 9]) ∧ Below w.heap.size w w' := by
  go_enter Try.func19, Try.ntmps19
  go_wp2_with fail
  refine (look_nil n w).mono ?_
  rintro e w1 ⟨rfl, hb⟩
  go_wp2_with fail
  go_ret2
  exact ⟨rfl, hb⟩
theorem used_nil (w : World) : Calls Try.prog 14 #[.pointer none] w fun e w' => e = .returned (.int .i64 0) ∧ w = w' := by
  go_enter Try.func14, Try.ntmps14
  go_wp2_with fail
  refine (all_nil w).mono ?_
  rintro e w1 ⟨rfl, rfl⟩
  go_wp2_with fail
  go_loop [3, 9] (fun n i => n = .int .i64 0 ∧ i = .int .i64 0) (fun _ _ => 0)
  case atStart => exact ⟨rfl, rfl⟩
  case round =>
    obtain ⟨rfl, rfl⟩ := hrel
    go_wp2_with fail
    go_ret
    exact ⟨rfl, rfl⟩
theorem names_nil (w : World) : Calls Try.prog 17 #[.pointer none] w fun e w' => e = .returned (.slice none 0 0) ∧ w = w' := by
  go_enter Try.func17, Try.ntmps17
  go_wp2_with fail
  refine (all_nil w).mono ?_
  rintro e w1 ⟨rfl, rfl⟩
  go_wp2_with fail
  go_loop [3, 9] (fun n i => n = .slice none 0 0 ∧ i = .int .i64 0) (fun _ _ => 0)
  case atStart => exact ⟨rfl, rfl⟩
  case round =>
    obtain ⟨rfl, rfl⟩ := hrel
    go_wp2_with fail
    go_ret
    exact ⟨rfl, rfl⟩
end Go.Proofs.Ytlmhghcoohalaaa.Dk
