/- The walks of the digits: what the program's and the document's functions on bytes return, for every input. -/
import Derived.Test.YtafcgknpehphlaaVaKit
namespace Go.Proofs.Ytafcgknpehphlaa.Va
open Go.RowKit

set_option maxHeartbeats 400000 in
theorem digits_any (u : Nat) (h1 : u < 18446744073709551616) (w : World) :
    Calls Try.prog 40 #[.int .u64 u] w fun e w' => e = .returned (str (digs u)) ∧ Below w.heap.size w w' := by
  go_enter Try.func40, Try.ntmps40
  go_wp2
  go_loopw [0, 3] (fun u' s' wr => ∃ (x : Nat) (pre : List UInt8), x < 18446744073709551616 ∧ u' = .int .u64 x ∧ s' = str pre ∧ pre ++ digs x = digs u ∧ Below w.heap.size w wr) (fun u' _ _ => (intOf u').toNat)
  case atStart => exact ⟨u, [], h1, rfl, rfl, rfl, Below.refl _ _⟩
  case round =>
    obtain ⟨x, pre, hx, rfl, rfl, hd, hb⟩ := hrel
    have hl : pre.length + 1 ≤ 10 := by
      have e := congrArg List.length hd
      have := digs_len10 h1
      have := digs_pos x
      simp at e; omega
    have HD := Lib.hid hd
    clear hd
    have hB := hb.size
    by_cases hlt : x < 128
    · have hq : ((x : Int) / 128 == 0) = true := by simp; omega
      have hcv := conv_one wr ((x : Int) % 128) (by omega) (by omega) 1
      go_wp2
      go_ret
      refine ⟨?_, hb.alloc (by omega) _⟩
      rw [← HD.out, digs_lt hlt]
      have e := str_app pre [UInt8.ofNat (x % 128)]
      rw [Nat.mod_eq_of_lt hlt] at e
      exact congrArg Ending.returned (by simpa [Nat.mod_eq_of_lt hlt] using e)
    · have hq : ((x : Int) / 128 == 0) = false := by simp; omega
      have hcv := conv_one wr ((x : Int) % 128 + 128) (by omega) (by omega) 1
      go_wp2
      go_roundw
      case rel =>
        refine ⟨x / 128, pre ++ [UInt8.ofNat (x % 128 + 128)], by omega, by simp, ?_, ?_, hb.alloc (by omega) _⟩
        · simpa using str_app pre [UInt8.ofNat (x % 128 + 128)]
        · rw [← HD.out, digs_ge (u := x) (by omega)]; simp
      case measure => simp [intOf]; omega

set_option maxHeartbeats 400000 in
set_option maxRecDepth 100000 in
theorem put_any (u : Nat) (h1 : u < 18446744073709551616) (v : Value) (n B : Nat) (l : List UInt8) (w : World)
    (hown : w.ownsRow B 5 1 v n (bs l)) (hB : B ≤ w.heap.size) (hn : n ≤ 1000000) :
    Calls Try.prog 68 #[v, .int .u64 u] w (PutPost B n l u w) := by
  obtain ⟨i0, hi, hz0, hz1, hz2⟩ := info_parts info8
  have HN : Hid (n = (bs l).length) := by have := hown.1; unfold Hid; omega
  go_enter Try.func68, Try.ntmps68
  go_wp2
  go_loopw [0, 1] (fun v' u' wr => ∃ (x : Nat) (pre : List UInt8), x < 18446744073709551616 ∧ u' = .int .u64 x ∧ wr.ownsRow B 5 1 v' (n + pre.length) (bs (l ++ pre)) ∧ pre ++ digs x = digs u ∧ Below B w wr) (fun _ u' _ => (intOf u').toNat)
  case atStart => exact ⟨u, [], h1, rfl, by simpa using hown, rfl, Below.refl _ _⟩
  case round =>
    obtain ⟨x, pre, hx, rfl, hown', hd, hb⟩ := hrel
    have hl : pre.length + 1 ≤ 10 := by
      have e := congrArg List.length hd
      have := digs_len10 h1
      have := digs_pos x
      simp at e; omega
    have HD := Lib.hid hd
    clear hd
    have hS := hb.size
    by_cases hlt : 128 ≤ x
    · go_wp2_with (at_builtin; refine wpList_append_own _ rfl _ _ 67 rfl B 5 i0 (.int .u8 0) 1 1 Try.underlying67 hi hz0 hz1 hz2 rfl (by decide) _ _ _ rfl (hown'.alloc _) ⟨wr.heap.size, 0, none⟩ 1 1 [.int .u8 ((x : Int) % 128 + 128)] rfl rfl ?c1 ?c2 ?c3 ?c4 ?c5 ?_)
      case c1 => exact Go.cell_one_new _ _ _
      case c2 => intro y hy; obtain rfl := List.mem_singleton.1 hy; rfl
      case c3 => unfold maxLen; omega
      case c4 => omega
      case c5 => simp; omega
      intro v1 w1 hown1 hgrow _
      have hb1 : Below B w w1 := (hb.alloc (by omega) _).grown hgrow (by simp; omega) (fun j hj => (hown'.lt j hj).1)
      clear hgrow
      go_wp2
      go_roundw
      case rel =>
        refine ⟨x / 128, pre ++ [UInt8.ofNat (x % 128 + 128)], by omega, by simp, ?_, ?_, hb1⟩
        · have e : bs (l ++ (pre ++ [UInt8.ofNat (x % 128 + 128)])) = bs (l ++ pre) ++ [Value.int .u8 ((x : Int) % 128 + 128)] := by
            rw [← List.append_assoc, bs_append]
            congr 1
            simp only [bs, List.map_cons, List.map_nil]
            rw [toNat_ofNat (by omega)]; rfl
          rw [e]
          simpa [Nat.add_assoc] using hown1
        · rw [← HD.out, digs_ge (u := x) (by omega)]; simp
      case measure => simp [intOf]; omega
    · go_wp2_with (at_builtin; refine wpList_append_own _ rfl _ _ 67 rfl B 5 i0 (.int .u8 0) 1 1 Try.underlying67 hi hz0 hz1 hz2 rfl (by decide) _ _ _ rfl (hown'.alloc _) ⟨wr.heap.size, 0, none⟩ 1 1 [.int .u8 (x : Int)] rfl rfl ?c1 ?c2 ?c3 ?c4 ?c5 ?_)
      case c1 => exact Go.cell_one_new _ _ _
      case c2 => intro y hy; obtain rfl := List.mem_singleton.1 hy; rfl
      case c3 => unfold maxLen; omega
      case c4 => omega
      case c5 => simp; omega
      intro v1 w1 hown1 hgrow _
      have hb1 : Below B w w1 := (hb.alloc (by omega) _).grown hgrow (by simp; omega) (fun j hj => (hown'.lt j hj).1)
      clear hgrow
      go_wp2
      go_ret
      refine ⟨v1, rfl, ?_, hb1⟩
      have hd := HD.out
      rw [digs_lt (u := x) (by omega)] at hd
      rw [← hd]
      have e : bs (l ++ (pre ++ [UInt8.ofNat x])) = bs (l ++ pre) ++ [Value.int .u8 (x : Int)] := by
        rw [← List.append_assoc, bs_append]
        congr 1
        simp only [bs, List.map_cons, List.map_nil]
        rw [toNat_ofNat (by omega)]
      rw [e]
      simpa [Nat.add_assoc] using hown1

theorem getD_byte (s : ByteArray) (k : Nat) (h : k < s.size) : s.data.toList.getD k 0 = s[k] := by
  rw [List.getD_eq_getElem?_getD, List.getElem?_eq_getElem (by simpa using h)]; rfl

theorem drop_byte (s : ByteArray) (k : Nat) (h : k < s.size) : s.data.toList.drop k = s[k] :: s.data.toList.drop (k + 1) := by
  rw [List.drop_eq_getElem_cons (by simpa using h)]; rfl

set_option maxHeartbeats 400000 in
set_option maxRecDepth 100000 in
theorem last_any (s : ByteArray) (most : Nat) (hm1 : most ≤ 10) (w : World) :
    Calls Try.prog 65 #[.string s, .int .i64 most] w fun e w' => e = .returned (.int .i64 (lastI most s.data.toList)) ∧ w = w' := by
  go_enter Try.func65, Try.ntmps65
  go_wp2
  go_loop [5] (fun i => ∃ k : Nat, k ≤ most ∧ k ≤ s.size ∧ i = .int .i64 k ∧ (∀ j, j < k → 128 ≤ (s.data.toList.getD j 0).toNat)) (fun i => s.size - (intOf i).toNat)
  case atStart => exact ⟨0, Nat.zero_le _, Nat.zero_le _, rfl, fun j hj => absurd hj (by omega)⟩
  case round =>
    obtain ⟨k, hk1, hk2, rfl, hj⟩ := hrel
    have HJ := Lib.hid hj
    clear hj
    by_cases hlt : k < s.size
    · by_cases hlm : k < most
      · have hg := getD_byte s k hlt
        have HG := Lib.hid hg
        clear hg
        by_cases hc : s[k].toNat < 128
        · go_wp2
          go_ret
          refine ⟨?_, rfl⟩
          have e : fst most s.data.toList = some k := (fst_some_iff most _ k).2 ⟨hlm, by simpa using hlt, by rw [HG.out]; exact hc, HJ.out⟩
          simp [lastI, e]
        · go_wp2
          go_round
          case rel =>
            refine ⟨k + 1, by omega, by omega, by go_num, fun j hj => ?_⟩
            by_cases e : j = k
            · subst e; rw [HG.out]; omega
            · exact HJ.out j (by omega)
          case measure => simp [intOf]; omega
      · go_wp2
        go_ret
        refine ⟨?_, rfl⟩
        have e : fst most s.data.toList = none := (fst_none_iff most _).2 fun j h1 _ => HJ.out j (by omega)
        simp [lastI, e]
    · go_wp2
      go_ret
      refine ⟨?_, rfl⟩
      have e : fst most s.data.toList = none := (fst_none_iff most _).2 fun j _ h2 => HJ.out j (by simp at h2; omega)
      simp [lastI, e]

set_option maxHeartbeats 400000 in
set_option maxRecDepth 100000 in
theorem value_any (s : ByteArray) (w : World) (hs : s.size ≤ maxLen) :
    Calls Try.prog 66 #[.string s] w fun e w' => e = .returned (.int .u64 ((val s.data.toList : Int) % 18446744073709551616)) ∧ w = w' := by
  unfold maxLen at hs
  go_enter Try.func66, Try.ntmps66
  go_wp2
  go_loop [3, 4] (fun u i => ∃ k : Nat, k ≤ s.size ∧ i = .int .i64 ((k : Int) - 1) ∧ u = .int .u64 ((val (s.data.toList.drop k) : Int) % 18446744073709551616)) (fun _ i => (intOf i + 1).toNat)
  case atStart =>
    refine ⟨s.size, Nat.le_refl _, rfl, ?_⟩
    rw [List.drop_of_length_le (by simp)]; rfl
  case round =>
    obtain ⟨k, hk1, rfl, rfl⟩ := hrel
    by_cases h0 : k = 0
    · subst h0
      go_wp2
      go_ret
      exact ⟨rfl, rfl⟩
    · obtain ⟨j, rfl⟩ : ∃ j, k = j + 1 := ⟨k - 1, by omega⟩
      go_wp2
      go_round
      case rel =>
        refine ⟨j, by omega, rfl, ?_⟩
        rw [drop_byte s j (by omega)]
        simp only [val]
        rw [IntKind.wrap_u64, IntKind.wrap_u64]
        congr 1
        omega
      case measure => simp [intOf]
end Go.Proofs.Ytafcgknpehphlaa.Va
