/- The walks of the digits: what the program's and the document's functions on bytes return, for every input. -/
import Derived.Test.YtngmcefbljkgaaaVaKit
namespace Go.Proofs.Ytngmcefbljkgaaa.Va
open Go.RowKit

set_option maxHeartbeats 400000 in
theorem digits_any (u : Nat) (h1 : u < 18446744073709551616) (w : World) :
    Calls Try.prog 45 #[.int .u64 u] w fun e w' => e = .returned (str (digs u)) ∧ Below w.heap.size w w' := by
  go_enter Try.func45, Try.ntmps45
  go_wp2
  go_loopw [0, 3] (fun u' s' wr => ∃ (x : Nat) (pre : List UInt8), x < 18446744073709551616 ∧ u' = .int .u64 x ∧ s' = str pre ∧ pre ++ digs x = digs u ∧ Below w.heap.size w wr) (fun u' _ _ => (intOf u').toNat)
  case atStart => exact ⟨u, [], h1, rfl, rfl, rfl, Below.refl _ _⟩
  case round =>
    obtain ⟨x, pre, hx, rfl, rfl, hd, hb⟩ := hrel
    have hl : pre.length + 1 ≤ 10 := by
      have e := congrArg List.length hd
      have := digs_len10 h1
      have := digs_pos x
      simp at e; omega
    have HD := Lib.hid hd
    clear hd
    have hB := hb.size
    by_cases hlt : x < 128
    · have hq : ((x : Int) / 128 == 0) = true := by simp; omega
      have hcv := conv_one wr ((x : Int) % 128) (by omega) (by omega) 1
      go_wp2
      go_ret
      refine ⟨?_, hb.alloc (by omega) _⟩
      rw [← HD.out, digs_lt hlt]
      have e := str_app pre [UInt8.ofNat (x % 128)]
      rw [Nat.mod_eq_of_lt hlt] at e
      exact congrArg Ending.returned (by simpa [Nat.mod_eq_of_lt hlt] using e)
    · have hq : ((x : Int) / 128 == 0) = false := by simp; omega
      have hcv := conv_one wr ((x : Int) % 128 + 128) (by omega) (by omega) 1
      go_wp2
      go_roundw
      case rel =>
        refine ⟨x / 128, pre ++ [UInt8.ofNat (x % 128 + 128)], by omega, by simp, ?_, ?_, hb.alloc (by omega) _⟩
        · simpa using str_app pre [UInt8.ofNat (x % 128 + 128)]
        · rw [← HD.out, digs_ge (u := x) (by omega)]; simp
      case measure => simp [intOf]; omega

set_option maxHeartbeats 400000 in
set_option maxRecDepth 100000 in
theorem put_any (u : Nat) (h1 : u < 18446744073709551616) (v : Value) (n B : Nat) (l : List UInt8) (w : World)
    (hown : w.ownsRow B 5 1 v n (bs l)) (hB : B ≤ w.heap.size) (hn : n ≤ 1000000) :
    Calls Try.prog 44 #[v, .int .u64 u] w (PutPost B n l u w) := by
  obtain ⟨i0, hi, hz0, hz1, hz2⟩ := info_parts info8
  have HN : Hid (n = (bs l).length) := by have := hown.1; unfold Hid; omega
  go_enter Try.func44, Try.ntmps44
  go_wp2
  go_loopw [0, 1] (fun v' u' wr => ∃ (x : Nat) (pre : List UInt8), x < 18446744073709551616 ∧ u' = .int .u64 x ∧ wr.ownsRow B 5 1 v' (n + pre.length) (bs (l ++ pre)) ∧ pre ++ digs x = digs u ∧ Below B w wr) (fun _ u' _ => (intOf u').toNat)
  case atStart => exact ⟨u, [], h1, rfl, by simpa using hown, rfl, Below.refl _ _⟩
  case round =>
    obtain ⟨x, pre, hx, rfl, hown', hd, hb⟩ := hrel
    have hl : pre.length + 1 ≤ 10 := by
      have e := congrArg List.length hd
      have := digs_len10 h1
      have := digs_pos x
      simp at e; omega
    have HD := Lib.hid hd
    clear hd
    have hS := hb.size
    by_cases hlt : 128 ≤ x
    · go_wp2_with (at_builtin; refine wpList_append_own _ rfl _ _ 59 rfl B 5 i0 (.int .u8 0) 1 1 Try.underlying59 hi hz0 hz1 hz2 rfl (by decide) _ _ _ rfl (hown'.alloc _) ⟨wr.heap.size, 0, none⟩ 1 1 [.int .u8 ((x : Int) % 128 + 128)] rfl rfl ?c1 ?c2 ?c3 ?c4 ?c5 ?_)
      case c1 => exact Go.cell_one_new _ _ _
      case c2 => intro y hy; obtain rfl := List.mem_singleton.1 hy; rfl
      case c3 => unfold maxLen; omega
      case c4 => omega
      case c5 => simp; omega
      intro v1 w1 hown1 hgrow _
      have hb1 : Below B w w1 := (hb.alloc (by omega) _).grown hgrow (by simp; omega) (fun j hj => (hown'.lt j hj).1)
      clear hgrow
      go_wp2
      go_roundw
      case rel =>
        refine ⟨x / 128, pre ++ [UInt8.ofNat (x % 128 + 128)], by omega, by simp, ?_, ?_, hb1⟩
        · have e : bs (l ++ (pre ++ [UInt8.ofNat (x % 128 + 128)])) = bs (l ++ pre) ++ [Value.int .u8 ((x : Int) % 128 + 128)] := by
            rw [← List.append_assoc, bs_append]
            congr 1
            simp only [bs, List.map_cons, List.map_nil]
            rw [toNat_ofNat (by omega)]; rfl
          rw [e]
          simpa [Nat.add_assoc] using hown1
        · rw [← HD.out, digs_ge (u := x) (by omega)]; simp
      case measure => simp [intOf]; omega
    · go_wp2_with (at_builtin; refine wpList_append_own _ rfl _ _ 59 rfl B 5 i0 (.int .u8 0) 1 1 Try.underlying59 hi hz0 hz1 hz2 rfl (by decide) _ _ _ rfl (hown'.alloc _) ⟨wr.heap.size, 0, none⟩ 1 1 [.int .u8 (x : Int)] rfl rfl ?c1 ?c2 ?c3 ?c4 ?c5 ?_)
      case c1 => exact Go.cell_one_new _ _ _
      case c2 => intro y hy; obtain rfl := List.mem_singleton.1 hy; rfl
      case c3 => unfold maxLen; omega
      case c4 => omega
      case c5 => simp; omega
      intro v1 w1 hown1 hgrow _
      have hb1 : Below B w w1 := (hb.alloc (by omega) _).grown hgrow (by simp; omega) (fun j hj => (hown'.lt j hj).1)
      clear hgrow
      go_wp2
      go_ret
      refine ⟨v1, rfl, ?_, hb1⟩
      have hd := HD.out
      rw [digs_lt (u := x) (by omega)] at hd
      rw [← hd]
      have e : bs (l ++ (pre ++ [UInt8.ofNat x])) = bs (l ++ pre) ++ [Value.int .u8 (x : Int)] := by
        rw [← List.append_assoc, bs_append]
        congr 1
        simp only [bs, List.map_cons, List.map_nil]
        rw [toNat_ofNat (by omega)]
      rw [e]
      simpa [Nat.add_assoc] using hown1

theorem getD_byte (s : ByteArray) (k : Nat) (h : k < s.size) : s.data.toList.getD k 0 = s[k] := by
  rw [List.getD_eq_getElem?_getD, List.getElem?_eq_getElem (by simpa using h)]; rfl

theorem drop_byte (s : ByteArray) (k : Nat) (h : k < s.size) : s.data.toList.drop k = s[k] :: s.data.toList.drop (k + 1) := by
  rw [List.drop_eq_getElem_cons (by simpa using h)]; rfl

end Go.Proofs.Ytngmcefbljkgaaa.Va
