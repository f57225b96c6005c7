/- DiskRoom's walk. -/
import Derived.Test.YtlmhghcoohalaaaDkFewL
import Derived.Test.YtlmhghcoohalaaaDkAwake
namespace Go.Proofs.Ytlmhghcoohalaaa.Dk
open Go.RowKit

/-- an act's cells, as the walk reads them -/
theorem Acts.cells {base len : Nat} {w : World} {a : Option Addr} {l : List Ac} (h : Acts base w a len l) {k : Nat} (hk : k < len) :
    ∃ b off x, a = some ⟨b, off, none⟩ ∧ b < base ∧ l[k]? = some x ∧ x ∈ l ∧
    w.cell? ⟨b, off + k * 6, none⟩ = some (.int .i64 x.a.kind) ∧ w.cell? ⟨b, off + k * 6 + 1, none⟩ = some (.string x.a.name) ∧ w.cell? ⟨b, off + k * 6 + 2, none⟩ = some (.string x.a.to) ∧
    w.cell? ⟨b, off + k * 6 + 3, none⟩ = some (.string x.a.s) ∧ w.cell? ⟨b, off + k * 6 + 4, none⟩ = some (.int .i64 x.a.n) ∧ w.cell? ⟨b, off + k * 6 + 5, none⟩ = some (.slice x.ka x.kl x.kc) := by
  obtain ⟨b, off, rfl, hb, hc⟩ := h.at_ (by omega)
  obtain ⟨x, hx⟩ : ∃ x, l[k]? = some x := ⟨_, List.getElem?_eq_getElem (by rw [h.len_is]; exact hk)⟩
  exact ⟨b, off, x, rfl, hb, hx, List.mem_of_getElem? hx, hc k x hx⟩
theorem Acts.few {base B len : Nat} {w : World} {a : Option Addr} {l : List Ac} (h : Acts base w a len l) {x : Ac} (hx : x ∈ l) (hf : fewA x) : Few base B w x.a x.ka x.kl x.kc :=
  ⟨by have := hf.1; omega, (h.num x hx).1, (h.num x hx).2, (h.keep x hx).row B⟩

/-- where the disk of a law stands -/
structure On (base : Nat) (w : World) (room : Int) (k : Nat) (s : St) : Prop where
  dk : Dk base w base s
  ok : Ok s
  ops : s.ops ≤ k
  used : used s.fs ≤ 100 * k
  room : s.room = max room 0
theorem On.lim {base k : Nat} {w : World} {room : Int} {s : St} (h : On base w room k s) (hk : k ≤ 1000) : Lim s := ⟨by have := h.ops; omega, by have := h.used; omega⟩
theorem On.act {base k : Nat} {w w' : World} {room : Int} {s : St} (h : On base w room k s) (x : Ac) (hf : fewA x) (hn : x.a.n ≤ 9223372036854775807) (hd : Dk base w' base (act s x.a).1) : On base w' room (k + 1) (act s x.a).1 := by
  have hm := act_more h.ok x.a
  have h1 := h.ops
  have h2 := h.used
  have h3 := hm.ops
  have h4 := hm.used
  have h5 := hf.1
  exact ⟨hd, act_ok h.ok x.a hn, by omega, by omega, hm.room.trans h.room⟩
theorem On.later {base k : Nat} {w w' : World} {room : Int} {s : St} (h : On base w room k s) (hb : Below w.heap.size w w') : On base w' room k s := ⟨h.dk.later hb, h.ok, h.ops, h.used, h.room⟩

set_option maxHeartbeats 800000 in
/-- too many acts, or too great ones -/
theorem room_long (room : Int) (a : Option Addr) (len cap : Nat) (l : List Ac) (w : World) (h : Acts w.heap.size w a len l) (hf : ∀ e, FewEnd len 90 l e → e = .returned (.bool false)) :
    Calls Try.prog 5 #[.int .i64 room, .slice a len cap] w fun e w' => e = .returned (.bool true) ∧ Below w.heap.size w w' := by
  have HW := Lib.hid (few_any w.heap.size a len cap l 90 w h (by omega) (by omega))
  have HF := Lib.hid hf
  clear h hf
  go_enter Try.func5, Try.ntmps5
  go_wp2_with fail
  refine HW.out.mono ?_
  rintro e w1 ⟨he, rfl⟩
  obtain rfl := HF.out e he
  clear he
  go_wp2_with fail
  refine (awake_any w).mono ?_
  rintro e w1 ⟨rfl, hb⟩
  go_wp2_with fail
  go_ret
  exact ⟨rfl, hb⟩

set_option maxHeartbeats 6400000 in
set_option maxRecDepth 100000 in
theorem room_few (room : Int) (hr : room ≤ 9223372036854775807) (a : Option Addr) (len cap : Nat) (l : List Ac) (w : World) (h : Acts w.heap.size w a len l) (hl : len ≤ 90) (hf : ∀ x ∈ l, fewA x) (hfe : ∀ e, FewEnd len 90 l e → e = .returned (.bool true)) :
    Calls Try.prog 5 #[.int .i64 room, .slice a len cap] w fun e w' => e = .returned (.bool true) ∧ Below w.heap.size w w' := by
  have HW := Lib.hid (few_any w.heap.size a len cap l 90 w h (by omega) (by omega))
  have HFE := Lib.hid hfe
  have HF := Lib.hid hf
  have HA := Lib.hid h
  clear h hf hfe
  go_enter Try.func5, Try.ntmps5
  go_wp2_with fail
  refine HW.out.mono ?_
  rintro e w1 ⟨he, rfl⟩
  obtain rfl := HFE.out e he
  clear he
  go_wp2_with fail
  refine (new_any room w.heap.size w (Nat.le_refl _)).mono ?_
  rintro e w0 ⟨rfl, h0, b0, z0⟩
  have HO0 : Hid (On w.heap.size w0 room 0 (born room)) := ⟨⟨_, _, h0⟩, ok_born room hr, Nat.le_refl _, by simp [born, used], rfl⟩
  have HB0 := Lib.hid b0
  clear h0 b0 z0
  obtain ⟨B, hB⟩ : ∃ B, B = w.heap.size := ⟨_, rfl⟩
  rw [← hB] at HA HO0 HB0 ⊢
  have HBW := Lib.hid hB
  clear hB
  go_wp2_with fail
  go_loopw [6] (fun i wr => ∃ (k : Nat) (s : St), k ≤ len ∧ i = .int .i64 (k : Int) ∧ Hid (On B wr room k s) ∧ Hid (Below B w wr)) (fun i _ => len - (intOf i).toNat)
  case atStart => exact ⟨0, _, by omega, rfl, HO0, HB0⟩
  case round =>
    obtain ⟨k, s, hk, rfl, HO, HB⟩ := hrel
    by_cases hlt : k < len
    · have hO := HO.out
      have hsz : B < wr.heap.size := by obtain ⟨v, L, h⟩ := hO.dk; exact lt_of_block h.blk
      clear hO
      go_wp2_with fail
      refine (on_any B B s wr HO.out.dk).mono ?_
      rintro e w1 ⟨rfl, rfl⟩
      go_wp2_with fail
      refine (used_any B B s wr HO.out.dk HO.out.ok).mono ?_
      rintro e w1 ⟨rfl, rfl⟩
      go_wp2_with fail
      refine (names_any B B s wr HO.out.dk HO.out.ok).mono ?_
      rintro e w1 ⟨r, rfl, hr1, hb1⟩
      obtain ⟨ra, rcap, rfl, _⟩ := row_slice hr1
      have HO1 := Lib.hid (HO.out.later hb1)
      have HB1 := Lib.hid (HB.out.trans (hb1.mono (Nat.le_of_lt hsz)))
      have HSZ1 : Hid (B < w1.heap.size) := Nat.lt_of_lt_of_le hsz hb1.size
      clear hr1 hb1 hsz
      go_wp2_with fail
      refine (ops_any B B s w1 HO1.out.dk).mono ?_
      rintro e w2 ⟨rfl, rfl⟩
      have HA1 := Lib.hid (HA.out.later HB1.out)
      obtain ⟨b, off, x, rfl, hbb, hx, hxm, c0, c1, c2, c3, c4, c5⟩ := HA1.out.cells hlt
      have hfx := HF.out x hxm
      have HX : Hid (x ∈ l ∧ fewA x) := ⟨hxm, hfx⟩
      have HDO := Lib.hid (do_any B B s x.a x.ka x.kl x.kc w1 HO1.out.dk HO1.out.ok (HO1.out.lim (by omega)) (HA1.out.few hxm hfx))
      have hops : s.ops ≤ 90 := by have := HO1.out.ops; omega
      have HXK := Lib.hid hx
      clear hx hxm hfx
      go_wp2_with fail
      refine HDO.out.mono ?_
      rintro e w2 ⟨rfl, hd2, k2⟩
      have HO2 := Lib.hid (HO1.out.act x HX.out.2 (HA1.out.num x HX.out.1).2 hd2)
      have HB2 := Lib.hid (HB1.out.trans (k2.below (Nat.le_of_lt HSZ1.out)))
      have HSZ2 : Hid (B < w2.heap.size) := Nat.lt_of_lt_of_le HSZ1.out k2.size
      have HA2 := Lib.hid (HA.out.later HB2.out)
      have HOFF := Lib.hid (fun h h8 => act_off (s := s) x.a h h8)
      have hm1 := (act_more HO1.out.ok x.a).ops
      have hm2 : (used (act s x.a).1.fs : Int) ≤ max room 0 := by rw [← HO2.out.room]; exact HO2.out.ok.full
      have hm3 := HO2.out.ok.few
      clear hd2 k2 c0 c1 c2 c3 c4 c5
      generalize act s x.a = p at *
      obtain ⟨t, er⟩ := p
      simp only at *
      have hd1 : decide (max room 0 < (used t.fs : Int)) = false := decide_eq_false (by omega)
      go_wp2_with fail
      refine (used_any B B t w2 HO2.out.dk HO2.out.ok).mono ?_
      rintro e w3 ⟨rfl, rfl⟩
      go_wp2_with fail
      refine (names_any B B t w2 HO2.out.dk HO2.out.ok).mono ?_
      rintro e w3 ⟨r, rfl, hr3, hb3⟩
      obtain ⟨ra3, rcap3, rfl, _⟩ := row_slice hr3
      have HO3 := Lib.hid (HO2.out.later hb3)
      have HB3 := Lib.hid (HB2.out.trans (hb3.mono (Nat.le_of_lt HSZ2.out)))
      have HSZ3 : Hid (B < w3.heap.size) := Nat.lt_of_lt_of_le HSZ2.out hb3.size
      clear hr3 hb3
      go_wp2_with fail
      refine (ops_any B B t w3 HO3.out.dk).mono ?_
      rintro e w4 ⟨rfl, rfl⟩
      obtain ⟨b', off', x', hab, _, hx', _, c0, _, _, _, _, _⟩ := (HA.out.later HB3.out).cells hlt
      obtain rfl : x = x' := by have := HXK.out; rw [hx'] at this; cases this; rfl
      injection hab with hab; injection hab with h1 h2 h3
      subst h1 h2
      clear hx' h3
      generalize hon : s.on = on at *
      cases on with
      | true =>
        go_wp2_with fail
        go_roundw
        case rel => exact ⟨k + 1, t, by omega, by go_num, HO3, HB3⟩
        case measure => simp [intOf]; omega
      | false =>
        by_cases h8 : x.a.kind = 8
        · have h8b : (x.a.kind != 8) = false := by simp [h8]
          clear h8
          go_wp2_with fail
          go_roundw
          case rel => exact ⟨k + 1, t, by omega, by go_num, HO3, HB3⟩
          case measure => simp [intOf]; omega
        · by_cases k1 : 1 ≤ x.a.kind
          · by_cases k5 : x.a.kind ≤ 5
            · have he9 : Hid (er = 9) := by show er = 9; rw [HOFF.out rfl h8 |>.2.2.2]; unfold actN; rw [if_pos ⟨k1, k5⟩]
              have hoff := HOFF.out rfl h8
              have h8b : (x.a.kind != 8) = true := by simpa using h8
              have HE := Lib.hid hoff.2.2.2
              have HFSEQ := Lib.hid hoff.2.1
              have hopsq : (t.ops : Int) = (s.ops : Int) := by rw [hoff.2.2.1]
              have HON4 := Lib.hid (on_any B B t w3 HO3.out.dk)
              rw [hoff.1] at HON4
              have HU4 := Lib.hid (used_any B B t w3 HO3.out.dk HO3.out.ok)
              rw [hoff.2.1] at HU4
              have HN4 := Lib.hid (names_any B B t w3 HO3.out.dk HO3.out.ok)
              rw [hoff.2.1] at HN4
              have HOPSQ := Lib.hid hopsq
              clear hoff hopsq
              go_wp2_with fail
              refine HON4.out.mono ?_
              rintro e w4 ⟨rfl, rfl⟩
              go_wp2_with fail
              refine HU4.out.mono ?_
              rintro e w4 ⟨rfl, rfl⟩
              go_wp2_with fail
              refine HN4.out.mono ?_
              rintro e w4 ⟨r, rfl, hr4, hb4⟩
              obtain ⟨ra4, rcap4, rfl, _⟩ := row_slice hr4
              have HO4 := Lib.hid (HO3.out.later hb4)
              have HB4 := Lib.hid (HB3.out.trans (hb4.mono (Nat.le_of_lt HSZ3.out)))
              clear hr4 hb4
              go_wp2_with fail
              refine (ops_any B B t w4 HO4.out.dk).mono ?_
              rintro e w5 ⟨rfl, rfl⟩
              rw [HOPSQ.out]
              obtain ⟨b', off', x', hab, _, hx', _, c0, _, _, _, _, _⟩ := (HA.out.later HB4.out).cells hlt
              obtain rfl : x = x' := by have := HXK.out; rw [hx'] at this; cases this; rfl
              injection hab with hab; injection hab with h1 h2 h3
              subst h1 h2
              clear hx' h3
              have he9' := he9.out
              subst he9'
              go_wp2_with fail
              go_roundw
              case rel => exact ⟨k + 1, t, by omega, by go_num, HO4, HB4⟩
              case measure => simp [intOf]; omega
            · skip
              have hoff := HOFF.out rfl h8
              have h8b : (x.a.kind != 8) = true := by simpa using h8
              have HE := Lib.hid hoff.2.2.2
              have HFSEQ := Lib.hid hoff.2.1
              have hopsq : (t.ops : Int) = (s.ops : Int) := by rw [hoff.2.2.1]
              have HON4 := Lib.hid (on_any B B t w3 HO3.out.dk)
              rw [hoff.1] at HON4
              have HU4 := Lib.hid (used_any B B t w3 HO3.out.dk HO3.out.ok)
              rw [hoff.2.1] at HU4
              have HN4 := Lib.hid (names_any B B t w3 HO3.out.dk HO3.out.ok)
              rw [hoff.2.1] at HN4
              have HOPSQ := Lib.hid hopsq
              clear hoff hopsq
              go_wp2_with fail
              refine HON4.out.mono ?_
              rintro e w4 ⟨rfl, rfl⟩
              go_wp2_with fail
              refine HU4.out.mono ?_
              rintro e w4 ⟨rfl, rfl⟩
              go_wp2_with fail
              refine HN4.out.mono ?_
              rintro e w4 ⟨r, rfl, hr4, hb4⟩
              obtain ⟨ra4, rcap4, rfl, _⟩ := row_slice hr4
              have HO4 := Lib.hid (HO3.out.later hb4)
              have HB4 := Lib.hid (HB3.out.trans (hb4.mono (Nat.le_of_lt HSZ3.out)))
              clear hr4 hb4
              go_wp2_with fail
              refine (ops_any B B t w4 HO4.out.dk).mono ?_
              rintro e w5 ⟨rfl, rfl⟩
              rw [HOPSQ.out]
              obtain ⟨b', off', x', hab, _, hx', _, c0, _, _, _, _, _⟩ := (HA.out.later HB4.out).cells hlt
              obtain rfl : x = x' := by have := HXK.out; rw [hx'] at this; cases this; rfl
              injection hab with hab; injection hab with h1 h2 h3
              subst h1 h2
              clear hx' h3
              go_wp2_with fail
              go_roundw
              case rel => exact ⟨k + 1, t, by omega, by go_num, HO4, HB4⟩
              case measure => simp [intOf]; omega
          · skip
            have hoff := HOFF.out rfl h8
            have h8b : (x.a.kind != 8) = true := by simpa using h8
            have HE := Lib.hid hoff.2.2.2
            have HFSEQ := Lib.hid hoff.2.1
            have hopsq : (t.ops : Int) = (s.ops : Int) := by rw [hoff.2.2.1]
            have HON4 := Lib.hid (on_any B B t w3 HO3.out.dk)
            rw [hoff.1] at HON4
            have HU4 := Lib.hid (used_any B B t w3 HO3.out.dk HO3.out.ok)
            rw [hoff.2.1] at HU4
            have HN4 := Lib.hid (names_any B B t w3 HO3.out.dk HO3.out.ok)
            rw [hoff.2.1] at HN4
            have HOPSQ := Lib.hid hopsq
            clear hoff hopsq
            go_wp2_with fail
            refine HON4.out.mono ?_
            rintro e w4 ⟨rfl, rfl⟩
            go_wp2_with fail
            refine HU4.out.mono ?_
            rintro e w4 ⟨rfl, rfl⟩
            go_wp2_with fail
            refine HN4.out.mono ?_
            rintro e w4 ⟨r, rfl, hr4, hb4⟩
            obtain ⟨ra4, rcap4, rfl, _⟩ := row_slice hr4
            have HO4 := Lib.hid (HO3.out.later hb4)
            have HB4 := Lib.hid (HB3.out.trans (hb4.mono (Nat.le_of_lt HSZ3.out)))
            clear hr4 hb4
            go_wp2_with fail
            refine (ops_any B B t w4 HO4.out.dk).mono ?_
            rintro e w5 ⟨rfl, rfl⟩
            rw [HOPSQ.out]
            obtain ⟨b', off', x', hab, _, hx', _, c0, _, _, _, _, _⟩ := (HA.out.later HB4.out).cells hlt
            obtain rfl : x = x' := by have := HXK.out; rw [hx'] at this; cases this; rfl
            injection hab with hab; injection hab with h1 h2 h3
            subst h1 h2
            clear hx' h3
            go_wp2_with fail
            go_roundw
            case rel => exact ⟨k + 1, t, by omega, by go_num, HO4, HB4⟩
            case measure => simp [intOf]; omega
    · obtain rfl : k = len := by omega
      go_wp2_with fail
      refine (awake_any wr).mono ?_
      rintro e w9 ⟨rfl, hb⟩
      have HB9 := Lib.hid (HB.out.trans (hb.mono (by have := HB.out.size; have := HBW.out; omega)))
      clear hb
      go_wp2_with fail
      go_ret
      exact ⟨rfl, by rw [← HBW.out]; exact HB9.out⟩
end Go.Proofs.Ytlmhghcoohalaaa.Dk
