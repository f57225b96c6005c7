/- The numbers of the names of a kind, rising: the document lays each at its place. -/
import Derived.Test.YtinepcgjmcbcfaaDoorNmNums
namespace Go.Proofs.YtinepcgjmcbcfaaDoor.Nm
open Go.RowKit Go.Sort
open Va (str str_app conv_one)

/-- numbers laid behind a row of the call's own -/
theorem app_row (base : Nat) (v : Value) (xs : List Int) (a : Option Addr) (m c : Nat) (news : List Int) (w : World)
    (hown : w.ownsRow base 3 1 v xs.length (xs.map (Value.int .i64)))
    (hm : news.length = m) (hsrc : (a = none ∧ m = 0 ∧ c = 0) ∨ ∃ b o, a = some ⟨b, o, none⟩ ∧ ∀ j, j < m → w.cell? ⟨b, o + j, none⟩ = some (.int .i64 (news[j]?.getD 0)))
    (hl : xs.length + m ≤ 1000) (hB : base ≤ w.heap.size) :
    ∃ v' w', (Builtin.append_ #[29, 29] 29 #[v, .slice a m c]).run Tryd.prog w = .ok v' w' ∧ w'.ownsRow base 3 1 v' (xs ++ news).length ((xs ++ news).map (Value.int .i64)) ∧ Below base w w' := by
  obtain ⟨i0, hi0, hz0, hz1, hz2⟩ := info_parts info_int
  rcases hsrc with ⟨rfl, rfl, rfl⟩ | ⟨b, o, rfl, hc⟩
  · obtain rfl : news = [] := List.eq_nil_of_length_eq_zero hm
    exact ⟨v, w, run_append_owned_none w base 29 29 3 i0 1 Tryd.underlying29 hi0 v _ _ hown, by simpa using hown, Below.refl _ _⟩
  · subst hm
    obtain ⟨v', w', h1, h2, h3, _⟩ := Go.run_append_own (P := Tryd.prog) w base 29 29 3 i0 (.int .i64 0) 1 8 Tryd.underlying29 hi0 hz0 hz1 hz2 rfl (by decide) v xs.length _ hown ⟨b, o, none⟩ news.length c (news.map (Value.int .i64))
      (by simp) (fun j u hu => by
        rw [List.getElem?_map, Option.map_eq_some_iff] at hu
        obtain ⟨x, hx, rfl⟩ := hu
        have hj : j < news.length := (List.getElem?_eq_some_iff.1 hx).1
        rw [show (⟨b, o, none⟩ : Addr).add j = ⟨b, o + j, none⟩ from by unfold Addr.add; split <;> simp_all, hc j hj, hx]; rfl)
      (fun u hu => by obtain ⟨x, _, rfl⟩ := List.mem_map.1 hu; rfl) (by unfold maxLen; omega) (by omega) hB
    refine ⟨v', w', h1, ?_, (Below.refl base w).grown h3 hB (fun k hk => (hown.lt k hk).1)⟩
    rw [List.length_append, List.map_append]; exact h2

/-- an append whose outcome is known -/
theorem step_app {w w' : World} {ops : Array Oper} {rest : List Oper} {o : Oper} {a : Act} {Q : Exit → Act → World → Prop} {v src v' : Value}
    (hg : o.guard = none) (s x : Operand) (hop : o.op = Op.call { callee := Callee.builtin Builtin.append, args := #[s, x], argTypes := #[29, 29] }) (hty : o.type = 29)
    (hs : a.eval s = v) (hx : a.eval x = src) (hr : (Builtin.append_ #[29, 29] 29 #[v, src]).run Tryd.prog w = .ok v' w')
    (h : wpList Tryd.prog ops Q rest (a.put o.dst v') w') : wpList Tryd.prog ops Q (o :: rest) a w := by
  refine wpList_plain hg fun K hK' => ?_
  unfold Oper.wp
  simp [execOp, hop, hty, resolve, invoke, builtin, hs, hx, hr, Result.andThen]
  exact hK' _ _ h

/-- a row that stays through what is laid behind another, younger one -/
theorem row_part {b off len : Nat} {zs : List Int} {w : World} (h : ∀ j, j < len → w.cell? ⟨b, off + j, none⟩ = some (.int .i64 (zs[j]?.getD 0))) (p : Nat) (hp : p ≤ len) :
    ∀ j, j < len - p → w.cell? ⟨b, off + p + j, none⟩ = some (.int .i64 ((zs.drop p)[j]?.getD 0)) := fun j hj => by
  rw [List.getElem?_drop, Nat.add_assoc]; exact h (p + j) (by omega)

/-- a row of the call's own, as it is read -/
theorem row_own2 {w : World} {base : Nat} {e : TypeId} {v : Value} {n : Nat} {xs : List Int} (h : w.ownsRow base e 1 v n (xs.map (Value.int .i64))) (hx : xs ≠ []) :
    ∃ b cap, v = .slice (some ⟨b, 0, none⟩) n cap ∧ Row (some ⟨b, 0, none⟩) n xs w ∧ n ≤ cap := by
  have h1 := h.1
  rw [List.length_map, Nat.mul_one] at h1
  obtain ⟨a, cap, hv, hR⟩ := row_own h
  rcases h.2 with ⟨rfl, rfl⟩ | ⟨g, cap2, cur, rfl, hb, hg, hc, _⟩
  · exact absurd (List.eq_nil_of_length_eq_zero h1) hx
  · injection hv with e1 e2 e3
    subst e1; subst e3
    exact ⟨g, cap2, rfl, hR, hc⟩

/-- the numbers so far: none; or a row -/
def Out (v : Value) (o : List Int) (w : World) : Prop :=
  (o = [] ∧ v = .slice none 0 0) ∨ ∃ b cap, v = .slice (some ⟨b, 0, none⟩) o.length cap ∧ Row (some ⟨b, 0, none⟩) o.length o w ∧ o.length ≤ cap ∧ o ≠ []

set_option maxHeartbeats 1600000 in
set_option maxRecDepth 100000 in
theorem rnumbers_any (k : Int) (a : Option Addr) (len cap : Nat) (zs : List ByteArray) (w : World) (hp : Txts a len zs w) (hl : len ≤ 40) :
    Calls Tryd.prog 13 #[.int .i64 k, .slice a len cap] w fun e w' => Own w w' e (insAll (nums k (byt zs))) := by
  have hlen := hp.len_is
  subst hlen
  have HP := Lib.hid hp
  clear hp
  go_enter Tryd.func13, Tryd.ntmps13
  go_wp2_with fail
  go_loopw [5, 6] (fun v i wr => ∃ j : Nat, j ≤ zs.length ∧ i = .int .i64 j ∧ Hid (Out v (insAll (nums k (byt (zs.take j)))) wr) ∧ Hid (Below w.heap.size w wr)) (fun _ i _ => zs.length - (intOf i).toNat)
  case atStart => exact ⟨0, by omega, rfl, .inl ⟨rfl, rfl⟩, Below.refl _ _⟩
  case round =>
    obtain ⟨j, hj, rfl, HO, HB⟩ := hrel
    have hs := HB.out.size
    by_cases hlt : j < zs.length
    · obtain ⟨b, off, rfl, hbs, hcell⟩ := (HP.out.later HB.out).at_ (by omega)
      have hc := hcell j hlt
      have HT := Lib.hid (byt_take zs j hlt)
      clear hcell
      generalize (zs[j]?.getD ByteArray.empty) = s at hc HT
      have HK := Lib.hid (rkind_any s wr)
      have HN : Hid (insAll (nums k (byt (zs.take (j + 1)))) = if (kindOf s.data.toList).1 = k then ins (kindOf s.data.toList).2 (insAll (nums k (byt (zs.take j)))) else insAll (nums k (byt (zs.take j)))) := by
        unfold Hid
        rw [HT.out, nums_snoc]
        split
        · rw [insAll_snoc]
        · rfl
      clear HT
      have hbd := kind_bd s.data.toList
      have hll := nums_len k (byt (zs.take j))
      rw [byt_len, List.length_take, ← insAll_len] at hll
      generalize insAll (nums k (byt (zs.take j))) = o at *
      generalize ho2 : insAll (nums k (byt (zs.take (j + 1)))) = o2 at *
      have HQ := Lib.hid ho2
      clear ho2
      generalize kindOf s.data.toList = z at *
      obtain ⟨q, m⟩ := z
      simp only at hbd HN
      go_wp2_with fail
      refine HK.out.mono ?_
      rintro e w1 ⟨rfl, hb1⟩
      have HB1 := Lib.hid (HB.out.trans (hb1.mono hs))
      have hs1 := HB1.out.size
      have HBX := Lib.hid hb1
      clear hb1
      by_cases hq : q = k
      · subst hq
        rw [if_pos rfl] at HN
        rcases HO.out with ⟨rfl, rfl⟩ | ⟨g, c, rfl, hR, hcap, hne⟩
        · have hn2 : o2 = [m] := HN.out
          obtain ⟨i0, hi0, hz0, hz1, hz2⟩ := info_parts info_int
          clear HN
          go_wp2_with fail
          generalize wr = wo at *
          go_loop [9] (fun i => i = .int .i64 0) (fun _ => 0)
          case atStart => rfl
          case round =>
            subst hrel
            go_wp2_with (first
              | (at_builtin; refine wpList_append_own _ rfl _ _ 29 rfl w1.heap.size 3 i0 (.int .i64 0) 1 8 Tryd.underlying29 hi0 hz0 hz1 hz2 rfl (by decide) (.slice none 0 0) 0 [] rfl (World.ownsRow_nil _ _ _ _) ⟨w1.heap.size, 0, none⟩ 1 1 [.int .i64 m] rfl rfl ?c1 ?c2 ?c3 ?c4 ?c5 ?_)
              | fail)
            case c2 => rfl
            case c3 => unfold maxLen; omega
            · intro v2 W2 h2 hgrow _
              have hb1 : Below w1.heap.size w1 (w1.alloc (.cells #[.int .i64 m] 3)) := (Below.refl _ _).alloc (Nat.le_refl _) _
              have hb2 : Below w1.heap.size w1 W2 := hb1.grown hgrow (by simp) (fun k hk => by cases hk)
              have HBB : Hid (Below w.heap.size w W2) := HB1.out.trans (hb2.mono hs1)
              obtain ⟨g2, c2, rfl, e2, e3⟩ := row_own2 (xs := [m]) h2 (by simp)
              have HOO : Hid (Out (.slice (some ⟨g2, 0, none⟩) 1 c2) o2 W2) := by
                subst hn2
                exact .inr ⟨g2, c2, rfl, e2, e3, by simp⟩
              clear h2 hb1 hb2 hn2 hgrow e2
              go_wp2_with fail
              go_roundw
              case rel => exact ⟨j + 1, by omega, by go_num, by rw [HQ.out]; exact HOO, HBB⟩
              case measure => simp [intOf]; omega
        · obtain ⟨g', off', hg0, hg1, hg2⟩ := (hR.later HBX.out).at_ (by have := List.length_pos_iff.2 hne; omega)
          injection hg0 with hg0
          injection hg0 with e1 e2 _
          subst e1; subst e2
          simp only [Nat.zero_add] at hg2
          have hat := at_le m o
          have hstep := at_step m o
          have hend := at_end m o
          have hn2 : o2 = o.take (at_ m o) ++ m :: o.drop (at_ m o) := by rw [HN.out, ins_at]
          generalize at_ m o = p at *
          by_cases hp0 : p = 0
          · subst hp0
            obtain ⟨i0, hi0, hz0, hz1, hz2⟩ := info_parts info_int
            have hl0 : 0 < o.length := List.length_pos_iff.2 hne
            have hx : Hid (m < o[0]?.getD 0) := by
              rw [List.getElem?_eq_getElem hl0]
              exact hend _ (List.getElem?_eq_getElem hl0)
            have hcx := hg2 0 hl0
            have HG2 := Lib.hid hg2
            clear hstep hend hR hc HN hg2
            generalize o[0]?.getD 0 = x at hcx hx
            have hxx := hx.out
            rw [List.take_zero, List.drop_zero, List.nil_append] at hn2
            go_wp2_with fail
            generalize wr = wo at *
            go_loop [9] (fun i => i = .int .i64 0) (fun _ => 0)
            case atStart => rfl
            case round =>
              subst hrel
              go_wp2_with (first
                | (at_builtin; refine wpList_append_own _ rfl _ _ 29 rfl w1.heap.size 3 i0 (.int .i64 0) 1 8 Tryd.underlying29 hi0 hz0 hz1 hz2 rfl (by decide) (.slice none 0 0) 0 [] rfl (World.ownsRow_nil _ _ _ _) ⟨w1.heap.size, 0, none⟩ 1 1 [.int .i64 m] rfl rfl ?c1 ?c2 ?c3 ?c4 ?c5 ?_)
                | fail)
              case c2 => rfl
              case c3 => unfold maxLen; omega
              · intro v2 W2 h2 hgrow _
                have hb1 : Below w1.heap.size w1 (w1.alloc (.cells #[.int .i64 m] 3)) := (Below.refl _ _).alloc (Nat.le_refl _) _
                have hb2 : Below w1.heap.size w1 W2 := hb1.grown hgrow (by simp) (fun k hk => by cases hk)
                obtain ⟨v3, W3, hr3, h3, hb3⟩ := app_row w1.heap.size v2 [m] (some ⟨g, 0, none⟩) o.length c o W2 h2 rfl
                  (.inr ⟨g, 0, rfl, fun t ht => by rw [Nat.zero_add, hb2.cell (p := ⟨g, t, none⟩) hg1, HG2.out t ht]⟩) (by simp; omega) hb2.size
                have HBB : Hid (Below w.heap.size w W3) := HB1.out.trans ((hb2.trans hb3).mono hs1)
                have HOO : Hid (Out v3 o2 W3) := by
                  subst hn2
                  obtain ⟨g, c, e1, e2, e3⟩ := row_own2 (xs := [m] ++ o) h3 (by simp)
                  exact .inr ⟨g, c, e1, e2, e3, by simp⟩
                clear h2 h3 hb1 hb2 hb3 hn2 hgrow hcx hx hxx
                go_wp2_with (first | (at_builtin; refine step_app rfl (.tmp 51) (.tmp 54) rfl rfl rfl rfl hr3 ?_) | fail)
                go_roundw
                case rel => exact ⟨j + 1, by omega, by go_num, by rw [HQ.out]; exact HOO, HBB⟩
                case measure => simp [intOf]; omega
          obtain ⟨v1, W1, hr1, h1, hb1⟩ := app_row w1.heap.size (.slice none 0 0) [] (some ⟨g, 0, none⟩) p c (o.take p) w1 (World.ownsRow_nil _ _ _ _) (by simp; omega)
            (.inr ⟨g, 0, rfl, fun t ht => by rw [Nat.zero_add, hg2 t (by omega), List.getElem?_take_of_lt ht]⟩) (by simp; omega) (by omega)
          have hX : (W1.alloc (.cells #[.int .i64 m] 3)).cell? ⟨W1.heap.size, 0, none⟩ = some (.int .i64 m) := by simp
          have htl : (o.take p).length = p := by rw [List.length_take]; omega
          obtain ⟨v2, W2, hr2, h2, hb2⟩ := app_row w1.heap.size v1 ([] ++ o.take p) (some ⟨W1.heap.size, 0, none⟩) 1 1 [m] (W1.alloc (.cells #[.int .i64 m] 3)) (h1.alloc _) rfl
            (.inr ⟨_, _, rfl, fun t ht => by obtain rfl : t = 0 := by omega
                                             exact hX⟩) (by rw [List.nil_append, htl]; omega) (by have := hb1.size; simp; omega)
          have hbw2 : Below w1.heap.size w1 W2 := (hb1.alloc hb1.size _).trans hb2
          obtain ⟨of, cc, hoc, v3, W3, hr3, h3, hb3⟩ : ∃ of cc, ((c ≠ p ∧ of = p ∧ cc = c - p) ∨ (c = p ∧ of = 0 ∧ cc = 0)) ∧ ∃ v3 W3, (Builtin.append_ #[29, 29] 29 #[v2, .slice (some ⟨g, of, none⟩) (o.length - p) cc]).run Tryd.prog W2 = .ok v3 W3 ∧ W3.ownsRow w1.heap.size 3 1 v3 ([] ++ o.take p ++ [m] ++ o.drop p).length (([] ++ o.take p ++ [m] ++ o.drop p).map (Value.int .i64)) ∧ Below w1.heap.size W2 W3 := by
            have hlt3 : ([] ++ o.take p ++ [m]).length + (o.length - p) ≤ 1000 := by rw [List.nil_append, List.length_append, htl]; simp; omega
            by_cases hcp : c = p
            · exact ⟨0, 0, .inr ⟨hcp, rfl, rfl⟩, app_row w1.heap.size v2 ([] ++ o.take p ++ [m]) (some ⟨g, 0, none⟩) (o.length - p) 0 (o.drop p) W2 h2 (by simp) (.inr ⟨g, 0, rfl, fun t ht => absurd ht (by omega)⟩) hlt3 hbw2.size⟩
            · exact ⟨p, c - p, .inl ⟨hcp, rfl, rfl⟩, app_row w1.heap.size v2 ([] ++ o.take p ++ [m]) (some ⟨g, p, none⟩) (o.length - p) (c - p) (o.drop p) W2 h2 (by simp)
                (.inr ⟨g, p, rfl, fun t ht => by rw [hbw2.cell (p := ⟨g, p + t, none⟩) hg1, hg2 (p + t) (by omega), List.getElem?_drop]⟩) hlt3 hbw2.size⟩
          have HBB : Hid (Below w.heap.size w W3) := HB1.out.trans ((hbw2.trans hb3).mono hs1)
          have HOO : Hid (Out v3 o2 W3) := by
            have e : [] ++ o.take p ++ [m] ++ o.drop p = o2 := by rw [hn2]; simp
            rw [e] at h3
            obtain ⟨g, c, e1, e2, e3⟩ := row_own2 h3 (by rw [hn2]; simp)
            exact .inr ⟨g, c, e1, e2, e3, by rw [hn2]; simp⟩
          clear h1 h2 h3 hb1 hb2 hb3 hX hn2 HN htl hbw2
          have HS := Lib.hid hstep
          have HE := Lib.hid hend
          clear hstep hend hR hc
          go_wp2_with fail
          generalize wr = wo at *
          go_loop [9] (fun i => ∃ t : Nat, t ≤ p ∧ i = .int .i64 t) (fun i => p - (intOf i).toNat)
          case atStart => exact ⟨0, by omega, rfl⟩
          case round =>
            obtain ⟨t, ht, rfl⟩ := hrel
            by_cases htp : t < p
            · obtain ⟨x, hx1, hx2⟩ := HS.out t htp
              have hcx := hg2 t (by omega)
              rw [hx1, Option.getD_some] at hcx
              clear hg2
              have htl : t < o.length := by omega
              go_wp2_with fail
              go_round
              case rel => exact ⟨t + 1, by omega, by go_num⟩
              case measure => simp [intOf]; omega
            · obtain rfl : t = p := by omega
              by_cases hpl : t < o.length
              · have hcx := hg2 t hpl
                have hx : Hid (m < o[t]?.getD 0) := by
                  rw [List.getElem?_eq_getElem hpl]
                  exact HE.out _ (List.getElem?_eq_getElem hpl)
                generalize o[t]?.getD 0 = x at hcx hx
                have hxx := hx.out
                obtain ⟨hct, rfl, rfl⟩ : c ≠ t ∧ of = t ∧ cc = c - t := by rcases hoc with h | ⟨h, _⟩; exact h; omega
                clear hg2
                go_wp2_with (first | (at_builtin; refine step_app rfl (.tmp 42) (.tmp 45) rfl rfl rfl rfl hr1 ?_) | (at_builtin; refine step_app rfl (.tmp 47) (.tmp 49) rfl rfl rfl rfl hr2 ?_) | (at_builtin; refine step_app rfl (.tmp 51) (.tmp 54) rfl rfl rfl rfl hr3 ?_) | fail)
                go_roundw
                case rel => exact ⟨j + 1, by omega, by go_num, by rw [HQ.out]; exact HOO, HBB⟩
                case measure => simp [intOf]; omega
              · clear hg2
                rcases hoc with ⟨hct, rfl, rfl⟩ | ⟨rfl, rfl, rfl⟩
                · go_wp2_with (first | (at_builtin; refine step_app rfl (.tmp 42) (.tmp 45) rfl rfl rfl rfl hr1 ?_) | (at_builtin; refine step_app rfl (.tmp 47) (.tmp 49) rfl rfl rfl rfl hr2 ?_) | (at_builtin; refine step_app rfl (.tmp 51) (.tmp 54) rfl rfl rfl rfl hr3 ?_) | fail)
                  go_roundw
                  case rel => exact ⟨j + 1, by omega, by go_num, by rw [HQ.out]; exact HOO, HBB⟩
                  case measure => simp [intOf]; omega
                · have h0 : o.length - c = 0 := by omega
                  rw [h0] at hr3
                  clear h0
                  go_wp2_with (first | (at_builtin; refine step_app rfl (.tmp 42) (.tmp 45) rfl rfl rfl rfl hr1 ?_) | (at_builtin; refine step_app rfl (.tmp 47) (.tmp 49) rfl rfl rfl rfl hr2 ?_) | (at_builtin; refine step_app rfl (.tmp 51) (.tmp 54) rfl rfl rfl rfl hr3 ?_) | fail)
                  go_roundw
                  case rel => exact ⟨j + 1, by omega, by go_num, by rw [HQ.out]; exact HOO, HBB⟩
                  case measure => simp [intOf]; omega
      · rw [if_neg hq] at HN
        have hqk : (q == k) = false := by simpa using hq
        have HN2 := HN.out
        have HOL : Hid (Out u5 o2 w1) := by
          unfold Hid
          rw [HN2]
          rcases HO.out with h | ⟨g, c, e1, e2, e3, e4⟩
          · exact .inl h
          · exact .inr ⟨g, c, e1, e2.later HBX.out, e3, e4⟩
        clear HN2 HN
        go_wp2_with fail
        go_roundw
        case rel => exact ⟨j + 1, by omega, by go_num, by rw [HQ.out]; exact HOL, HB1⟩
        case measure => simp [intOf]; omega
    · obtain rfl : j = zs.length := by omega
      rw [List.take_length] at HO
      go_wp2_with fail
      go_ret
      rcases HO.out with ⟨h1, h2⟩ | ⟨g, c, h1, e2, e3, e4⟩
      · rw [h1]
        exact ⟨none, 0, congrArg Ending.returned h2, ⟨rfl, fun h => absurd h (by decide)⟩, HB.out⟩
      · exact ⟨_, c, congrArg Ending.returned h1, e2, HB.out⟩
end Go.Proofs.YtinepcgjmcbcfaaDoor.Nm
