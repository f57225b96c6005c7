/- The document's map: Keys, Drop, Put. -/
import Derived.Test.YthcofcpnhopnnaaAvR
set_option linter.unusedSimpArgs false
set_option linter.unusedVariables false
namespace Go.Proofs.Ythcofcpnhopnnaa.Av
open Go.RowKit

theorem infoP : (Try.prog.info? 44).map (fun i => (i.zero, i.size, i.bytes)) = some (some (.agg #[.int .i64 0, .int .i64 0]), 2, 16) := by kernel_rfl
theorem infoI : (Try.prog.info? 3).map (fun i => (i.zero, i.size, i.bytes)) = some (some (.int .i64 0), 1, 8) := by kernel_rfl
/-- pairs laid behind a row of the call's own -/
theorem app_prs (base n : Nat) (v : Value) (xs ys : List Pr) (a : Option Addr) (m c : Nat) (w : World) (hown : w.ownsRow base 44 2 v n (prs xs))
    (hs : Prs a m ys w) (ha : (a = none ∧ c = 0) ∨ ∃ b o, a = some ⟨b, o, none⟩) (hl : n + m ≤ 10000) (hb : base ≤ w.heap.size) :
    ∃ v' w', (Builtin.append_ #[29, 29] 29 #[v, .slice a m c]).run Try.prog w = .ok v' w' ∧ w'.ownsRow base 44 2 v' (n + m) (prs (xs ++ ys)) ∧ Below base w w' := by
  obtain ⟨i0, hi0, hz0, hz1, hz2⟩ := info_parts infoP
  rcases ha with ⟨rfl, rfl⟩ | ⟨b, o, rfl⟩
  · have hm : m = 0 := by
      rcases Nat.eq_zero_or_pos m with h | h
      · exact h
      · obtain ⟨_, _, h1, _⟩ := hs.at_ h; cases h1
    subst hm
    have hy : ys = [] := List.eq_nil_of_length_eq_zero hs.len_is
    subst hy
    exact ⟨v, w, run_append_owned_none w base 29 29 44 i0 2 Try.underlying29 hi0 v _ _ hown, by rw [List.append_nil]; exact hown, Below.refl _ _⟩
  · obtain ⟨v', w', h1, h2, h3, _⟩ := Go.run_append_own (P := Try.prog) w base 29 29 44 i0 (.agg #[.int .i64 0, .int .i64 0]) 2 16 Try.underlying29 hi0 hz0 hz1 hz2 rfl (by decide) v n _ hown ⟨b, o, none⟩ m c (prs ys)
      (by rw [prs_len, hs.len_is]) (fun j u hu => by
        rw [add_n]
        obtain ⟨b', o', e1, _, e3⟩ := hs.at_ (by
          have := (List.getElem?_eq_some_iff.1 hu).1
          rw [prs_len, hs.len_is] at this; omega)
        injection e1 with e1; injection e1 with e1 e2
        subst e1 e2
        exact e3 j u hu) (one_cell ys) (by unfold maxLen; omega) (by omega) hb
    exact ⟨v', w', h1, by rw [prs_append]; exact h2, (Below.refl base w).grown h3 hb (fun k hk => (hown.lt k hk).1)⟩
theorem prs_new (W : World) (xs : List Pr) (ty : TypeId) : Prs (some ⟨W.heap.size, 0, none⟩) xs.length xs (W.alloc (.cells ⟨prs xs⟩ ty)) := by
  refine ⟨rfl, fun _ => ⟨_, 0, rfl, by simp, fun i v hv => ?_⟩⟩
  rw [Nat.zero_add, World.cell?_alloc_mark W ⟨prs xs⟩ ty (0, 0) i]
  simpa using hv
/-- an append whose outcome is known -/
theorem step_app {T : TypeId} {w w' : World} {ops : Array Oper} {rest : List Oper} {o : Oper} {a : Act} {Q : Exit → Act → World → Prop} {v src v' : Value}
    (hg : o.guard = none) (s x : Operand) (hop : o.op = Op.call { callee := Callee.builtin Builtin.append, args := #[s, x], argTypes := #[T, T] }) (hty : o.type = T)
    (hs : a.eval s = v) (hx : a.eval x = src) (hr : (Builtin.append_ #[T, T] T #[v, src]).run Try.prog w = .ok v' w')
    (h : wpList Try.prog ops Q rest (a.put o.dst v') w') : wpList Try.prog ops Q (o :: rest) a w := by
  refine wpList_plain hg fun K hK' => ?_
  unfold Oper.wp
  simp [execOp, hop, hty, resolve, invoke, builtin, hs, hx, hr, Result.andThen]
  exact hK' _ _ h
/-- a map's block is written: another row -/
theorem Rm.put {w W : World} {X : Nat} {l : List Pr} {v' : Value} {l' : List Pr} {u : Value} (hb : W.heap[X]? = some (.cells #[u] 31 (0, 0))) (ho : W.ownsRow (X + 1) 44 2 v' l'.length (prs l')) : Rm (W.setCell ⟨X, 0, none⟩ v') X l' := by
  refine ⟨v', ?_, ?_⟩
  · have hlt := (Array.getElem?_eq_some_iff.1 hb)
    obtain ⟨h1, h2⟩ := hlt
    show (W.heap.modify X _)[X]? = _
    rw [Array.getElem?_eq_getElem (by rw [Array.size_modify]; exact h1), Array.getElem_modify_self, h2]
    rfl
  · exact own_but ho ((But.refl X W).setCell (p := ⟨X, 0, none⟩) rfl v') (Nat.lt_succ_self X)

/-- one pair laid behind a row of the call's own -/
theorem app_one (base n : Nat) (v : Value) (xs : List Pr) (p : Pr) (w : World) (hown : w.ownsRow base 44 2 v n (prs xs)) (hl : n ≤ 9000) (hb : base ≤ w.heap.size) :
    ∃ v' w', (Builtin.append_ #[29, 29] 29 #[v, .slice (some ⟨w.heap.size, 0, none⟩) 1 1]).run Try.prog (w.alloc (.cells #[.int .i64 p.1, .int .i64 p.2] 44)) = .ok v' w' ∧
      w'.ownsRow base 44 2 v' (n + 1) (prs (xs ++ [p])) ∧ Below base w w' := by
  obtain ⟨v', w', h1, h2, h3⟩ := app_prs base n v xs [p] (some ⟨w.heap.size, 0, none⟩) 1 1 _ (hown.alloc (.cells ⟨prs [p]⟩ 44)) (prs_new w [p] 44) (.inr ⟨_, _, rfl⟩) (by omega) (by simp; omega)
  exact ⟨v', w', h1, h2, ((Below.refl base w).alloc hb _).trans h3⟩
theorem dropM_take {l : List Pr} {k : Nat} {p : Pr} (h : l[k]? = some p) (key : Int) : dropM (l.take (k + 1)) key = dropM (l.take k) key ++ (if p.1 = key then [] else [p]) := by
  obtain ⟨hk, he⟩ := List.getElem?_eq_some_iff.1 h
  unfold dropM
  rw [List.take_succ_eq_append_getElem hk, List.filter_append, he]
  by_cases hq : p.1 = key
  · rw [if_pos hq]; simp [hq]
  · rw [if_neg hq]; simp [hq]

set_option maxHeartbeats 3200000 in
set_option maxRecDepth 100000 in
theorem rdrop_any (X : Nat) (l : List Pr) (key : Int) (w : World) (h : Rm w X l) (hl : l.length ≤ 1000) :
    Calls Try.prog 10 #[.pointer (some ⟨X, 0, none⟩), .int .i64 key] w fun e w' => e = .returned (.bool (decide ((dropM l key).length < l.length))) ∧ Rm w' X (dropM l key) ∧ But X w w' := by
  have H := Lib.hid h
  have hX := h.lt
  clear h
  go_enter Try.func10, Try.ntmps10
  go_wp2_with fail
  go_loopw [5, 6] (fun v i wr => ∃ k : Nat, k ≤ l.length ∧ i = .int .i64 k ∧ ∃ vb, vb = v ∧ Hid (wr.ownsRow w.heap.size 44 2 vb (dropM (l.take k) key).length (prs (dropM (l.take k) key))) ∧ Hid (Below w.heap.size w wr)) (fun _ i _ => l.length - (intOf i).toNat)
  case atStart => exact ⟨0, Nat.zero_le _, rfl, _, rfl, by show World.ownsRow _ _ _ _ _ _ _; rw [List.take_zero]; exact World.ownsRow_nil _ _ _ _, Below.refl _ _⟩
  case round =>
    obtain ⟨k, hk, rfl, vb, rfl, HO, HB⟩ := hrel
    have HW := Lib.hid (H.out.later HB.out)
    obtain ⟨a, cap, c0, _, hp, hcap, _⟩ := HW.out.read
    by_cases hkl : k < l.length
    · obtain ⟨⟨pk, pv⟩, hy⟩ : ∃ y, l[k]? = some y := ⟨_, List.getElem?_eq_getElem hkl⟩
      obtain ⟨b, off, rfl, hb, _⟩ := hp.at_ (by omega)
      obtain ⟨d0, d1⟩ := hp.two hy
      have hnx := dropM_take hy key
      simp only at d0 d1 hnx
      have hlen : (dropM (l.take k) key).length ≤ 1000 := by
        have h1 : (dropM (l.take k) key).length ≤ (l.take k).length := List.length_filter_le _ _
        rw [List.length_take] at h1; omega
      have hsz := HB.out.size
      by_cases hq : pk = key
      · rw [if_pos hq, List.append_nil] at hnx
        have hq2 : (pk != key) = false := by simp [hq]
        have HN := Lib.hid hnx
        clear hnx hy hp hlen
        go_wp2_with fail
        go_roundw
        case rel => exact ⟨k + 1, by omega, by go_num, _, rfl, by show World.ownsRow _ _ _ _ _ _ _; rw [HN.out]; exact HO.out, HB.out⟩
        case measure => simp [intOf]; omega
      · rw [if_neg hq] at hnx
        have hq2 : (pk != key) = true := by simp [hq]
        obtain ⟨v', w', r, o, b'⟩ := app_one w.heap.size _ vb _ (pk, pv) wr HO.out (by omega) hsz
        rw [← hnx] at o
        have HO2 : Hid (w'.ownsRow w.heap.size 44 2 v' (dropM (l.take (k + 1)) key).length (prs (dropM (l.take (k + 1)) key))) := by
          show World.ownsRow _ _ _ _ _ _ _
          have : (dropM (l.take (k + 1)) key).length = (dropM (l.take k) key).length + 1 := by rw [hnx, List.length_append]; rfl
          rw [this]; exact o
        have HB2 := Lib.hid (HB.out.trans b')
        simp only at r
        clear hnx hy hp hlen o b'
        go_wp2_with (first | (at_builtin; refine step_app rfl (.tmp 27) (.tmp 35) rfl rfl rfl rfl r ?_) | fail)
        go_roundw
        case rel => exact ⟨k + 1, by omega, by go_num, _, rfl, HO2.out, HB2.out⟩
        case measure => simp [intOf]; omega
    · have hkn : l.take k = l := List.take_of_length_le (by omega)
      have ho := HO.out
      rw [hkn] at ho
      obtain ⟨a2, cap2, rfl, _, _, _⟩ := row_prs rfl ho
      obtain ⟨u, hu1, _⟩ := HW.out.at_
      have f0 : wr.frozen? ⟨X, 0, none⟩ = false := by simp [World.frozen?, hu1]
      have HRES := Lib.hid (Rm.put (w := w) (l := l) hu1 (own_mono ho (by omega)))
      have HBUT := Lib.hid ((But.of_below (B := X) HB.out).setCell (p := ⟨X, 0, none⟩) rfl (.slice a2 (dropM l key).length cap2))
      clear ho hp hu1 hkn
      go_wp2_with fail
      go_ret
      exact ⟨by simp, HRES.out, HBUT.out⟩

set_option maxHeartbeats 6400000 in
set_option maxRecDepth 100000 in
theorem rput_any (X : Nat) (l : List Pr) (key value : Int) (w : World) (h : Rm w X l) (hl : l.length ≤ 1000) :
    Calls Try.prog 8 #[.pointer (some ⟨X, 0, none⟩), .int .i64 key, .int .i64 value] w fun e w' => e = .returned (.bool (!isAt l key)) ∧ Rm w' X (putM l key value) ∧ But X w w' := by
  have H := Lib.hid h
  have hX := h.lt
  obtain ⟨a, cap, c0, f0, hp, hcap, hkind⟩ := h.read
  have HP := Lib.hid hp
  clear h hp
  go_enter Try.func8, Try.ntmps8
  go_wp2_with fail
  go_loopw [7] (fun i wr => ∃ k : Nat, k ≤ l.length ∧ i = .int .i64 k ∧ Hid (∀ i p, i < k → l[i]? = some p → p.1 < key) ∧ w = wr) (fun i _ => l.length - (intOf i).toNat)
  case atStart => exact ⟨0, Nat.zero_le _, rfl, (fun i p hi => by omega), rfl⟩
  case round =>
    obtain ⟨k, hk, rfl, HJ, rfl⟩ := hrel
    by_cases hkl : k < l.length
    · obtain ⟨⟨pk, pv⟩, hy⟩ : ∃ y, l[k]? = some y := ⟨_, List.getElem?_eq_getElem hkl⟩
      obtain ⟨b, off, rfl, hb, _⟩ := HP.out.at_ (by omega)
      obtain ⟨d0, d1⟩ := HP.out.two hy
      simp only at d0 d1
      by_cases hq : pk < key
      · have HJ2 : Hid (∀ i p, i < k + 1 → l[i]? = some p → p.1 < key) := fun i p hi hp => by
          rcases Nat.lt_or_eq_of_le (Nat.le_of_lt_succ hi) with h | h
          · exact HJ.out i p h hp
          · subst h; rw [hy] at hp; cases hp; exact hq
        clear hy
        go_wp2_with fail
        go_roundw
        case rel => exact ⟨k + 1, by omega, by go_num, HJ2.out, by trivial⟩
        case measure => simp [intOf]; omega
      · have hpos : pos l key = k := pos_is hk HJ.out (fun p hp => by rw [hy] at hp; cases hp; exact hq)
        have hat : isAt l key = (pk == key) := by unfold isAt; rw [hpos, hy]
        obtain ⟨g, hg0, hgb⟩ : ∃ g, off = 0 ∧ b = g := by
          rcases hkind with ⟨h, _⟩ | ⟨g, h⟩
          · cases h
          · injection h with h; injection h with h1 h2; exact ⟨g, h2, h1⟩
        subst hg0 hgb
        rw [Nat.zero_add] at d0 d1
        clear hy
        by_cases hqe : pk = key
        · have hq2 : (pk == key) = true := by simp [hqe]
          rw [hq2] at hat
          by_cases hcp : cap = k + 1
          · have hcp := hcp.symm
            subst hcp
            have hll : l.length = k + 1 := by omega
            have HV : Hid (putM l key value = l.take k ++ (key, value) :: l.drop (k + 1)) := by show _ = _; unfold putM; rw [hpos, hat]; rfl
            have HAT := Lib.hid hat
            have hB0 := Below.refl w.heap.size w
            obtain ⟨v1, w1, r1, o1, b1⟩ := app_prs w.heap.size 0 (.slice none 0 0) [] (l.take k) (some ⟨b, 0, none⟩) k (k + 1) w (World.ownsRow_nil _ _ _ _) (HP.out.take k (by omega)) (.inr ⟨_, _, rfl⟩) (by omega) (Nat.le_refl _)
            rw [Nat.zero_add, List.nil_append] at o1
            have s1 := b1.size
            obtain ⟨v2, w2, r2, o2, b2⟩ := app_one w.heap.size k v1 _ (key, value) w1 o1 (by omega) s1
            have s2 := Nat.le_trans s1 b2.size
            have b12 := b1.trans b2
            obtain ⟨v3, w3, r3, o3, b3⟩ := app_prs w.heap.size (k + 1) v2 _ (l.drop (k + 1)) (some ⟨b, 0, none⟩) 0 0 w2 o2 (by rw [show l.drop (k + 1) = [] from List.drop_eq_nil_of_le (by omega)]; exact Prs.nil _ _) (.inr ⟨_, _, rfl⟩) (by omega) s2
            rw [List.append_assoc, List.singleton_append, ← HV.out] at o3
            have b123 := b12.trans b3
            obtain ⟨u, hu1, _⟩ := H.out.at_
            have hu3 := (b123.block X hX).trans hu1
            have hlp : (putM l key value).length = k + 1 + 0 := by
              rw [HV.out, List.length_append, List.length_cons, List.length_take, List.length_drop]; omega
            have o3' : w3.ownsRow w.heap.size 44 2 v3 (putM l key value).length (prs (putM l key value)) := by rw [hlp]; exact o3
            obtain ⟨a3, c3, rfl, _, _, _⟩ := row_prs rfl o3'
            have HRES := Lib.hid (Rm.put (w := w) (l := l) hu3 (own_mono o3' (by omega)))
            have HBUT := Lib.hid ((But.of_below (B := X) b123).setCell (p := ⟨X, 0, none⟩) rfl (.slice a3 (putM l key value).length c3))
            have f3 : w3.frozen? ⟨X, 0, none⟩ = false := by simp [World.frozen?, hu3]
            have e1 := (b1.cell (p := ⟨X, 0, none⟩) hX).trans c0
            have e2 := (b12.cell (p := ⟨X, 0, none⟩) hX).trans c0
            have e3 := (b123.cell (p := ⟨X, 0, none⟩) hX).trans c0
            simp only at r2
            clear hpos hat o1 o2 o3 o3' b1 b2 b3 b12 b123 hu1 hu3 hlp hB0
            go_wp2_with (first | (at_builtin; refine step_app rfl (.tmp 50) (.tmp 56) rfl rfl rfl rfl r1 ?_) | (at_builtin; refine step_app rfl (.tmp 58) (.tmp 62) rfl rfl rfl rfl r2 ?_) | (at_builtin; refine step_app rfl (.tmp 68) (.tmp 74) rfl rfl rfl rfl r3 ?_) | fail)
            go_ret
            exact ⟨by rw [HAT.out]; rfl, HRES.out, HBUT.out⟩
          · have HV : Hid (putM l key value = l.take k ++ (key, value) :: l.drop (k + 1)) := by show _ = _; unfold putM; rw [hpos, hat]; rfl
            have HAT := Lib.hid hat
            have hB0 := Below.refl w.heap.size w
            obtain ⟨v1, w1, r1, o1, b1⟩ := app_prs w.heap.size 0 (.slice none 0 0) [] (l.take k) (some ⟨b, 0, none⟩) k cap w (World.ownsRow_nil _ _ _ _) (HP.out.take k (by omega)) (.inr ⟨_, _, rfl⟩) (by omega) (Nat.le_refl _)
            rw [Nat.zero_add, List.nil_append] at o1
            have s1 := b1.size
            obtain ⟨v2, w2, r2, o2, b2⟩ := app_one w.heap.size k v1 _ (key, value) w1 o1 (by omega) s1
            have s2 := Nat.le_trans s1 b2.size
            have b12 := b1.trans b2
            obtain ⟨v3, w3, r3, o3, b3⟩ := app_prs w.heap.size (k + 1) v2 _ (l.drop (k + 1)) (some ⟨b, (k + 1) * 2, none⟩) (l.length - (k + 1)) (cap - (k + 1)) w2 o2 ((HP.out.drop0 (k + 1)).later (below_low b12 (Nat.le_refl _))) (.inr ⟨_, _, rfl⟩) (by omega) s2
            rw [List.append_assoc, List.singleton_append, ← HV.out] at o3
            have b123 := b12.trans b3
            obtain ⟨u, hu1, _⟩ := H.out.at_
            have hu3 := (b123.block X hX).trans hu1
            have hlp : (putM l key value).length = k + 1 + (l.length - (k + 1)) := by
              rw [HV.out, List.length_append, List.length_cons, List.length_take, List.length_drop]; omega
            have o3' : w3.ownsRow w.heap.size 44 2 v3 (putM l key value).length (prs (putM l key value)) := by rw [hlp]; exact o3
            obtain ⟨a3, c3, rfl, _, _, _⟩ := row_prs rfl o3'
            have HRES := Lib.hid (Rm.put (w := w) (l := l) hu3 (own_mono o3' (by omega)))
            have HBUT := Lib.hid ((But.of_below (B := X) b123).setCell (p := ⟨X, 0, none⟩) rfl (.slice a3 (putM l key value).length c3))
            have f3 : w3.frozen? ⟨X, 0, none⟩ = false := by simp [World.frozen?, hu3]
            have e1 := (b1.cell (p := ⟨X, 0, none⟩) hX).trans c0
            have e2 := (b12.cell (p := ⟨X, 0, none⟩) hX).trans c0
            have e3 := (b123.cell (p := ⟨X, 0, none⟩) hX).trans c0
            simp only at r2
            clear hpos hat o1 o2 o3 o3' b1 b2 b3 b12 b123 hu1 hu3 hlp hB0
            go_wp2_with (first | (at_builtin; refine step_app rfl (.tmp 50) (.tmp 56) rfl rfl rfl rfl r1 ?_) | (at_builtin; refine step_app rfl (.tmp 58) (.tmp 62) rfl rfl rfl rfl r2 ?_) | (at_builtin; refine step_app rfl (.tmp 68) (.tmp 74) rfl rfl rfl rfl r3 ?_) | fail)
            go_ret
            exact ⟨by rw [HAT.out]; rfl, HRES.out, HBUT.out⟩
        · have hq2 : (pk == key) = false := by simp [hqe]
          rw [hq2] at hat
          have hcp : ¬ cap = k := by omega
          have HV : Hid (putM l key value = l.take k ++ (key, value) :: l.drop (k)) := by show _ = _; unfold putM; rw [hpos, hat]; rfl
          have HAT := Lib.hid hat
          have hB0 := Below.refl w.heap.size w
          obtain ⟨v1, w1, r1, o1, b1⟩ := app_prs w.heap.size 0 (.slice none 0 0) [] (l.take k) (some ⟨b, 0, none⟩) k cap w (World.ownsRow_nil _ _ _ _) (HP.out.take k (by omega)) (.inr ⟨_, _, rfl⟩) (by omega) (Nat.le_refl _)
          rw [Nat.zero_add, List.nil_append] at o1
          have s1 := b1.size
          obtain ⟨v2, w2, r2, o2, b2⟩ := app_one w.heap.size k v1 _ (key, value) w1 o1 (by omega) s1
          have s2 := Nat.le_trans s1 b2.size
          have b12 := b1.trans b2
          obtain ⟨v3, w3, r3, o3, b3⟩ := app_prs w.heap.size (k + 1) v2 _ (l.drop (k)) (some ⟨b, (k) * 2, none⟩) (l.length - (k)) (cap - (k)) w2 o2 ((HP.out.drop0 (k)).later (below_low b12 (Nat.le_refl _))) (.inr ⟨_, _, rfl⟩) (by omega) s2
          rw [List.append_assoc, List.singleton_append, ← HV.out] at o3
          have b123 := b12.trans b3
          obtain ⟨u, hu1, _⟩ := H.out.at_
          have hu3 := (b123.block X hX).trans hu1
          have hlp : (putM l key value).length = k + 1 + (l.length - (k)) := by
            rw [HV.out, List.length_append, List.length_cons, List.length_take, List.length_drop]; omega
          have o3' : w3.ownsRow w.heap.size 44 2 v3 (putM l key value).length (prs (putM l key value)) := by rw [hlp]; exact o3
          obtain ⟨a3, c3, rfl, _, _, _⟩ := row_prs rfl o3'
          have HRES := Lib.hid (Rm.put (w := w) (l := l) hu3 (own_mono o3' (by omega)))
          have HBUT := Lib.hid ((But.of_below (B := X) b123).setCell (p := ⟨X, 0, none⟩) rfl (.slice a3 (putM l key value).length c3))
          have f3 : w3.frozen? ⟨X, 0, none⟩ = false := by simp [World.frozen?, hu3]
          have e1 := (b1.cell (p := ⟨X, 0, none⟩) hX).trans c0
          have e2 := (b12.cell (p := ⟨X, 0, none⟩) hX).trans c0
          have e3 := (b123.cell (p := ⟨X, 0, none⟩) hX).trans c0
          simp only at r2
          clear hpos hat o1 o2 o3 o3' b1 b2 b3 b12 b123 hu1 hu3 hlp hB0
          go_wp2_with (first | (at_builtin; refine step_app rfl (.tmp 50) (.tmp 56) rfl rfl rfl rfl r1 ?_) | (at_builtin; refine step_app rfl (.tmp 58) (.tmp 62) rfl rfl rfl rfl r2 ?_) | (at_builtin; refine step_app rfl (.tmp 68) (.tmp 74) rfl rfl rfl rfl r3 ?_) | fail)
          go_ret
          exact ⟨by rw [HAT.out]; rfl, HRES.out, HBUT.out⟩
    · have hpos : pos l key = k := pos_is hk HJ.out (fun p hp => by have := (List.getElem?_eq_some_iff.1 hp).1; omega)
      have hat : isAt l key = false := by unfold isAt; rw [hpos, List.getElem?_eq_none (by omega)]
      rcases hkind with ⟨rfl, hc0⟩ | ⟨g, rfl⟩
      · have hl0 : l.length = 0 := by omega
        have hk0 : k = 0 := by omega
        subst hk0 hc0
        have HV : Hid (putM l key value = l.take 0 ++ (key, value) :: l.drop (0)) := by show _ = _; unfold putM; rw [hpos, hat]; rfl
        have HAT := Lib.hid hat
        have hB0 := Below.refl w.heap.size w
        obtain ⟨v1, w1, r1, o1, b1⟩ := app_prs w.heap.size 0 (.slice none 0 0) [] (l.take 0) none 0 0 w (World.ownsRow_nil _ _ _ _) (by rw [List.take_zero]; exact Prs.nil _ _) (.inl ⟨rfl, rfl⟩) (by omega) (Nat.le_refl _)
        rw [Nat.zero_add, List.nil_append] at o1
        have s1 := b1.size
        obtain ⟨v2, w2, r2, o2, b2⟩ := app_one w.heap.size 0 v1 _ (key, value) w1 o1 (by omega) s1
        have s2 := Nat.le_trans s1 b2.size
        have b12 := b1.trans b2
        obtain ⟨v3, w3, r3, o3, b3⟩ := app_prs w.heap.size (0 + 1) v2 _ (l.drop (0)) none 0 0 w2 o2 (by rw [show l.drop 0 = [] from List.drop_eq_nil_of_le (by omega)]; exact Prs.nil _ _) (.inl ⟨rfl, rfl⟩) (by omega) s2
        rw [List.append_assoc, List.singleton_append, ← HV.out] at o3
        have b123 := b12.trans b3
        obtain ⟨u, hu1, _⟩ := H.out.at_
        have hu3 := (b123.block X hX).trans hu1
        have hlp : (putM l key value).length = 0 + 1 + 0 := by
          rw [HV.out, List.length_append, List.length_cons, List.length_take, List.length_drop]; omega
        have o3' : w3.ownsRow w.heap.size 44 2 v3 (putM l key value).length (prs (putM l key value)) := by rw [hlp]; exact o3
        obtain ⟨a3, c3, rfl, _, _, _⟩ := row_prs rfl o3'
        have HRES := Lib.hid (Rm.put (w := w) (l := l) hu3 (own_mono o3' (by omega)))
        have HBUT := Lib.hid ((But.of_below (B := X) b123).setCell (p := ⟨X, 0, none⟩) rfl (.slice a3 (putM l key value).length c3))
        have f3 : w3.frozen? ⟨X, 0, none⟩ = false := by simp [World.frozen?, hu3]
        have e1 := (b1.cell (p := ⟨X, 0, none⟩) hX).trans c0
        have e2 := (b12.cell (p := ⟨X, 0, none⟩) hX).trans c0
        have e3 := (b123.cell (p := ⟨X, 0, none⟩) hX).trans c0
        simp only at r2
        clear hpos hat o1 o2 o3 o3' b1 b2 b3 b12 b123 hu1 hu3 hlp hB0
        go_wp2_with (first | (at_builtin; refine step_app rfl (.tmp 50) (.tmp 56) rfl rfl rfl rfl r1 ?_) | (at_builtin; refine step_app rfl (.tmp 58) (.tmp 62) rfl rfl rfl rfl r2 ?_) | (at_builtin; refine step_app rfl (.tmp 68) (.tmp 74) rfl rfl rfl rfl r3 ?_) | fail)
        go_ret
        exact ⟨by rw [HAT.out]; rfl, HRES.out, HBUT.out⟩
      · by_cases hcp : cap = k
        · have hcp := hcp.symm
          subst hcp
          have hll : l.length = k := by omega
          have HV : Hid (putM l key value = l.take k ++ (key, value) :: l.drop (k)) := by show _ = _; unfold putM; rw [hpos, hat]; rfl
          have HAT := Lib.hid hat
          have hB0 := Below.refl w.heap.size w
          obtain ⟨v1, w1, r1, o1, b1⟩ := app_prs w.heap.size 0 (.slice none 0 0) [] (l.take k) (some ⟨g, 0, none⟩) k (k) w (World.ownsRow_nil _ _ _ _) (HP.out.take k (by omega)) (.inr ⟨_, _, rfl⟩) (by omega) (Nat.le_refl _)
          rw [Nat.zero_add, List.nil_append] at o1
          have s1 := b1.size
          obtain ⟨v2, w2, r2, o2, b2⟩ := app_one w.heap.size k v1 _ (key, value) w1 o1 (by omega) s1
          have s2 := Nat.le_trans s1 b2.size
          have b12 := b1.trans b2
          obtain ⟨v3, w3, r3, o3, b3⟩ := app_prs w.heap.size (k + 1) v2 _ (l.drop (k)) (some ⟨g, 0, none⟩) 0 0 w2 o2 (by rw [show l.drop (k) = [] from List.drop_eq_nil_of_le (by omega)]; exact Prs.nil _ _) (.inr ⟨_, _, rfl⟩) (by omega) s2
          rw [List.append_assoc, List.singleton_append, ← HV.out] at o3
          have b123 := b12.trans b3
          obtain ⟨u, hu1, _⟩ := H.out.at_
          have hu3 := (b123.block X hX).trans hu1
          have hlp : (putM l key value).length = k + 1 + 0 := by
            rw [HV.out, List.length_append, List.length_cons, List.length_take, List.length_drop]; omega
          have o3' : w3.ownsRow w.heap.size 44 2 v3 (putM l key value).length (prs (putM l key value)) := by rw [hlp]; exact o3
          obtain ⟨a3, c3, rfl, _, _, _⟩ := row_prs rfl o3'
          have HRES := Lib.hid (Rm.put (w := w) (l := l) hu3 (own_mono o3' (by omega)))
          have HBUT := Lib.hid ((But.of_below (B := X) b123).setCell (p := ⟨X, 0, none⟩) rfl (.slice a3 (putM l key value).length c3))
          have f3 : w3.frozen? ⟨X, 0, none⟩ = false := by simp [World.frozen?, hu3]
          have e1 := (b1.cell (p := ⟨X, 0, none⟩) hX).trans c0
          have e2 := (b12.cell (p := ⟨X, 0, none⟩) hX).trans c0
          have e3 := (b123.cell (p := ⟨X, 0, none⟩) hX).trans c0
          simp only at r2
          clear hpos hat o1 o2 o3 o3' b1 b2 b3 b12 b123 hu1 hu3 hlp hB0
          go_wp2_with (first | (at_builtin; refine step_app rfl (.tmp 50) (.tmp 56) rfl rfl rfl rfl r1 ?_) | (at_builtin; refine step_app rfl (.tmp 58) (.tmp 62) rfl rfl rfl rfl r2 ?_) | (at_builtin; refine step_app rfl (.tmp 68) (.tmp 74) rfl rfl rfl rfl r3 ?_) | fail)
          go_ret
          exact ⟨by rw [HAT.out]; rfl, HRES.out, HBUT.out⟩
        · have HV : Hid (putM l key value = l.take k ++ (key, value) :: l.drop (k)) := by show _ = _; unfold putM; rw [hpos, hat]; rfl
          have HAT := Lib.hid hat
          have hB0 := Below.refl w.heap.size w
          obtain ⟨v1, w1, r1, o1, b1⟩ := app_prs w.heap.size 0 (.slice none 0 0) [] (l.take k) (some ⟨g, 0, none⟩) k cap w (World.ownsRow_nil _ _ _ _) (HP.out.take k (by omega)) (.inr ⟨_, _, rfl⟩) (by omega) (Nat.le_refl _)
          rw [Nat.zero_add, List.nil_append] at o1
          have s1 := b1.size
          obtain ⟨v2, w2, r2, o2, b2⟩ := app_one w.heap.size k v1 _ (key, value) w1 o1 (by omega) s1
          have s2 := Nat.le_trans s1 b2.size
          have b12 := b1.trans b2
          obtain ⟨v3, w3, r3, o3, b3⟩ := app_prs w.heap.size (k + 1) v2 _ (l.drop (k)) (some ⟨g, (k) * 2, none⟩) (l.length - (k)) (cap - (k)) w2 o2 ((HP.out.drop0 (k)).later (below_low b12 (Nat.le_refl _))) (.inr ⟨_, _, rfl⟩) (by omega) s2
          rw [List.append_assoc, List.singleton_append, ← HV.out] at o3
          have b123 := b12.trans b3
          obtain ⟨u, hu1, _⟩ := H.out.at_
          have hu3 := (b123.block X hX).trans hu1
          have hlp : (putM l key value).length = k + 1 + (l.length - (k)) := by
            rw [HV.out, List.length_append, List.length_cons, List.length_take, List.length_drop]; omega
          have o3' : w3.ownsRow w.heap.size 44 2 v3 (putM l key value).length (prs (putM l key value)) := by rw [hlp]; exact o3
          obtain ⟨a3, c3, rfl, _, _, _⟩ := row_prs rfl o3'
          have HRES := Lib.hid (Rm.put (w := w) (l := l) hu3 (own_mono o3' (by omega)))
          have HBUT := Lib.hid ((But.of_below (B := X) b123).setCell (p := ⟨X, 0, none⟩) rfl (.slice a3 (putM l key value).length c3))
          have f3 : w3.frozen? ⟨X, 0, none⟩ = false := by simp [World.frozen?, hu3]
          have e1 := (b1.cell (p := ⟨X, 0, none⟩) hX).trans c0
          have e2 := (b12.cell (p := ⟨X, 0, none⟩) hX).trans c0
          have e3 := (b123.cell (p := ⟨X, 0, none⟩) hX).trans c0
          simp only at r2
          clear hpos hat o1 o2 o3 o3' b1 b2 b3 b12 b123 hu1 hu3 hlp hB0
          go_wp2_with (first | (at_builtin; refine step_app rfl (.tmp 50) (.tmp 56) rfl rfl rfl rfl r1 ?_) | (at_builtin; refine step_app rfl (.tmp 58) (.tmp 62) rfl rfl rfl rfl r2 ?_) | (at_builtin; refine step_app rfl (.tmp 68) (.tmp 74) rfl rfl rfl rfl r3 ?_) | fail)
          go_ret
          exact ⟨by rw [HAT.out]; rfl, HRES.out, HBUT.out⟩
end Go.Proofs.Ythcofcpnhopnnaa.Av
