/- The program's map, as the laws want it; and what must come, whatever the arguments are. -/
import Derived.Test.YthcofcpnhopnnaaAvKeys
set_option linter.unusedSimpArgs false
namespace Go.Proofs.Ythcofcpnhopnnaa.Av
open Go.RowKit

theorem least_leD (t : T) (hb : t.Bal) : leastD (t.ht : Nat) ≤ t.toL.length := by
  have h1 := T.least t hb
  have h2 : least (min t.ht 80) ≤ least t.ht := least_le_of (Nat.min_le_left _ _)
  unfold leastD
  simpa using Nat.le_trans h2 h1
/-- the program's map -/
def theCode : Code where
  Mp := Mp
  ts := []
  tsM := by simp
  tsP := by simp
  tsA := by simp
  lt := mp_lt
  ge := fun h => h.1
  sorted := fun h => h.2.1
  later := mp_later
  but := fun h hb hX hu => by
    obtain ⟨u, hu⟩ := hu
    exact mp_but h hb hX hu (by decide)
  put := fun key value h hl => mput_any key value h (by omega)
  drop := fun key h hl => mdrop_any key h (by omega)
  get := fun key h _ => (get_any key h).mono fun e w' ⟨h1, h2⟩ => ⟨h1, by rw [h2]; exact Below.refl _ _⟩
  last := fun h _ => (last_any h).mono fun e w' ⟨h1, h2⟩ => ⟨h1, by rw [h2]; exact Below.refl _ _⟩
  len := fun h _ => (len_any h).mono fun e w' ⟨h1, h2⟩ => ⟨h1, by rw [h2]; exact Below.refl _ _⟩
  keys := fun {base M l w} h hl => by
    obtain ⟨t, hd, e, _⟩ := Hd.map h
    have := keys_any _ t w hd (by rw [e]; omega)
    rw [e] at this
    exact this
  depth := fun {base M l w} h hl => by
    obtain ⟨p, t, h3, h4, h5, h6, _, h8⟩ := h.read
    refine ⟨t.ht, by rw [← h6]; exact least_leD t h5, fun h0 => T.ht_pos (fun e => by rw [h6] at e; rw [e] at h0; cases h0), by omega, fun w' hb => ?_⟩
    exact (mdepth_any (cells2 (Below.same hb h3)).1 (h4.later hb)).mono fun e w2 ⟨h1, h2⟩ => ⟨h1, by rw [h2]; exact Below.refl _ _⟩
  putN := fun key value w => (put_nil key value w).mono fun e w' ⟨h1, h2⟩ => ⟨h1, by rw [h2]; exact Below.refl _ _⟩
  dropN := fun key w => (drop_nil key w).mono fun e w' ⟨h1, h2⟩ => ⟨h1, by rw [h2]; exact Below.refl _ _⟩
  getN := fun key w => (get_nil key w).mono fun e w' ⟨h1, h2⟩ => ⟨h1, by rw [h2]; exact Below.refl _ _⟩
  lastN := fun w => (last_nil w).mono fun e w' ⟨h1, h2⟩ => ⟨h1, by rw [h2]; exact Below.refl _ _⟩
  lenN := fun w => (len_nil w).mono fun e w' ⟨h1, h2⟩ => ⟨h1, by rw [h2]; exact Below.refl _ _⟩
  keysN := fun w => (keys_any none .nil w (Hd.nil w) (by simp [T.toL])).mono fun e w' ⟨⟨a, cap, h1, _⟩, h2⟩ => ⟨⟨a, cap, h1⟩, h2⟩
  depthN := fun w => (mdepth_nil w).mono fun e w' ⟨h1, h2⟩ => ⟨h1, by rw [h2]; exact Below.refl _ _⟩
theorem mp_new (w : World) : Mp w.heap.size (w.alloc (.cells #[.pointer none, .int .i64 0] 26)) w.heap.size [] :=
  ⟨Nat.le_refl _, List.Pairwise.nil, none, .nil, alloc_new w _, rfl, trivial, rfl⟩
end Go.Proofs.Ythcofcpnhopnnaa.Av
