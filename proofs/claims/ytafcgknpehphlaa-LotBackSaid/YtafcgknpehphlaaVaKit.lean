/- Words for the walks: a slice of bytes that the call itself made, read as a text; a text of one byte. -/
import Derived.Test.YtafcgknpehphlaaRows
import Derived.Test.YtafcgknpehphlaaVaMath
import Derived.WalkKit
import Derived.WalkSpells
import Derived.WalkLawsBesides
import Derived.Lib.Hide
import Derived.Laws.IdiomStrings
import Derived.Laws.BytesArg
namespace Go.Proofs.Ytafcgknpehphlaa.Va
open Go.RowKit

/-- bytes as cells -/
def bs (l : List UInt8) : List Value := l.map (fun c => Value.int .u8 (c.toNat : Int))
/-- bytes as a text -/
abbrev str (l : List UInt8) : Value := .string ⟨l.toArray⟩

theorem info8 : (Try.prog.info? 5).map (fun i => (i.zero, i.size, i.bytes)) = some (some (.int .u8 0), 1, 1) := by kernel_rfl

theorem bs_append (a b : List UInt8) : bs (a ++ b) = bs a ++ bs b := by simp [bs]
theorem bs_len (a : List UInt8) : (bs a).length = a.length := by simp [bs]

theorem str_app (a b : List UInt8) : Value.string ((⟨a.toArray⟩ : ByteArray) ++ ⟨b.toArray⟩) = str (a ++ b) := by
  unfold str
  congr 1

theorem conv_own {w : World} {base n : Nat} {v : Value} {l : List UInt8} (h : w.ownsRow base 5 1 v n (bs l)) :
    (convert 67 9 v).run Try.prog w = .ok (str l) w := by
  have hn : l.length = n := by have := h.1; rw [bs_len] at this; omega
  have hcells := fun g (hg : v.ownBlock = some g) => h.cells hg
  obtain ⟨_, h2⟩ := h
  rcases h2 with ⟨rfl, h0⟩ | ⟨g, cap, cur, rfl, _⟩
  · obtain rfl : l = [] := List.eq_nil_of_length_eq_zero (by omega)
    exact run_convert_bytes_nil w _ _ Try.underlying67 Try.underlying5 0 0 _ Try.underlying9
  · subst hn
    refine run_convert_bytes_back w _ _ _ ⟨g, 0, none⟩ cap l Try.underlying67 Try.underlying5 Try.underlying9 ?_
    intro j hj
    exact hcells g rfl j _ (by simp [bs, hj])

/-- a text of one byte that was just laid -/
theorem conv_one (w : World) (d : Int) (h0 : 0 ≤ d) (h1 : d ≤ 255) (c : Nat) :
    (convert 67 9 (.slice (some ⟨w.heap.size, 0, none⟩) 1 c)).run Try.prog (w.alloc (.cells #[.int .u8 d] 5)) = .ok (str [UInt8.ofNat d.toNat]) (w.alloc (.cells #[.int .u8 d] 5)) := by
  refine run_convert_bytes_back (w.alloc (.cells #[.int .u8 d] 5)) 67 9 5 ⟨w.heap.size, 0, none⟩ c [UInt8.ofNat d.toNat] Try.underlying67 Try.underlying5 Try.underlying9 ?_
  intro j hj
  obtain rfl : j = 0 := by simpa using hj
  have := World.cell?_alloc_mark w #[.int .u8 d] 5 (0, 0) 0
  simp only [Addr.add]
  refine this.trans ?_
  simp
  omega

/-- what the first so many digits are worth, as a number of 64 bits -/
def vk (l : List UInt8) (k : Nat) : Nat := val (l.take k) % 18446744073709551616

theorem or_nat (a x i : Nat) (ha : a < 2 ^ i) (hi : i ≤ 63) :
    bits .or .u64 ((a : Nat) : Int) ((x * 2 ^ i % 18446744073709551616 : Nat) : Int) = ((a + x * 2 ^ i % 18446744073709551616 : Nat) : Int) := by
  have hp : 2 ^ i ≤ 2 ^ 63 := Nat.pow_le_pow_right (by decide) hi
  have h64 : (18446744073709551616 : Nat) = 2 ^ (64 - i) * 2 ^ i := by rw [← Nat.pow_add]; rw [show 64 - i + i = 64 from by omega]
  have hb : x * 2 ^ i % 18446744073709551616 < 2 ^ 64 := Nat.lt_of_lt_of_le (Nat.mod_lt _ (by decide)) (by decide)
  have h := (bits_nat .u64 64 (by decide) (fun n h0 h1 => by rw [IntKind.wrap_u64]; omega) a _ (Nat.lt_of_lt_of_le ha (Nat.le_trans hp (by decide))) hb).2
  rw [h]
  congr 1
  have e : x * 2 ^ i % 18446744073709551616 = 2 ^ i * (x % 2 ^ (64 - i)) := by
    rw [h64, Nat.mul_mod_mul_right, Nat.mul_comm]
  rw [e, Nat.or_comm, ← Nat.two_pow_add_eq_or_of_lt ha, Nat.add_comm]

theorem take_snoc (l : List UInt8) (k : Nat) (h : k < l.length) : l.take (k + 1) = l.take k ++ [l.getD k 0] := by
  rw [List.take_add_one, List.getElem?_eq_getElem h, List.getD_eq_getElem?_getD, List.getElem?_eq_getElem h]; rfl

theorem or_vk (l : List UInt8) (k : Nat) (c : UInt8) (hk : k ≤ 9) (hl : k < l.length) (hc : l.getD k 0 = c) :
    bits .or .u64 ((vk l k : Nat) : Int) (IntKind.u64.wrap ((c.toNat : Int) % 128 * 2 ^ (7 * k))) = ((vk l (k + 1) : Nat) : Int) := by
  have hlen : (l.take k).length = k := by rw [List.length_take]; omega
  have ha : val (l.take k) < 2 ^ (7 * k) := by
    have := val_lt (l.take k)
    rw [hlen] at this
    rwa [show (128 : Nat) = 2 ^ 7 from rfl, ← Nat.pow_mul] at this
  have hp : 2 ^ (7 * k) ≤ 2 ^ 63 := Nat.pow_le_pow_right (by decide) (by omega)
  have e1 : vk l k = val (l.take k) := Nat.mod_eq_of_lt (Nat.lt_of_lt_of_le ha (Nat.le_trans hp (by decide)))
  have e2 : IntKind.u64.wrap ((c.toNat : Int) % 128 * 2 ^ (7 * k)) = ((c.toNat % 128 * 2 ^ (7 * k) % 18446744073709551616 : Nat) : Int) := by
    rw [IntKind.wrap_u64]; simp
  have e3 : val (l.take (k + 1)) = val (l.take k) + c.toNat % 128 * 2 ^ (7 * k) := by
    rw [take_snoc l k hl, val_snoc, hlen, hc, show (128 : Nat) ^ k = 2 ^ (7 * k) from by rw [Nat.pow_mul]]
  rw [e1, e2, or_nat _ _ _ ha (by omega)]
  congr 1
  unfold vk
  rw [e3]
  have h64 : (18446744073709551616 : Nat) = 2 ^ (64 - 7 * k) * 2 ^ (7 * k) := by rw [← Nat.pow_add]; rw [show 64 - 7 * k + 7 * k = 64 from by omega]
  have e : c.toNat % 128 * 2 ^ (7 * k) % 18446744073709551616 = 2 ^ (7 * k) * (c.toNat % 128 % 2 ^ (64 - 7 * k)) := by
    rw [h64, Nat.mul_mod_mul_right, Nat.mul_comm]
  have hq : c.toNat % 128 % 2 ^ (64 - 7 * k) + 1 ≤ 2 ^ (64 - 7 * k) := Nat.mod_lt _ (Nat.two_pow_pos _)
  have hm := Nat.mul_le_mul_left (2 ^ (7 * k)) hq
  rw [Nat.mul_comm (2 ^ (7 * k)) (2 ^ (64 - 7 * k)), ← h64, Nat.mul_add, ← e] at hm
  omega

/-- what put leaves: a row of the call's own, with the digits behind what was there -/
def PutPost (B n : Nat) (l : List UInt8) (u : Nat) (w : World) (e : Ending) (w' : World) : Prop :=
  ∃ v', e = .returned v' ∧ w'.ownsRow B 5 1 v' (n + (digs u).length) (bs (l ++ digs u)) ∧ Below B w w'

end Go.Proofs.Ytafcgknpehphlaa.Va
