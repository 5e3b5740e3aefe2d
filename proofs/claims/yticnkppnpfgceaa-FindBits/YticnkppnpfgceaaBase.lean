/-
  What is of no program: an append to an owned row as one step of a region that draws its order; bytes as cells; little-endian bytes.
-/
import Derived.WalkKit
import Derived.WalkSpells
import Derived.WalkLawsBesides
import Derived.Deep.RegionLaw
import Derived.Lib.AppendStr
import Derived.Laws.AppendOwnNone
import Derived.Lib.Strings
import Derived.Laws.Bits64
import Derived.Test.YticnkppnpfgceaaMa
namespace Go.Proofs.Yticnkppnpfgceaa
open Go.RowKit

/-- An append to an owned row, as one step of a region that draws its order. -/
theorem step_append_own {P : Program} {ops : Array Oper} {o : Oper} {a : Act} {w : World} {K : Act → World → Prop} {Q : Exit → Act → World → Prop} {E : Prop}
    (hg : o.guard = none) (s x : Operand) (t : TypeId) (hop : o.op = Op.call { callee := Callee.builtin Builtin.append, args := #[s, x], argTypes := #[t, t] })
    (base : Nat) (e : TypeId) (i : TypeInfo) (z : Value) (size bytes : Nat) (h1 : P.underlying t = some (.slice e)) (h2 : P.info? e = some i) (h3 : i.zero = some z) (h4 : i.size = size) (h5 : i.bytes = bytes) (h6 : z.cells.size = size) (h7 : 0 < size)
    (v : Value) (n : Nat) (xs : List Value) (hs : a.eval s = v) (hown : w.ownsRow base e size v n xs)
    (ad : Addr) (m c : Nat) (news : List Value) (hx : a.eval x = .slice (some ad) m c) (hn : news.length = m * size) (hc : ∀ j u, news[j]? = some u → w.cell? (ad.add j) = some u) (h1c : ∀ u ∈ news, u.oneCell' = true)
    (b1 : n + m ≤ maxLen) (b2 : (n + m) * bytes ≤ 140737488355328) (hb : base ≤ w.heap.size)
    (hK : ∀ v' w', w'.ownsRow base e size v' (n + m) (xs ++ news) → w.grownBy w' v.ownBlock → K (a.put o.dst v') w') :
    if Region.wanted o (yielded ops a.tmps) = true then Oper.wp P o a w K Q else E := by
  have hw : Region.wanted o (yielded ops a.tmps) = true := by simp [Region.wanted, hg]
  rw [if_pos hw]
  obtain ⟨v', w', hrun, r1, r2, _⟩ := run_append_own (P := P) w base t o.type e i z size bytes h1 h2 h3 h4 h5 h6 h7 v n xs hown ad m c news hn hc h1c b1 b2 hb
  unfold Oper.wp
  simp [execOp, hop, resolve, invoke, builtin, hs, hx, hrun, Result.andThen]
  exact hK v' w' r1 r2

/-- Bytes as cells. -/
def bcells (l : List UInt8) : List Value := l.map fun b => Value.int .u8 (b.toNat : Int)
theorem bcells_length (l : List UInt8) : (bcells l).length = l.length := by simp [bcells]
theorem bcells_append (l m : List UInt8) : bcells (l ++ m) = bcells l ++ bcells m := by simp [bcells]

theorem ownsRow_shape {w : World} {B : Nat} {e : TypeId} {size : Nat} {v : Value} {n : Nat} {xs : List Value} (h : w.ownsRow B e size v n xs) : ∃ a c, v = .slice a n c := by
  rcases h.2 with ⟨rfl, rfl⟩ | ⟨g, cap, cur, rfl, _⟩
  · exact ⟨_, _, rfl⟩
  · exact ⟨_, _, rfl⟩

theorem ownsRow_below {w w' : World} {B D : Nat} {e : TypeId} {size : Nat} {v : Value} {n : Nat} {xs : List Value} (h : w.ownsRow B e size v n xs) (hb : Below D w w') (hD : ∀ k, v.ownBlock = some k → k < D) : w'.ownsRow B e size v n xs := by
  refine ⟨h.1, ?_⟩
  rcases h.2 with h2 | ⟨g, cap, cur, hv, hg, hh, r⟩
  · exact .inl h2
  · refine .inr ⟨g, cap, cur, hv, hg, ?_, r⟩
    rw [hb.block g (hD g (by rw [hv]; rfl))]
    exact hh

theorem ownsRow_lt {w : World} {B : Nat} {e : TypeId} {size : Nat} {v : Value} {n : Nat} {xs : List Value} (h : w.ownsRow B e size v n xs) : ∀ k, v.ownBlock = some k → k < w.heap.size := fun k hk => (h.lt k hk).2

theorem byte_at (n : Int) (k : Nat) (h0 : 0 ≤ n) : IntKind.u8.wrap (n / 2 ^ (8 * (k : Int)).toNat) = ((UInt8.ofNat (n.toNat / 256 ^ k)).toNat : Int) := by
  have e : ((2 : Int) ^ (8 * (k : Int)).toNat) = ((256 ^ k : Nat) : Int) := by
    have : (8 * (k : Int)).toNat = 8 * k := by omega
    rw [this, Int.pow_mul]
    simp
  rw [e]
  obtain ⟨m, rfl⟩ := Int.eq_ofNat_of_zero_le h0
  simp [IntKind.wrap, IntKind.bits, IntKind.signed]

/-- The slice v holds the bytes l. -/
structure SlB (w : World) (a : Option Addr) (l : List UInt8) : Prop where
  nonil : a = none → l = []
  cells : ∀ x, a = some x → ∀ j u, (bcells l)[j]? = some u → w.cell? (x.add j) = some u

theorem SlB.below {w w' : World} {a : Option Addr} {l : List UInt8} (h : SlB w a l) (hb : Below w.heap.size w w') : SlB w' a l :=
  ⟨h.nonil, fun x hx j u hu => by have := h.cells x hx j u hu; rw [hb.cell (World.block_lt_of_cell? _ _ this)]; exact this⟩

theorem slB_of_own {w : World} {B : Nat} {a : Option Addr} {n c : Nat} {l : List UInt8} (h : w.ownsRow B 5 1 (.slice a n c) l.length (bcells l)) : SlB w a l ∧ n = l.length ∧ l.length ≤ maxLen := by
  rcases h.2 with ⟨h1, h2⟩ | ⟨g, cap, cur, h1, hB, hh, hc, hm, _⟩
  · simp at h1
    obtain ⟨rfl, rfl, rfl⟩ := h1
    have : l = [] := List.eq_nil_of_length_eq_zero h2
    subst this
    exact ⟨⟨fun _ => rfl, fun x hx => by simp at hx⟩, rfl, by simp⟩
  · simp at h1
    obtain ⟨rfl, rfl, rfl⟩ := h1
    refine ⟨⟨fun h => by simp at h, fun x hx j u hu => ?_⟩, rfl, by omega⟩
    simp at hx
    subst hx
    exact h.cells (g := g) rfl j u hu

theorem extract_list (s : ByteArray) (k : Nat) : (s.extract 0 k).data.toList = s.data.toList.take k := by rw [Lib.extract_data]; simp

theorem bits_or_u64_nat (a b : Nat) (ha : a < 18446744073709551616) (hb : b < 18446744073709551616) :
    bits .or .u64 (a : Int) (b : Int) = ((a ||| b : Nat) : Int) := by
  have hx : a ||| b < 2 ^ 64 := Nat.or_lt_two_pow (by omega) (by omega)
  have h1 : (BitVec.ofInt 64 (a : Int)).toNat = a := by
    rw [BitVec.ofInt_natCast, BitVec.toNat_ofNat]; exact Nat.mod_eq_of_lt (by omega)
  have h2 : (BitVec.ofInt 64 (b : Int)).toNat = b := by
    rw [BitVec.ofInt_natCast, BitVec.toNat_ofNat]; exact Nat.mod_eq_of_lt (by omega)
  show IntKind.u64.wrap ((BitVec.ofInt 64 (a : Int) ||| BitVec.ofInt 64 (b : Int)).toNat : Int) = _
  rw [BitVec.toNat_or, h1, h2, IntKind.wrap_u64]
  omega

/-- One byte more. -/
theorem or_step (l : List UInt8) (b : UInt8) (hk : l.length < 8) :
    bits .or .u64 ((leV l : Nat) : Int) (IntKind.u64.wrap (((b.toNat : Nat) : Int) * 2 ^ (8 * (l.length : Int)).toNat)) = ((leV (l ++ [b]) : Nat) : Int) := by
  have hp : (8 * (l.length : Int)).toNat = 8 * l.length := by omega
  have e1 : ((b.toNat : Int) * 2 ^ (8 * l.length)) = ((b.toNat * 2 ^ (8 * l.length) : Nat) : Int) := by simp
  have hb := b.toNat_lt
  have h256 : (256 : Nat) ^ l.length = 2 ^ (8 * l.length) := by rw [Nat.pow_mul]
  have hle : 2 ^ (8 * l.length) ≤ 2 ^ 56 := Nat.pow_le_pow_right (by decide) (by omega)
  have hlt := leV_lt l
  rw [h256] at hlt
  have hbig : b.toNat * 2 ^ (8 * l.length) < 18446744073709551616 := by
    have := Nat.mul_le_mul (show b.toNat ≤ 255 by omega) hle
    omega
  rw [hp, e1, IntKind.wrap_u64]
  rw [show ((b.toNat * 2 ^ (8 * l.length) : Nat) : Int) % 18446744073709551616 = ((b.toNat * 2 ^ (8 * l.length) : Nat) : Int) by omega]
  rw [bits_or_u64_nat _ _ (by omega) hbig, leV_snoc, h256]
  congr 1
  rw [Nat.or_comm, Nat.mul_comm b.toNat, Nat.add_comm]
  exact (Nat.two_pow_add_eq_or_of_lt hlt b.toNat).symm

end Go.Proofs.Yticnkppnpfgceaa
