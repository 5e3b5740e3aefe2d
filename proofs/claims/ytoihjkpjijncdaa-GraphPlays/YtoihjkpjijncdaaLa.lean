/-
  Has and Same; a graph of some edges.
-/
import Derived.Test.YtoihjkpjijncdaaVc
import Derived.Test.YtoihjkpjijncdaaGn
import Derived.Deep.RegionHeld3
namespace Go.Proofs.Ytoihjkpjijncdaa
open Go.RowKit Go.Maps

/-- A slice of numbers, where it lies. -/
def RowI (w : World) (va : Option Addr) (l : List Int) : Prop := l = [] ∨ ∃ g, va = some ⟨g, 0, none⟩ ∧ ∀ j (hj : j < l.length), w.cell? ⟨g, j, none⟩ = some (.int .i64 l[j])
theorem RowI.of {w : World} {B c : Nat} {va : Option Addr} {l : List Int} (h : w.ownsRow B 3 1 (.slice va l.length c) l.length (l.map enI)) : RowI w va l := by
  rcases h.2 with ⟨_, h2⟩ | ⟨g, cap, cur, hv, h2, h3, h4, h5, h6, h7⟩
  · exact .inl (List.eq_nil_of_length_eq_zero h2)
  · cases hv
    refine .inr ⟨g, rfl, fun j hj => ?_⟩
    have : w.cell? ((⟨g, 0, none⟩ : Addr).add j) = some (.int .i64 l[j]) := h.cells (g := g) rfl j (enI l[j]) (by simp [List.getElem?_eq_getElem hj])
    by_cases hn : j = 0
    · subst hn; simpa [Addr.add] using this
    · simpa [Addr.add, hn] using this
theorem RowI.below {w w' : World} {va : Option Addr} {l : List Int} (h : RowI w va l) (hb : Below w.heap.size w w') : RowI w' va l := by
  rcases h with h | ⟨g, h1, h2⟩
  · exact .inl h
  · refine .inr ⟨g, h1, fun j hj => ?_⟩
    have h3 := h2 j hj
    have hl : g < w.heap.size := by
      rcases Nat.lt_or_ge g w.heap.size with h | h
      · exact h
      · simp [World.cell?, Array.getElem?_eq_none h] at h3
    rw [← h3]
    simp [World.cell?, hb.block g hl]

set_option maxRecDepth 100000 in
set_option maxHeartbeats 1000000 in
theorem has22 {w : World} {va : Option Addr} {c : Nat} {l : List Int} (h : RowI w va l) (hl : l.length ≤ 1000000) (x : Int) :
    Calls Try.prog 22 #[.slice va l.length c, .int .i64 x] w fun e w' => e = .returned (.bool (decide (x ∈ l))) ∧ w' = w := by
  have HR := toHid h
  clear h
  go_enter Try.func22, Try.ntmps22
  go_wp2_with fail
  go_loop [5] (fun k => ∃ i : Nat, i ≤ l.length ∧ k = .int .i64 i ∧ Hid (x ∉ l.take i)) (fun k => l.length - (intOf k).toNat)
  case atStart => exact ⟨0, Nat.zero_le _, rfl, toHid (by simp)⟩
  case round =>
    obtain ⟨i, hi, rfl, HN⟩ := hrel
    by_cases hlt : i < l.length
    · obtain ⟨g, rfl, hc⟩ := HR.out.resolve_left (fun e => by rw [e] at hlt; simp at hlt)
      have c0 := hc i hlt
      obtain ⟨y, hy⟩ : ∃ y, l[i] = y := ⟨_, rfl⟩
      rw [hy] at c0
      have HT : Hid (l.take (i + 1) = l.take i ++ [y]) := by show _ = _; rw [← hy, List.take_succ_eq_append_getElem hlt]
      have HM : Hid (y ∈ l) := by show _ ∈ _; rw [← hy]; exact List.getElem_mem hlt
      clear hc hy
      have hq1 : (i : Int) < (l.length : Int) := by omega
      have hq2 : 0 ≤ (i : Int) := by omega
      by_cases he : y = x
      · subst he
        go_wp2
        go_ret
        exact ⟨by rw [decide_eq_true HM.out]; rfl, rfl⟩
      · go_wp2
        go_round
        case rel => exact ⟨i + 1, by omega, by simp, toHid (by rw [HT.out]; simp [HN.out, Ne.symm he])⟩
        case measure => first | omega | (simp only [intOf]; omega)
    · obtain rfl : i = l.length := by omega
      have hno : x ∉ l := by simpa using HN.out
      go_wp2
      go_ret
      exact ⟨rfl, rfl⟩

set_option maxRecDepth 100000 in
set_option maxHeartbeats 1000000 in
theorem same24 {w : World} {va vb : Option Addr} {c d : Nat} {l m : List Int} (h : RowI w va l) (hm : RowI w vb m) (hl : l.length ≤ 1000000) (hl2 : m.length ≤ 1000000) :
    Calls Try.prog 24 #[.slice va l.length c, .slice vb m.length d] w fun e w' => e = .returned (.bool (decide (l = m))) ∧ Below w.heap.size w w' := by
  have HR := toHid h
  have HM := toHid hm
  clear h hm
  by_cases hlen : l.length = m.length
  · rw [← hlen]
    go_enter Try.func24, Try.ntmps24
    go_wp2_with fail
    go_loopw [5] (fun k W => ∃ i : Nat, i ≤ l.length ∧ k = .int .i64 i ∧ Hid (l.take i = m.take i) ∧ Hid (Below w.heap.size w W)) (fun k _ => l.length - (intOf k).toNat)
    case atStart => exact ⟨0, Nat.zero_le _, rfl, toHid (by simp), toHid (Below.refl _ _)⟩
    case round =>
      obtain ⟨i, hi, rfl, HN, HB⟩ := hrel
      by_cases hlt : i < l.length
      · obtain ⟨g, rfl, hc⟩ := (HR.out.below HB.out).resolve_left (fun e => by rw [e] at hlt; simp at hlt)
        obtain ⟨g', rfl, hd⟩ := (HM.out.below HB.out).resolve_left (fun e => by rw [hlen, e] at hlt; simp at hlt)
        have hlt2 : i < m.length := by omega
        have c0 := hc i hlt
        have d0 := hd i hlt2
        obtain ⟨y, hy⟩ : ∃ y, l[i] = y := ⟨_, rfl⟩
        obtain ⟨z, hz⟩ : ∃ z, m[i] = z := ⟨_, rfl⟩
        rw [hy] at c0
        rw [hz] at d0
        have HT : Hid (l.take (i + 1) = l.take i ++ [y]) := by show _ = _; rw [← hy, List.take_succ_eq_append_getElem hlt]
        have HT2 : Hid (m.take (i + 1) = m.take i ++ [z]) := by show _ = _; rw [← hz, List.take_succ_eq_append_getElem hlt2]
        have HLL := toHid hlen
        have HNE : Hid (y ≠ z → l ≠ m) := fun e e1 => e (by subst e1; rw [← hy, ← hz])
        clear hc hd hy hz hlen
        have hq1 : (i : Int) < (l.length : Int) := by omega
        have hq2 : 0 ≤ (i : Int) := by omega
        by_cases he : y = z
        · subst he
          go_wp2_with fail
          go_region
          go_wp2
          go_roundw
          case rel => exact ⟨i + 1, by omega, by simp, toHid (by rw [HT.out, HT2.out, HN.out]), toHid HB.out.drew⟩
          case measure => first | omega | (simp only [intOf]; omega)
        · go_wp2_with fail
          go_region
          go_wp2
          go_ret
          exact ⟨by rw [decide_eq_false (HNE.out he)]; rfl, HB.out.drew⟩
      · obtain rfl : i = l.length := by omega
        have heq : l = m := by have := HN.out; rw [List.take_length, hlen, List.take_length] at this; exact this
        have HEQ := toHid heq
        clear heq hlen
        go_wp2
        go_ret
        exact ⟨by rw [decide_eq_true HEQ.out]; rfl, HB.out⟩
  · have hne : l ≠ m := fun e => hlen (by rw [e])
    have hlen' : (l.length : Int) ≠ (m.length : Int) := by omega
    rw [decide_eq_false hne]
    go_enter Try.func24, Try.ntmps24
    go_wp2
    go_ret
    exact ⟨rfl, Below.refl _ _⟩

/-- Edges, where they lie. -/
structure SlE (W : World) (a : Option Addr) (l : List (Int × Int)) : Prop where
  at_ : ∀ j (hj : j < l.length), ∃ b o, a = some ⟨b, o, none⟩ ∧ W.cell? ⟨b, o + j * 2, none⟩ = some (.int .i64 l[j].1) ∧ W.cell? ⟨b, o + j * 2 + 1, none⟩ = some (.int .i64 l[j].2)
  wf : ∀ e, e ∈ l → (Lit.int .i64 e.1).wf = true ∧ (Lit.int .i64 e.2).wf = true

theorem cell_lt {w : World} {g o : Nat} {v : Value} (h : w.cell? ⟨g, o, none⟩ = some v) : g < w.heap.size := by
  rcases Nat.lt_or_ge g w.heap.size with h1 | h1
  · exact h1
  · simp [World.cell?, Array.getElem?_eq_none h1] at h
theorem cell_low {w w' : World} {B g o : Nat} {v : Value} (h : w.cell? ⟨g, o, none⟩ = some v) (hg : g < B) (hb : Below B w w') : w'.cell? ⟨g, o, none⟩ = some v := by
  rw [← h]
  simp [World.cell?, hb.block g hg]
theorem SlE.below {w w' : World} {a : Option Addr} {l : List (Int × Int)} (h : SlE w a l) (hb : Below w.heap.size w w') : SlE w' a l :=
  ⟨fun j hj => by
    obtain ⟨b, o, h1, h2, h3⟩ := h.at_ j hj
    exact ⟨b, o, h1, cell_low h2 (cell_lt h2) hb, cell_low h3 (cell_lt h3) hb⟩, h.wf⟩

theorem below_trans {B : Nat} {w w1 w2 : World} (h : Below B w w1) (k : Below B w1 w2) : Below B w w2 := ⟨k.os.trans h.os, k.tape.trans h.tape, k.output.trans h.output, Nat.le_trans h.size k.size, fun i hi => (k.block i hi).trans (h.block i hi)⟩
theorem below_next {B : Nat} {w w1 w2 : World} (h : Below B w w1) (hB : B ≤ w1.heap.size) (k : Below w1.heap.size w1 w2) : Below B w w2 := below_trans h ⟨k.os, k.tape, k.output, k.size, fun i hi => k.block i (by omega)⟩
def leE (e : Int × Int) : Lit × Lit := (.int .i64 e.1, .int .i64 e.2)
noncomputable def madeE (l : List (Int × Int)) (i : Nat) : List (Lit × Lit) := (l.take i).foldl (fun E e => addE E (leE e)) []
theorem madeE_succ {l : List (Int × Int)} {i : Nat} (h : i < l.length) : madeE l (i + 1) = addE (madeE l i) (leE l[i]) := by
  unfold madeE
  rw [List.take_succ_eq_append_getElem h, List.foldl_append]
  rfl
theorem addE_len (E : List (Lit × Lit)) (e : Lit × Lit) : (addE E e).length ≤ E.length + 1 := by
  unfold addE
  split <;> simp
theorem madeE_len (l : List (Int × Int)) (i : Nat) : (madeE l i).length ≤ i := by
  induction i with
  | zero => simp [madeE]
  | succ i ih =>
    by_cases h : i < l.length
    · rw [madeE_succ h]
      have := addE_len (madeE l i) (leE l[i])
      omega
    · have : madeE l (i + 1) = madeE l i := by unfold madeE; rw [List.take_of_length_le (by omega), List.take_of_length_le (by omega)]
      rw [this]; omega
theorem mem_addE {E : List (Lit × Lit)} {e z : Lit × Lit} : z ∈ addE E e ↔ z ∈ E ∨ z = e := by
  unfold addE
  split
  · rename_i h
    exact ⟨.inl, fun h1 => h1.elim id (fun e1 => by rw [e1]; exact h)⟩
  · simp
theorem mem_madeE {l : List (Int × Int)} {i : Nat} {z : Lit × Lit} : z ∈ madeE l i ↔ ∃ e, e ∈ l.take i ∧ z = leE e := by
  unfold madeE
  have : ∀ (m : List (Int × Int)) (E : List (Lit × Lit)), z ∈ m.foldl (fun E e => addE E (leE e)) E ↔ z ∈ E ∨ ∃ e, e ∈ m ∧ z = leE e := by
    intro m
    induction m with
    | nil => simp
    | cons a r ih =>
      intro E
      rw [List.foldl_cons, ih, mem_addE]
      simp only [List.mem_cons, exists_eq_or_imp]
      exact or_assoc
  rw [this]
  simp

/-- What made leaves. -/
structure Made (w : World) (E : List (Lit × Lit)) (p N : Nat) (S : Nat → Prop) (W : World) : Prop where
  gr : Gr 3 61 W p N E S
  low : Below w.heap.size w W
  new : ∀ j, S j → w.heap.size ≤ j

set_option maxRecDepth 100000 in
set_option maxHeartbeats 2000000 in
theorem made19 {w : World} {a : Option Addr} {c : Nat} {l : List (Int × Int)} (hL : SlE w a l) :
    Calls Try.prog 19 #[.slice a l.length c] w fun e w' => ∃ p S, e = .returned (.pointer (some ⟨p, 0, none⟩)) ∧ Made w (madeE l 60) p 60 S w' := by
  have HL := toHid hL
  clear hL
  go_enter Try.func19, Try.ntmps19
  go_wp2_with fail
  refine (newI w).mono ?_
  rintro e w0 ⟨p, S0, rfl, hg0, hb0, hn0⟩
  have H0 := toHid (show Made w (madeE l 0) p 0 S0 w0 from ⟨hg0, hb0, hn0⟩)
  clear hg0 hb0 hn0
  go_wp2_with fail
  go_loopw [4] (fun k W => ∃ (i : Nat) (S : Nat → Prop), i ≤ l.length ∧ i ≤ 60 ∧ k = .int .i64 i ∧ Hid (Made w (madeE l i) p i S W)) (fun k _ => l.length - (intOf k).toNat)
  case atStart => exact ⟨0, S0, Nat.zero_le _, by omega, rfl, H0⟩
  case round =>
    obtain ⟨i, S, hi, h60, rfl, HM⟩ := hrel
    clear H0
    have hq2 : 0 ≤ (i : Int) := by omega
    by_cases hlt : i < l.length
    · have hq1 : (i : Int) < (l.length : Int) := by omega
      by_cases h6 : i < 60
      · obtain ⟨b, o, rfl, c0, c1⟩ := HL.out.at_ i hlt
        obtain ⟨hx, hy⟩ := HL.out.wf l[i] (List.getElem_mem hlt)
        obtain ⟨e, he⟩ : ∃ e, l[i] = e := ⟨_, rfl⟩
        rw [he] at c0 c1 hx hy
        obtain ⟨x, y⟩ := e
        have HEQ : Hid (madeE l (i + 1) = addE (madeE l i) (.int .i64 x, .int .i64 y)) := by show _ = _; rw [madeE_succ hlt, he]; rfl
        have HC : Hid (∀ W, Below w.heap.size w W → W.cell? ⟨b, o + i * 2, none⟩ = some (.int .i64 x) ∧ W.cell? ⟨b, o + i * 2 + 1, none⟩ = some (.int .i64 y)) := fun W hW => ⟨cell_low c0 (cell_lt c0) hW, cell_low c1 (cell_lt c1) hW⟩
        clear he c0 c1
        have hbd : Below w.heap.size w wr.drew := ⟨HM.out.low.os, HM.out.low.tape, HM.out.low.output, HM.out.low.size, HM.out.low.block⟩
        have HGd := toHid (show Gr 3 61 wr.drew p i (madeE l i) S from HM.out.gr.at fun _ _ => rfl)
        have hlen := madeE_len l i
        have hq3 : (i : Int) < 60 := by omega
        go_wp2_with fail
        go_region_held3 (fun W => W.cell? ⟨b, o + i * 2, none⟩ = some (.int .i64 x) ∧ W.cell? ⟨b, o + i * 2 + 1, none⟩ = some (.int .i64 y)) (exact HC.out _ (by assumption)) (first | (go_at_call 11; refine (addI HGd.out (keyI hx) (keyI hy) (by unfold maxLen; omega) (by omega)).mono ?_; rintro e w2 ⟨S2, rfl, hg2, ht2, hs2⟩; have hb2 : Below w.heap.size w w2 := below_trans hbd (ht2.below hbd.size (fun j hj hS => by have := HM.out.new j hS; omega)); have HM2 := toHid (show Made w (madeE l (i + 1)) p (i + 1) S2 w2 from ⟨by rw [HEQ.out]; exact hg2, hb2, fun j hj => by rcases hs2 j hj with h1 | h1; exact HM.out.new j h1; exact Nat.le_trans hbd.size h1⟩); clear hg2 ht2 hs2))
        go_wp2_with fail
        go_roundw
        case rel => exact ⟨i + 1, S2, by omega, by omega, by simp, HM2⟩
        case measure => first | omega | (simp only [intOf]; omega)
      · obtain rfl : i = 60 := by omega
        go_wp2
        go_ret
        exact ⟨p, S, rfl, HM.out⟩
    · obtain rfl : i = l.length := by omega
      have HE : Hid (madeE l l.length = madeE l 60) := by show _ = _; unfold madeE; rw [List.take_length, List.take_of_length_le h60]
      go_wp2
      go_ret
      exact ⟨p, S, rfl, by rw [← HE.out]; exact ⟨HM.out.gr.mono h60, HM.out.low, HM.out.new⟩⟩

end Go.Proofs.Ytoihjkpjijncdaa
