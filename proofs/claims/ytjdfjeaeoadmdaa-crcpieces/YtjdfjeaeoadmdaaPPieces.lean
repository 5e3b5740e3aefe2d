/-
  CrcPieces returns true for every slice of slices of bytes that the row reads, and leaves it as it was. No condition of ours.
-/
import Derived.Test.YtjdfjeaeoadmdaaWPieces
import Derived.Test.YtjdfjeaeoadmdaaRows
namespace Go.Proofs.Ytjdfjeaeoadmdaa
open Go.ChangeShapes Go.WideShapes Go.ChangeAt Go.RowKit Go.Deep

theorem Try.cells22 : Try.prog.cellsOf 22 = 1 := by kernel_rfl

theorem cells_one {w : World} {base : Nat} {a : Addr} {cs : List Value} (h : w.cells? base a 1 = some cs) : ∃ v0, cs = [v0] ∧ w.cell? a = some v0 := by
  obtain ⟨hb, hl, hc⟩ := World.cells?_some h
  match cs, hl with
  | [v0], _ =>
    have h0 := hc 0 (by simp)
    exact ⟨v0, rfl, by simpa [Addr.add] using h0⟩

theorem open_piece {H : Type} {enc : TypeId × Value → H} {W : World} {base : Nat} {spare : Nat → Bool} {held : Bool} {fuel : Nat} {v : Value} {x : DataW H × List MemPlace}
    (hf : DataW.trod enc Try.prog W base spare held fuel 22 [v] = some x) :
    ∃ q : Option Addr × Nat × List UInt8, v = .slice q.1 q.2.2.length q.2.1 ∧ SlB W q.1 q.2.2 ∧ (q.1 = none → q.2.1 = 0) ∧ q.2.2.length ≤ 9223372036854775807 := by
  rcases open_ints Try.underlying22 Try.underlying5 Try.cells5 hf with ⟨hcs, _⟩ | ⟨y, ln, cp, zs, hcs, _, hl, hm, hz, hx, hcell, hwz⟩
  · simp at hcs
    subst hcs
    exact ⟨(none, 0, []), rfl, SlB.empty, fun _ => rfl, by simp⟩
  · simp at hcs
    subst hcs
    have hlz : ln ≤ zs.length := by rw [hz]; split <;> omega
    have e : (toB (zs.take ln)).length = ln := by simp [toB]; omega
    unfold maxLen at hm
    refine ⟨(some y, cp, toB (zs.take ln)), by simp only [e], slB_ints hcell hwz, fun h => by simp at h, by simp only [e]; omega⟩

theorem open_pieces {H : Type} {enc : TypeId × Value → H} {W : World} {base : Nat} {spare : Nat → Bool} {held : Bool} {fuel : Nat} {a : Option Addr} {n c : Nat} {x : DataW H × List MemPlace}
    (hf : DataW.trod enc Try.prog W base spare held fuel 39 [.slice a n c] = some x) : ∃ A C L, Pieces W a n A C L ∧ n ≤ maxLen := by
  rcases open_slice Try.underlying39 hf with ⟨hcs, _⟩ | ⟨ad, len, cap, m, nf, D, Pl, hcs, _, hl, hm, hmm, _, hx⟩
  · simp at hcs
    obtain ⟨rfl, rfl, rfl⟩ := hcs
    exact ⟨fun _ => none, fun _ => 0, fun _ => [], ⟨fun _ => rfl, fun y hy => by simp at hy⟩, by simp⟩
  · simp at hcs
    obtain ⟨rfl, rfl, rfl⟩ := hcs
    have hlm : n ≤ m := by rw [hmm]; split <;> omega
    have hsp : 0 < n → ad.spot = none := by
      intro h0
      obtain ⟨cs', hc, _⟩ := hx 0 (by omega)
      rw [Try.cells22] at hc
      obtain ⟨v0, rfl, e0⟩ := cells_one hc
      have := World.cell?_spot e0
      simpa [Addr.add] using this
    have each : ∀ i, i < n → ∃ q : Option Addr × Nat × List UInt8, ad.spot = none ∧ W.cell? ⟨ad.block, ad.off + i, none⟩ = some (.slice q.1 q.2.2.length q.2.1) ∧ SlB W q.1 q.2.2 ∧ (q.1 = none → q.2.1 = 0) ∧ q.2.2.length ≤ 9223372036854775807 := by
      intro i hi
      obtain ⟨cs', hc, ht⟩ := hx i (by omega)
      rw [Try.cells22] at hc
      obtain ⟨v0, rfl, e0⟩ := cells_one hc
      obtain ⟨q, rfl, hq⟩ := open_piece ht
      obtain ⟨ab, ao, asp⟩ := ad
      obtain rfl : asp = none := hsp (by omega)
      have eb : ∀ q j, (⟨ab, q, none⟩ : Addr).add j = ⟨ab, q + j, none⟩ := fun q j => by unfold Addr.add; split <;> simp_all
      rw [eb, Nat.mul_one] at e0
      exact ⟨q, rfl, e0, hq⟩
    obtain ⟨q, hq⟩ := choose_lt each
    exact ⟨fun i => (q i).1, fun i => (q i).2.1, fun i => (q i).2.2, ⟨fun h => by simp at h, fun y hy i hi => by simp at hy; subst hy; exact hq i hi⟩, by omega⟩

set_option maxRecDepth 100000 in
theorem crcPieces_lifted (os : Os) (started : os.Started) (H : Type) (enc : TypeId × Value → H) :
    ReturnsInHanded {} Try.checked os 6 .any (Rows.crcPiecesSpec.pre6 enc Try.prog Try.f6 Rows.crcPiecesRow.domain false) (Rows.crcPiecesSpec.post enc Try.prog Try.f6 false true false false) := by
  refine returnsInHanded_of_change (C := Try.checked) Try.own started (by kernel_rfl) Try.func6
    (ChangeSpec.witness6 (enc := enc) (C := Try.checked) false ⟨#[], #[.slice none 0 0], []⟩ 8 (by kernel_rfl) (by kernel_rfl) (by kernel_rfl) (by kernel_rfl)) ?_
  intro W base args ds gs before hval0 hW _ _
  have hval : ∀ (j : Nat) t v, Try.f6.params[j]? = some t → args[j]? = some v → Value.okWide Try.prog W .any base t v := hval0
  have hW' := hW
  obtain ⟨p, q, hA0, hV, rfl, _, _⟩ := hW
  have hA : DataW.TrodAll enc Try.prog W 0 (fun _ => true) true Try.f6.params.toList args.toList ds p := hA0
  rw [Try.params6] at hA hval
  obtain ⟨v0, d0, rfl, rfl, h0⟩ := trodAll_one hA
  obtain ⟨rfl, rfl⟩ := trodVars_none hV
  obtain ⟨a0, len0, cap0, rfl⟩ := okWide_slice Try.underlying39 (hval 0 39 v0 rfl rfl)
  have k0 := h0
  have lt0 : ∀ x ∈ p, x.block < W.heap.size := by obtain ⟨m, hm⟩ := k0; exact DataW.trod_lt m _ _ _ hm
  obtain ⟨A, C, L, hP, hn⟩ : ∃ A C L, Pieces W a0 len0 A C L ∧ len0 ≤ maxLen := by
    obtain ⟨fuel, hf⟩ := h0
    exact open_pieces (by simpa [Value.cells] using hf)
  clear hA0 hval0
  refine (pieces_walk a0 len0 cap0 A C L W hP hn).mono fun e W' ⟨he, bel⟩ => ?_
  subst he
  exact ⟨_, rfl, _, _, _, [], _, [], hW', trodAll_mk1 (shut_bool Try.underlying4 _), trodAll_mk1 (Below.trod Try.laidOut (by kernel_rfl) (of_decide_eq_true (by kernel_rfl)) k0 bel lt0), rfl, bel.frame _, fun h => by cases h⟩

theorem crcPieces_holds : Rows.CrcPiecesSaid :=
  OpenClaim.holds_of_wide 6 Try.f6 rfl rfl rfl rfl rfl rfl rfl ⟨rfl, rfl, rfl, rfl, rfl⟩ rfl rfl rfl rfl rfl (by kernel_rfl) Try.func6 (by kernel_rfl)
    (of_decide_eq_true (by kernel_rfl)) (by unfold Func.isWrapper; first | (rw [if_pos (by decide +kernel)]; kernel_rfl) | (rw [if_neg (by decide +kernel)]; exact ⟨rfl, rfl⟩))
    (fun os started H enc _ => crcPieces_lifted os started H enc)

#print axioms crcPieces_holds
end Go.Proofs.Ytjdfjeaeoadmdaa
