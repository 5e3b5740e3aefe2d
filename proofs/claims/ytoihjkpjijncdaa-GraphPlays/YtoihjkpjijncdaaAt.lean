/-
  At: the place of an edge; GraphBreaks: things that were let go.
-/
import Derived.Test.YtoihjkpjijncdaaOb
import Derived.Laws.StructEq
namespace Go.Proofs.Ytoihjkpjijncdaa
open Go.RowKit Go.Maps

theorem Try.held27 : Try.prog.stoodInHeld 27 = false := by kernel_rfl
theorem Try.struct27 : Try.prog.underlying 27 = some (.struct (Try.prog.fieldsOf 27)) := by kernel_rfl
theorem Try.guard27 : Try.prog.eqGuardType Try.prog.depth 27 = false := by kernel_rfl
theorem eql27 (a b a' b' : Int) (w : World) : (binOp .eql 27 (.agg #[.int .i64 a, .int .i64 b]) (.agg #[.int .i64 a', .int .i64 b'])).run Try.prog w = .ok (.bool (decide ((a, b) = (a', b')))) w := by
  have h : (Op.equalIn 10000 27 (.agg #[.int .i64 a, .int .i64 b]) (.agg #[.int .i64 a', .int .i64 b'])).run Try.prog w = .ok ((a == a') && (b == b')) w := by
    rw [show (10000 : Nat) = 9999 + 1 from rfl, run_equalIn_struct w 9999 27 _ _ Try.struct27 Try.held27]
    simp [Program.fieldsOf, Try.underlying27, Op.eqFields, go_sem, Try.underlying3]
    by_cases h1 : a = a' <;> by_cases h2 : b = b' <;> simp [h1, h2]
  rw [run_eql_struct, h]
  simp [Result.andThen]
  by_cases h1 : a = a' <;> by_cases h2 : b = b' <;> simp [h1, h2]

set_option maxRecDepth 100000 in
set_option maxHeartbeats 1000000 in
theorem at25 {w : World} {va : Option Addr} {c : Nat} {l : List (Int × Int)} (h : SlE w va l) (hl : l.length ≤ 1000000) (x y : Int) :
    Calls Try.prog 25 #[.slice va l.length c, .agg #[.int .i64 x, .int .i64 y]] w fun e w' => ∃ k : Int, e = .returned (.int .i64 k) ∧ ((x, y) ∈ l → 0 ≤ k) ∧ ((x, y) ∉ l → k = -1) ∧ Below w.heap.size w w' := by
  obtain ⟨w0, hw0⟩ : ∃ w0, w0 = w.alloc (.cells #[.int .i64 x, .int .i64 y] 27) := ⟨_, rfl⟩
  have hblk : w0.heap[w.heap.size]? = some (.cells #[.int .i64 x, .int .i64 y] 27) := by rw [hw0]; exact (MapKept.heap_alloc _ _).1
  have hs0 : w0.heap.size = w.heap.size + 1 := by rw [hw0]; simp
  have HB0 : Hid (Below w.heap.size w w0) := by rw [hw0]; exact (Below.refl _ _).alloc (Nat.le_refl _) _
  have HR := toHid (h.below HB0.out)
  have HEB : Hid (∀ W, Below w0.heap.size w0 W → W.cell? ⟨w.heap.size, 0, none⟩ = some (.int .i64 x) ∧ W.cell? ⟨w.heap.size, 1, none⟩ = some (.int .i64 y)) := fun W hW => by
    have h1 : W.heap[w.heap.size]? = some (.cells #[.int .i64 x, .int .i64 y] 27) := (hW.block _ (by omega)).trans hblk
    exact ⟨by simp [World.cell?, h1], by simp [World.cell?, h1]⟩
  have hal := toHid hw0
  have hg27 := Try.guard27
  clear h hblk hw0
  go_enter Try.func25, Try.ntmps25
  go_wp2_with fail
  rw [← hal.out]
  go_loopw [5] (fun k W => ∃ i : Nat, i ≤ l.length ∧ k = .int .i64 i ∧ Hid ((x, y) ∉ l.take i) ∧ Hid (Below w0.heap.size w0 W)) (fun k _ => l.length - (intOf k).toNat)
  case atStart => exact ⟨0, Nat.zero_le _, rfl, toHid (by simp), toHid (Below.refl _ _)⟩
  case round =>
    obtain ⟨i, hi, rfl, HN, HB⟩ := hrel
    have hq2 : 0 ≤ (i : Int) := by omega
    have HLow : Hid (∀ W, Below w0.heap.size w0 W → Below w.heap.size w W) := fun W hW => below_trans HB0.out ⟨hW.os, hW.tape, hW.output, hW.size, fun j hj => hW.block j (by omega)⟩
    by_cases hlt : i < l.length
    · have hq1 : (i : Int) < (l.length : Int) := by omega
      obtain ⟨b, o, rfl, c0, c1⟩ := (HR.out.below HB.out).at_ i hlt
      obtain ⟨d0, d1⟩ := HEB.out _ HB.out
      have HT : Hid (l.take (i + 1) = l.take i ++ [l[i]]) := by show _ = _; rw [List.take_succ_eq_append_getElem hlt]
      have HM : Hid (l[i] ∈ l) := List.getElem_mem hlt
      obtain ⟨e, he⟩ : ∃ e, l[i] = e := ⟨_, rfl⟩
      rw [he] at c0 c1 HT HM
      obtain ⟨u, v⟩ := e
      have HEq := toHid (eql27 u v x y)
      clear he
      by_cases hq : (u, v) = (x, y)
      · have hE : ∀ W, (binOp .eql 27 (.agg #[.int .i64 u, .int .i64 v]) (.agg #[.int .i64 x, .int .i64 y])).run Try.prog W = .ok (.bool true) W := fun W => by rw [HEq.out W, decide_eq_true hq]
        have HQ := toHid hq
        clear hq
        go_wp2_with fail
        go_region
        go_wp2_with fail
        go_ret
        exact ⟨(i : Int), rfl, fun _ => hq2, fun hno => absurd (HQ.out ▸ HM.out) hno, HLow.out _ HB.out.drew⟩
      · have hE : ∀ W, (binOp .eql 27 (.agg #[.int .i64 u, .int .i64 v]) (.agg #[.int .i64 x, .int .i64 y])).run Try.prog W = .ok (.bool false) W := fun W => by rw [HEq.out W, decide_eq_false hq]
        have HQ := toHid hq
        clear hq
        go_wp2_with fail
        go_region
        go_wp2_with fail
        go_roundw
        case rel => exact ⟨i + 1, by omega, by simp, toHid (by rw [HT.out, List.mem_append]; rintro (h | h); exact HN.out h; exact HQ.out (List.mem_singleton.1 h).symm), toHid HB.out.drew⟩
        case measure => first | omega | (simp only [intOf]; omega)
    · obtain rfl : i = l.length := by omega
      have HNo : Hid ((x, y) ∉ l) := by have := HN.out; rw [List.take_length] at this; exact this
      clear HN
      go_wp2_with fail
      go_ret
      exact ⟨-1, rfl, fun h => absurd h HNo.out, fun _ => rfl, HLow.out _ HB.out⟩

/-- Without all edges of some things. -/
noncomputable def cutE (E : List (Lit × Lit)) (G : List Int) : List (Lit × Lit) := G.foldl (fun E v => goneE E (liI v)) E
theorem cutE_snoc (E : List (Lit × Lit)) (G : List Int) (v : Int) : cutE E (G ++ [v]) = goneE (cutE E G) (liI v) := by simp [cutE, List.foldl_append]
noncomputable instance (G : List Int) (e : Lit × Lit) : Decidable (∀ v, v ∈ G → e.1 ≠ liI v ∧ e.2 ≠ liI v) := Classical.propDecidable _
theorem cutE_eq (E : List (Lit × Lit)) (G : List Int) : cutE E G = E.filter fun e => decide (∀ v, v ∈ G → e.1 ≠ liI v ∧ e.2 ≠ liI v) := by
  unfold cutE
  induction G generalizing E with
  | nil => rw [List.foldl_nil]; exact (List.filter_eq_self.2 fun e _ => by simp).symm
  | cons a r ih =>
    rw [List.foldl_cons, ih, goneE, toE, fromE, List.filter_filter, List.filter_filter]
    refine List.filter_congr fun e _ => ?_
    rw [Bool.eq_iff_iff]
    simp only [Bool.and_eq_true, decide_eq_true_iff, List.mem_cons]
    constructor
    · rintro ⟨⟨h1, h2⟩, h3⟩ v (rfl | hv)
      · exact ⟨h3, h2⟩
      · exact h1 v hv
    · intro h
      exact ⟨⟨fun v hv => h v (.inr hv), (h a (.inl rfl)).2⟩, (h a (.inl rfl)).1⟩
theorem mem_cutE {E : List (Lit × Lit)} {G : List Int} {e : Lit × Lit} : e ∈ cutE E G ↔ e ∈ E ∧ ∀ v, v ∈ G → e.1 ≠ liI v ∧ e.2 ≠ liI v := by
  rw [cutE_eq, List.mem_filter, decide_eq_true_iff]
theorem cutE_len (E : List (Lit × Lit)) (G : List Int) : (cutE E G).length ≤ E.length := by rw [cutE_eq]; exact List.length_filter_le _ _
theorem lds_from {F : Lit → Lit → Bool} {a b : Lit} (h : Lds F a b) : ∃ c, F a c = true := by
  induction h with
  | one e => exact ⟨_, e⟩
  | more _ _ ih => exact ih
/-- A victim leads on: it is the start of an edge that is still there. -/
theorem last_mem {R : List Int} (h : R ≠ []) : R.getLastD 0 ∈ R := by
  rcases List.eq_nil_or_concat R with rfl | ⟨r, z, rfl⟩
  · exact absurd rfl h
  · simp
theorem victim_from {l : List (Int × Int)} {G : List Int} {a : Lit} {R : List Int} (h : IsRingI (cutE (madeE l 60) G) a R) (hR : R ≠ []) : (∃ e, e ∈ l.take 60 ∧ e.1 = R.getLastD 0) ∧ R.getLastD 0 ∉ G := by
  obtain ⟨_, h2⟩ := (h.mem _).1 (last_mem hR)
  obtain ⟨c, hc⟩ := lds_from h2
  simp only [outE, decide_eq_true_iff] at hc
  obtain ⟨h3, h4⟩ := mem_cutE.1 hc
  obtain ⟨e, he, h5⟩ := mem_madeE.1 h3
  refine ⟨⟨e, he, ?_⟩, fun hG => (h4 _ hG).1 rfl⟩
  have := congrArg Prod.fst h5
  simpa [leE, liI] using this.symm
theorem int_nodup_le : ∀ {l T : List Int}, l.Nodup → (∀ x, x ∈ l → x ∈ T) → l.length ≤ T.length
  | [], _, _, _ => Nat.zero_le _
  | a :: r, T, hn, hs => by
    obtain ⟨h1, h2⟩ := List.nodup_cons.1 hn
    have ha : a ∈ T := hs a (by simp)
    have := int_nodup_le (T := T.erase a) h2 (fun x hx => (List.mem_erase_of_ne (fun e : x = a => h1 (by rw [← e]; exact hx))).2 (hs x (by simp [hx])))
    rw [List.length_erase_of_mem ha] at this
    have := List.length_pos_of_mem ha
    simp
    omega
/-- Those that were let go: each once, each the start of an edge. -/
structure Gon (l : List (Int × Int)) (G : List Int) : Prop where
  nd : G.Nodup
  frm : ∀ v, v ∈ G → ∃ e, e ∈ l.take 60 ∧ e.1 = v
theorem Gon.few {l : List (Int × Int)} {G : List Int} (h : Gon l G) : G.length ≤ 60 := by
  have := int_nodup_le (T := (l.take 60).map Prod.fst) h.nd fun v hv => by
    obtain ⟨e, he, h1⟩ := h.frm v hv
    exact List.mem_map.2 ⟨e, he, h1⟩
  simp at this
  omega
theorem Gon.add {l : List (Int × Int)} {G : List Int} (h : Gon l G) {v : Int} (hv : (∃ e, e ∈ l.take 60 ∧ e.1 = v) ∧ v ∉ G) : Gon l (G ++ [v]) :=
  ⟨List.nodup_append.2 ⟨h.nd, by simp, fun u hu w hw e => by simp at hw; rw [e, hw] at hu; exact hv.2 hu⟩, fun u hu => by
    rcases List.mem_append.1 hu with h1 | h1
    · exact h.frm u h1
    · obtain rfl : u = v := by simpa using h1
      exact hv.1⟩
/-- Where no start of an edge has a ring, nothing leads to itself. -/
theorem no_rings {l : List (Int × Int)} {G : List Int} (h : ∀ j, (hj : j < l.length) → j < 60 → ∀ z, ¬ (Lds (outE (cutE (madeE l 60) G)) (.int .i64 l[j].1) (liI z) ∧ Lds (outE (cutE (madeE l 60) G)) (liI z) (.int .i64 l[j].1))) (x : Lit) : ¬ Lds (outE (cutE (madeE l 60) G)) x x := by
  intro hx
  obtain ⟨c, hc⟩ := lds_from hx
  simp only [outE, decide_eq_true_iff] at hc
  obtain ⟨e, he, h5⟩ := mem_madeE.1 (mem_cutE.1 hc).1
  have h6 : x = .int .i64 e.1 := congrArg Prod.fst h5
  obtain ⟨j, hj, h7⟩ := List.mem_take_iff_getElem.1 he
  subst h6
  have h8 := h j (by omega) (by omega) e.1
  rw [h7] at h8
  exact h8 ⟨hx, hx⟩
/-- How many are left, edge by edge. -/
theorem left_step {l : List (Int × Int)} {G : List Int} {i : Nat} (hi : i < l.length) : (cutE (madeE l (i + 1)) G).length = (cutE (madeE l i) G).length + (if l[i] ∉ l.take i ∧ l[i].1 ∉ G ∧ l[i].2 ∉ G then 1 else 0) := by
  rw [madeE_succ hi]
  have hmem : leE l[i] ∈ madeE l i ↔ l[i] ∈ l.take i := by
    rw [mem_madeE]
    constructor
    · rintro ⟨e, he, h1⟩
      have h2 : l[i] = e := by
        have a1 := congrArg Prod.fst h1
        have a2 := congrArg Prod.snd h1
        simp [leE] at a1 a2
        exact Prod.ext a1 a2
      rw [h2]; exact he
    · intro h; exact ⟨_, h, rfl⟩
  unfold addE
  by_cases h1 : l[i] ∈ l.take i
  · rw [if_pos (hmem.2 h1), if_neg (fun h => h.1 h1)]
    rfl
  · rw [if_neg (fun h => h1 (hmem.1 h)), cutE_eq, cutE_eq, List.filter_append, List.length_append]
    congr 1
    by_cases h2 : l[i].1 ∉ G ∧ l[i].2 ∉ G
    · rw [if_pos ⟨h1, h2⟩, List.filter_cons_of_pos]
      · rfl
      · rw [decide_eq_true_iff]
        intro v hv
        exact ⟨fun e => h2.1 (by simp [leE, liI] at e; rw [e]; exact hv), fun e => h2.2 (by simp [leE, liI] at e; rw [e]; exact hv)⟩
    · rw [if_neg (fun h => h2 h.2), List.filter_cons_of_neg]
      · rfl
      · rw [decide_eq_true_iff]
        intro h
        exact h2 ⟨fun hv => (h _ hv).1 rfl, fun hv => (h _ hv).2 rfl⟩
theorem edge_left {l : List (Int × Int)} {G : List Int} {i : Nat} (hi : i < l.length) (h6 : i < 60) (h1 : l[i].1 ∉ G) (h2 : l[i].2 ∉ G) : ldsB (cutE (madeE l 60) G) (.int .i64 l[i].1) (.int .i64 l[i].2) = true := by
  unfold ldsB
  rw [decide_eq_true_iff]
  refine .one ?_
  simp only [outE, decide_eq_true_iff]
  refine mem_cutE.2 ⟨mem_madeE.2 ⟨l[i], List.mem_take_iff_getElem.2 ⟨i, by omega, rfl⟩, rfl⟩, fun v hv => ⟨fun e => h1 (by simp [liI] at e; rw [e]; exact hv), fun e => h2 (by simp [liI] at e; rw [e]; exact hv)⟩⟩

end Go.Proofs.Ytoihjkpjijncdaa
