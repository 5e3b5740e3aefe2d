/-
  The walk of GraphPlays.
-/
import Derived.Test.YtoihjkpjijncdaaRh
import Derived.Test.YtoihjkpjijncdaaAr
namespace Go.Proofs.Ytoihjkpjijncdaa
open Go.RowKit Go.Maps

/-- The graph, the document's edges, a step. -/
structure Po (w : World) (p N : Nat) (E : List (Lit × Lit)) (S : Nat → Prop) (m : List (Int × Int)) (s : Value) (b : Nat) (k u v : Int) (W : World) : Prop where
  gr : Gr 3 61 W p N E S
  low : Below w.heap.size w W
  new : ∀ i, S i → w.heap.size ≤ i
  row : W.ownsRow w.heap.size 27 2 s m.length (m.flatMap eC)
  op : W.heap[b]? = some (.cells #[.int .i64 k, .int .i64 u, .int .i64 v] 29)
section
variable {w W W' : World} {p N : Nat} {E : List (Lit × Lit)} {S : Nat → Prop} {m : List (Int × Int)} {s : Value} {b : Nat} {k u v : Int}
theorem Po.below (h : Po w p N E S m s b k u v W) (hb : Below W.heap.size W W') : Po w p N E S m s b k u v W' :=
  ⟨h.gr.below hb, below_next h.low h.low.size hb, h.new, seen_below h.row hb, (hb.block b (Array.getElem?_eq_some_iff.1 h.op).1).trans h.op⟩
theorem Po.list (h : Po w p N E S m s b k u v W) {m' : List (Int × Int)} {s' : Value} (hb : Below W.heap.size W W') (hr : W'.ownsRow w.heap.size 27 2 s' m'.length (m'.flatMap eC)) : Po w p N E S m' s' b k u v W' :=
  ⟨h.gr.below hb, below_next h.low h.low.size hb, h.new, hr, (hb.block b (Array.getElem?_eq_some_iff.1 h.op).1).trans h.op⟩
theorem Po.graph (h : Po w p N E S m s b k u v W) {N' : Nat} {E' : List (Lit × Lit)} {S' : Nat → Prop} (g : Gr 3 61 W' p N' E' S') (t : Turn S W W') (hs : ∀ i, S' i → S i ∨ W.heap.size ≤ i) : Po w p N' E' S' m s b k u v W' :=
  ⟨g, below_trans h.low (t.below h.low.size fun i hi hS => by have := h.new i hS; omega), fun i hi => by
    rcases hs i hi with h1 | h1
    · exact h.new i h1
    · exact Nat.le_trans h.low.size h1, seen_at h.row fun i hi => by
    obtain ⟨cur, h1⟩ := seen_kind h.row hi
    exact t.block i (Array.getElem?_eq_some_iff.1 h1).1 (h.gr.not_row h1 (by decide)), (t.block b (Array.getElem?_eq_some_iff.1 h.op).1 (h.gr.not_row h.op (by decide))).trans h.op⟩
theorem Po.cells (h : Po w p N E S m s b k u v W) : W.cell? ⟨b, 0, none⟩ = some (.int .i64 k) ∧ W.cell? ⟨b, 1, none⟩ = some (.int .i64 u) ∧ W.cell? ⟨b, 2, none⟩ = some (.int .i64 v) := by
  simp [World.cell?, h.op]
end

structure Pl (w : World) (p N : Nat) (S : Nat → Prop) (m : List (Int × Int)) (s : Value) (W : World) : Prop where
  gr : Gr 3 61 W p N (m.map leE) S
  low : Below w.heap.size w W
  new : ∀ i, S i → w.heap.size ≤ i
  row : W.ownsRow w.heap.size 27 2 s m.length (m.flatMap eC)
  wf : ∀ e, e ∈ m → (Lit.int .i64 e.1).wf = true ∧ (Lit.int .i64 e.2).wf = true
theorem map_nodup {m : List (Int × Int)} (h : (m.map leE).Nodup) : m.Nodup := (List.pairwise_map.1 h).imp fun hne e => hne (by rw [e])
theorem out_mem (m : List (Int × Int)) (x y : Int) : outE (m.map leE) (.int .i64 x) (.int .i64 y) = decide ((x, y) ∈ m) := by
  unfold outE
  refine decide_eq_decide.2 ⟨fun h => ?_, fun h => List.mem_map.2 ⟨(x, y), h, rfl⟩⟩
  obtain ⟨a, ha, h1⟩ := List.mem_map.1 h
  rw [← leE_inj (a := a) (b := (x, y)) h1]
  exact ha

set_option maxRecDepth 100000 in
set_option maxHeartbeats 2000000 in
theorem plays_walk {w : World} {a : Option Addr} {c : Nat} {l : List OpG} (hL : SlO w a l) :
    Calls Try.prog 3 #[.slice a l.length c] w fun e w' => e = .returned (.bool true) ∧ Below w.heap.size w w' := by
  have HL := toHid hL
  clear hL
  go_enter Try.func3, Try.ntmps3
  go_wp2_with fail
  refine (newI w).mono ?_
  rintro e w1 ⟨p, S0, rfl, hg, hb, hn⟩
  have HP0 := toHid (show Pl w p 0 S0 [] (.slice none 0 0) w1 from ⟨hg, hb, hn, World.ownsRow_nil _ _ _ _, fun e he => by simp at he⟩)
  clear hg hb hn
  go_wp2_with fail
  go_loopw [4, 5] (fun s k W => ∃ (i : Nat) (m : List (Int × Int)) (va : Option Addr) (vc : Nat) (S : Nat → Prop), i ≤ l.length ∧ i ≤ 60 ∧ k = .int .i64 i ∧ s = .slice va m.length vc ∧ m.length ≤ i ∧ Hid (Pl w p i S m s W)) (fun _ k _ => l.length - (intOf k).toNat)
  case atStart => exact ⟨0, [], none, 0, S0, Nat.zero_le _, by omega, rfl, rfl, Nat.le_refl _, HP0⟩
  case round =>
    obtain ⟨i, m, va, vc, S, hi, h60, rfl, rfl, hmi, HP⟩ := hrel
    clear HP0
    have hq2 : 0 ≤ (i : Int) := by omega
    have hend : i < l.length ∧ i < 60 ∨ (¬ (i < l.length ∧ i < 60)) := by omega
    rcases hend with ⟨hlt, h6⟩ | hend
    · have hq1 : (i : Int) < (l.length : Int) := by omega
      have hq3 : (i : Int) < 60 := by omega
      obtain ⟨b, o, rfl, c0, c1, c2⟩ := HL.out.at_ i hlt
      obtain ⟨_, hu, hv⟩ := HL.out.wf l[i] (List.getElem_mem hlt)
      obtain ⟨e, he⟩ : ∃ e, l[i] = e := ⟨_, rfl⟩
      rw [he] at c0 c1 c2 hu hv
      obtain ⟨kd, u, v⟩ := e
      have hu : (Lit.int .i64 u).wf = true := hu
      have hv : (Lit.int .i64 v).wf = true := hv
      have d0 : wr.cell? ⟨b, o + i * 3, none⟩ = some (.int .i64 kd) := cell_low c0 (cell_lt c0) HP.out.low
      have d1 : wr.cell? ⟨b, o + i * 3 + 1, none⟩ = some (.int .i64 u) := cell_low c1 (cell_lt c1) HP.out.low
      have d2 : wr.cell? ⟨b, o + i * 3 + 2, none⟩ = some (.int .i64 v) := cell_low c2 (cell_lt c2) HP.out.low
      have hku := keyI hu
      have hkv := keyI hv
      have hbx : Below wr.heap.size wr (wr.alloc (.cells #[.int .i64 kd, .int .i64 u, .int .i64 v] 29)) := (Below.refl _ _).alloc (Nat.le_refl _) _
      have HO := toHid (show Po w p i (m.map leE) S m (.slice va m.length vc) wr.heap.size kd u v (wr.alloc (.cells #[.int .i64 kd, .int .i64 u, .int .i64 v] 29)) from ⟨HP.out.gr.below hbx, below_next HP.out.low HP.out.low.size hbx, HP.out.new, seen_below HP.out.row hbx, (MapKept.heap_alloc _ _).1⟩)
      have HWf := toHid HP.out.wf
      have HND := toHid (map_nodup HP.out.gr.nd)
      have hmap : (m.map leE).length = m.length := by simp
      have HMl := toHid hmap
      clear c0 c1 c2 he hbx HP hmap
      by_cases hk0 : kd = 0
      · subst hk0
        obtain ⟨q, hq⟩ : ∃ q, decide ((u, v) ∉ m) = q := ⟨_, rfl⟩
        have HQ1 := toHid hq
        have HQ2 : Hid ((!outE (m.map leE) (.int .i64 u) (.int .i64 v)) = q) := by show _ = _; rw [out_mem, ← hq]; simp
        have HWQ : Hid (∀ e, e ∈ addL m (u, v) → (Lit.int .i64 e.1).wf = true ∧ (Lit.int .i64 e.2).wf = true) := fun e he => by
          unfold addL at he
          split at he
          · exact HWf.out e he
          · rcases List.mem_append.1 he with h | h
            · exact HWf.out e h
            · obtain rfl : e = (u, v) := by simpa using h
              exact ⟨hu, hv⟩
        have hal : (addL m (u, v)).length ≤ m.length + 1 := by unfold addL; split <;> simp
        have HMQ : Hid (((addL m (u, v)).map leE).length = (addL m (u, v)).length) := by show _ = _; simp
        have hme : (m.map leE).length ≤ 60 := by rw [HMl.out]; omega
        clear hq
        go_wp2_with (first
          | (go_at_call 10; refine (refAdd HO.out.row HWf.out HO.out.low.size (by omega) u v).mono ?_; rintro e w2 ⟨va2, c2, rfl, hr2, hb2⟩; rw [HQ1.out]; have HO2 := toHid (HO.out.list hb2 hr2); obtain ⟨f0, f1, f2⟩ := HO2.out.cells; clear hr2 hb2)
          | (go_at_call 11; refine (addI HO2.out.gr hku hkv (by unfold maxLen; omega) (by omega)).mono ?_; rintro e w3 ⟨S3, rfl, hg3, ht3, hs3⟩; rw [HQ2.out]; rw [show (Lit.int .i64 u, Lit.int .i64 v) = leE (u, v) from rfl, ← addL_map] at hg3; have HQ := toHid (HO2.out.graph hg3 ht3 hs3); obtain ⟨h0, h1, h2⟩ := HQ.out.cells; clear hg3 ht3 hs3)
          | (go_at_call 16; refine (lenI HQ.out.gr).mono ?_; rintro e wx ⟨rfl, hw⟩; subst wx; rw [HMQ.out])
          | (go_at_call 17; refine (asked17 (c := c2) HQ.out.gr (sle_row HQ.out.row HWQ.out) (by omega) hu hv).mono ?_; rintro e wy ⟨rfl, hby⟩; have HZ := toHid (HQ.out.below hby); clear hby)
          | fail)
        have HPn := toHid (show Pl w p (i + 1) S3 (addL m (u, v)) (.slice va2 (addL m (u, v)).length c2) wy from ⟨HZ.out.gr, HZ.out.low, HZ.out.new, HZ.out.row, HWQ.out⟩)
        go_roundw
        case rel => exact ⟨i + 1, (addL m (u, v)), va2, c2, S3, by omega, by omega, by simp, rfl, by omega, HPn⟩
        case measure => first | omega | (simp only [intOf]; omega)
      · by_cases hk1 : kd = 1
        · subst hk1
          obtain ⟨q, hq⟩ : ∃ q, decide ((u, v) ∈ m) = q := ⟨_, rfl⟩
          have HQ1 := toHid hq
          have HQ2 : Hid (outE (m.map leE) (.int .i64 u) (.int .i64 v) = q) := by show _ = _; rw [out_mem, ← hq]
          have hme : (m.map leE).length ≤ 60 := by rw [HMl.out]; omega
          clear hq
          go_wp2_with (first
            | (go_at_call 12; refine (refDrop HO.out.row HWf.out HO.out.low.size (by omega) HND.out u v).mono ?_; rintro e w2 ⟨va2, c2, m2, rfl, hr2, hm2, hsub2, hl2, hb2⟩; rw [HQ1.out]; have HM2 := toHid hm2; have HO2 := toHid (HO.out.list hb2 hr2); have HWQ : Hid (∀ e, e ∈ m2 → (Lit.int .i64 e.1).wf = true ∧ (Lit.int .i64 e.2).wf = true) := (fun e he => HWf.out e (hsub2 e he)); have HMQ : Hid ((m2.map leE).length = m2.length) := (by show _ = _; simp); obtain ⟨f0, f1, f2⟩ := HO2.out.cells; clear hr2 hb2 hm2 hsub2)
            | (go_at_call 13; refine (drop13 HO2.out.gr hku hkv (by omega)).mono ?_; rintro e w3 ⟨S3, rfl, hg3, ht3, hs3⟩; rw [HQ2.out]; rw [show (Lit.int .i64 u, Lit.int .i64 v) = leE (u, v) from rfl, ← HM2.out] at hg3; have HQ := toHid (HO2.out.graph hg3 ht3 (fun i hi => .inl (hs3 i hi))); obtain ⟨h0, h1, h2⟩ := HQ.out.cells; clear hg3 ht3 hs3)
            | (go_at_call 16; refine (lenI HQ.out.gr).mono ?_; rintro e wx ⟨rfl, hw⟩; subst wx; rw [HMQ.out])
            | (go_at_call 17; refine (asked17 (c := c2) HQ.out.gr (sle_row HQ.out.row HWQ.out) (by omega) hu hv).mono ?_; rintro e wy ⟨rfl, hby⟩; have HZ := toHid (HQ.out.below hby); clear hby)
            | fail)
          have HPn := toHid (show Pl w p (i + 1) S3 m2 (.slice va2 m2.length c2) wy from ⟨HZ.out.gr.mono (Nat.le_succ _), HZ.out.low, HZ.out.new, HZ.out.row, HWQ.out⟩)
          go_roundw
          case rel => exact ⟨i + 1, m2, va2, c2, S3, by omega, by omega, by simp, rfl, by omega, HPn⟩
          case measure => first | omega | (simp only [intOf]; omega)
        · by_cases hk2 : kd = 2
          · subst hk2
            have HGm : Hid (goneE (m.map leE) (.int .i64 u) = (goneL m u).map leE) := (goneL_map m u).symm
            have HGl : Hid ((goneE (m.map leE) (.int .i64 u)).length = (goneL m u).length) := by show _ = _; rw [HGm.out]; simp
            have HMQ : Hid (((goneL m u).map leE).length = (goneL m u).length) := by show _ = _; simp
            have HWQ : Hid (∀ e, e ∈ goneL m u → (Lit.int .i64 e.1).wf = true ∧ (Lit.int .i64 e.2).wf = true) := fun e he => HWf.out e (List.mem_filter.1 he).1
            have hgl : (goneL m u).length ≤ m.length := List.length_filter_le _ _
            have hme : (m.map leE).length ≤ 60 := by rw [HMl.out]; omega
            go_wp2_with (first
              | (go_at_call 14; refine (refGone (sle_row HO.out.row HWf.out) (by omega) u).mono ?_; rintro e w2 ⟨va2, c2, rfl, hx2⟩; have HO2 := toHid (HO.out.list hx2.low (own_weak HO.out.low.size hx2.row)); obtain ⟨f0, f1, f2⟩ := HO2.out.cells; clear hx2)
              | (go_at_call 15; refine (gone15 HO2.out.gr hku (by omega)).mono ?_; rintro e w3 ⟨S3, rfl, hg3, ht3, hs3⟩; rw [HMl.out, HGl.out]; rw [HGm.out] at hg3; have HQ := toHid (HO2.out.graph hg3 ht3 (fun i hi => .inl (hs3 i hi))); obtain ⟨h0, h1, h2⟩ := HQ.out.cells; clear hg3 ht3 hs3)
              | (go_at_call 16; refine (lenI HQ.out.gr).mono ?_; rintro e wx ⟨rfl, hw⟩; subst wx; rw [HMQ.out])
              | (go_at_call 17; refine (asked17 (c := c2) HQ.out.gr (sle_row HQ.out.row HWQ.out) (by omega) hu hv).mono ?_; rintro e wy ⟨rfl, hby⟩; have HZ := toHid (HQ.out.below hby); clear hby)
              | fail)
            have HPn := toHid (show Pl w p (i + 1) S3 (goneL m u) (.slice va2 (goneL m u).length c2) wy from ⟨HZ.out.gr.mono (Nat.le_succ _), HZ.out.low, HZ.out.new, HZ.out.row, HWQ.out⟩)
            go_roundw
            case rel => exact ⟨i + 1, (goneL m u), va2, c2, S3, by omega, by omega, by simp, rfl, by omega, HPn⟩
            case measure => first | omega | (simp only [intOf]; omega)
          · have g0 : (kd == 0) = false := by simpa using hk0
            have g1 : (kd == 1) = false := by simpa using hk1
            have g2 : (kd == 2) = false := by simpa using hk2
            have HWQ := HWf
            have HMQ := HMl
            have HQ := HO
            obtain ⟨f0, f1, f2⟩ := HO.out.cells
            go_wp2_with (first
              | (go_at_call 16; refine (lenI HQ.out.gr).mono ?_; rintro e wx ⟨rfl, hw⟩; subst wx; rw [HMQ.out])
              | (go_at_call 17; refine (asked17 (c := vc) HQ.out.gr (sle_row HQ.out.row HWQ.out) (by omega) hu hv).mono ?_; rintro e wy ⟨rfl, hby⟩; have HZ := toHid (HQ.out.below hby); clear hby)
              | fail)
            have HPn := toHid (show Pl w p (i + 1) S m (.slice va m.length vc) wy from ⟨HZ.out.gr.mono (Nat.le_succ _), HZ.out.low, HZ.out.new, HZ.out.row, HWQ.out⟩)
            go_roundw
            case rel => exact ⟨i + 1, m, va, vc, S, by omega, by omega, by simp, rfl, by omega, HPn⟩
            case measure => first | omega | (simp only [intOf]; omega)
    · by_cases hlt : i < l.length
      · obtain rfl : i = 60 := by omega
        have hq1 : ((60 : Nat) : Int) < (l.length : Int) := by omega
        clear hend
        go_wp2_with (first
          | (go_at_call 18; refine (lives18 _).mono ?_; rintro e w9 ⟨rfl, hb9⟩; have HB9 := toHid (below_next HP.out.low HP.out.low.size hb9); clear hb9)
          | fail)
        go_ret
        exact ⟨rfl, HB9.out⟩
      · obtain rfl : i = l.length := by omega
        clear hend hlt
        go_wp2_with (first
          | (go_at_call 18; refine (lives18 _).mono ?_; rintro e w9 ⟨rfl, hb9⟩; have HB9 := toHid (below_next HP.out.low HP.out.low.size hb9); clear hb9)
          | fail)
        go_ret
        exact ⟨rfl, HB9.out⟩

end Go.Proofs.Ytoihjkpjijncdaa
