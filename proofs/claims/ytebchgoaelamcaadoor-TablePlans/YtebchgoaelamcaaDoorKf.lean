/-
  The document's Plan.
-/
import Derived.Test.YtebchgoaelamcaaDoorKc
import Derived.Test.YtebchgoaelamcaaDoorRu
import Derived.Test.YtebchgoaelamcaaDoorHc
namespace Go.Proofs.YtebchgoaelamcaaDoor
open Go.RowKit
set_option maxRecDepth 100000

theorem may_act (key val : List UInt8) : actB 1 key [] val = mayK key val := by
  simp [actB, mayK, Bool.and_assoc]
theorem do_ins {l : List Cl} {key val : List UInt8} (h : mayK key val = true) : doL l ⟨1, key, [], val⟩ = insL l key val := by
  have : mayA ⟨1, key, [], val⟩ = true := by rw [← h, ← may_act]
  unfold doL
  rw [if_neg (by rw [this]; simp), if_pos rfl]
theorem do_upd {l : List Cl} (hg : GoodL l) {key val x : List UInt8} (h : mayK key val = true) (hx : getL l key = some x) : doL l ⟨2, key, x, val⟩ = updL l key val := by
  obtain ⟨j, hj, _, hu, _, hv⟩ := get_some' hx
  have hxl : x.length ≤ 32 := by
    have := hg.cells l[j] (List.getElem_mem hj)
    unfold goodC at this
    rw [if_pos hu, hv] at this
    exact this.2.2
  have hm : mayA ⟨2, key, x, val⟩ = true := by
    simp [mayK] at h
    simp [mayA, actB]
    omega
  unfold doL
  rw [if_neg (by rw [hm]; simp), if_neg (by simp), if_neg (by simp [why_zero.2 hx]), if_pos rfl]
theorem find_get {l : List Cl} {key : List UInt8} : (l.findIdx? (isKey key) = none ∧ getL l key = none) ∨ ∃ i, ∃ hi : i < l.length, l.findIdx? (isKey key) = some i ∧ getL l key = some l[i].val := by
  cases h : l.findIdx? (isKey key) with
  | none => exact .inl ⟨rfl, by simp [getL, h]⟩
  | some i =>
    obtain ⟨hi, _⟩ := find_some h
    exact .inr ⟨i, hi, rfl, by simp [getL, h, hi]⟩

set_option maxHeartbeats 8000000 in
theorem refplan_any (a : Option Addr) (c : Nat) (l : List Cl) (k : Int) (key val : List UInt8) (w : World) (h : SlC w a l) (hg : GoodL l) :
    Calls Tryd.prog 21 #[.agg (refP 0 0 a l.length c), .int .i64 k, .string (txt key), .string (txt val)] w fun e w' => e = .returned (.tuple #[actV (planL l k key val).1, .int .i64 (planL l k key val).2]) ∧ Below w.heap.size w w' := by
  have hB := ((Below.refl w.heap.size w).alloc (Nat.le_refl _) (.cells #[.int .i64 0, .int .u64 0, .slice a l.length c] 39)).alloc (by have := size_alloc w (.cells #[.int .i64 0, .int .u64 0, .slice a l.length c] 39); omega) (.cells #[.int .i64 0, .string ⟨#[]⟩, .string ⟨#[]⟩, .string ⟨#[]⟩] 46)
  have hz : (w.alloc (.cells #[.int .i64 0, .int .u64 0, .slice a l.length c] 39)).heap.size = w.heap.size + 1 := by rw [World.alloc, Array.size_push]
  have hn := heap_alloc_new (w.alloc (.cells #[.int .i64 0, .int .u64 0, .slice a l.length c] 39)) (.cells #[.int .i64 0, .string ⟨#[]⟩, .string ⟨#[]⟩, .string ⟨#[]⟩] 46)
  rw [hz] at hn
  have hm : ((w.alloc (.cells #[.int .i64 0, .int .u64 0, .slice a l.length c] 39)).alloc (.cells #[.int .i64 0, .string ⟨#[]⟩, .string ⟨#[]⟩, .string ⟨#[]⟩] 46)).heap[w.heap.size]? = some (.cells #[.int .i64 0, .int .u64 0, .slice a l.length c] 39) := by rw [Below.heap_alloc _ _ _ (by omega)]; exact heap_alloc_new _ _
  have HS : Hid (∀ W, Below (w.heap.size + 2) ((w.alloc (.cells #[.int .i64 0, .int .u64 0, .slice a l.length c] 39)).alloc (.cells #[.int .i64 0, .string ⟨#[]⟩, .string ⟨#[]⟩, .string ⟨#[]⟩] 46)) W → W.heap[w.heap.size]? = some (.cells #[.int .i64 0, .int .u64 0, .slice a l.length c] 39) ∧ W.heap[w.heap.size + 1]? = some (.cells #[.int .i64 0, .string ⟨#[]⟩, .string ⟨#[]⟩, .string ⟨#[]⟩] 46) ∧ SlC W a l ∧ Below w.heap.size w W ∧ w.heap.size + 2 ≤ W.heap.size) := fun W hW => by
    have b := hB.trans (hW.mono (by omega))
    exact ⟨(hW.block _ (by omega)).trans hm, (hW.block _ (by omega)).trans hn, h.below b, b, by have := hW.size; rw [World.alloc, Array.size_push, hz] at this; omega⟩
  have B0 := toHid (Below.refl (w.heap.size + 2) ((w.alloc (.cells #[.int .i64 0, .int .u64 0, .slice a l.length c] 39)).alloc (.cells #[.int .i64 0, .string ⟨#[]⟩, .string ⟨#[]⟩, .string ⟨#[]⟩] 46)))
  have HG := toHid hg
  clear hB hn hm h hg hz
  generalize hw0 : (w.alloc (.cells #[.int .i64 0, .int .u64 0, .slice a l.length c] 39)).alloc (.cells #[.int .i64 0, .string ⟨#[]⟩, .string ⟨#[]⟩, .string ⟨#[]⟩] 46) = w0 at HS B0
  have hz : (w.alloc (.cells #[.int .i64 0, .int .u64 0, .slice a l.length c] 39)).heap.size = w.heap.size + 1 := by rw [World.alloc, Array.size_push]
  have HF : Hid (∀ W, SlC W a l → Calls Tryd.prog 23 #[.agg #[.int .i64 0, .int .u64 0, .slice a l.length c], .string (txt key)] W fun e w' => e = .returned (.int .i64 (ixI (l.findIdx? (isKey key)))) ∧ Below W.heap.size W w') := fun W hW => reffind_any 0 0 a c l key W hW (by have := HG.out.few; omega)
  have HI : Hid (∀ W, SlC W a l → Calls Tryd.prog 37 #[.agg #[.int .i64 0, .int .u64 0, .slice a l.length c], .string (txt key), .string (txt val)] W fun e w' => ∃ a', (∃ c', e = .returned (.tuple #[.agg #[.int .i64 0, .int .u64 0, .slice a' (insL l key val).1.length c'], .int .i64 (insL l key val).2])) ∧ Below W.heap.size W w') := fun W hW => by
    refine Calls.mono (refinsert_any 0 0 a c l key val W hW HG.out) ?_
    rintro e w' ⟨a', ⟨c', rfl⟩, _, _, b⟩
    exact ⟨a', ⟨c', rfl⟩, b⟩
  have HU : Hid (∀ W, SlC W a l → Calls Tryd.prog 48 #[.agg #[.int .i64 0, .int .u64 0, .slice a l.length c], .string (txt key), .string (txt val)] W fun e w' => ∃ a', (∃ c', e = .returned (.tuple #[.agg #[.int .i64 0, .int .u64 0, .slice a' (updL l key val).1.length c'], .int .i64 (updL l key val).2])) ∧ Below W.heap.size W w') := fun W hW => by
    refine Calls.mono (refupdate_any 0 0 a c l key val W hW HG.out) ?_
    rintro e w' ⟨a', ⟨c', rfl⟩, _, _, b⟩
    exact ⟨a', ⟨c', rfl⟩, b⟩
  have HM0 : Hid (∀ W, Calls Tryd.prog 47 #[.string (txt key), .string ⟨#[]⟩] W fun e w' => e = .returned (.bool (mayK key [])) ∧ w' = W) := fun W => refmay_any key [] W
  have HM1 : Hid (∀ W, Calls Tryd.prog 47 #[.string (txt key), .string (txt val)] W fun e w' => e = .returned (.bool (mayK key val)) ∧ w' = W) := fun W => refmay_any key val W
  have HEnd : Hid (∀ W, Below (w.heap.size + 2) w0 W → ∀ u0 u1 u2 u3, ((((((W.setCell ⟨w.heap.size + 1, 0, none⟩ u0).setCell ⟨w.heap.size + 1, 1, none⟩ u1).setCell ⟨w.heap.size + 1, 2, none⟩ u2).setCell ⟨w.heap.size + 1, 3, none⟩ u3).cell? ⟨w.heap.size + 1, 0, none⟩ = some u0 ∧
    ((((W.setCell ⟨w.heap.size + 1, 0, none⟩ u0).setCell ⟨w.heap.size + 1, 1, none⟩ u1).setCell ⟨w.heap.size + 1, 2, none⟩ u2).setCell ⟨w.heap.size + 1, 3, none⟩ u3).cell? ⟨w.heap.size + 1, 1, none⟩ = some u1 ∧
    ((((W.setCell ⟨w.heap.size + 1, 0, none⟩ u0).setCell ⟨w.heap.size + 1, 1, none⟩ u1).setCell ⟨w.heap.size + 1, 2, none⟩ u2).setCell ⟨w.heap.size + 1, 3, none⟩ u3).cell? ⟨w.heap.size + 1, 2, none⟩ = some u2 ∧
    ((((W.setCell ⟨w.heap.size + 1, 0, none⟩ u0).setCell ⟨w.heap.size + 1, 1, none⟩ u1).setCell ⟨w.heap.size + 1, 2, none⟩ u2).setCell ⟨w.heap.size + 1, 3, none⟩ u3).cell? ⟨w.heap.size + 1, 3, none⟩ = some u3) ∧
    Below w.heap.size w ((((W.setCell ⟨w.heap.size + 1, 0, none⟩ u0).setCell ⟨w.heap.size + 1, 1, none⟩ u1).setCell ⟨w.heap.size + 1, 2, none⟩ u2).setCell ⟨w.heap.size + 1, 3, none⟩ u3))) := fun W hW u0 u1 u2 u3 => putA (HS.out _ hW).2.2.2.1 (HS.out _ hW).2.1 (by omega) u0 u1 u2 u3
  simp only [refP, show (((0 : Nat) : Int)) = 0 from rfl]
  go_enter Tryd.func21, Tryd.ntmps21
  go_wp2_with fail
  clear hw0 hz
  refine Calls.mono (writes_any k _) ?_
  rintro e w1 ⟨rfl, rfl⟩
  cases hw : wrt k
  · have hk : k ≠ 3 ∧ k ≠ 4 ∧ k ≠ 5 := by simpa [wrt, and_assoc] using hw
    have HE : Hid (planL l k key val = (⟨0, [], [], []⟩, 11)) := by simp [planL, hk.1, hk.2.1, hk.2.2, Hid]
    obtain ⟨c0, c1, c2, c3, f0, f1, f2, f3, _⟩ := cell4 (HS.out _ B0.out).2.1
    obtain ⟨p0, p1, p2, q0, q1, q2, _⟩ := cell3 (HS.out _ B0.out).1
    have HP := toHid (HEnd.out _ B0.out (.int .i64 0) (.string ⟨#[]⟩) (.string ⟨#[]⟩) (.string ⟨#[]⟩))
    go_wp2_with fail
    obtain ⟨⟨r0, r1, r2, r3⟩, _⟩ := HP.out
    refine bodyPost_ret (v := .tuple #[.agg #[.int .i64 0, .string ⟨#[]⟩, .string ⟨#[]⟩, .string ⟨#[]⟩], .int .i64 11]) ?_ rfl ⟨?_, HP.out.2⟩
    · rw [results_cell_tmp rfl]
      go_simp
    · rw [HE.out]; try rfl
  · go_wp2_with fail
    refine Calls.mono (HM0.out _) ?_
    rintro e w1 ⟨rfl, rfl⟩
    cases h0 : mayK key []
    · have hv : mayK key val = false := by
        simp [mayK] at h0 ⊢
        omega
      have HE : Hid (planL l k key val = (⟨0, [], [], []⟩, 11)) := by
        unfold planL Hid
        rw [if_pos (by rw [may_act]; split <;> assumption)]
      obtain ⟨c0, c1, c2, c3, f0, f1, f2, f3, _⟩ := cell4 (HS.out _ B0.out).2.1
      obtain ⟨p0, p1, p2, q0, q1, q2, _⟩ := cell3 (HS.out _ B0.out).1
      have HP := toHid (HEnd.out _ B0.out (.int .i64 0) (.string ⟨#[]⟩) (.string ⟨#[]⟩) (.string ⟨#[]⟩))
      go_wp2_with fail
      obtain ⟨⟨r0, r1, r2, r3⟩, _⟩ := HP.out
      refine bodyPost_ret (v := .tuple #[.agg #[.int .i64 0, .string ⟨#[]⟩, .string ⟨#[]⟩, .string ⟨#[]⟩], .int .i64 11]) ?_ rfl ⟨?_, HP.out.2⟩
      · rw [results_cell_tmp rfl]
        go_simp
      · rw [HE.out]; try rfl
    · by_cases h5 : k = 5
      · subst h5
        obtain ⟨c0, c1, c2, c3, f0, f1, f2, f3, _⟩ := cell4 (HS.out _ B0.out).2.1
        obtain ⟨p0, p1, p2, q0, q1, q2, _⟩ := cell3 (HS.out _ B0.out).1
        go_wp2_with fail
        refine Calls.mono (HF.out _ (HS.out _ B0.out).2.2.1) ?_
        rintro e w2 ⟨rfl, b2⟩
        have B2 := toHid (B0.out.trans (b2.mono (HS.out _ B0.out).2.2.2.2))
        clear b2 c0 c1 c2 c3 f0 f1 f2 f3 p0 p1 p2 q0 q1 q2
        rcases find_get (l := l) (key := key) with ⟨ef, eg⟩ | ⟨i, hi, ef, eg⟩
        · rw [ef]
          simp only [ixI]
          have HE : Hid (planL l 5 key val = (⟨0, [], [], []⟩, 4)) := by simp [planL, may_act, h0, eg, Hid]
          obtain ⟨c0, c1, c2, c3, f0, f1, f2, f3, _⟩ := cell4 (HS.out _ B2.out).2.1
          obtain ⟨p0, p1, p2, q0, q1, q2, _⟩ := cell3 (HS.out _ B2.out).1
          have HP := toHid (HEnd.out _ B2.out (.int .i64 0) (.string ⟨#[]⟩) (.string ⟨#[]⟩) (.string ⟨#[]⟩))
          go_wp2_with fail
          obtain ⟨⟨r0, r1, r2, r3⟩, _⟩ := HP.out
          refine bodyPost_ret (v := .tuple #[.agg #[.int .i64 0, .string ⟨#[]⟩, .string ⟨#[]⟩, .string ⟨#[]⟩], .int .i64 4]) ?_ rfl ⟨?_, HP.out.2⟩
          · rw [results_cell_tmp rfl]
            go_simp
          · rw [HE.out]; try rfl
        · rw [ef]
          simp only [ixI]
          have HE : Hid (planL l 5 key val = (⟨3, key, l[i].val, []⟩, 1)) := by simp [planL, may_act, h0, eg, Hid]
          have hl64 := HG.out.few
          obtain ⟨b, o, rfl, hbl, s0, s1, s2⟩ := (HS.out _ B2.out).2.2.1.at i hi
          obtain ⟨c0, c1, c2, c3, f0, f1, f2, f3, _⟩ := cell4 (HS.out _ B2.out).2.1
          obtain ⟨p0, p1, p2, q0, q1, q2, _⟩ := cell3 (HS.out _ B2.out).1
          have HP := toHid (HEnd.out _ B2.out (.int .i64 3) (.string (txt key)) (.string (txt l[i].val)) (.string ⟨#[]⟩))
          go_wp2_with fail
          obtain ⟨⟨r0, r1, r2, r3⟩, _⟩ := HP.out
          refine bodyPost_ret (v := .tuple #[.agg #[.int .i64 3, .string (txt key), .string (txt l[i].val), .string ⟨#[]⟩], .int .i64 1]) ?_ rfl ⟨?_, HP.out.2⟩
          · rw [results_cell_tmp rfl]
            go_simp
          · rw [HE.out]; try rfl
      · go_wp2_with fail
        refine Calls.mono (HM1.out _) ?_
        rintro e w1 ⟨rfl, rfl⟩
        cases h1 : mayK key val
        · have HE : Hid (planL l k key val = (⟨0, [], [], []⟩, 11)) := by simp [planL, h5, may_act, h1, Hid]
          obtain ⟨c0, c1, c2, c3, f0, f1, f2, f3, _⟩ := cell4 (HS.out _ B0.out).2.1
          obtain ⟨p0, p1, p2, q0, q1, q2, _⟩ := cell3 (HS.out _ B0.out).1
          have HP := toHid (HEnd.out _ B0.out (.int .i64 0) (.string ⟨#[]⟩) (.string ⟨#[]⟩) (.string ⟨#[]⟩))
          go_wp2_with fail
          obtain ⟨⟨r0, r1, r2, r3⟩, _⟩ := HP.out
          refine bodyPost_ret (v := .tuple #[.agg #[.int .i64 0, .string ⟨#[]⟩, .string ⟨#[]⟩, .string ⟨#[]⟩], .int .i64 11]) ?_ rfl ⟨?_, HP.out.2⟩
          · rw [results_cell_tmp rfl]
            go_simp
          · rw [HE.out]; try rfl
        · have hk34 : k = 4 ∨ k = 3 := by
            simp [wrt] at hw
            omega
          obtain ⟨c0, c1, c2, c3, f0, f1, f2, f3, _⟩ := cell4 (HS.out _ B0.out).2.1
          obtain ⟨p0, p1, p2, q0, q1, q2, _⟩ := cell3 (HS.out _ B0.out).1
          go_wp2_with fail
          refine Calls.mono (HF.out _ (HS.out _ B0.out).2.2.1) ?_
          rintro e w2 ⟨rfl, b2⟩
          have B2 := toHid (B0.out.trans (b2.mono (HS.out _ B0.out).2.2.2.2))
          clear b2 c0 c1 c2 c3 f0 f1 f2 f3 p0 p1 p2 q0 q1 q2
          rcases find_get (l := l) (key := key) with ⟨ef, eg⟩ | ⟨i, hi, ef, eg⟩
          · rw [ef]
            simp only [ixI]
            have hfit : planL l k key val = fitL l ⟨1, key, [], val⟩ := by rcases hk34 with rfl | rfl <;> simp [planL, may_act, h1, eg]
            rw [fitL, do_ins h1] at hfit
            have HFi := toHid hfit
            clear hfit
            have hk5 := h5
            obtain ⟨c0, c1, c2, c3, f0, f1, f2, f3, _⟩ := cell4 (HS.out _ B2.out).2.1
            obtain ⟨p0, p1, p2, q0, q1, q2, _⟩ := cell3 (HS.out _ B2.out).1
            go_wp2_with fail
            refine Calls.mono (HI.out _ (HS.out _ B2.out).2.2.1) ?_
            rintro e w3 ⟨a3, ⟨cc, rfl⟩, b3⟩
            have B40 := B2.out.trans (b3.mono (HS.out _ B2.out).2.2.2.2)
            generalize (insL l key val).1.length = n3
            have hB4 := (Below.refl w3.heap.size w3).alloc (Nat.le_refl _) (.cells #[.int .i64 0, .int .u64 0, .slice a3 n3 cc] 39)
            have B4 := toHid (B40.trans (hB4.mono (HS.out _ B40).2.2.2.2))
            clear b3 c0 c1 c2 c3 f0 f1 f2 f3 p0 p1 p2 q0 q1 q2 B40 hB4
            by_cases hz : (insL l key val).2 = 0
            · have HE : Hid (planL l k key val = (⟨1, key, [], val⟩, 1)) := by rw [HFi.out, if_pos hz]; rfl
              rw [hz]
              obtain ⟨c0, c1, c2, c3, f0, f1, f2, f3, _⟩ := cell4 (HS.out _ B4.out).2.1
              obtain ⟨p0, p1, p2, q0, q1, q2, _⟩ := cell3 (HS.out _ B4.out).1
              have HP := toHid (HEnd.out _ B4.out (.int .i64 1) (.string (txt key)) (.string ⟨#[]⟩) (.string (txt val)))
              go_wp2_with fail
              obtain ⟨⟨r0, r1, r2, r3⟩, _⟩ := HP.out
              refine bodyPost_ret (v := .tuple #[.agg #[.int .i64 1, .string (txt key), .string ⟨#[]⟩, .string (txt val)], .int .i64 1]) ?_ rfl ⟨?_, HP.out.2⟩
              · rw [results_cell_tmp rfl]
                go_simp
              · rw [HE.out]; try rfl
            · have HE : Hid (planL l k key val = (⟨0, [], [], []⟩, 8)) := by rw [HFi.out, if_neg hz]; rfl
              have hz' : ((insL l key val).2 == 0) = false := by simp [hz]
              obtain ⟨c0, c1, c2, c3, f0, f1, f2, f3, _⟩ := cell4 (HS.out _ B4.out).2.1
              obtain ⟨p0, p1, p2, q0, q1, q2, _⟩ := cell3 (HS.out _ B4.out).1
              have HP := toHid (HEnd.out _ B4.out (.int .i64 0) (.string ⟨#[]⟩) (.string ⟨#[]⟩) (.string ⟨#[]⟩))
              go_wp2_with fail
              obtain ⟨⟨r0, r1, r2, r3⟩, _⟩ := HP.out
              refine bodyPost_ret (v := .tuple #[.agg #[.int .i64 0, .string ⟨#[]⟩, .string ⟨#[]⟩, .string ⟨#[]⟩], .int .i64 8]) ?_ rfl ⟨?_, HP.out.2⟩
              · rw [results_cell_tmp rfl]
                go_simp
              · rw [HE.out]; try rfl
          · rw [ef]
            simp only [ixI]
            by_cases h4 : k = 4
            · subst h4
              have HE : Hid (planL l 4 key val = (⟨0, [], [], []⟩, 5)) := by simp [planL, may_act, h1, eg, Hid]
              obtain ⟨c0, c1, c2, c3, f0, f1, f2, f3, _⟩ := cell4 (HS.out _ B2.out).2.1
              obtain ⟨p0, p1, p2, q0, q1, q2, _⟩ := cell3 (HS.out _ B2.out).1
              have HP := toHid (HEnd.out _ B2.out (.int .i64 0) (.string ⟨#[]⟩) (.string ⟨#[]⟩) (.string ⟨#[]⟩))
              go_wp2_with fail
              obtain ⟨⟨r0, r1, r2, r3⟩, _⟩ := HP.out
              refine bodyPost_ret (v := .tuple #[.agg #[.int .i64 0, .string ⟨#[]⟩, .string ⟨#[]⟩, .string ⟨#[]⟩], .int .i64 5]) ?_ rfl ⟨?_, HP.out.2⟩
              · rw [results_cell_tmp rfl]
                go_simp
              · rw [HE.out]; try rfl
            · obtain rfl : k = 3 := by omega
              have hfit : planL l 3 key val = fitL l ⟨2, key, l[i].val, val⟩ := by simp [planL, may_act, h1, eg]
              rw [fitL, do_upd HG.out h1 eg] at hfit
              have HFi := toHid hfit
              clear hfit
              have hl64 := HG.out.few
              obtain ⟨c0, c1, c2, c3, f0, f1, f2, f3, _⟩ := cell4 (HS.out _ B2.out).2.1
              obtain ⟨p0, p1, p2, q0, q1, q2, _⟩ := cell3 (HS.out _ B2.out).1
              go_wp2_with fail
              refine Calls.mono (HU.out _ (HS.out _ B2.out).2.2.1) ?_
              rintro e w3 ⟨a3, ⟨cc, rfl⟩, b3⟩
              have B40 := B2.out.trans (b3.mono (HS.out _ B2.out).2.2.2.2)
              generalize (updL l key val).1.length = n3
              have hB4 := (Below.refl w3.heap.size w3).alloc (Nat.le_refl _) (.cells #[.int .i64 0, .int .u64 0, .slice a3 n3 cc] 39)
              have B4 := toHid (B40.trans (hB4.mono (HS.out _ B40).2.2.2.2))
              clear b3 c0 c1 c2 c3 f0 f1 f2 f3 p0 p1 p2 q0 q1 q2 B40 hB4
              obtain ⟨b, o, rfl, hbl, s0, s1, s2⟩ := (HS.out _ B4.out).2.2.1.at i hi
              by_cases hz : (updL l key val).2 = 0
              · have HE : Hid (planL l 3 key val = (⟨2, key, l[i].val, val⟩, 1)) := by rw [HFi.out, if_pos hz]; rfl
                rw [hz]
                obtain ⟨c0, c1, c2, c3, f0, f1, f2, f3, _⟩ := cell4 (HS.out _ B4.out).2.1
                obtain ⟨p0, p1, p2, q0, q1, q2, _⟩ := cell3 (HS.out _ B4.out).1
                have HP := toHid (HEnd.out _ B4.out (.int .i64 2) (.string (txt key)) (.string (txt l[i].val)) (.string (txt val)))
                go_wp2_with fail
                obtain ⟨⟨r0, r1, r2, r3⟩, _⟩ := HP.out
                refine bodyPost_ret (v := .tuple #[.agg #[.int .i64 2, .string (txt key), .string (txt l[i].val), .string (txt val)], .int .i64 1]) ?_ rfl ⟨?_, HP.out.2⟩
                · rw [results_cell_tmp rfl]
                  go_simp
                · rw [HE.out]; try rfl
              · have HE : Hid (planL l 3 key val = (⟨0, [], [], []⟩, 8)) := by rw [HFi.out, if_neg hz]; rfl
                have hz' : ((updL l key val).2 == 0) = false := by simp [hz]
                obtain ⟨c0, c1, c2, c3, f0, f1, f2, f3, _⟩ := cell4 (HS.out _ B4.out).2.1
                obtain ⟨p0, p1, p2, q0, q1, q2, _⟩ := cell3 (HS.out _ B4.out).1
                have HP := toHid (HEnd.out _ B4.out (.int .i64 0) (.string ⟨#[]⟩) (.string ⟨#[]⟩) (.string ⟨#[]⟩))
                go_wp2_with fail
                obtain ⟨⟨r0, r1, r2, r3⟩, _⟩ := HP.out
                refine bodyPost_ret (v := .tuple #[.agg #[.int .i64 0, .string ⟨#[]⟩, .string ⟨#[]⟩, .string ⟨#[]⟩], .int .i64 8]) ?_ rfl ⟨?_, HP.out.2⟩
                · rw [results_cell_tmp rfl]
                  go_simp
                · rw [HE.out]; try rfl
end Go.Proofs.YtebchgoaelamcaaDoor
