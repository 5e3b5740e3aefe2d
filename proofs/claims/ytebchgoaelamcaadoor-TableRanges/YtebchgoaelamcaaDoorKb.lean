/-
  The table's Plan.
-/
import Derived.Test.YtebchgoaelamcaaDoorKa
namespace Go.Proofs.YtebchgoaelamcaaDoor
open Go.RowKit
set_option maxRecDepth 100000

/-- What a step changes. -/
def planL (l : List Cl) (k : Int) (key val : List UInt8) : Ac × Int :=
  if actB 1 key [] (if k = 5 then [] else val) = false then (⟨0, [], [], []⟩, 11)
  else if k = 5 then (match getL l key with
    | none => (⟨0, [], [], []⟩, 4)
    | some x => (⟨3, key, x, []⟩, 1))
  else if k = 4 then (match getL l key with
    | none => fitL l ⟨1, key, [], val⟩
    | some _ => (⟨0, [], [], []⟩, 5))
  else if k = 3 then (match getL l key with
    | none => fitL l ⟨1, key, [], val⟩
    | some x => fitL l ⟨2, key, x, val⟩)
  else (⟨0, [], [], []⟩, 11)

theorem tplan_nil (k : Int) (key val : List UInt8) (w : World) : Calls Tryd.prog 20 #[.pointer none, .int .i64 k, .string (txt key), .string (txt val)] w fun e w' => e = .returned (.tuple #[actV ⟨0, [], [], []⟩, .int .i64 11]) ∧ Below w.heap.size w w' := by
  by_cases h5 : k = 5
  · subst h5
    go_enter Tryd.func20, Tryd.ntmps20
    go_wp2_with fail
    refine bodyPost_ret (v := .tuple #[.agg #[.int .i64 0, .string ⟨#[]⟩, .string ⟨#[]⟩, .string ⟨#[]⟩], .int .i64 11]) ?_ rfl ⟨rfl, (Below.refl _ _).alloc (Nat.le_refl _) _⟩
    rw [results_cell_tmp rfl]
    go_simp
  · go_enter Tryd.func20, Tryd.ntmps20
    go_wp2_with fail
    refine bodyPost_ret (v := .tuple #[.agg #[.int .i64 0, .string ⟨#[]⟩, .string ⟨#[]⟩, .string ⟨#[]⟩], .int .i64 11]) ?_ rfl ⟨rfl, (Below.refl _ _).alloc (Nat.le_refl _) _⟩
    rw [results_cell_tmp rfl]
    go_simp

set_option maxHeartbeats 4000000 in
theorem tplan_any (B p : Nat) (id : Int) (lsn : Nat) (v : Value) (l : List Cl) (k : Int) (key val : List UInt8) (w : World) (h : PgOk w B p id lsn v l) (hg : GoodL l) :
    Calls Tryd.prog 20 #[.pointer (some ⟨p, 0, none⟩), .int .i64 k, .string (txt key), .string (txt val)] w fun e w' => e = .returned (.tuple #[actV (planL l k key val).1, .int .i64 (planL l k key val).2]) ∧ Below w.heap.size w w' := by
  have hn := heap_alloc_new w (.cells #[.int .i64 0, .string ⟨#[]⟩, .string ⟨#[]⟩, .string ⟨#[]⟩] 46)
  have hB := (Below.refl w.heap.size w).alloc (Nat.le_refl _) (.cells #[.int .i64 0, .string ⟨#[]⟩, .string ⟨#[]⟩, .string ⟨#[]⟩] 46)
  have hz : (w.alloc (.cells #[.int .i64 0, .string ⟨#[]⟩, .string ⟨#[]⟩, .string ⟨#[]⟩] 46)).heap.size = w.heap.size + 1 := by rw [World.alloc, Array.size_push]
  have HS : Hid (∀ W, Below (w.heap.size + 1) (w.alloc (.cells #[.int .i64 0, .string ⟨#[]⟩, .string ⟨#[]⟩, .string ⟨#[]⟩] 46)) W → W.heap[w.heap.size]? = some (.cells #[.int .i64 0, .string ⟨#[]⟩, .string ⟨#[]⟩, .string ⟨#[]⟩] 46) ∧ PgOk W B p id lsn v l ∧ Below w.heap.size w W ∧ w.heap.size + 1 ≤ W.heap.size) := fun W hW => by
    have b := hB.trans (hW.mono (by omega))
    exact ⟨(hW.block _ (by omega)).trans hn, h.below b (Nat.le_refl _), b, by have := hW.size; omega⟩
  have B0 := toHid (Below.refl (w.heap.size + 1) (w.alloc (.cells #[.int .i64 0, .string ⟨#[]⟩, .string ⟨#[]⟩, .string ⟨#[]⟩] 46)))
  have HG := toHid hg
  clear hn hB hz h hg
  generalize hw0 : w.alloc (.cells #[.int .i64 0, .string ⟨#[]⟩, .string ⟨#[]⟩, .string ⟨#[]⟩] 46) = w0 at HS B0
  have HM : Hid (∀ (x : List UInt8) W, Calls Tryd.prog 43 #[.agg #[.int .i64 1, .string (txt key), .string ⟨#[]⟩, .string (txt x)]] W fun e w' => e = .returned (.bool (actB 1 key [] x)) ∧ Below W.heap.size W w') := fun x W => amay_any 1 key [] x W
  have HGt : Hid (∀ W, PgOk W B p id lsn v l → Calls Tryd.prog 44 #[.pointer (some ⟨p, 0, none⟩), .string (txt key)] W fun e w' => e = .returned (.tuple #[.string (txt ((getL l key).getD [])), .bool (getL l key).isSome]) ∧ Below W.heap.size W w') := fun W hW => get_any B p id lsn v l key W hW (by have := HG.out.few; omega)
  have HF : Hid (∀ W a, PgOk W B p id lsn v l → Calls Tryd.prog 45 #[.pointer (some ⟨p, 0, none⟩), actV a] W fun e w' => e = .returned (.tuple #[actV (fitL l a).1, .int .i64 (fitL l a).2]) ∧ Below W.heap.size W w') := fun W a hW => fitting_any B p id lsn v l a W hW HG.out
  have HW : Hid (∀ (b : Bool) old W, Calls Tryd.prog 46 #[.bool b, .string (txt key), .string (txt old), .string (txt val)] W fun e w' => e = .returned (actV (if b then ⟨2, key, old, val⟩ else ⟨1, key, [], val⟩)) ∧ Below W.heap.size W w') := fun b old W => written_any b key old val W
  by_cases h5 : k = 5
  · subst h5
    go_enter Tryd.func20, Tryd.ntmps20
    go_wp2_with fail
    clear hw0
    refine Calls.mono (HM.out [] _) ?_
    rintro e w1 ⟨rfl, b1⟩
    have B1 := toHid (B0.out.trans (b1.mono (HS.out _ B0.out).2.2.2))
    clear b1 B0
    cases hm : actB 1 key [] []
    · have HE : Hid (planL l 5 key val = (⟨0, [], [], []⟩, 11)) := by simp [planL, hm, Hid]
      obtain ⟨n1, _, bb, _⟩ := HS.out _ B1.out
      obtain ⟨c0, c1, c2, c3, f0, f1, f2, f3, _⟩ := cell4 n1
      have HP := toHid (putA bb n1 (Nat.le_refl _) (.int .i64 0) (.string ⟨#[]⟩) (.string ⟨#[]⟩) (.string ⟨#[]⟩))
      clear n1 bb
      go_wp2_with fail
      obtain ⟨⟨r0, r1, r2, r3⟩, _⟩ := HP.out
      refine bodyPost_ret (v := .tuple #[.agg #[.int .i64 0, .string ⟨#[]⟩, .string ⟨#[]⟩, .string ⟨#[]⟩], .int .i64 11]) ?_ rfl ⟨?_, HP.out.2⟩
      · rw [results_cell_tmp rfl]
        go_simp
      · rw [HE.out]; rfl
    · go_wp2_with fail
      refine Calls.mono (HGt.out _ (HS.out _ B1.out).2.1) ?_
      rintro e w2 ⟨rfl, b2⟩
      have B2 := toHid (B1.out.trans (b2.mono (HS.out _ B1.out).2.2.2))
      clear b2 B1
      obtain ⟨n1, _, bb, _⟩ := HS.out _ B2.out
      obtain ⟨c0, c1, c2, c3, f0, f1, f2, f3, _⟩ := cell4 n1
      cases hq : getL l key with
      | none =>
        have HE : Hid (planL l 5 key val = (⟨0, [], [], []⟩, 4)) := by simp [planL, hm, hq, Hid]
        have HP := toHid (putA bb n1 (Nat.le_refl _) (.int .i64 0) (.string ⟨#[]⟩) (.string ⟨#[]⟩) (.string ⟨#[]⟩))
        clear n1 bb
        simp only [Option.isSome_none]
        go_wp2_with fail
        obtain ⟨⟨r0, r1, r2, r3⟩, _⟩ := HP.out
        refine bodyPost_ret (v := .tuple #[.agg #[.int .i64 0, .string ⟨#[]⟩, .string ⟨#[]⟩, .string ⟨#[]⟩], .int .i64 4]) ?_ rfl ⟨?_, HP.out.2⟩
        · rw [results_cell_tmp rfl]
          go_simp
        · rw [HE.out]; rfl
      | some x =>
        have HE : Hid (planL l 5 key val = (⟨3, key, x, []⟩, 1)) := by simp [planL, hm, hq, Hid]
        have HP := toHid (putA bb n1 (Nat.le_refl _) (.int .i64 3) (.string (txt key)) (.string (txt x)) (.string ⟨#[]⟩))
        clear n1 bb
        simp only [Option.isSome_some, Option.getD_some]
        go_wp2_with fail
        obtain ⟨⟨r0, r1, r2, r3⟩, _⟩ := HP.out
        refine bodyPost_ret (v := .tuple #[.agg #[.int .i64 3, .string (txt key), .string (txt x), .string ⟨#[]⟩], .int .i64 1]) ?_ rfl ⟨?_, HP.out.2⟩
        · rw [results_cell_tmp rfl]
          go_simp
        · rw [HE.out]; rfl
  · go_enter Tryd.func20, Tryd.ntmps20
    go_wp2_with fail
    clear hw0
    refine Calls.mono (HM.out val _) ?_
    rintro e w1 ⟨rfl, b1⟩
    have B1 := toHid (B0.out.trans (b1.mono (HS.out _ B0.out).2.2.2))
    clear b1 B0
    cases hm : actB 1 key [] val
    · have HE : Hid (planL l k key val = (⟨0, [], [], []⟩, 11)) := by simp [planL, hm, h5, Hid]
      obtain ⟨n1, _, bb, _⟩ := HS.out _ B1.out
      obtain ⟨c0, c1, c2, c3, f0, f1, f2, f3, _⟩ := cell4 n1
      have HP := toHid (putA bb n1 (Nat.le_refl _) (.int .i64 0) (.string ⟨#[]⟩) (.string ⟨#[]⟩) (.string ⟨#[]⟩))
      clear n1 bb
      go_wp2_with fail
      obtain ⟨⟨r0, r1, r2, r3⟩, _⟩ := HP.out
      refine bodyPost_ret (v := .tuple #[.agg #[.int .i64 0, .string ⟨#[]⟩, .string ⟨#[]⟩, .string ⟨#[]⟩], .int .i64 11]) ?_ rfl ⟨?_, HP.out.2⟩
      · rw [results_cell_tmp rfl]
        go_simp
      · rw [HE.out]; rfl
    · go_wp2_with fail
      refine Calls.mono (HGt.out _ (HS.out _ B1.out).2.1) ?_
      rintro e w2 ⟨rfl, b2⟩
      have B2 := toHid (B1.out.trans (b2.mono (HS.out _ B1.out).2.2.2))
      clear b2 B1
      have hq0 : ∃ (o : List UInt8) (b : Bool), (getL l key).getD [] = o ∧ (getL l key).isSome = b ∧ (k = 3 ∨ k = 4 ∧ b = false → planL l k key val = fitL l (if b then ⟨2, key, o, val⟩ else ⟨1, key, [], val⟩)) ∧ (k = 4 → b = true → planL l k key val = (⟨0, [], [], []⟩, 5)) := by
        refine ⟨_, _, rfl, rfl, ?_, ?_⟩
        · rintro (rfl | ⟨rfl, e⟩)
          · cases hq : getL l key <;> simp [planL, hm, hq]
          · cases hq : getL l key
            · simp [planL, hm, hq]
            · rw [hq] at e; cases e
        · rintro rfl e
          cases hq : getL l key
          · rw [hq] at e; cases e
          · simp [planL, hm, hq]
      obtain ⟨o, b, eo, eb, hfit, htw⟩ := hq0
      rw [eo, eb]
      have HFi := toHid hfit
      have HTw := toHid htw
      clear hfit htw eo eb
      have hfin : k ≠ 3 → k ≠ 4 → planL l k key val = (⟨0, [], [], []⟩, 11) := fun h3 h4 => by simp [planL, h3, h4, h5]
      have HFn := toHid hfin
      clear hfin
      by_cases h34 : k = 3 ∨ k = 4 ∧ b = false
      · have HE := toHid (HFi.out h34)
        have HWc : Hid (∀ W, Calls Tryd.prog 46 #[.bool b, .string (txt key), .string (txt o), .string (txt val)] W fun e w' => e = .returned (actV (if b then ⟨2, key, o, val⟩ else ⟨1, key, [], val⟩)) ∧ Below W.heap.size W w') := fun W => HW.out b o W
        clear HW HFi HTw HFn
        generalize (if b then (⟨2, key, o, val⟩ : Ac) else ⟨1, key, [], val⟩) = ac at HE HWc
        obtain ⟨a0, a1, a2, a3⟩ := ac
        simp only [actV, actC] at HWc HF
        rcases h34 with rfl | ⟨rfl, rfl⟩
        all_goals
          go_wp2_with fail
          refine Calls.mono (HWc.out _) ?_
          rintro e w3 ⟨rfl, b3⟩
          have B3 := toHid (B2.out.trans (b3.mono (HS.out _ B2.out).2.2.2))
          clear b3 B2
          go_wp2_with fail
          refine Calls.mono (HF.out _ ⟨a0, a1, a2, a3⟩ (HS.out _ B3.out).2.1) ?_
          rw [← HE.out]
          rintro e w4 ⟨rfl, b4⟩
          have B4 := toHid (B3.out.trans (b4.mono (HS.out _ B3.out).2.2.2))
          clear b4 B3
          obtain ⟨n1, _, bb, _⟩ := HS.out _ B4.out
          obtain ⟨c0, c1, c2, c3, f0, f1, f2, f3, _⟩ := cell4 n1
          clear HE
          generalize hr : planL l _ key val = r
          obtain ⟨⟨r0, r1, r2, r3⟩, rr⟩ := r
          have HR := toHid hr
          clear hr
          have HP := toHid (putA bb n1 (Nat.le_refl _) (.int .i64 r0) (.string (txt r1)) (.string (txt r2)) (.string (txt r3)))
          clear n1 bb
          go_wp2_with fail
          obtain ⟨⟨q0, q1, q2, q3⟩, _⟩ := HP.out
          refine bodyPost_ret (v := .tuple #[.agg #[.int .i64 r0, .string (txt r1), .string (txt r2), .string (txt r3)], .int .i64 rr]) ?_ rfl ⟨by rw [HR.out], HP.out.2⟩
          rw [results_cell_tmp rfl]
          go_simp
      · obtain ⟨n1, _, bb, _⟩ := HS.out _ B2.out
        obtain ⟨c0, c1, c2, c3, f0, f1, f2, f3, _⟩ := cell4 n1
        have HP := toHid (putA bb n1 (Nat.le_refl _) (.int .i64 0) (.string ⟨#[]⟩) (.string ⟨#[]⟩) (.string ⟨#[]⟩))
        clear n1 bb
        by_cases h4 : k = 4
        · subst h4
          obtain rfl : b = true := by simpa using h34
          have HE : Hid _ := HTw.out rfl rfl
          go_wp2_with fail
          obtain ⟨⟨r0, r1, r2, r3⟩, _⟩ := HP.out
          refine bodyPost_ret (v := .tuple #[.agg #[.int .i64 0, .string ⟨#[]⟩, .string ⟨#[]⟩, .string ⟨#[]⟩], .int .i64 5]) ?_ rfl ⟨?_, HP.out.2⟩
          · rw [results_cell_tmp rfl]
            go_simp
          · rw [HE.out]; rfl
        · have h3 : k ≠ 3 := fun e => h34 (.inl e)
          have HE : Hid _ := HFn.out h3 h4
          go_wp2_with fail
          obtain ⟨⟨r0, r1, r2, r3⟩, _⟩ := HP.out
          refine bodyPost_ret (v := .tuple #[.agg #[.int .i64 0, .string ⟨#[]⟩, .string ⟨#[]⟩, .string ⟨#[]⟩], .int .i64 11]) ?_ rfl ⟨?_, HP.out.2⟩
          · rw [results_cell_tmp rfl]
            go_simp
          · rw [HE.out]; rfl
end Go.Proofs.YtebchgoaelamcaaDoor
