/-
  part and Drop: an edge is taken away, also amid a range over one of its sets.
-/
import Derived.Test.YtoihjkpjijncdaaGbI
namespace Go.Proofs.Ytoihjkpjijncdaa
open Go.RowKit Go.Maps

/-- What a part leaves. -/
structure Parted (w w' : World) (A N : Nat) (f f' : Lit → Option Nat) (F : Lit → Lit → Bool) (x y : Lit) (b : Nat) : Prop where
  lk : Lk 3 w' A N f' (upF F x y false)
  turn : Turn (FootL A f) w w'
  foot : ∀ i, FootL A f' i → FootL A f i
  keep : ∀ z, z ≠ x → f' z = f z
  at_ : f' x = some b ∨ f' x = none
  rng : ∀ r N' left cnt, RngF Try.prog 3 w b r N' (F x) left cnt → ∃ cnt', cnt' ≤ cnt ∧ RngF Try.prog 3 w' b r N' (upd (F x) y false) (upd left y false) cnt'

set_option maxRecDepth 100000 in
set_option maxHeartbeats 4000000 in
theorem part34 {w : World} {A N b : Nat} {f : Lit → Option Nat} {F : Lit → Lit → Bool} {k1 k2 : Value} {x y : Lit} (h : Lk 3 w A N f F) (hx : keyOf Try.prog 3 k1 = some x) (hy : keyOf Try.prog 3 k2 = some y) (hf : f x = some b) :
    Calls Try.prog 34 #[.map (some A), k1, k2] w fun e w' => ∃ f', e = .returned (.tuple #[]) ∧ Parted w w' A N f f' F x y b := by
  have h1 := h.map.look lawI Try.underlying59 zero64 hx
  rw [hf] at h1
  obtain ⟨hs, hbA⟩ := h.set x b hf
  have HD := toHid (hs.drop lawI Try.underlying64 hy)
  have HL := toHid h
  clear h hs
  have HH : ∀ w1, SetF Try.prog 3 w1 b N (upd (F x) y false) → w.mapTurned w1 b → Lk 3 w1 A N f (upF F x y false) ∧ Turn (FootL A f) w w1 := fun w1 hs1 hm1 => by
    have ht := Turn.of_map hm1
    refine ⟨⟨HL.out.map.at (ht.block A HL.out.map.lt (fun e => hbA e.symm)), fun x' b' hx' => ?_, fun x' hx' y' => ?_, HL.out.inj⟩, ht.mono (S' := FootL A f) fun i hi => .inl (.inr ⟨x, by rw [hf, hi]⟩)⟩
    · by_cases e : x' = x
      · subst e
        rw [hf] at hx'
        cases hx'
        exact ⟨by unfold upF; rw [upd_same]; exact hs1, hbA⟩
      · obtain ⟨q1, q2⟩ := HL.out.set x' b' hx'
        refine ⟨?_, q2⟩
        unfold upF
        rw [upd_other _ _ e]
        exact q1.at (ht.block b' q1.lt (fun e1 => e (HL.out.inj x' x b (by rw [hx', e1]) hf)))
    · have e : x' ≠ x := fun e => by subst e; rw [hf] at hx'; cases hx'
      unfold upF
      rw [upd_other _ _ e]
      exact HL.out.no x' hx' y'
  have HHH := toHid HH
  clear HH
  by_cases hall : ∀ z, upd (F x) y false z = false
  · have HALL := toHid hall
    clear hall
    go_enter Try.func34, Try.ntmps34
    go_wp2_with (first
      | (at_delete; refine wpList_delete_any _ rfl _ _ 64 3 rfl (fun w' => SetF Try.prog 3 w' b N (upd (F x) y false) ∧ w.mapTurned w' b ∧ ∀ r N' left cnt, RngF Try.prog 3 w b r N' (F x) left cnt → ∃ cnt', cnt' ≤ cnt ∧ RngF Try.prog 3 w' b r N' (upd (F x) y false) (upd left y false) cnt') _ _ rfl rfl HD.out ?_; intro w1 HX; have HX1 := toHid HX; clear HX; have HL1 := toHid (HHH.out w1 HX1.out.1 HX1.out.2.1).1; have HT := toHid (HHH.out w1 HX1.out.1 HX1.out.2.1).2; have h2 := HL1.out.map.look lawI Try.underlying59 zero64 hx; rw [hf] at h2; obtain ⟨m, hm, hm0⟩ := HX1.out.1.len lawI Try.underlying64; obtain rfl : m = 0 := hm0.2 HALL.out; have HD2 := toHid (HL1.out.map.drop lawI Try.underlying59 hx); clear hm0)
      | (at_delete; refine wpList_delete_any _ rfl _ _ 59 3 rfl (fun w' => MapF Try.prog 3 w' A N (upd f x none) ∧ w1.mapTurned w' A) _ _ rfl rfl HD2.out ?_; intro w2 HY; have HY1 := toHid HY; clear HY)
      | fail)
    go_end0
    have ht2 := Turn.of_map HY1.out.2
    refine ⟨rfl, upd f x none, ⟨HY1.out.1, fun x' b' hx' => ?_, fun x' hx' y' => ?_, fun x1 x2 b' g1 g2 => ?_⟩, HT.out.trans ht2 (fun i hi => .inl (.inl hi)), fun i hi => ?_, fun z hz => upd_other _ _ hz, .inr (upd_same _ _ _), fun r N' left cnt hr => ?_⟩
    · have e : x' ≠ x := fun e => by subst e; rw [upd_same] at hx'; cases hx'
      rw [upd_other _ _ e] at hx'
      obtain ⟨q1, q2⟩ := HL1.out.set x' b' hx'
      exact ⟨q1.at (ht2.block b' q1.lt q2), q2⟩
    · by_cases e : x' = x
      · subst e
        unfold upF
        rw [upd_same]
        exact HALL.out y'
      · rw [upd_other _ _ e] at hx'
        exact HL1.out.no x' hx' y'
    · have e1 : x1 ≠ x := fun e => by subst e; rw [upd_same] at g1; cases g1
      have e2 : x2 ≠ x := fun e => by subst e; rw [upd_same] at g2; cases g2
      rw [upd_other _ _ e1] at g1
      rw [upd_other _ _ e2] at g2
      exact HL1.out.inj _ _ _ g1 g2
    · rcases hi with rfl | ⟨x', hx'⟩
      · exact .inl rfl
      · have e : x' ≠ x := fun e => by subst e; rw [upd_same] at hx'; cases hx'
        rw [upd_other _ _ e] at hx'
        exact .inr ⟨x', hx'⟩
    · obtain ⟨cnt', q1, q2⟩ := HX1.out.2.2 r N' left cnt hr
      obtain ⟨_, _, _, _, q3⟩ := q2.iter
      obtain ⟨es, c, q4⟩ := HL1.out.map.blk
      exact ⟨cnt', q1, q2.at (ht2.block b q2.set.lt hbA) (ht2.block r q2.lt (fun e => by rw [show r = A from e, q4] at q3; cases q3))⟩
  · have HNA := toHid hall
    clear hall
    go_enter Try.func34, Try.ntmps34
    go_wp2_with (first
      | (at_delete; refine wpList_delete_any _ rfl _ _ 64 3 rfl (fun w' => SetF Try.prog 3 w' b N (upd (F x) y false) ∧ w.mapTurned w' b ∧ ∀ r N' left cnt, RngF Try.prog 3 w b r N' (F x) left cnt → ∃ cnt', cnt' ≤ cnt ∧ RngF Try.prog 3 w' b r N' (upd (F x) y false) (upd left y false) cnt') _ _ rfl rfl HD.out ?_; intro w1 HX; have HX1 := toHid HX; clear HX; have HL1 := toHid (HHH.out w1 HX1.out.1 HX1.out.2.1).1; have HT := toHid (HHH.out w1 HX1.out.1 HX1.out.2.1).2; have h2 := HL1.out.map.look lawI Try.underlying59 zero64 hx; rw [hf] at h2; obtain ⟨m, hm, hm0⟩ := HX1.out.1.len lawI Try.underlying64; have hmz : m ≠ 0 := fun e => HNA.out (hm0.1 e); clear hm0; obtain ⟨m, rfl⟩ : ∃ j, m = j + 1 := ⟨m - 1, by omega⟩)
      | fail)
    go_end0
    exact ⟨f, rfl, HL1.out, HT.out, fun i hi => hi, fun _ _ => rfl, .inl hf, HX1.out.2.2⟩

/-- What Drop leaves. -/
structure Dropped (w w' : World) (p A B N : Nat) (E : List (Lit × Lit)) (f h : Lit → Option Nat) (x y : Lit) (f' h' : Lit → Option Nat) : Prop where
  gr : GrA 3 61 w' p A B N (dropE E (x, y)) f' h'
  turn : Turn (Foot p A B f h) w w'
  foot : ∀ i, Foot p A B f' h' i → Foot p A B f h i
  at1 : ∀ b, f x = some b → f' x = some b ∨ f' x = none
  at2 : ∀ b, h y = some b → h' y = some b ∨ h' y = none
  rng1 : ∀ b r N' left cnt, f x = some b → RngF Try.prog 3 w b r N' (outE E x) left cnt → ∃ cnt', cnt' ≤ cnt ∧ RngF Try.prog 3 w' b r N' (outE (dropE E (x, y)) x) (upd left y false) cnt'
  rng2 : ∀ b r N' left cnt, h y = some b → RngF Try.prog 3 w b r N' (inE E y) left cnt → ∃ cnt', cnt' ≤ cnt ∧ RngF Try.prog 3 w' b r N' (inE (dropE E (x, y)) y) (upd left x false) cnt'

set_option maxRecDepth 100000 in
set_option maxHeartbeats 4000000 in
theorem drop_yes {w : World} {p A B N : Nat} {E : List (Lit × Lit)} {f h : Lit → Option Nat} {k1 k2 : Value} {x y : Lit} (g : GrA 3 61 w p A B N E f h) (hx : keyOf Try.prog 3 k1 = some x) (hy : keyOf Try.prog 3 k2 = some y) (hin : (x, y) ∈ E) (hE : E.length < 1000000) :
    Calls Try.prog 13 #[.pointer (some ⟨p, 0, none⟩), k1, k2] w fun e w' => ∃ f' h', e = .returned (.bool true) ∧ Dropped w w' p A B N E f h x y f' h' := by
  have HG := toHid g
  have ho : outE E x y = true := by simp [outE, hin]
  have hi : inE E y x = true := by simp [inE, hin]
  obtain ⟨b1, hb1⟩ : ∃ b, f x = some b := by
    cases hf : f x with
    | some b => exact ⟨b, rfl⟩
    | none => rw [g.out.no x hf y] at ho; cases ho
  obtain ⟨b2, hb2⟩ : ∃ b, h y = some b := by
    cases hf : h y with
    | some b => exact ⟨b, rfl⟩
    | none => rw [g.inn.no y hf x] at hi; cases hi
  have HOE := toHid ho
  have HIN := toHid hin
  have hlen := length_drop g.nd hin
  clear g hi ho hin
  go_enter Try.func13, Try.ntmps13
  go_wp2_with (first
    | (go_at_call 31; refine (ghasI HG.out hx hy).mono ?_; rintro e w1 ⟨rfl, hbb1⟩; rw [HOE.out]; have HB1 := toHid hbb1; clear hbb1; have HG1 := toHid (HG.out.at fun i hi => HB1.out.block i (HG.out.lt hi)); obtain ⟨c0, c1, _, _⟩ := cells3 HG1.out.blk)
    | fail)
  refine (part34 HG1.out.out hx hy hb1).mono ?_
  rintro e w2 ⟨f', rfl, hP2⟩
  have HP2 := toHid hP2
  have HI2 := toHid ((HG1.out.inn.turn hP2.turn fun i hi hj => HG1.out.apart i hj hi))
  have hpb := (hP2.turn.block p (HG1.out.lt (.inl rfl)) HG1.out.p_out).trans HG1.out.blk
  obtain ⟨_, d1, d2, d3⟩ := cells3 hpb
  have HPB := toHid hpb
  clear hP2 hpb c0 c1
  go_wp2_with fail
  refine (part34 HI2.out hy hx hb2).mono ?_
  rintro e w3 ⟨h', rfl, hP3⟩
  have hpb3 := (hP3.turn.block p (Array.getElem?_eq_some_iff.1 HPB.out).1 HG1.out.p_inn).trans HPB.out
  obtain ⟨_, _, e2, e3⟩ := cells3 hpb3
  have HPB3 := toHid hpb3
  have HP3 := toHid hP3
  clear hP3 hpb3 d1 d2 d3
  have hle : (E.length : Int) ≤ 1000000 := by omega
  have hge : 0 ≤ (E.length : Int) := by omega
  go_wp2_with fail
  go_ret
  have hTs := Turn.setCell w3 ⟨p, 2, none⟩ (.int .i64 ((E.length : Int) - 1))
  have hap : ∀ i, FootL A f' i → ¬ FootL B h i := fun i hi => HG1.out.apart i (HP2.out.foot i hi)
  have hO3 := HP2.out.lk.turn HP3.out.turn hap
  have hpf' : ¬ FootL A f' p := fun hi => HG1.out.p_out (HP2.out.foot p hi)
  have hph' : ¬ FootL B h' p := fun hi => HG1.out.p_inn (HP3.out.foot p hi)
  have hib1 : FootL A f b1 := .inr ⟨x, hb1⟩
  have hib2 : FootL B h b2 := .inr ⟨y, hb2⟩
  have hs1 := HB1.out.size
  have hs2 := HP2.out.turn.size
  refine ⟨f', h', rfl, ⟨?_, ?_, ?_, fun i hi hj => hap i hi (HP3.out.foot i hj), HG1.out.nd.filter _⟩, ?_, ?_, fun b e => ?_, fun b e => ?_, fun b r N' left cnt e hr => ?_, fun b r N' left cnt e hr => ?_⟩
  · have := heap_set2 HPB3.out (.int .i64 ((E.length : Int) - 1))
    rw [this]
    have e1 : ((E.length : Int) - 1) = ((dropE E (x, y)).length : Int) := by omega
    rw [e1]
  · rw [outE_drop]
    exact hO3.turn hTs fun i hi e => hpf' (by rw [← show i = p from e]; exact hi)
  · rw [inE_drop]
    exact HP3.out.lk.turn hTs fun i hi e => hph' (by rw [← show i = p from e]; exact hi)
  · exact (((Turn.of_below HB1.out (Foot p A B f h)).trans HP2.out.turn (fun i hi => .inl (.inr (.inl hi)))).trans HP3.out.turn (fun i hi => .inl (.inr (.inr hi)))).trans hTs (fun i hi => .inl (.inl hi))
  · rintro i (rfl | hi | hi)
    · exact .inl rfl
    · exact .inr (.inl (HP2.out.foot i hi))
    · exact .inr (.inr (HP3.out.foot i hi))
  · rw [hb1] at e; cases e; exact HP2.out.at_
  · rw [hb2] at e; cases e; exact HP3.out.at_
  · rw [hb1] at e
    cases e
    obtain ⟨_, _, _, _, i0⟩ := hr.iter
    have hr1 := hr.at (HB1.out.block _ hr.set.lt) (HB1.out.block _ hr.lt)
    obtain ⟨cnt', q1, q2⟩ := HP2.out.rng r N' left cnt hr1
    have hrB : ¬ FootL B h r := fun hh => by
      obtain ⟨es, c, e⟩ := HI2.out.foot_map hh
      obtain ⟨_, _, _, _, i2⟩ := q2.iter
      rw [i2] at e; cases e
    have hrp : r ≠ p := fun hh => by
      obtain ⟨_, _, _, _, i2⟩ := q2.iter
      rw [hh, HPB.out] at i2; cases i2
    have q3 := q2.at (HP3.out.turn.block _ q2.set.lt (HG1.out.apart _ hib1)) (HP3.out.turn.block _ q2.lt hrB)
    have hb1p : b1 ≠ p := fun hh => HG1.out.p_out (hh ▸ hib1)
    have q4 := q3.at (hTs.block _ q3.set.lt hb1p) (hTs.block _ q3.lt hrp)
    refine ⟨cnt', q1, ?_⟩
    rw [outE_drop]
    unfold upF
    rw [upd_same]
    exact q4
  · rw [hb2] at e
    cases e
    have hr1 := hr.at (HB1.out.block _ hr.set.lt) (HB1.out.block _ hr.lt)
    obtain ⟨_, _, _, _, i1⟩ := hr1.iter
    have hrA : ¬ FootL A f r := fun hh => by
      obtain ⟨es, c, e⟩ := HG1.out.out.foot_map hh
      rw [i1] at e; cases e
    have hrp : r ≠ p := fun hh => by rw [hh, HG1.out.blk] at i1; cases i1
    have q2 := hr1.at (HP2.out.turn.block _ hr1.set.lt (fun hh => HG1.out.apart _ hh hib2)) (HP2.out.turn.block _ hr1.lt hrA)
    obtain ⟨cnt', q1, q3⟩ := HP3.out.rng r N' left cnt q2
    have hb2p : b2 ≠ p := fun hh => HG1.out.p_inn (hh ▸ hib2)
    have q4 := q3.at (hTs.block _ q3.set.lt hb2p) (hTs.block _ q3.lt hrp)
    refine ⟨cnt', q1, ?_⟩
    rw [inE_drop]
    unfold upF
    rw [upd_same]
    exact q4

theorem dropE_no {E : List (Lit × Lit)} {e : Lit × Lit} (h : e ∉ E) : dropE E e = E := List.filter_eq_self.2 fun _ hz => decide_eq_true (fun e1 => h (e1 ▸ hz))

/-- Drop, whatever. -/
theorem drop13 {w : World} {p N : Nat} {E : List (Lit × Lit)} {S : Nat → Prop} {k1 k2 : Value} {x y : Lit} (g : Gr 3 61 w p N E S) (hx : keyOf Try.prog 3 k1 = some x) (hy : keyOf Try.prog 3 k2 = some y) (hE : E.length < 1000000) :
    Calls Try.prog 13 #[.pointer (some ⟨p, 0, none⟩), k1, k2] w fun e w' => ∃ S', e = .returned (.bool (outE E x y)) ∧ Gr 3 61 w' p N (dropE E (x, y)) S' ∧ Turn S w w' ∧ ∀ i, S' i → S i := by
  obtain ⟨A, B, f, h, g, rfl⟩ := g
  by_cases hin : (x, y) ∈ E
  · refine (drop_yes g hx hy hin hE).mono ?_
    rintro e w' ⟨f', h', rfl, hD⟩
    exact ⟨_, by simp [outE, hin], ⟨A, B, f', h', hD.gr, rfl⟩, hD.turn, hD.foot⟩
  · have ho : outE E x y = false := by simp [outE, hin]
    have HG := toHid g
    clear g
    rw [ho, dropE_no hin]
    go_enter Try.func13, Try.ntmps13
    go_wp2_with (first
      | (go_at_call 31; refine (ghasI HG.out hx hy).mono ?_; rintro e w1 ⟨rfl, hb1⟩; rw [ho])
      | fail)
    go_ret
    exact ⟨Foot p A B f h, rfl, Gr.below ⟨A, B, f, h, HG.out, rfl⟩ hb1, Turn.of_below hb1 _, fun i hi => hi⟩

end Go.Proofs.Ytoihjkpjijncdaa
