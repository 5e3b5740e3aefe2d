/-
  StableApart: two hands that write to places that do not meet.
-/
import Derived.Test.YtbigclhfgcaccaaSl
import Derived.Test.YtbigclhfgcaccaaNa
import Derived.Test.YtbigclhfgcaccaaCa
namespace Go.Proofs.Ytbigclhfgcaccaa
open Go.RowKit

/-- A frame of 177 slots. -/
def frame6 (u : Nat → Value) : Act := ⟨((List.range 177).map u).toArray, []⟩
set_option maxRecDepth 100000 in
theorem frame6_open (u : Nat → Value) : frame6 u = ⟨#[u 0, u 1, u 2, u 3, u 4, u 5, u 6, u 7, u 8, u 9, u 10, u 11, u 12, u 13, u 14, u 15, u 16, u 17, u 18, u 19, u 20, u 21, u 22, u 23, u 24, u 25, u 26, u 27, u 28, u 29, u 30, u 31, u 32, u 33, u 34, u 35, u 36, u 37, u 38, u 39, u 40, u 41, u 42, u 43, u 44, u 45, u 46, u 47, u 48, u 49, u 50, u 51, u 52, u 53, u 54, u 55, u 56, u 57, u 58, u 59, u 60, u 61, u 62, u 63, u 64, u 65, u 66, u 67, u 68, u 69, u 70, u 71, u 72, u 73, u 74, u 75, u 76, u 77, u 78, u 79, u 80, u 81, u 82, u 83, u 84, u 85, u 86, u 87, u 88, u 89, u 90, u 91, u 92, u 93, u 94, u 95, u 96, u 97, u 98, u 99, u 100, u 101, u 102, u 103, u 104, u 105, u 106, u 107, u 108, u 109, u 110, u 111, u 112, u 113, u 114, u 115, u 116, u 117, u 118, u 119, u 120, u 121, u 122, u 123, u 124, u 125, u 126, u 127, u 128, u 129, u 130, u 131, u 132, u 133, u 134, u 135, u 136, u 137, u 138, u 139, u 140, u 141, u 142, u 143, u 144, u 145, u 146, u 147, u 148, u 149, u 150, u 151, u 152, u 153, u 154, u 155, u 156, u 157, u 158, u 159, u 160, u 161, u 162, u 163, u 164, u 165, u 166, u 167, u 168, u 169, u 170, u 171, u 172, u 173, u 174, u 175, u 176], []⟩ := by kernel_rfl
theorem frame6_lit (a : Act) (hs : a.tmps.size = 177) (hd : a.defers = []) : a = frame6 (fun i => a.tmps.getD i undef) := by
  obtain ⟨⟨l⟩, d⟩ := a
  simp at hs hd
  subst hd
  unfold frame6
  congr 2
  apply List.ext_getElem
  · simp [hs]
  · intro i h1 h2
    simp [h1]

theorem wp6 {c : Code} {Q : Exit → Act → World → Prop} {A : Act} {w : World} (hs : A.tmps.size = 177) (hd : A.defers = []) (h : c.wp Try.prog Q (frame6 fun i => A.tmps.getD i undef) w) : c.wp Try.prog Q A w := by
  rw [frame6_lit A hs hd]; exact h
theorem k6 {K : Act → World → Prop} {A : Act} {w : World} (hs : A.tmps.size = 177) (hd : A.defers = []) (h : K (frame6 fun i => A.tmps.getD i undef) w) : K A w := by
  rw [frame6_lit A hs hd]; exact h
def tail6 : Nat → Code → Code
  | 0, c => c
  | k + 1, .seq _ b => tail6 k b
  | _, c => c
def head6 : Code → Code
  | .seq a _ => a
  | c => c
noncomputable def body6 : Code := (Try.f6.body).getD .skip

/-- What is told of a device stays told where others are laid. -/
theorem Dev.away {w w' : World} {p G : Nat} {d : Dv} (h : Dev w [] p G d) (hb : Below w.heap.size w w') (av : List Nat) (hav : ∀ k ∈ av, w.heap.size ≤ k) : Dev w' av p G d := by
  have h' := h.below hb
  obtain ⟨us, h1, h2, h3⟩ := h.us
  have na : ∀ k, k < w.heap.size → k ∉ av := fun k hk e => by have := hav k e; omega
  refine ⟨h.good, h'.buf, h.ne, na p h.lt.1, na G h.lt.2, us, h1, by rw [hb.block p h.lt.1]; exact h2, fun i hi => ?_⟩
  rcases h3 i hi with e | ⟨q, a, m, e1, e2, e3⟩
  · exact .inl e
  · refine .inr ⟨q, a, m, e1, e2, ?_⟩
    obtain ⟨r, f1, f2, f3, f4⟩ := e3.out
    have hq := lt_of_blk f1
    have hr := lt_of_blk f2
    refine ⟨r, by rw [hb.block q hq]; exact f1, f2.below hb (Nat.le_refl _), fun e => ?_, fun e => ?_⟩
    · simp at e f3
      rcases e with e | e | e
      · exact f3.1 e
      · exact f3.2 e
      · exact na q hq e
    · simp at e f4
      rcases e with e | e | e
      · exact f4.1 e
      · exact f4.2 e
      · exact na r hr e

theorem start_ok6 {d : Dv} {h a : Int} {l : List UInt8} (e : startE d h a l = 0) : (0 ≤ h ∧ h < 8) ∧ (0 ≤ a ∧ a + l.length ≤ d.b.length) ∧ d.u[h.toNat]? = some none ∧ startD d h a l = ⟨d.b, d.u.set h.toNat (some (a.toNat, l))⟩ := by
  have es : startD d h a l = ⟨d.b, d.u.set h.toNat (some (a.toNat, l))⟩ := by unfold startD; rw [if_pos e]
  unfold startE at e
  split at e
  · simp at e
  · rename_i h1
    split at e
    · simp at e
    · rename_i h2
      split at e
      · rename_i h3
        exact ⟨by omega, by omega, h3, es⟩
      · simp at e

theorem fin_at {d : Dv} {h k : Int} {a : Nat} {m : List UInt8} (hh : 0 ≤ h ∧ h < 8) (e : d.u[h.toNat]? = some (some (a, m))) : finE d h = 0 ∧ finD d h k = ⟨over d.b a (m.take (64 * k.toNat)), d.u.set h.toNat none⟩ := by
  constructor
  · unfold finE; rw [if_pos hh]; simp only [e]
  · unfold finD; rw [if_pos hh]; simp only [e]

/-- Two hands that write to places that don't meet. -/
theorem apart_math (d : Dv) (hg : GoodD d) (ha hb pa pb k : Int) (la lb : List UInt8) (e1 : startE d ha pa la = 0) (e2 : startE (startD d ha pa la) hb pb lb = 0) (hne : ha ≠ hb) (hap : pa + la.length ≤ pb ∨ pb + lb.length ≤ pa) (hlb : lb.length ≤ 3000) :
    finE (startD (startD d ha pa la) hb pb lb) ha = 0 ∧ finE (finD (startD (startD d ha pa la) hb pb lb) ha k) hb = 0 ∧ finE (startD (startD d ha pa la) hb pb lb) hb = 0 ∧ finE (finD (startD (startD d ha pa la) hb pb lb) hb 1024) ha = 0 ∧
    (finD (finD (startD (startD d ha pa la) hb pb lb) ha k) hb 1024).b = (finD (finD (startD (startD d ha pa la) hb pb lb) hb 1024) ha k).b ∧
    ((finD (finD (startD (startD d ha pa la) hb pb lb) ha k) hb 1024).b.drop pb.toNat).take lb.length = lb ∧ (finD (finD (startD (startD d ha pa la) hb pb lb) ha k) hb 1024).b.length = d.b.length := by
  obtain ⟨a1, a2, a3, a4⟩ := start_ok6 e1
  obtain ⟨b1, b2, b3, b4⟩ := start_ok6 e2
  rw [a4] at b2 b3 b4 ⊢
  rw [b4]
  have hn : ha.toNat ≠ hb.toNat := by omega
  have h8 := hg.hands
  have u1 : ((d.u.set ha.toNat (some (pa.toNat, la))).set hb.toNat (some (pb.toNat, lb)))[ha.toNat]? = some (some (pa.toNat, la)) := by
    rw [List.getElem?_set_ne (Ne.symm hn), List.getElem?_set_self (by omega)]
  have u2 : ((d.u.set ha.toNat (some (pa.toNat, la))).set hb.toNat (some (pb.toNat, lb)))[hb.toNat]? = some (some (pb.toNat, lb)) := List.getElem?_set_self (by rw [List.length_set]; omega)
  obtain ⟨f1, f2⟩ := fin_at (d := ⟨d.b, (d.u.set ha.toNat (some (pa.toNat, la))).set hb.toNat (some (pb.toNat, lb))⟩) (k := k) a1 u1
  obtain ⟨g1, g2⟩ := fin_at (d := ⟨d.b, (d.u.set ha.toNat (some (pa.toNat, la))).set hb.toNat (some (pb.toNat, lb))⟩) (k := 1024) b1 u2
  rw [f2, g2]
  obtain ⟨f3, f4⟩ := fin_at (d := ⟨over d.b pa.toNat (la.take (64 * k.toNat)), ((d.u.set ha.toNat (some (pa.toNat, la))).set hb.toNat (some (pb.toNat, lb))).set ha.toNat none⟩) (k := 1024) b1 (by show (List.set _ _ _)[hb.toNat]? = _; rw [List.getElem?_set_ne hn]; exact u2)
  obtain ⟨g3, g4⟩ := fin_at (d := ⟨over d.b pb.toNat (lb.take (64 * (1024 : Int).toNat)), ((d.u.set ha.toNat (some (pa.toNat, la))).set hb.toNat (some (pb.toNat, lb))).set hb.toNat none⟩) (k := k) a1 (by show (List.set _ _ _)[ha.toNat]? = _; rw [List.getElem?_set_ne (Ne.symm hn)]; exact u1)
  rw [f4, g4]
  have el : lb.take (64 * (1024 : Int).toNat) = lb := List.take_of_length_le (by omega)
  rw [el]
  have hl : (la.take (64 * k.toNat)).length ≤ la.length := by simp; omega
  generalize la.take (64 * k.toNat) = la' at *
  have b2' : pb.toNat + lb.length ≤ d.b.length := by have : pb + lb.length ≤ d.b.length := b2.2; omega
  have a2' : pa.toNat + la'.length ≤ d.b.length := by omega
  have o1 := over_length d.b pa.toNat la' a2'
  have o2 := over_length d.b pb.toNat lb b2'
  refine ⟨f1, f3, g1, g3, ?_, ?_, ?_⟩
  · show over (over d.b pa.toNat la') pb.toNat lb = over (over d.b pb.toNat lb) pa.toNat la'
    apply List.ext_getElem?
    intro i
    rw [over_get _ _ _ (by omega), over_get _ _ _ (by omega), over_get _ _ _ (by omega), over_get _ _ _ (by omega)]
    by_cases q1 : pb.toNat ≤ i ∧ i < pb.toNat + lb.length
    · rw [if_pos q1, if_neg (by omega), if_pos q1]
    · rw [if_neg q1, if_neg q1]
  · show ((over (over d.b pa.toNat la') pb.toNat lb).drop pb.toNat).take lb.length = lb
    unfold over
    rw [List.drop_left' (by simp; simp [over] at o1; omega), List.take_left' rfl]
  · show (over (over d.b pa.toNat la') pb.toNat lb).length = d.b.length
    rw [over_length _ _ _ (by omega), o1]

end Go.Proofs.Ytbigclhfgcaccaa
