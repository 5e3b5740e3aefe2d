/-
  StableStays: its loop.
-/
import Derived.Test.YtbigclhfgcaccaaSc
import Derived.Test.YtbigclhfgcaccaaSd
import Derived.Test.YtbigclhfgcaccaaSe
import Derived.Test.YtbigclhfgcaccaaSf
import Derived.Test.YtbigclhfgcaccaaSg
import Derived.Test.YtbigclhfgcaccaaSh
namespace Go.Proofs.Ytbigclhfgcaccaa
open Go.RowKit

theorem switch7 (A : Nat) (f : UInt8) (a : Option Addr) (c n s j : Nat) (W1 : World) (g : Nat) (t : Op) (ht : GoodO t) (d : Dv) (u : Nat → Value) (wr : World) (hu : St7 A f a c n s j u) (h10 : u 10 = .pointer (some ⟨g, 0, none⟩)) (mt : Bool) (h11 : u 11 = .bool mt) (hw : Wd7 s W1 g t d wr) (hK : Keep7 A f d)
    (hmt : mt = false → t.kind = 0 → 0 ≤ t.place → t.place + long t.n ≤ 64 * (A : Int) ∨ 64 * (A : Int) + 64 ≤ t.place) (Q : Exit → Act → World → Prop) (HQ : ∀ c (a : Act) t v w, Q (.panic c) (a.put t v) w → Q (.panic c) a w)
    (hnorm : ∀ u' w' d', St7 A f a c n s j u' → Wd7 s W1 g t d' w' → Keep7 A f d' → Q .normal (frame7 u') w') :
    Code.wp Try.prog (tailOf' 2 body7) Q (frame7 u) wr := by
  by_cases k0 : t.kind = 0
  · by_cases hl : 0 ≤ long t.n
    · by_cases hp : 0 ≤ t.place
      · cases mt with
        | true => exact sw_s3 A f a c n s j W1 g t d u wr hu h10 true h11 hw hK k0 hl hp rfl Q HQ hnorm
        | false =>
          obtain ⟨Ln, hLn⟩ := Int.eq_ofNat_of_zero_le hl
          have := hmt rfl k0 hp
          rw [hLn] at this
          exact sw_s4 A f a c n s j W1 g t d u wr hu h10 false h11 hw hK k0 Ln hLn hp ht.place rfl this Q HQ hnorm
      · exact sw_s2 A f a c n s j W1 g t d u wr hu h10 mt h11 hw hK k0 hl hp Q HQ hnorm
    · exact sw_s1 A f a c n s j W1 g t d u wr hu h10 mt h11 hw hK k0 hl Q HQ hnorm
  · by_cases k1 : t.kind = 1
    · exact sw_fin A f a c n s j W1 g t d u wr hu h10 mt h11 hw hK k1 Q HQ hnorm
    · by_cases k2 : t.kind = 2
      · exact sw_crash A f a c n s j W1 g t d u wr hu h10 mt h11 hw hK ht.n k2 Q HQ hnorm
      · by_cases k4 : t.kind = 4
        · by_cases hp : 64 * (A : Int) < t.place
          · by_cases hb : t.place ≤ 4096
            · exact sw_trim2 A f a c n s j W1 g t d u wr hu h10 mt h11 hw hK k4 hp hb Q HQ hnorm
            · exact sw_trim1 A f a c n s j W1 g t d u wr hu h10 mt h11 hw hK k4 hp ht.place hb Q HQ hnorm
          · exact sw_trim0 A f a c n s j W1 g t d u wr hu h10 mt h11 hw hK k4 hp Q HQ hnorm
        · exact sw_none A f a c n s j W1 g t d u wr hu h10 mt h11 hw hK k0 k1 k2 k4 Q HQ hnorm

theorem reg12 (A : Nat) (hA : A ≤ 63) (f : UInt8) (a : Option Addr) (c n s j : Nat) (W1 : World) (g : Nat) (t : Op) (d : Dv) (u : Nat → Value) (wr : World) (hu : St7 A f a c n s j u) (h10 : u 10 = .pointer (some ⟨g, 0, none⟩)) (hw : Wd7 s W1 g t d wr) (K : Act → World → Prop) (Q : Exit → Act → World → Prop) (HQ : ∀ c (a : Act) t v w, Q (.panic c) (a.put t v) w → Q (.panic c) a w)
    (hcont : ∀ u' w' mt, St7 A f a c n s j u' → u' 10 = .pointer (some ⟨g, 0, none⟩) → u' 11 = .bool mt → Wd7 s W1 g t d w' → (mt = false → t.kind = 0 → 0 ≤ t.place → t.place + long t.n ≤ 64 * (A : Int) ∨ 64 * (A : Int) + 64 ≤ t.place) → K (frame7 u') w') :
    Code.wp Try.prog (headOf (tailOf' 1 body7)) (Exit.then K Q) (frame7 u) wr := by
  by_cases hc : t.place ≤ 64 * (A : Int)
  · by_cases k4 : t.kind = 4
    · exact reg12_k4 A hA f a c n s j W1 g t d u wr hu h10 hw hc k4 K Q HQ (fun u' w' h1 h2 h3 h4 => hcont u' w' _ h1 h2 h3 h4 (fun e => by cases e))
    · by_cases hg : IntKind.i64.wrap (64 * (A : Int) - t.place) < long t.n
      · exact reg12_t A hA f a c n s j W1 g t d u wr hu h10 hw hc k4 hg K Q HQ (fun u' w' h1 h2 h3 h4 => hcont u' w' _ h1 h2 h3 h4 (fun e => by cases e))
      · refine reg12_f A hA f a c n s j W1 g t d u wr hu h10 hw hc k4 hg K Q HQ (fun u' w' h1 h2 h3 h4 => hcont u' w' _ h1 h2 h3 h4 (fun _ _ hp => .inl ?_))
        have e : IntKind.i64.wrap (64 * (A : Int) - t.place) = 64 * (A : Int) - t.place := by simp [IntKind.wrap, IntKind.bits, IntKind.signed]; omega
        rw [e] at hg
        omega
  · by_cases hd : t.place < 64 * (A : Int) + 64
    · by_cases k4 : t.kind = 4
      · exact reg12_b4 A hA f a c n s j W1 g t d u wr hu h10 hw hc hd k4 K Q HQ (fun u' w' h1 h2 h3 h4 => hcont u' w' _ h1 h2 h3 h4 (fun _ k0 _ => by omega))
      · exact reg12_b A hA f a c n s j W1 g t d u wr hu h10 hw hc hd k4 K Q HQ (fun u' w' h1 h2 h3 h4 => hcont u' w' _ h1 h2 h3 h4 (fun e => by cases e))
    · exact reg12_a A hA f a c n s j W1 g t d u wr hu h10 hw hc hd K Q HQ (fun u' w' h1 h2 h3 h4 => hcont u' w' _ h1 h2 h3 h4 (fun _ _ _ => .inr (by omega)))

/-- Between two steps. -/
def I7 (A : Nat) (f : UInt8) (a : Option Addr) (c n s : Nat) (W1 : World) (j : Nat) (x : Act) (w' : World) : Prop :=
  ∃ u : Nat → Value, x = frame7 u ∧ St7 A f a c n s j u ∧ ∃ d, Dev w' [] (s + 1) s d ∧ Keep7 A f d ∧ Touch (s + 1) s W1 w'

set_option maxRecDepth 100000 in
set_option maxHeartbeats 3000000 in
theorem round7 (A : Nat) (f : UInt8) (c n s : Nat) (W1 : World) (b bo : Nat) (hb : b < s) (j : Nat) (hlt : j < n) (h60 : j < 60) (u : Nat → Value) (wr : World) (hu : St7 A f (some ⟨b, bo, none⟩) c n s j u) (d : Dv) (hd : Dev wr [] (s + 1) s d) (hK : Keep7 A f d) (ht : Touch (s + 1) s W1 wr) (hz : W1.heap.size = s + 2)
    (t : Op) (hgo : GoodO t) (HA : OpAt wr b (bo + j * 5) t) (Q0 : Exit → Act → World → Prop) (HQ : ∀ c (a : Act) t v w, Q0 (.panic c) (a.put t v) w → Q0 (.panic c) a w) :
    Code.wp Try.prog loop7 (Exit.then (fun x w'' => I7 A f (some ⟨b, bo, none⟩) c n s W1 (j + 1) x w'') Q0) (frame7 u) wr := by
  obtain ⟨h0, h1, h2, h7, h9⟩ := hu
  rw [frame7_open, h0, h1, h2, h7, h9]
  clear h0 h1 h2 h7 h9
  obtain ⟨s0, s1, s2, s3, s4⟩ := HA
  have hsz := ht.size
  have hbw : b < wr.heap.size := by omega
  have HW : Hid (Wd7 s W1 wr.heap.size t d (wr.alloc (.cells (opV t) 49))) := ⟨hd.below ((Below.refl _ _).alloc (Nat.le_refl _) _), ht.trans (Touch.of ((Below.refl _ _).alloc (Nat.le_refl _) _)), heap_alloc_new _ _, by omega⟩
  have HKp : Hid _ := hK
  clear hd ht hK
  conv => arg 2; whnf
  go_wp2_with fail
  rename_i Kx hKx
  refine wp7 rfl rfl (reg12 A HKp.out.at' f (some ⟨b, bo, none⟩) c n s j W1 wr.heap.size t d _ _ ⟨rfl, rfl, rfl, rfl, rfl⟩ rfl HW.out Kx _ (fun c a t v w h => HQ c a t v w h) ?_)
  intro u' w' mt g1 g2 g3 g4 g5
  refine hKx _ _ (switch7 A f (some ⟨b, bo, none⟩) c n s j W1 wr.heap.size t hgo d u' w' g1 g2 mt g3 g4 HKp.out g5 _ (fun c a t v w h => HQ c a t v w h) ?_)
  intro u'' w'' d'' k1 k2 k3
  obtain ⟨h0, h1, h2, h7, h9⟩ := k1
  rw [frame7_open, h0, h1, h2, h7, h9]
  clear h0 h1 h2 h7 h9 hKx s0 s1 s2 s3 s4
  have HW2 : Hid _ := k2
  have HK2 : Hid _ := k3
  clear k2 k3
  go_wp2_with fail
  exact ⟨_, frame7_lit _ rfl rfl, ⟨rfl, rfl, rfl, rfl, by show Value.int .i64 _ = _; simp⟩, _, HW2.out.dev, HK2.out, HW2.out.tc⟩

set_option maxRecDepth 100000 in
set_option maxHeartbeats 3000000 in
theorem exit7 (A : Nat) (f : UInt8) (a : Option Addr) (c n s j : Nat) (hj : ¬ (j < n ∧ j < 60)) (u : Nat → Value) (wr : World) (hu : St7 A f a c n s j u) (Q0 : Exit → Act → World → Prop) (R : Act → World → Prop) (hexit : ∀ u', Q0 (.exit 0) (frame7 u') wr) :
    Code.wp Try.prog loop7 (Exit.then R Q0) (frame7 u) wr := by
  obtain ⟨h0, h1, h2, h7, h9⟩ := hu
  have HX : Hid _ := hexit
  clear hexit
  rw [frame7_open, h0, h1, h2, h7, h9]
  clear h0 h1 h2 h7 h9
  conv => arg 2; whnf
  by_cases hlt : j < n
  · have h60 : ¬ j < 60 := fun e => hj ⟨hlt, e⟩
    go_wp2_with fail
    exact q7 rfl rfl (HX.out _)
  · go_wp2_with fail
    exact q7 rfl rfl (HX.out _)

theorem loop7_wp (A : Nat) (f : UInt8) (a : Option Addr) (c : Nat) (l : List Op) (w W1 : World) (h : SlO w a l) (hB1 : Below w.heap.size w W1) (hz : W1.heap.size = w.heap.size + 2) (u : Nat → Value) (wr : World) (hu : St7 A f a c l.length w.heap.size 0 u) (d : Dv) (hd : Dev wr [] (w.heap.size + 1) w.heap.size d) (hK : Keep7 A f d) (ht : Touch (w.heap.size + 1) w.heap.size W1 wr)
    (Q0 : Exit → Act → World → Prop) (HQ : ∀ c (a : Act) t v w, Q0 (.panic c) (a.put t v) w → Q0 (.panic c) a w) (hexit : ∀ u' w', Touch (w.heap.size + 1) w.heap.size W1 w' → Q0 (.exit 0) (frame7 u') w') :
    Code.wp Try.prog (Code.loop loop7) Q0 (frame7 u) wr := by
  refine wp_loop (fun x w' => ∃ j, j ≤ l.length ∧ I7 A f a c l.length w.heap.size W1 j x w') (fun x _ => l.length - (intOf (x.tmps.getD 9 undef)).toNat) ⟨0, by omega, u, rfl, hu, d, hd, hK, ht⟩ ?_
  rintro x w' ⟨j, hjl, u', rfl, hu', d', hd', hK', ht'⟩
  have g9 := hu'.h9
  by_cases hj : j < l.length ∧ j < 60
  · have key : Code.wp Try.prog loop7 (Exit.then (fun x w'' => I7 A f a c l.length w.heap.size W1 (j + 1) x w'') Q0) (frame7 u') w' := by
      obtain ⟨b, bo, rfl, hbl, hC⟩ := h.at j hj.1
      exact round7 A f c l.length w.heap.size W1 b bo hbl j hj.1 hj.2 u' w' hu' d' hd' hK' ht' hz l[j] (h.good l[j] (List.getElem_mem hj.1)) (hC.keep ((ht'.block b (by omega) (by omega) (by omega)).trans (hB1.block b hbl))) Q0 HQ
    refine Code.wp_mono ?_ key
    intro e x w'' h'
    cases e <;> first | exact h' | skip
    refine ⟨⟨j + 1, by omega, h'⟩, ?_⟩
    obtain ⟨u'', rfl, k9, _⟩ := h'
    show l.length - (intOf (u'' 9)).toNat < l.length - (intOf (u' 9)).toNat
    rw [k9.h9, g9]
    simp only [intOf]
    omega
  · exact exit7 A f a c l.length w.heap.size j hj u' w' hu' Q0 _ (fun u'' => hexit u'' w' ht')

end Go.Proofs.Ytbigclhfgcaccaa
