/-
  The walk of StableApart.
-/
import Derived.Test.YtbigclhfgcaccaaPc
import Derived.Test.YtbigclhfgcaccaaPd
import Derived.Test.YtbigclhfgcaccaaPe
import Derived.Test.YtbigclhfgcaccaaPf
import Derived.Test.YtbigclhfgcaccaaPg
import Derived.Test.YtbigclhfgcaccaaPh
namespace Go.Proofs.Ytbigclhfgcaccaa
open Go.RowKit

/-- The look, whatever comes of it. -/
theorem reg1 (a b : Op) (s : Nat) (W1 : World) (hz : W1.heap.size = s + 2) (ha : W1.heap[s]? = some (.cells (opV a) 49)) (hb : W1.heap[s + 1]? = some (.cells (opV b) 49)) (k : Int) (u : Nat → Value) (g2 : u 2 = .int .i64 k) (g3 : u 3 = .pointer (some ⟨s, 0, none⟩)) (g4 : u 4 = .pointer (some ⟨s + 1, 0, none⟩)) (K : Act → World → Prop) (Q : Exit → Act → World → Prop) (HQ : ∀ c (a : Act) t v w, Q (.panic c) (a.put t v) w → Q (.panic c) a w)
    (yes : ∀ u' w', u' 72 = .bool true → Below (s + 2) W1 w' → K (frame6 u') w')
    (no : ∀ u' w', u' 2 = .int .i64 k → u' 3 = .pointer (some ⟨s, 0, none⟩) → u' 4 = .pointer (some ⟨s + 1, 0, none⟩) → u' 72 = .bool false → Below (s + 2) W1 w' → 0 ≤ long a.n → 0 ≤ long b.n → ¬ a.hand = b.hand → (a.place + long a.n ≤ b.place ∨ b.place + long b.n ≤ a.place) → K (frame6 u') w') :
    Code.wp Try.prog (head6 (head6 (tail6 1 body6))) (Exit.then K Q) (frame6 u) W1 := by
  by_cases h1 : long a.n < 0
  · exact reg1_1 a b s W1 hz ha hb k u g2 g3 g4 h1 K Q HQ (fun u' w' _ _ _ q1 q2 => yes u' w' q1 q2)
  by_cases h2 : long b.n < 0
  · exact reg1_2 a b s W1 hz ha hb k u g2 g3 g4 h1 h2 K Q HQ (fun u' w' _ _ _ q1 q2 => yes u' w' q1 q2)
  by_cases h3 : a.hand = b.hand
  · exact reg1_3 a b s W1 hz ha hb k u g2 g3 g4 h1 h2 h3 K Q HQ (fun u' w' _ _ _ q1 q2 => yes u' w' q1 q2)
  by_cases h4 : a.place < 0
  · exact reg1_4 a b s W1 hz ha hb k u g2 g3 g4 h1 h2 h3 h4 K Q HQ (fun u' w' _ _ _ q1 q2 => yes u' w' q1 q2)
  by_cases h5 : b.place < 0
  · exact reg1_5 a b s W1 hz ha hb k u g2 g3 g4 h1 h2 h3 h4 h5 K Q HQ (fun u' w' _ _ _ q1 q2 => yes u' w' q1 q2)
  by_cases h6 : 4096 < a.place
  · exact reg1_6 a b s W1 hz ha hb k u g2 g3 g4 h1 h2 h3 h4 h5 h6 K Q HQ (fun u' w' _ _ _ q1 q2 => yes u' w' q1 q2)
  by_cases h7 : 4096 < b.place
  · exact reg1_7 a b s W1 hz ha hb k u g2 g3 g4 h1 h2 h3 h4 h5 h6 h7 K Q HQ (fun u' w' _ _ _ q1 q2 => yes u' w' q1 q2)
  by_cases h8 : a.place < b.place + long b.n
  · by_cases h9 : b.place < a.place + long a.n
    · exact reg1_8 a b s W1 hz ha hb k u g2 g3 g4 h1 h2 h3 h4 h5 h6 h7 h8 h9 K Q HQ (fun u' w' _ _ _ q1 q2 => yes u' w' q1 q2)
    · exact reg1_10 a b s W1 hz ha hb k u g2 g3 g4 h1 h2 h3 h4 h5 h6 h7 h8 h9 K Q HQ (fun u' w' p1 p2 p3 q1 q2 => no u' w' p1 p2 p3 q1 q2 (by omega) (by omega) h3 (by omega))
  · exact reg1_9 a b s W1 hz ha hb k u g2 g3 g4 h1 h2 h3 h4 h5 h6 h7 h8 K Q HQ (fun u' w' p1 p2 p3 q1 q2 => no u' w' p1 p2 p3 q1 q2 (by omega) (by omega) h3 (by omega))

set_option maxRecDepth 100000 in
set_option maxHeartbeats 3000000 in
theorem walkApart (a b : Op) (k : Int) (ga : GoodO a) (gb : GoodO b) (hk : I64 k) (w : World) :
    Calls Try.prog 6 #[.agg (opV a), .agg (opV b), .int .i64 k] w fun e w' => e = .returned (.bool true) ∧ Below w.heap.size w w' := by
  have hB : Below w.heap.size w ((w.alloc (.cells (opV a) 49)).alloc (.cells (opV b) 49)) := ((Below.refl _ w).alloc (Nat.le_refl _) _).alloc (by simp) _
  have hz : ((w.alloc (.cells (opV a) 49)).alloc (.cells (opV b) 49)).heap.size = w.heap.size + 2 := by simp
  have h1 : ((w.alloc (.cells (opV a) 49)).alloc (.cells (opV b) 49)).heap[w.heap.size]? = some (.cells (opV a) 49) := (Below.heap_alloc _ _ _ (by simp)).trans (heap_alloc_new _ _)
  have h2 : ((w.alloc (.cells (opV a) 49)).alloc (.cells (opV b) 49)).heap[w.heap.size + 1]? = some (.cells (opV b) 49) := by
    have := heap_alloc_new (w.alloc (.cells (opV a) 49)) (.cells (opV b) 49)
    rw [World.size_alloc] at this
    exact this
  have HB : Hid _ := hB
  have HZ : Hid _ := hz
  have H1 : Hid _ := h1
  have H2 : Hid _ := h2
  clear hB hz h1 h2
  go_enter Try.func6, Try.ntmps6
  refine wp_seq_k fun K hK => ?_
  have HK : Hid _ := hK
  clear hK
  go_wp2_with fail
  refine HK.out _ _ ?_
  clear HK K
  refine wp_seq_k fun K hK => ?_
  have HK : Hid _ := hK
  clear hK
  refine wp_seq_k fun K1 hK1 => ?_
  have HK1 : Hid _ := hK1
  clear hK1
  refine wp6 rfl rfl (reg1 a b w.heap.size _ HZ.out H1.out H2.out k _ rfl rfl rfl K1 _ (fun _ _ t _ _ h => by cases t <;> exact h) ?_ ?_)
  · intro u' w' q1 q2
    have HB3 : Hid _ := HB.out.trans (q2.mono (by omega))
    refine HK1.out _ _ ?_
    rw [frame6_open, q1]
    clear HK1 HK q1 q2 HB HZ H1 H2
    go_wp2_with fail
    refine (lives_any _).mono ?_
    rintro e w9 ⟨rfl, hb9⟩
    go_wp2_with fail
    go_ret
    exact ⟨rfl, below_on HB3.out hb9⟩
  · intro u' w' p1 p2 p3 q1 q2 r1 r2 r3 r4
    obtain ⟨La, hLa⟩ := Int.eq_ofNat_of_zero_le r1
    obtain ⟨Lb, hLb⟩ := Int.eq_ofNat_of_zero_le r2
    rw [hLa, hLb] at r4
    refine HK1.out _ _ ?_
    have HR : Hid _ := fun u'' (e2 : u'' 2 = .int .i64 k) (e3 : u'' 3 = .pointer (some ⟨w.heap.size, 0, none⟩)) (e4 : u'' 4 = .pointer (some ⟨w.heap.size + 1, 0, none⟩)) => rest6_wp a b ga gb k hk w _ w.heap.size rfl HB.out HZ.out H1.out H2.out u'' e2 e3 e4 w' q2 La Lb hLa hLb r3 r4
    rw [frame6_open, p1, p2, p3, q1]
    clear HK1 p1 p2 p3 q1 q2 HB HZ H1 H2 r1 r2 hLa hLb
    go_wp2_with fail
    exact HK.out _ _ (wp6 rfl rfl (HR.out _ rfl rfl rfl))

end Go.Proofs.Ytbigclhfgcaccaa
