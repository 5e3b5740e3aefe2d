/-
  Rising records in one order alone; the walk of lives.
-/
import Derived.Test.YtnejcjebepidcaaMg
namespace Go.Proofs.Ytnejcjebepidcaa
open Go.RowKit

theorem ris_lt {r : Rc} {s : List Rc} (h : risB (r :: s) = true) : ∀ y, y ∈ s → r.lsn < y.lsn := by
  cases s with
  | nil => intro y hy; simp at hy
  | cons b s =>
    intro y hy
    have h2 := ris_head (ris_tail h) y hy
    rw [risB, Bool.and_eq_true] at h
    simp only [decide_eq_true_eq] at h
    omega
theorem ris_unique {l m : List Rc} (hl : risB l = true) (hm : risB m = true) (hp : l.Perm m) : l = m := by
  induction l generalizing m with
  | nil => exact hp.symm.eq_nil.symm
  | cons a l ih =>
    cases m with
    | nil => simpa using hp.eq_nil
    | cons b m =>
      have e : a = b := by
        have h1 : a ∈ b :: m := hp.mem_iff.1 (by simp)
        have h2 : b ∈ a :: l := hp.mem_iff.2 (by simp)
        rcases List.mem_cons.1 h1 with h1 | h1
        · exact h1
        · rcases List.mem_cons.1 h2 with h2 | h2
          · exact h2.symm
          · have := ris_lt hm a h1
            have := ris_lt hl b h2
            omega
      subst e
      rw [ih (ris_tail hl) (ris_tail hm) hp.cons_inv]

def rz (n : Nat) : Rc := ⟨0, n, 0, 0, 0, 0, 0, [], [], [], [], []⟩
theorem ri_rz (w : World) (n : Nat) : RI w (rz n) ⟨none, 0, none, 0⟩ := ⟨⟨fun _ => rfl, fun x hx => by simp at hx⟩, ⟨fun _ => rfl, fun x hx => by simp at hx⟩, fun _ => rfl, fun _ => rfl⟩
theorem slR_two {W : World} {b x y : Nat} (h : W.heap[b]? = some (.cells #[.int .i64 0, .int .u64 (x : Int), .int .i64 0, .int .u64 0, .int .u64 0, .int .i64 0, .int .i64 0, .string ⟨#[]⟩, .string ⟨#[]⟩, .string ⟨#[]⟩, .slice none 0 0, .slice none 0 0, .int .i64 0, .int .u64 (y : Int), .int .i64 0, .int .u64 0, .int .u64 0, .int .i64 0, .int .i64 0, .string ⟨#[]⟩, .string ⟨#[]⟩, .string ⟨#[]⟩, .slice none 0 0, .slice none 0 0] 46)) : SlR W (some ⟨b, 0, none⟩) [rz x, rz y] := by
  refine ⟨fun e => by simp at e, fun q hq i r hr => ?_⟩
  simp at hq
  subst hq
  refine ⟨rfl, ⟨none, 0, none, 0⟩, ?_, ?_⟩
  · rcases i with _ | _ | i
    · simp at hr
      subst hr
      simp [At12, World.cell?, h, rz, txt]
    · simp at hr
      subst hr
      simp [At12, World.cell?, h, rz, txt]
    · simp at hr
  · rcases i with _ | _ | i
    · simp at hr
      subst hr
      exact ri_rz _ _
    · simp at hr
      subst hr
      exact ri_rz _ _
    · simp at hr

def lv : List (List Rc) := [[rz 16, rz 48], [rz 17, rz 33]]

set_option maxRecDepth 100000 in
set_option maxHeartbeats 4000000 in
theorem livesMerge (w : World) : Calls Try.prog 17 #[.slice (some ⟨w.heap.size + 1 + 1, 0, none⟩) 2 2] (((w.alloc (.cells #[.int .i64 0, .int .u64 16, .int .i64 0, .int .u64 0, .int .u64 0, .int .i64 0, .int .i64 0, .string ⟨#[]⟩, .string ⟨#[]⟩, .string ⟨#[]⟩, .slice none 0 0, .slice none 0 0, .int .i64 0, .int .u64 48, .int .i64 0, .int .u64 0, .int .u64 0, .int .i64 0, .int .i64 0, .string ⟨#[]⟩, .string ⟨#[]⟩, .string ⟨#[]⟩, .slice none 0 0, .slice none 0 0] 46)).alloc (.cells #[.int .i64 0, .int .u64 17, .int .i64 0, .int .u64 0, .int .u64 0, .int .i64 0, .int .i64 0, .string ⟨#[]⟩, .string ⟨#[]⟩, .string ⟨#[]⟩, .slice none 0 0, .slice none 0 0, .int .i64 0, .int .u64 33, .int .i64 0, .int .u64 0, .int .u64 0, .int .i64 0, .int .i64 0, .string ⟨#[]⟩, .string ⟨#[]⟩, .string ⟨#[]⟩, .slice none 0 0, .slice none 0 0] 46)).alloc (.cells #[.slice (some ⟨w.heap.size, 0, none⟩) 2 2, .slice (some ⟨w.heap.size + 1, 0, none⟩) 2 2] 26))
    fun e w' => Below w.heap.size w w' ∧ ∃ b o c, e = .returned (.tuple #[.slice (some ⟨b, o, none⟩) 4 c, .int .i64 0]) ∧ w'.cell? ⟨b, o + 1, none⟩ = some (.int .u64 16) ∧ w'.cell? ⟨b, o + 12 + 1, none⟩ = some (.int .u64 17) ∧ w'.cell? ⟨b, o + 24 + 1, none⟩ = some (.int .u64 33) ∧ w'.cell? ⟨b, o + 36 + 1, none⟩ = some (.int .u64 48) := by
  obtain ⟨A, hA⟩ : ∃ A : Obj, A = .cells #[.int .i64 0, .int .u64 16, .int .i64 0, .int .u64 0, .int .u64 0, .int .i64 0, .int .i64 0, .string ⟨#[]⟩, .string ⟨#[]⟩, .string ⟨#[]⟩, .slice none 0 0, .slice none 0 0, .int .i64 0, .int .u64 48, .int .i64 0, .int .u64 0, .int .u64 0, .int .i64 0, .int .i64 0, .string ⟨#[]⟩, .string ⟨#[]⟩, .string ⟨#[]⟩, .slice none 0 0, .slice none 0 0] 46 := ⟨_, rfl⟩
  obtain ⟨C, hC⟩ : ∃ C : Obj, C = .cells #[.int .i64 0, .int .u64 17, .int .i64 0, .int .u64 0, .int .u64 0, .int .i64 0, .int .i64 0, .string ⟨#[]⟩, .string ⟨#[]⟩, .string ⟨#[]⟩, .slice none 0 0, .slice none 0 0, .int .i64 0, .int .u64 33, .int .i64 0, .int .u64 0, .int .u64 0, .int .i64 0, .int .i64 0, .string ⟨#[]⟩, .string ⟨#[]⟩, .string ⟨#[]⟩, .slice none 0 0, .slice none 0 0] 46 := ⟨_, rfl⟩
  obtain ⟨D, hD⟩ : ∃ D : Obj, D = .cells #[.slice (some ⟨w.heap.size, 0, none⟩) 2 2, .slice (some ⟨w.heap.size + 1, 0, none⟩) 2 2] 26 := ⟨_, rfl⟩
  rw [← hA, ← hC, ← hD]
  have h1 : (((w.alloc A).alloc C).alloc D).heap[w.heap.size]? = some A := by
    rw [heap_alloc_old _ _ (by simp; omega), heap_alloc_old _ _ (by simp)]
    exact heap_alloc_new _ _
  have h2 : (((w.alloc A).alloc C).alloc D).heap[w.heap.size + 1]? = some C := by
    rw [heap_alloc_old _ _ (by simp)]
    have := heap_alloc_new (w.alloc A) C
    simpa using this
  have h3 : (((w.alloc A).alloc C).alloc D).heap[w.heap.size + 1 + 1]? = some D := by
    have := heap_alloc_new ((w.alloc A).alloc C) D
    simpa using this
  have hb : Below w.heap.size w (((w.alloc A).alloc C).alloc D) := (((Below.refl _ _).alloc (Nat.le_refl _) _).alloc (by simp) _).alloc (by simp; omega) _
  generalize (((w.alloc A).alloc C).alloc D) = W at *
  subst hA hC hD
  have s1 : SlR W (some ⟨w.heap.size, 0, none⟩) [rz 16, rz 48] := slR_two h1
  have s2 : SlR W (some ⟨w.heap.size + 1, 0, none⟩) [rz 17, rz 33] := slR_two h2
  have sl : SlL W (some ⟨w.heap.size + 1 + 1, 0, none⟩) lv := by
    refine ⟨fun e => by simp at e, fun q hq i q2 hq2 => ?_⟩
    simp at hq
    subst hq
    refine ⟨rfl, ?_⟩
    rcases i with _ | _ | i
    · simp [lv] at hq2
      subst hq2
      exact ⟨_, 2, by simp [World.cell?, h3], s1, by simp⟩
    · simp [lv] at hq2
      subst hq2
      exact ⟨_, 2, by simp [World.cell?, h3], s2, by simp⟩
    · simp [lv] at hq2
  refine (merge17 _ 2 lv W sl (by decide) (by decide) (fun l hl r hr => ?_)).mono ?_
  · simp [lv] at hl
    rcases hl with rfl | rfl <;> (simp at hr; rcases hr with rfl | rfl <;> exact ⟨by decide, by decide⟩)
  · rintro e w' ⟨v, er, rfl, hm, hb'⟩
    rcases hm with ⟨h, _⟩ | ⟨_, h, _⟩ | ⟨_, rfl, out, hp, hr, ha⟩
    · exact absurd h (by decide)
    · exact absurd (by decide) h
    · have ho : out = [rz 16, rz 17, rz 33, rz 48] := ris_unique hr (by decide) (hp.trans (by decide))
      subst ho
      refine ⟨hb.trans (hb'.mono hb.size), ?_⟩
      obtain ⟨a, c, rfl⟩ := ha.shape
      have hs := ha.slR
      obtain ⟨b, o, rfl, _⟩ := hs.there (by simp)
      obtain ⟨_, c0, _⟩ := hs.get 0 (by simp)
      obtain ⟨_, c1, _⟩ := hs.get 1 (by simp)
      obtain ⟨_, c2, _⟩ := hs.get 2 (by simp)
      obtain ⟨_, c3, _⟩ := hs.get 3 (by simp)
      exact ⟨b, o, c, rfl, c0.2.1, c1.2.1, c2.2.1, c3.2.1⟩

set_option maxRecDepth 100000 in
set_option maxHeartbeats 4000000 in
theorem lives10 (w : World) : Calls Try.prog 10 #[] w fun e w' => e = .returned (.bool true) ∧ Below w.heap.size w w' := by
  have H := toHid (livesMerge w)
  go_enter Try.func10, Try.ntmps10
  go_wp2_with fail
  refine Calls.mono H.out ?_
  rintro e w1 ⟨hb, b, o, c, rfl, c0, c1, c2, c3⟩
  have HB := toHid hb
  clear hb H
  go_wp2
  go_ret
  exact ⟨rfl, HB.out⟩
end Go.Proofs.Ytnejcjebepidcaa
