/-
  lives; small.
-/
import Derived.Test.YticnkppnpfgceaaFCj
namespace Go.Proofs.Yticnkppnpfgceaa.Mg
open Go.RowKit Go.Maps

def SmallR (l : List Rc) (w : World) (e : Ending) (w' : World) : Prop := ∃ b, e = .returned (.bool b) ∧ (b = true → tot l ≤ 300) ∧ ∃ n, w' = w.drewN n
set_option maxRecDepth 100000 in
set_option maxHeartbeats 4000000 in
theorem small9 (a : Option Addr) (c : Nat) (l : List Rc) (w : World) (hL : SlR w a l) (hl : l.length ≤ 140737488355328) (hW : ∀ r, r ∈ l → Wd r) :
    Calls Try.prog 9 #[.slice a l.length c] w fun e w' => SmallR l w e w' := by
  have HS := toHid hL
  have HWR := toHid hW
  clear hL hW
  go_enter Try.func9, Try.ntmps9
  go_wp2_with fail
  go_loopw [3, 4] (fun n k W => ∃ j y : Nat, j ≤ l.length ∧ k = .int .i64 j ∧ n = .int .i64 y ∧ y ≤ 1000000000000000 ∧ (y ≤ 300 → y = tot (l.take j)) ∧ ∃ q, W = w.drewN q) (fun _ k _ => l.length - (intOf k).toNat)
  case atStart => exact ⟨0, 0, Nat.zero_le _, rfl, rfl, by omega, fun _ => rfl, 0, rfl⟩
  case round =>
    obtain ⟨j, y, hj, rfl, rfl, hy, hye, q2, rfl⟩ := hrel
    have HYE := toHid hye
    clear hye
    by_cases hjl : j < l.length
    · have hj1 : (j : Int) < (l.length : Int) := by omega
      have hj2 : decide ((j : Int) < (l.length : Int)) = true := by simp; omega
      by_cases hy3 : y ≤ 300
      · have hy4 : (y : Int) ≤ 300 := by omega
        have hy5 : decide ((y : Int) ≤ 300) = true := by simp; omega
        obtain ⟨b1, o1, rfl, _⟩ := HS.out.there (by omega)
        obtain ⟨p1, h12, _⟩ := HS.out.get j hjl
        have d0 := h12.2.2.2.2.2.2.2.2.2.2.1
        have d1 := h12.2.2.2.2.2.2.2.2.2.2.2
        obtain ⟨w1, w2⟩ := HWR.out l[j] (List.getElem_mem hjl)
        have HTT := toHid (tot_take hjl)
        have HYN := toHid (HYE.out hy3)
        have hj3 : 0 ≤ (j : Int) := by omega
        clear h12
        go_wp2_with fail
        go_quiet (fail)
        go_wp2
        go_roundw
        case rel => exact ⟨j + 1, y + 1 + l[j].txns.length + l[j].dirty.length, by omega, by go_num, by go_num, by omega, fun _ => by rw [HTT.out, HYN.out]; simp only [wt]; omega, _, rfl⟩
        case measure => simp [intOf]; omega
      · have hy4 : ¬ (y : Int) ≤ 300 := by omega
        have hy5 : decide ((y : Int) ≤ 300) = false := by simp; omega
        go_wp2
        go_ret
        exact ⟨_, rfl, fun h => by simp at h, _, rfl⟩
    · obtain rfl : j = l.length := by omega
      have hj1 : ¬ (l.length : Int) < (l.length : Int) := by omega
      go_wp2
      go_ret
      exact ⟨_, rfl, fun h => by have h3 : y ≤ 300 := by (simp at h; omega)
                                 have := HYE.out h3; rw [List.take_length] at this; omega, _, rfl⟩

def livR1 : Rc := ⟨1, 16, 1, 0, 0, 3, 1, [97], [], [], [], []⟩
def livR2 : Rc := ⟨3, 32, 1, 16, 0, 0, 0, [], [], [], [], []⟩
theorem liv_log : logB [livR1, livR2] = true := by decide
theorem liv_t : (allX [livR1, livR2]).t = [] := by decide
theorem liv_d : (allX [livR1, livR2]).d = [(3, 16)] := by decide
set_option maxRecDepth 100000 in
set_option maxHeartbeats 4000000 in
theorem lives10 (w : World) : Calls Try.prog 10 #[] w fun e w' => e = .returned (.bool true) ∧ Below w.heap.size w w' := by
  obtain ⟨cs, ho⟩ : ∃ cs : Array Value, cs = #[.int .i64 1, .int .u64 16, .int .i64 1, .int .u64 0, .int .u64 0, .int .i64 3, .int .i64 1, .string ⟨#[97]⟩, .string ⟨#[]⟩, .string ⟨#[]⟩, .slice none 0 0, .slice none 0 0, .int .i64 3, .int .u64 32, .int .i64 1, .int .u64 16, .int .u64 0, .int .i64 0, .int .i64 0, .string ⟨#[]⟩, .string ⟨#[]⟩, .string ⟨#[]⟩, .slice none 0 0, .slice none 0 0] := ⟨_, rfl⟩
  have hx : (w.alloc (.cells cs 50)).heap[w.heap.size]? = some (.cells cs 50) := heap_alloc_new _ _
  have hcell : ∀ j, (w.alloc (.cells cs 50)).cell? ⟨w.heap.size, j, none⟩ = cs[j]? := fun j => by
    unfold World.cell?
    rw [hx]
    rfl
  have hS : SlR (w.alloc (.cells cs 50)) (some ⟨w.heap.size, 0, none⟩) [livR1, livR2] := by
    refine ⟨fun e => by simp at e, fun y hy i r hr => ?_⟩
    injection hy with hy
    subst hy
    refine ⟨rfl, ⟨none, 0, none, 0⟩, ?_, ⟨⟨fun _ => ?_, fun _ h => by simp at h⟩, ⟨fun _ => ?_, fun _ h => by simp at h⟩, fun _ => rfl, fun _ => rfl⟩⟩
    · match i, hr with
      | 0, hr =>
        injection hr with hr
        subst hr
        simp only [At12, hcell]
        rw [ho]
        exact ⟨rfl, rfl, rfl, rfl, rfl, rfl, rfl, rfl, rfl, rfl, rfl, rfl⟩
      | 1, hr =>
        injection hr with hr
        subst hr
        simp only [At12, hcell]
        rw [ho]
        exact ⟨rfl, rfl, rfl, rfl, rfl, rfl, rfl, rfl, rfl, rfl, rfl, rfl⟩
      | i + 2, hr => simp at hr
    all_goals
      match i, hr with
      | 0, hr => injection hr with hr; subst hr; rfl
      | 1, hr => injection hr with hr; subst hr; rfl
      | i + 2, hr => simp at hr
  have HA := toHid (all12 (some ⟨w.heap.size, 0, none⟩) 2 [livR1, livR2] (w.alloc (.cells cs 50)) (w.alloc (.cells cs 50)) hS (Below.refl _ _) (by simp) (by intro r hr; simp at hr; rcases hr with rfl | rfl <;> simp [Lim, livR1, livR2]))
  rw [liv_log] at HA
  have HB := toHid (show Below w.heap.size w (w.alloc (.cells cs 50)) from (Below.refl _ _).alloc (Nat.le_refl _) _)
  subst ho
  clear hS hx hcell
  go_enter Try.func10, Try.ntmps10
  go_wp2_with fail
  refine Calls.mono HA.out ?_
  rintro e w2 ⟨vt, vn, vd, rfl, hR, hb2⟩
  have h1 := hR.t
  have h2 := hR.d
  rw [liv_t] at h1
  rw [liv_d] at h2 ⊢
  obtain ⟨ta, tc, rfl⟩ := ownsRow_shape2 h1
  obtain ⟨na, nc, rfl⟩ := ownsRow_shape2 hR.n
  obtain ⟨da, dc, rfl⟩ := ownsRow_shape2 h2
  have HB2 := toHid (HB.out.trans (hb2.mono HB.out.size))
  obtain ⟨dg, rfl, hd0, hd1⟩ : ∃ dg, da = some ⟨dg, 0, none⟩ ∧ w2.cell? ⟨dg, 0, none⟩ = some (.int .i64 3) ∧ w2.cell? ⟨dg, 1, none⟩ = some (.int .u64 16) := by
    rcases h2.2 with ⟨h3, h4⟩ | ⟨g, cap, cur, e, _⟩
    · simp at h4
    · injection e with e1
      subst e1
      refine ⟨g, rfl, ?_, ?_⟩
      · have := h2.cells (g := g) rfl 0 (.int .i64 3) rfl
        rwa [addr_add] at this
      · have := h2.cells (g := g) rfl 1 (.int .u64 16) rfl
        rwa [addr_add] at this
  have hdl := World.block_lt_of_cell? _ _ hd0
  have HBx := fun o => (HB2.out.alloc HB2.out.size o)
  have HBX := toHid HBx
  have g0 : ((argE true : Int) == 0) = true := by decide
  clear h1 h2 hR hb2 HA HBx
  go_wp2
  go_ret
  exact ⟨rfl, HBX.out _⟩
end Go.Proofs.Yticnkppnpfgceaa.Mg
