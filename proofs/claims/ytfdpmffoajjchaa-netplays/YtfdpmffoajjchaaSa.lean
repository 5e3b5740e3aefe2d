/-
  The document's Same and SameAll, of messages that are the same.
-/
import Derived.Test.YtfdpmffoajjchaaMg
import Derived.Laws.StructEq
namespace Go.Proofs.Ytfdpmffoajjchaa
open Go.RowKit Go.Conc

theorem txt_toList (l : List UInt8) : (txt l).toList = l := by simp [txt]
theorem Try.held71 : Try.prog.stoodInHeld 71 = false := by kernel_rfl
theorem Try.struct71 : Try.prog.underlying 71 = some (.struct (Try.prog.fieldsOf 71)) := by kernel_rfl
theorem Try.guard71 : Try.prog.eqGuardType Try.prog.depth 71 = false := by kernel_rfl

theorem wa_eq (a a' : ByteArray) (b b' : Int) (w : World) :
    (Op.equalIn 10000 71 (.agg #[.string a, .int .i64 b]) (.agg #[.string a', .int .i64 b'])).run Try.prog w = .ok ((a.toList == a'.toList) && (b == b')) w := by
  rw [show (10000 : Nat) = 9999 + 1 from rfl, run_equalIn_struct w 9999 71 _ _ Try.struct71 Try.held71]
  simp [Program.fieldsOf, Try.underlying71, Op.eqFields, go_sem]
  repeat' split
  all_goals simp_all
theorem wa_same (a : ByteArray) (b : Int) (w : World) : (Op.equalIn 10000 71 (.agg #[.string a, .int .i64 b]) (.agg #[.string a, .int .i64 b])).run Try.prog w = .ok true w := by
  rw [wa_eq]
  simp

theorem lt_of_block {w : World} {b : Nat} {o : Obj} (h : w.heap[b]? = some o) : b < w.heap.size := (Array.getElem?_eq_some_iff.1 h).1
theorem two_kept {w w' : World} {A B : Obj} (hb : Below (w.heap.size + 2) ((w.alloc A).alloc B) w') : w'.heap[w.heap.size]? = some A ∧ w'.heap[w.heap.size + 1]? = some B := by
  refine ⟨?_, ?_⟩
  · rw [hb.block _ (by omega)]
    exact heap_alloc2_old _ _ _
  · rw [hb.block _ (by omega)]
    exact heap_alloc2_new _ _ _
theorem box2_below {w W : World} {A B : Obj} (h : Below (w.heap.size + 2) ((w.alloc A).alloc B) W) : Below w.heap.size w W :=
  (((Below.refl _ _).alloc (Nat.le_refl _) _).alloc (by simp) _).trans (h.mono (by omega))
theorem below_drewN' {B : Nat} {w w' : World} (h : Below B w w') (n : Nat) : Below B w (w'.drewN n) := ⟨h.os, h.tape, h.output, h.size, h.block⟩

theorem Rd.want {w : World} {a : Option Addr} {l : List (List UInt8 × Int)} (h : Rd w a (wsC l)) (i : Nat) (hi : i < l.length) : ∃ b o, a = some ⟨b, o, none⟩ ∧ b < w.heap.size ∧ w.cell? ⟨b, o + i * 2, none⟩ = some (.string (txt l[i].1)) ∧ w.cell? ⟨b, o + i * 2 + 1, none⟩ = some (.int .i64 l[i].2) := by
  obtain ⟨b, o, rfl, hb⟩ := h.there (by rw [wsC_length]; omega)
  have e := fun k hk => flat_get waC 2 (fun _ => rfl) l i k hk
  simp only [List.getElem?_eq_getElem hi, Option.bind_some] at e
  have h0 := (h.cells _ rfl _ _ (e 0 (by omega))).2
  have h1 := (h.cells _ rfl _ _ (e 1 (by omega))).2
  exact ⟨b, o, rfl, hb, by simpa using h0, by simpa [Nat.add_assoc] using h1⟩
theorem Rd.int {w : World} {a : Option Addr} {l : List Int} (h : Rd w a (psC l)) (i : Nat) (hi : i < l.length) : ∃ b o, a = some ⟨b, o, none⟩ ∧ b < w.heap.size ∧ w.cell? ⟨b, o + i, none⟩ = some (.int .i64 l[i]) := by
  obtain ⟨b, o, rfl, hb⟩ := h.there (by rw [psC_length]; omega)
  have h0 := (h.cells _ rfl i (.int .i64 l[i]) (by simp [psC, hi])).2
  exact ⟨b, o, rfl, hb, h0⟩

set_option maxRecDepth 20000 in
set_option maxHeartbeats 4000000 in
theorem same11 (m : Ms) (p q : Pl) (w : World) (hp : MI w m p) (hq : MI w m q) (hL : Lim m) :
    Calls Try.prog 11 #[msV m p, msV m q] w fun e w' => e = .returned (.bool true) ∧ Below w.heap.size w w' := by
  obtain ⟨hl1, hl2⟩ := hL
  have HP := toHid hp
  have HQ := toHid hq
  have HK : Hid (Below (w.heap.size + 2) ((w.alloc (.cells (msC m p) 31)).alloc (.cells (msC m q) 31)) ((w.alloc (.cells (msC m p) 31)).alloc (.cells (msC m q) 31))) := Below.refl _ _
  clear hp hq
  have hws := wa_same
  have hgd := Try.guard71
  obtain ⟨wa, wc, pa, pc⟩ := p
  obtain ⟨wa', wc', pa', pc'⟩ := q
  go_enter Try.func11, Try.ntmps11
  go_wp2_with fail
  go_loopw [5] (fun i W => ∃ k : Nat, k ≤ m.wants.length ∧ i = .int .i64 k ∧ Below (w.heap.size + 2) ((w.alloc (.cells (msC m ⟨wa, wc, pa, pc⟩) 31)).alloc (.cells (msC m ⟨wa', wc', pa', pc'⟩) 31)) W) (fun i _ => m.wants.length - (intOf i).toNat)
  case atStart => exact ⟨0, Nat.zero_le _, rfl, HK.out⟩
  case round =>
    obtain ⟨k, hk, rfl, hKr⟩ := hrel
    clear HK
    have HK := toHid hKr
    clear hKr
    obtain ⟨ka, kb⟩ := two_kept HK.out
    obtain ⟨x0, x1, x2, x3, x4, x5, x6, x7, x8, _⟩ := cell9 ka
    obtain ⟨y0, y1, y2, y3, y4, y5, y6, y7, y8, _⟩ := cell9 kb
    have hza := lt_of_block ka
    have hzb := lt_of_block kb
    clear ka kb
    by_cases hlt : k < m.wants.length
    · obtain ⟨ba, oa, hea, hba, c0, c1⟩ := (HP.out.rw_.below (box2_below HK.out)).want k hlt
      obtain ⟨bb, ob, heb, hbb, d0, d1⟩ := (HQ.out.rw_.below (box2_below HK.out)).want k hlt
      simp only at hea heb
      subst hea
      subst heb
      have e1 : (k : Int) < (m.wants.length : Int) := by omega
      have e2 : 0 ≤ (k : Int) := by omega
      generalize m.wants[k].1 = tx at c0 d0
      generalize m.wants[k].2 = tn at c1 d1
      go_wp2_with fail
      go_quiet (fail)
      go_wp2_with fail
      go_roundw
      case rel => exact ⟨k + 1, by omega, by go_num, below_drewN' HK.out _⟩
      case measure => simp [intOf]; omega
    · have e1 : ¬ (k : Int) < (m.wants.length : Int) := by omega
      clear hlt hk
      go_wp2_with fail
      clear x0 x1 x2 x3 x4 x5 x6 x7 x8 y0 y1 y2 y3 y4 y5 y6 y7 y8
      go_loopw [6] (fun i W => ∃ k : Nat, k ≤ m.pages.length ∧ i = .int .i64 k ∧ Below (w.heap.size + 2) ((w.alloc (.cells (msC m ⟨wa, wc, pa, pc⟩) 31)).alloc (.cells (msC m ⟨wa', wc', pa', pc'⟩) 31)) W) (fun i _ => m.pages.length - (intOf i).toNat)
      case atStart => exact ⟨0, Nat.zero_le _, rfl, HK.out⟩
      case round =>
        obtain ⟨k, hk, rfl, hKr⟩ := hrel
        clear HK
        have HK := toHid hKr
        clear hKr
        obtain ⟨ka, kb⟩ := two_kept HK.out
        obtain ⟨x0, x1, x2, x3, x4, x5, x6, x7, x8, _⟩ := cell9 ka
        obtain ⟨y0, y1, y2, y3, y4, y5, y6, y7, y8, _⟩ := cell9 kb
        have hza := lt_of_block ka
        have hzb := lt_of_block kb
        clear ka kb
        by_cases hlt : k < m.pages.length
        · obtain ⟨ba, oa, hea, hba, c0⟩ := (HP.out.rp.below (box2_below HK.out)).int k hlt
          obtain ⟨bb, ob, heb, hbb, d0⟩ := (HQ.out.rp.below (box2_below HK.out)).int k hlt
          simp only at hea heb
          subst hea
          subst heb
          have e1 : (k : Int) < (m.pages.length : Int) := by omega
          have e2 : 0 ≤ (k : Int) := by omega
          generalize m.pages[k] = tn at c0 d0
          go_wp2_with fail
          go_quiet (fail)
          go_wp2_with fail
          go_roundw
          case rel => exact ⟨k + 1, by omega, by go_num, below_drewN' HK.out _⟩
          case measure => simp [intOf]; omega
        · have e1 : ¬ (k : Int) < (m.pages.length : Int) := by omega
          go_wp2_with fail
          go_ret
          exact ⟨rfl, box2_below HK.out⟩

end Go.Proofs.Ytfdpmffoajjchaa
