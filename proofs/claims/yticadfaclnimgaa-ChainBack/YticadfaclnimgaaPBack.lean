/-
  ChainBack returns true for every number, list of changes and list of numbers that the row reads, and leaves what came in as it was. No condition of ours.
-/
import Derived.Test.YticadfaclnimgaaBm
import Derived.Great.BuildSlice
import Derived.Deep.DeepCutAuto
import Derived.Deep.RegionWith
import Derived.Deep.RegionHeld3
import Derived.Laws.Tables
import Derived.Test.YticadfaclnimgaaRows
import Derived.Test.YticadfaclnimgaaOb
namespace Go.Proofs.Yticadfaclnimgaa
open Go.RowKit Go.Maps

theorem Try.info34b : (Try.prog.info? 34).map (fun i => (i.zero, i.size, i.bytes)) = some (some (.agg #[.int .i64 0, .int .u64 0, .int .i64 0, .int .u64 0, .int .u64 0, .int .i64 0, .int .i64 0, .string ⟨#[]⟩, .string ⟨#[]⟩, .string ⟨#[]⟩, .slice none 0 0, .slice none 0 0]), 12, 152) := by kernel_rfl

set_option maxRecDepth 20000 in
theorem fill34 (v0 v1 v2 v3 v4 v5 v6 v7 v8 v9 v10 v11 : Value) : Instr.fill (fun i => some (i * 12, 12)) ((Array.range (1 * 12)).map ((Value.agg #[.int .i64 0, .int .u64 0, .int .i64 0, .int .u64 0, .int .u64 0, .int .i64 0, .int .i64 0, .string ⟨#[]⟩, .string ⟨#[]⟩, .string ⟨#[]⟩, .slice none 0 0, .slice none 0 0]).cells[· % (Value.agg #[.int .i64 0, .int .u64 0, .int .i64 0, .int .u64 0, .int .u64 0, .int .i64 0, .int .i64 0, .string ⟨#[]⟩, .string ⟨#[]⟩, .string ⟨#[]⟩, .slice none 0 0, .slice none 0 0]).cells.size]!)) [(0, .agg #[v0, v1, v2, v3, v4, v5, v6, v7, v8, v9, v10, v11])] = some #[v0, v1, v2, v3, v4, v5, v6, v7, v8, v9, v10, v11] := by
  kernel_rfl

theorem build34 (v0 v1 v2 v3 v4 v5 v6 v7 v8 v9 v10 v11 : Value) (w : World) : (Instr.buildSlice 53 1 #[(0, .agg #[v0, v1, v2, v3, v4, v5, v6, v7, v8, v9, v10, v11])]).run Try.prog w = .ok (.slice (some ⟨w.heap.size, 0, none⟩) 1 1) (w.alloc (.cells #[v0, v1, v2, v3, v4, v5, v6, v7, v8, v9, v10, v11] 34)) := by
  obtain ⟨i0, hi0, hz0, hz1, hz2⟩ := info_parts Try.info34b
  refine run_buildSlice w 53 34 1 _ _ i0 _ Try.underlying53 hi0 hz0 (by rw [hz1]; decide) (by rw [hz1]; decide) ?_
  rw [hz1]
  exact fill34 v0 v1 v2 v3 v4 v5 v6 v7 v8 v9 v10 v11
theorem wpList_build34 {ops : Array Oper} {rest : List Oper} {o : Oper} {a : Act} {w : World} {Q : Exit → Act → World → Prop} (hg : o.guard = none) (x : Operand) (ho : o.op = .buildSlice 53 1 #[(0, x)]) (r : Rc) (hx : a.eval x = recV r none 0 none 0)
    (h : wpList Try.prog ops Q rest (a.put o.dst (.slice (some ⟨w.heap.size, 0, none⟩) 1 1)) (w.alloc (.cells (recC r none 0 none 0) 34))) : wpList Try.prog ops Q (o :: rest) a w := by
  obtain ⟨i0, hi0, hz0, hz1, hz2⟩ := info_parts Try.info34b
  refine wpList_buildSlice hg 53 34 1 #[(0, x)] ho (recC r none 0 none 0) i0 _ Try.underlying53 hi0 hz0 (by rw [hz1]; decide) (by rw [hz1]; decide) ?_ h
  rw [hz1]
  rw [show (Array.map (fun p : Nat × Operand => (p.1, a.eval p.2)) #[(0, x)]).toList = [(0, recV r none 0 none 0)] from by simp [hx]]
  exact fill34 _ _ _ _ _ _ _ _ _ _ _ _
end Go.Proofs.Yticadfaclnimgaa

namespace Go.Proofs.Yticadfaclnimgaa
open Go.RowKit Go.Maps

theorem Try.info34 : (Try.prog.info? 34).map (fun i => (i.zero, i.size, i.bytes)) = some (some (.agg #[.int .i64 0, .int .u64 0, .int .i64 0, .int .u64 0, .int .u64 0, .int .i64 0, .int .i64 0, .string ⟨#[]⟩, .string ⟨#[]⟩, .string ⟨#[]⟩, .slice none 0 0, .slice none 0 0]), 12, 152) := by kernel_rfl

abbrev zeroR : Array Value := #[.int .i64 0, .int .u64 0, .int .i64 0, .int .u64 0, .int .u64 0, .int .i64 0, .int .i64 0, .string ⟨#[]⟩, .string ⟨#[]⟩, .string ⟨#[]⟩, .slice none 0 0, .slice none 0 0]
theorem cell12F {w : World} {q t : Nat} {v0 v1 v2 v3 v4 v5 v6 v7 v8 v9 v10 v11 : Value} (h : w.heap[q]? = some (.cells #[v0, v1, v2, v3, v4, v5, v6, v7, v8, v9, v10, v11] t)) :
    w.cell? ⟨q, 0, none⟩ = some v0 ∧ w.cell? ⟨q, 1, none⟩ = some v1 ∧ w.cell? ⟨q, 2, none⟩ = some v2 ∧ w.cell? ⟨q, 3, none⟩ = some v3 ∧ w.cell? ⟨q, 4, none⟩ = some v4 ∧ w.cell? ⟨q, 5, none⟩ = some v5 ∧
    w.cell? ⟨q, 6, none⟩ = some v6 ∧ w.cell? ⟨q, 7, none⟩ = some v7 ∧ w.cell? ⟨q, 8, none⟩ = some v8 ∧ w.cell? ⟨q, 9, none⟩ = some v9 ∧ w.cell? ⟨q, 10, none⟩ = some v10 ∧ w.cell? ⟨q, 11, none⟩ = some v11 ∧ (∀ i, w.frozen? ⟨q, i, none⟩ = false) := by
  simp [World.cell?, World.frozen?, h]
theorem heap_setRow {w : World} {g : Nat} {old cs : Array Value} {t : TypeId} (h : w.heap[g]? = some (.cells old t)) : (w.setRow g cs).heap[g]? = some (.cells cs t) := by
  simp only [World.setRow, Array.getElem?_modify, h]
  simp
theorem below_setRow {w0 w : World} {B g : Nat} (h : Below B w0 w) (hg : B ≤ g) (cs : Array Value) : Below B w0 (w.setRow g cs) := by
  refine ⟨h.os, h.tape, h.output, by have := h.size; simpa using this, fun i hi => ?_⟩
  rw [← h.block i hi]
  have hne : g ≠ i := by omega
  simp only [World.setRow, Array.getElem?_modify, hne, if_false]
theorem one34 (r : Rc) : ∀ u ∈ (recC r none 0 none 0).toList, u.oneCell' = true := by
  intro u hu
  simp at hu
  rcases hu with rfl | rfl | rfl | rfl | rfl | rfl | rfl | rfl | rfl | rfl | rfl | rfl <;> rfl
theorem app34 {ops : Array Oper} {rest : List Oper} {o : Oper} {a : Act} {Q : Exit → Act → World → Prop} (hgd : o.guard = none) (ho : o.op = .call { callee := .builtin .append, args := #[.tmp 89, .tmp 91], argTypes := #[53, 53] })
    (r : Rc) (w8 : World) (B n : Nat) (v : Value) (xs : List Value) (hs : a.eval (.tmp 89) = v) (hx : a.eval (.tmp 91) = .slice (some ⟨w8.heap.size, 0, none⟩) 1 1) (hown : (w8.alloc (.cells (recC r none 0 none 0) 34)).ownsRow B 34 12 v n xs) (hn : n ≤ 1000000) (hB : B ≤ w8.heap.size)
    (h : ∀ v' w', w'.ownsRow B 34 12 v' (n + 1) (xs ++ (recC r none 0 none 0).toList) → (w8.alloc (.cells (recC r none 0 none 0) 34)).grownBy w' v.ownBlock → wpList Try.prog ops Q rest (a.put o.dst v') w') : wpList Try.prog ops Q (o :: rest) a (w8.alloc (.cells (recC r none 0 none 0) 34)) := by
  obtain ⟨i0, hi0, hz0, hz1, hz2⟩ := info_parts Try.info34
  exact wpList_append_own _ hgd (.tmp 89) (.tmp 91) 53 ho B 34 i0 _ 12 152 Try.underlying53 hi0 hz0 hz1 hz2 rfl (by decide) v n xs hs hown ⟨w8.heap.size, 0, none⟩ 1 1 (recC r none 0 none 0).toList hx rfl (cell_any_at _ _ _) (one34 r) (by unfold maxLen; omega) (by omega) (by simp; omega) fun v' w' h1 h2 _ => h v' w' h1 h2

theorem all34 (r : Rc) : (recC r none 0 none 0).all (·.oneCell') = true := Array.all_eq_true_iff_forall_mem.2 fun v hv => one34 r v (by simpa using hv)
/-- What the first loop holds. -/
def FwdL (w : World) (id : Int) (W : World) (R : List Rc) (v : Value) (M : Nat) : Prop := ∃ σ, Tb W w.heap.size (w.heap.size + 1) w.heap.size [.int .i64 id] M σ ∧ Below w.heap.size w W ∧ Hist id R ∧ σ.f id = some (xFwd R) ∧ W.ownsRow w.heap.size 34 12 v R.length (recsC R)
/-- What the second loop holds. -/
def BwdL (w : World) (id : Int) (W : World) (R : List Rc) (v : Value) (m : Nat) : Prop := ∃ σ, Tb W w.heap.size (w.heap.size + 1) w.heap.size [.int .i64 id] (8000 + (R.length - m) * 200) σ ∧ Below w.heap.size w W ∧ Hist id R ∧ σ.f id = some (xBwd R m) ∧ W.ownsRow w.heap.size 34 12 v R.length (recsC R)

theorem fwd_app {w w8 w9 : World} {id : Int} {R : List Rc} {r : Rc} {v v9 : Value} {M : Nat} {σ : Sg} {o : Obj} (t8 : Tb w8 w.heap.size (w.heap.size + 1) w.heap.size [.int .i64 id] M σ) (hB : Below w.heap.size w w8) (hf : σ.f id = some (xFwd (R ++ [r]))) (hH : Hist id (R ++ [r])) (own8 : w8.ownsRow w.heap.size 34 12 v R.length (recsC R)) (o1 : w9.ownsRow w.heap.size 34 12 v9 (R.length + 1) (recsC R ++ (recC r none 0 none 0).toList)) (o2 : (w8.alloc o).grownBy w9 v.ownBlock) : FwdL w id w9 (R ++ [r]) v9 M := by
  have hT := t8.below ((Below.refl _ _).alloc (Nat.le_refl _) o)
  have own9 := own8.alloc o
  have ht := Turn.of_grown o2
  have hB2 := hB.alloc hB.size o
  refine ⟨σ, hT.keep ht fun k hk => ?_, hB2.trans (ht.below hB2.size fun i hi e => ?_), hH, hf, by rw [recsC_snoc, List.length_append]; exact o1⟩
  · obtain ⟨_, cur, h2⟩ := own_kind own9 hk.symm
    refine ⟨hT.other h2 (by decide) (by decide), fun e => ?_⟩
    have h3 := hT.tab
    rw [← e, h2] at h3
    injection h3 with h3
    injection h3 with h4 h5
    exact absurd h5 (by decide)
  · have := (own_blk own9 e.symm).1
    omega

set_option maxRecDepth 100000 in
set_option maxHeartbeats 8000000 in
theorem back_walk17 (w : World) (id : Int) (a : Option Addr) (l : List Ak.Ac) (c : Nat) (pa : Option Addr) (pl : List Int) (pc : Nat) (hid : Wt id) (hl : SlA w a l) (hm : l.length ≤ maxLen) (hp : SlI w pa pl) (_hpm : pl.length ≤ maxLen) : Calls Try.prog 4 #[.int .i64 id, .slice a l.length c, .slice pa pl.length pc] w fun e w' => e = .returned (.bool true) ∧ Below w.heap.size w w' := by
  unfold maxLen at hm _hpm
  have hnew := new8 [.int .i64 id] (by simp) w
  have HLv := toHid lives10
  have HO := toHid hl
  have HP := toHid hp
  have HId := toHid hid
  clear hl hp hid
  by_cases hr : 1 ≤ id ∧ id ≤ 1073741824
  · have HOp := toHid (show ∀ W, Tb W w.heap.size (w.heap.size + 1) w.heap.size [.int .i64 id] 0 sg0 → Below w.heap.size w W → Calls Try.prog 11 #[.pointer (some ⟨w.heap.size + 1, 0, none⟩), .int .i64 id] W fun e w' => e = .returned (.int .i64 0) ∧ FwdL w id w' [] (.slice none 0 0) 0 from fun W h hb => by
      refine (open11 (t := id) h (fun _ _ => by simp)).mono ?_
      rintro e w' ⟨rfl, σ, t, s, hf⟩
      have he : openE (sg0.f id) id = 0 := by unfold openE; rw [if_pos hr]; rfl
      refine ⟨by rw [he], σ, t, hb.trans (s.below h hb.size), fun j r h => by simp at h, ?_, ⟨rfl, .inl ⟨rfl, rfl⟩⟩⟩
      rw [hf]
      unfold openF
      rw [if_pos he]
      exact upd_same _ _ _)
    have hr1 : ¬ id < 1 := by omega
    have hr2 : ¬ 1073741824 < id := by omega
    obtain ⟨i0, hi0, hz0, hz1, hz2⟩ := info_parts Try.info34
    go_enter Try.func4, Try.ntmps4
    go_wp2_with (first
      | (go_at_call 8; refine hnew.mono ?_; rintro e w1 ⟨rfl, h1, b1⟩; have HT1 := toHid h1; have HB1 := toHid b1; clear h1 b1)
      | (go_at_call 11; refine Calls.mono (HOp.out _ HT1.out HB1.out) ?_; rintro e w2 ⟨rfl, hL⟩; have HL := toHid hL; clear hL))
    go_loopw [8, 9, 10, 11] (fun v la at' i W => ∃ (R : List Rc) (k A L : Nat), k ≤ 40 ∧ k ≤ l.length ∧ R.length ≤ k ∧ la = .int .u64 L ∧ at' = .int .i64 A ∧ i = .int .i64 k ∧ A = 16 * (R.length + 1) ∧ L = 16 * R.length ∧ FwdL w id W R v (k * 200)) (fun _ _ _ i _ => l.length - (intOf i).toNat)
    case atStart => exact ⟨[], 0, 16, 0, by omega, by omega, by simp, rfl, rfl, rfl, rfl, rfl, HL.out⟩
    case round =>
      obtain ⟨R, k, A, L, hk1, hk2, hk3, rfl, rfl, rfl, hA, hLq, hF⟩ := hrel
      obtain ⟨σ, hT, hB, hH, hx, hown⟩ := hF
      obtain ⟨va, vc, rfl⟩ := ownsRow_shape2 hown
      have HT := toHid hT
      have HB := toHid hB
      have HH := toHid hH
      have HX := toHid hx
      have HW := toHid hown
      have HA := toHid hA
      have HLq := toHid hLq
      have hAb : A ≤ 700 := by omega
      have hLb : L ≤ 700 := by omega
      clear hT hB hH hx hown hA hLq hnew HOp HT1 HB1 HL
      go_upto_region 8 with fail
      go_cut [46] (fun v wc => wc = wr ∧ ∃ cc : Bool, v = .bool cc ∧ (cc = true → k < l.length ∧ k < 40))
      case first =>
        by_cases hlt : k < l.length
        · have hlt' : ((k : Nat) : Int) < (l.length : Int) := by omega
          by_cases hlh : k < 40
          · have hlh' : ((k : Nat) : Int) < 40 := by omega
            go_wp2
            go_meet
            case rel => exact ⟨rfl, true, rfl, fun _ => ⟨hlt, hlh⟩⟩
          · have hlh' : ¬ ((k : Nat) : Int) < 40 := by omega
            go_wp2
            go_meet
            case rel => exact ⟨rfl, false, rfl, fun h => by cases h⟩
        · have hlt' : ¬ ((k : Nat) : Int) < (l.length : Int) := by omega
          go_wp2
          go_meet
          case rel => exact ⟨rfl, false, rfl, fun h => by cases h⟩
      case rest =>
        obtain ⟨hwc, cc, rfl, hcc⟩ := hcut
        obtain rfl := hwc.symm
        cases cc with
        | true =>
          obtain ⟨hlt, hlh⟩ := hcc rfl
          clear hcc
          have hlt' : ((k : Nat) : Int) < (l.length : Int) := by omega
          have hlh' : ((k : Nat) : Int) < 40 := by omega
          obtain ⟨b, o, rfl, hbl, a0, a1, a2, a3⟩ := (HO.out.on HB.out).at k hlt
          obtain ⟨q, hq⟩ : ∃ q, l[k] = q := ⟨_, rfl⟩
          rw [hq] at a0 a1 a2 a3
          clear hq
          go_upto_region 11 with fail
          have hbA : Below wr.heap.size wr (wr.alloc (.cells #[.int .i64 1, .int .u64 (A : Int), .int .i64 id, .int .u64 (L : Int), .int .u64 0, .int .i64 0, .int .i64 q.kind, .string (txt q.key), .string (txt q.old), .string (txt q.new), .slice none 0 0, .slice none 0 0] 34)) := (Below.refl _ _).alloc (Nat.le_refl _) _
          have HT5 := toHid (HT.out.below hbA)
          have HB5 := toHid (HB.out.trans (hbA.mono HB.out.size))
          have HW5 := toHid (show (wr.alloc (.cells #[.int .i64 1, .int .u64 (A : Int), .int .i64 id, .int .u64 (L : Int), .int .u64 0, .int .i64 0, .int .i64 q.kind, .string (txt q.key), .string (txt q.old), .string (txt q.new), .slice none 0 0, .slice none 0 0] 34)).ownsRow w.heap.size 34 12 (.slice va R.length vc) R.length (recsC R) from own_at HW.out fun g hg => hbA.block g (own_blk HW.out hg).2)
          have hW5 : (wr.alloc (.cells #[.int .i64 1, .int .u64 (A : Int), .int .i64 id, .int .u64 (L : Int), .int .u64 0, .int .i64 0, .int .i64 q.kind, .string (txt q.key), .string (txt q.old), .string (txt q.new), .slice none 0 0, .slice none 0 0] 34)).heap[wr.heap.size]? = some (.cells (recC ⟨1, A, id, L, 0, 0, q.kind, q.key, q.old, q.new, [], []⟩ none 0 none 0) 34) := heap_alloc_new wr _
          have HNe := toHid (show ∀ g, (Value.slice va R.length vc).ownBlock = some g → g ≠ wr.heap.size from fun g hg => by have := (own_blk HW.out hg).2; omega)
          have hg12 : w.heap.size ≤ wr.heap.size := HB.out.size
          have HPn := toHid (HP.out.below HB5.out)
          clear hbA HT HB HW a0 a1 a2 a3 hbl HO HP
          generalize wr.heap.size = g12 at *
          generalize wr.alloc (.cells #[.int .i64 1, .int .u64 (A : Int), .int .i64 id, .int .u64 (L : Int), .int .u64 0, .int .i64 0, .int .i64 q.kind, .string (txt q.key), .string (txt q.old), .string (txt q.new), .slice none 0 0, .slice none 0 0] 34) = W5 at *
          go_cut [75] (fun v wc => wc = W5 ∧ ∃ c : Bool, v = .bool c ∧ (c = true → ∃ p : Int, k < pl.length ∧ W5.ownsRow 0 0 0 (.slice none 0 0) 0 [] ∧ ∃ pg po, pa = some ⟨pg, po, none⟩ ∧ W5.cell? ⟨pg, po + k, none⟩ = some (.int .i64 p)))
          case first =>
            by_cases p1 : k < pl.length
            · have p1' : ((k : Nat) : Int) < (pl.length : Int) := by omega
              obtain ⟨pg, po, rfl, hpc, hpl⟩ := HPn.out.at k (.int .i64 pl[k]) (i64s_at pl k p1)
              obtain ⟨p, hp⟩ : ∃ p, pl[k] = p := ⟨_, rfl⟩
              rw [hp] at hpc
              clear hp
              by_cases p2 : 0 ≤ p
              · by_cases p3 : p < 16
                · go_wp2
                  go_meet
                  case rel => exact ⟨rfl, true, rfl, fun _ => ⟨p, p1, ⟨rfl, .inl ⟨rfl, rfl⟩⟩, pg, po, rfl, hpc⟩⟩
                · go_wp2
                  go_meet
                  case rel => exact ⟨rfl, false, rfl, fun h => by cases h⟩
              · go_wp2
                go_meet
                case rel => exact ⟨rfl, false, rfl, fun h => by cases h⟩
            · have p1' : ¬ ((k : Nat) : Int) < (pl.length : Int) := by omega
              go_wp2
              go_meet
              case rel => exact ⟨rfl, false, rfl, fun h => by cases h⟩
          case rest =>
            obtain ⟨rfl, cc, rfl, hcc⟩ := hcut
            cases cc with
            | false =>
              clear hcc
              have HX6 := toHid hW5
              have HT6 := HT5
              have HB6 := HB5
              have HW6 := HW5
              clear hW5 HT5 HB5 HW5
              obtain ⟨W6, hW6⟩ : ∃ W6, W6 = wc := ⟨_, rfl⟩
              rw [← hW6] at HX6 HT6 HB6 HW6 ⊢
              clear hW6
              as_aux_lemma =>
                obtain ⟨r, hr0⟩ : ∃ r : Rc, r = ⟨1, A, id, L, 0, 0, q.kind, q.key, q.old, q.new, [], []⟩ := ⟨_, rfl⟩
                have HRq := toHid (show r.kind = 1 ∧ r.lsn = A ∧ r.txn = id ∧ r.prev = L ∧ r.txns = [] ∧ r.dirty = [] from by rw [hr0]; exact ⟨rfl, rfl, rfl, rfl, rfl, rfl⟩)
                have hX6 : W6.heap[g12]? = some (.cells (recC r none 0 none 0) 34) := by rw [hr0]; exact HX6.out
                have hb0 := box_of hX6
                have hlg := light9 (w := W6) (r := r) (ta := none) (tc := 0) (da := none) (dc := 0) (by rw [HRq.out.2.2.2.2.1]; exact Nat.zero_le _) (by rw [HRq.out.2.2.2.2.2]; exact Nat.zero_le _)
                clear hr0 HX6
                obtain ⟨f0, f1, f2, f3, f4, f5, f6, f7, f8, f9, f10, f11⟩ := hb0
                go_wp2_with fail
                refine Calls.mono hlg ?_
                rintro e w7 ⟨lb, rfl, hb7⟩
                have HB7 := toHid (HB6.out.trans (hb7.mono HB6.out.size))
                clear f0 f1 f2 f3 f4 f5 f6 f7 f8 f9 f10 f11 hlg
                cases lb with
                | false =>
                  go_wp2_with (go_at_call 10; refine Calls.mono (HLv.out _) ?_; rintro e w8 ⟨rfl, hb8⟩; have HB8 := toHid hb8; clear hb8)
                  go_ret
                  exact ⟨rfl, HB7.out.trans (HB8.out.mono HB7.out.size)⟩
                | true =>
                  have HT7 := toHid (HT6.out.below hb7)
                  have HW7 := toHid (own_at HW6.out fun g hg => hb7.block g (own_blk HW6.out hg).2)
                  have hX7 := (hb7.block _ (some_lt hX6)).trans hX6
                  clear HT6 HB6 HW6 hX6 hb7
                  obtain ⟨f0, f1, f2, f3, f4, f5, f6, f7, f8, f9, f10, f11⟩ := box_of hX7
                  have hN := note16 (r := r) (tc := 0) (dc := 0) HT7.out (by omega) (ri_nil HRq.out.2.2.2.2.1 HRq.out.2.2.2.2.2) (by rw [HRq.out.2.2.1]; exact HId.out)
                  have HKp := toHid (show ∀ w8 f, Left w7 w.heap.size (w.heap.size + 1) w.heap.size [.int .i64 id] (k * 200 + 200) σ w8 f → Kp w7 w8 ∧ Below w.heap.size w w8 ∧ w8.ownsRow w.heap.size 34 12 (.slice va R.length vc) R.length (recsC R) from fun w8 f hL => by
                    have hk := Kp.left HT7.out hL
                    refine ⟨hk, HB7.out.trans (hL.below HT7.out), own_at HW7.out fun g hg => ?_⟩
                    obtain ⟨_, cur, h2⟩ := own_kind HW7.out hg
                    rw [h2]
                    exact hk.2 _ _ _ _ h2 (by decide) (by decide))
                  cases hmay : mayB r with
                  | false =>
                    obtain ⟨n1, n2⟩ := note_fail (f := σ.f) hmay
                    rw [n1, n2] at hN
                    have HN := toHid hN
                    clear hN n1 n2 hmay
                    go_wp2_with (go_at_call 16; refine Calls.mono HN.out ?_; rintro e w8 ⟨rfl, hL⟩; have HKq := toHid (HKp.out _ _ hL); have HL8 := toHid hL; clear hL)
                    go_roundw
                    case rel =>
                      obtain ⟨σ8, t8, s8, f8⟩ := HL8.out
                      exact ⟨R, k + 1, A, L, by omega, by omega, by omega, rfl, rfl, by go_num, HA.out, HLq.out, σ8, t8.mono (by omega), HKq.out.2.1, HH.out, by rw [f8]; exact HX.out, HKq.out.2.2⟩
                    case measure => simp [intOf]; omega
                  | true =>
                    obtain ⟨n1, n2⟩ := note_fwd (f := σ.f) (R := R) HX.out HRq.out.1 (by rw [HRq.out.2.1]; exact HA.out) HRq.out.2.2.1 (by rw [HRq.out.2.2.2.1]; exact HLq.out) hmay
                    rw [n1] at hN
                    have HN := toHid hN
                    have HN2 := toHid n2
                    have HHi := toHid (HH.out.snoc (r := r) ⟨HRq.out.1, by rw [HRq.out.2.1]; exact HA.out, HRq.out.2.2.1, by rw [HRq.out.2.2.2.1]; exact HLq.out, hmay, HRq.out.2.2.2.2.1, HRq.out.2.2.2.2.2⟩)
                    clear hN n1 n2 hmay
                    go_upto_region 16 with (go_at_call 16; refine Calls.mono HN.out ?_; rintro e w8 ⟨rfl, hL⟩; have HKq := toHid (HKp.out _ _ hL); have HL8 := toHid hL; clear hL)
                    have hX8 := HKq.out.1.2 _ _ _ _ hX7 (by decide) (by decide)
                    clear f0 f1 f2 f3 f4 f5 f6 f7 f8 f9 f10 f11
                    obtain ⟨f0, f1, f2, f3, f4, f5, f6, f7, f8, f9, f10, f11⟩ := box_of hX8
                    have HG := toHid (HKq.out.2.2.alloc (.cells (recC r none 0 none 0) 34))
                    have hs8 := HKq.out.2.1.size
                    have HAp := toHid (show ∀ v9 w9, w9.ownsRow w.heap.size 34 12 v9 (R.length + 1) (recsC R ++ (recC r none 0 none 0).toList) → (w8.alloc (.cells (recC r none 0 none 0) 34)).grownBy w9 (Value.slice va R.length vc).ownBlock → w9.cell? ⟨g12, 1, none⟩ = some (.int .u64 (r.lsn : Int)) ∧ FwdL w id w9 (R ++ [r]) v9 (k * 200 + 200) from fun v9 w9 o1 o2 => by
                      have h1 : w9.heap[g12]? = some (.cells (recC r none 0 none 0) 34) := by
                        rw [o2.block g12 (by have := some_lt hX8; simp; omega) (fun e => HNe.out g12 e.symm rfl), heap_alloc_old (some_lt hX8)]
                        exact hX8
                      obtain ⟨σ8, t8, s8, f8⟩ := HL8.out
                      exact ⟨(box_of h1).2.1, fwd_app t8 HKq.out.2.1 (by rw [f8]; exact HN2.out) HHi.out HKq.out.2.2 o1 o2⟩)
                    have q1 : R.length ≤ 1000000 := by omega
                    clear HKp HN HN2 HHi HT7 HW7 hX7 HH HX hX8 HL8 HKq
                    go_wp2_with (first | (refine wpList_build34 rfl (.tmp 90) rfl r rfl ?_) | (at_builtin; go_must (refine app34 rfl rfl r w8 w.heap.size R.length _ _ rfl rfl HG.out q1 hs8 ?_); intro v9 w9 o1 o2; obtain ⟨hX9, hF9⟩ := HAp.out v9 w9 o1 o2; have HF9 := toHid hF9; obtain ⟨ay, cy, rfl⟩ := ownsRow_shape2 o1; clear o1 o2 hF9))
                    go_roundw
                    case rel => exact ⟨R ++ [r], k + 1, A + 16, A, by omega, by omega, by simp; omega, by rw [HRq.out.2.1], by go_num, by go_num, by rw [HA.out]; simp; omega, by rw [HA.out]; simp, by have := HF9.out; rw [show (k + 1) * 200 = k * 200 + 200 by omega]; exact this⟩
                    case measure => simp [intOf]; omega
            | true =>
              obtain ⟨p, p1, _, pg, po, rfl, hpc⟩ := hcc rfl
              clear hcc
              have p1' : ((k : Nat) : Int) < (pl.length : Int) := by omega
              have hbx := box_of hW5
              obtain ⟨_, _, _, _, _, f5, _⟩ := hbx
              have fz5 : wc.frozen? ⟨g12, 5, none⟩ = false := by simp [World.frozen?, hW5]
              have HX6 := toHid (show (wc.setCell ⟨g12, 5, none⟩ (.int .i64 p)).heap[g12]? = some (.cells (recC ⟨1, A, id, L, 0, p, q.kind, q.key, q.old, q.new, [], []⟩ none 0 none 0) 34) from set5 _ hW5)
              have HTn := toHid (Turn.setCell wc ⟨g12, 5, none⟩ (.int .i64 p))
              have HT6 := toHid (HT5.out.keep HTn.out (fun i hi => by
                have hi : i = g12 := hi
                subst hi
                refine ⟨HT5.out.other hW5 (by decide) (by decide), fun e => ?_⟩
                have h3 := HT5.out.tab
                rw [← e, hW5] at h3
                injection h3 with h3
                injection h3 with h4 h5
                exact absurd h5 (by decide)))
              have HB6 := toHid (HB5.out.setCell (show w.heap.size ≤ (⟨g12, 5, none⟩ : Addr).block from hg12) (.int .i64 p))
              have HW6 := toHid (own_at HW5.out fun g hg => HTn.out.block g (own_blk HW5.out hg).2 (HNe.out g hg))
              clear HT5 HB5 HW5 hW5 HTn
              go_upto_region 13 with fail
              generalize wc.setCell ⟨g12, 5, none⟩ (.int .i64 p) = W6 at *
              clear f5 fz5 hpc
              as_aux_lemma =>
                obtain ⟨r, hr0⟩ : ∃ r : Rc, r = ⟨1, A, id, L, 0, p, q.kind, q.key, q.old, q.new, [], []⟩ := ⟨_, rfl⟩
                have HRq := toHid (show r.kind = 1 ∧ r.lsn = A ∧ r.txn = id ∧ r.prev = L ∧ r.txns = [] ∧ r.dirty = [] from by rw [hr0]; exact ⟨rfl, rfl, rfl, rfl, rfl, rfl⟩)
                have hX6 : W6.heap[g12]? = some (.cells (recC r none 0 none 0) 34) := by rw [hr0]; exact HX6.out
                have hb0 := box_of hX6
                have hlg := light9 (w := W6) (r := r) (ta := none) (tc := 0) (da := none) (dc := 0) (by rw [HRq.out.2.2.2.2.1]; exact Nat.zero_le _) (by rw [HRq.out.2.2.2.2.2]; exact Nat.zero_le _)
                clear hr0 HX6
                obtain ⟨f0, f1, f2, f3, f4, f5, f6, f7, f8, f9, f10, f11⟩ := hb0
                go_wp2_with fail
                refine Calls.mono hlg ?_
                rintro e w7 ⟨lb, rfl, hb7⟩
                have HB7 := toHid (HB6.out.trans (hb7.mono HB6.out.size))
                clear f0 f1 f2 f3 f4 f5 f6 f7 f8 f9 f10 f11 hlg
                cases lb with
                | false =>
                  go_wp2_with (go_at_call 10; refine Calls.mono (HLv.out _) ?_; rintro e w8 ⟨rfl, hb8⟩; have HB8 := toHid hb8; clear hb8)
                  go_ret
                  exact ⟨rfl, HB7.out.trans (HB8.out.mono HB7.out.size)⟩
                | true =>
                  have HT7 := toHid (HT6.out.below hb7)
                  have HW7 := toHid (own_at HW6.out fun g hg => hb7.block g (own_blk HW6.out hg).2)
                  have hX7 := (hb7.block _ (some_lt hX6)).trans hX6
                  clear HT6 HB6 HW6 hX6 hb7
                  obtain ⟨f0, f1, f2, f3, f4, f5, f6, f7, f8, f9, f10, f11⟩ := box_of hX7
                  have hN := note16 (r := r) (tc := 0) (dc := 0) HT7.out (by omega) (ri_nil HRq.out.2.2.2.2.1 HRq.out.2.2.2.2.2) (by rw [HRq.out.2.2.1]; exact HId.out)
                  have HKp := toHid (show ∀ w8 f, Left w7 w.heap.size (w.heap.size + 1) w.heap.size [.int .i64 id] (k * 200 + 200) σ w8 f → Kp w7 w8 ∧ Below w.heap.size w w8 ∧ w8.ownsRow w.heap.size 34 12 (.slice va R.length vc) R.length (recsC R) from fun w8 f hL => by
                    have hk := Kp.left HT7.out hL
                    refine ⟨hk, HB7.out.trans (hL.below HT7.out), own_at HW7.out fun g hg => ?_⟩
                    obtain ⟨_, cur, h2⟩ := own_kind HW7.out hg
                    rw [h2]
                    exact hk.2 _ _ _ _ h2 (by decide) (by decide))
                  cases hmay : mayB r with
                  | false =>
                    obtain ⟨n1, n2⟩ := note_fail (f := σ.f) hmay
                    rw [n1, n2] at hN
                    have HN := toHid hN
                    clear hN n1 n2 hmay
                    go_wp2_with (go_at_call 16; refine Calls.mono HN.out ?_; rintro e w8 ⟨rfl, hL⟩; have HKq := toHid (HKp.out _ _ hL); have HL8 := toHid hL; clear hL)
                    go_roundw
                    case rel =>
                      obtain ⟨σ8, t8, s8, f8⟩ := HL8.out
                      exact ⟨R, k + 1, A, L, by omega, by omega, by omega, rfl, rfl, by go_num, HA.out, HLq.out, σ8, t8.mono (by omega), HKq.out.2.1, HH.out, by rw [f8]; exact HX.out, HKq.out.2.2⟩
                    case measure => simp [intOf]; omega
                  | true =>
                    obtain ⟨n1, n2⟩ := note_fwd (f := σ.f) (R := R) HX.out HRq.out.1 (by rw [HRq.out.2.1]; exact HA.out) HRq.out.2.2.1 (by rw [HRq.out.2.2.2.1]; exact HLq.out) hmay
                    rw [n1] at hN
                    have HN := toHid hN
                    have HN2 := toHid n2
                    have HHi := toHid (HH.out.snoc (r := r) ⟨HRq.out.1, by rw [HRq.out.2.1]; exact HA.out, HRq.out.2.2.1, by rw [HRq.out.2.2.2.1]; exact HLq.out, hmay, HRq.out.2.2.2.2.1, HRq.out.2.2.2.2.2⟩)
                    clear hN n1 n2 hmay
                    go_upto_region 16 with (go_at_call 16; refine Calls.mono HN.out ?_; rintro e w8 ⟨rfl, hL⟩; have HKq := toHid (HKp.out _ _ hL); have HL8 := toHid hL; clear hL)
                    have hX8 := HKq.out.1.2 _ _ _ _ hX7 (by decide) (by decide)
                    clear f0 f1 f2 f3 f4 f5 f6 f7 f8 f9 f10 f11
                    obtain ⟨f0, f1, f2, f3, f4, f5, f6, f7, f8, f9, f10, f11⟩ := box_of hX8
                    have HG := toHid (HKq.out.2.2.alloc (.cells (recC r none 0 none 0) 34))
                    have hs8 := HKq.out.2.1.size
                    have HAp := toHid (show ∀ v9 w9, w9.ownsRow w.heap.size 34 12 v9 (R.length + 1) (recsC R ++ (recC r none 0 none 0).toList) → (w8.alloc (.cells (recC r none 0 none 0) 34)).grownBy w9 (Value.slice va R.length vc).ownBlock → w9.cell? ⟨g12, 1, none⟩ = some (.int .u64 (r.lsn : Int)) ∧ FwdL w id w9 (R ++ [r]) v9 (k * 200 + 200) from fun v9 w9 o1 o2 => by
                      have h1 : w9.heap[g12]? = some (.cells (recC r none 0 none 0) 34) := by
                        rw [o2.block g12 (by have := some_lt hX8; simp; omega) (fun e => HNe.out g12 e.symm rfl), heap_alloc_old (some_lt hX8)]
                        exact hX8
                      obtain ⟨σ8, t8, s8, f8⟩ := HL8.out
                      exact ⟨(box_of h1).2.1, fwd_app t8 HKq.out.2.1 (by rw [f8]; exact HN2.out) HHi.out HKq.out.2.2 o1 o2⟩)
                    have q1 : R.length ≤ 1000000 := by omega
                    clear HKp HN HN2 HHi HT7 HW7 hX7 HH HX hX8 HL8 HKq
                    go_wp2_with (first | (refine wpList_build34 rfl (.tmp 90) rfl r rfl ?_) | (at_builtin; go_must (refine app34 rfl rfl r w8 w.heap.size R.length _ _ rfl rfl HG.out q1 hs8 ?_); intro v9 w9 o1 o2; obtain ⟨hX9, hF9⟩ := HAp.out v9 w9 o1 o2; have HF9 := toHid hF9; obtain ⟨ay, cy, rfl⟩ := ownsRow_shape2 o1; clear o1 o2 hF9))
                    go_roundw
                    case rel => exact ⟨R ++ [r], k + 1, A + 16, A, by omega, by omega, by simp; omega, by rw [HRq.out.2.1], by go_num, by go_num, by rw [HA.out]; simp; omega, by rw [HA.out]; simp, by have := HF9.out; rw [show (k + 1) * 200 = k * 200 + 200 by omega]; exact this⟩
                    case measure => simp [intOf]; omega
        | false =>
          clear hcc
          by_cases hn0 : R.length = 0
          · as_aux_lemma =>
              obtain rfl : R = [] := List.eq_nil_of_length_eq_zero hn0
              have HNx := toHid (next15 (t := id) HT.out HId.out)
              have HKx := toHid (kept14 (t := id) HT.out HId.out)
              rw [HX.out] at HNx HKx
              have HNx : Hid (Calls Try.prog 15 #[.pointer (some ⟨w.heap.size + 1, 0, none⟩), .int .i64 id] wr fun e w' => e = .returned (.int .u64 0) ∧ w' = wr) := HNx
              have HKx : Hid (Calls Try.prog 14 #[.pointer (some ⟨w.heap.size + 1, 0, none⟩), .int .i64 id] wr fun e w' => e = .returned (.int .i64 0) ∧ w' = wr) := HKx
              go_wp2_with fail
              go_loopw [13] (fun i W => i = .int .i64 (-1) ∧ W = wr) (fun _ _ => 0)
              case atStart => exact ⟨rfl, rfl⟩
              case round =>
                obtain ⟨rfl, rfl⟩ := hrel
                go_wp2_with (first
                  | (go_at_call 15; refine Calls.mono HNx.out ?_; rintro e w20 ⟨rfl, hw⟩; obtain rfl := hw.symm)
                  | (go_at_call 14; refine Calls.mono HKx.out ?_; rintro e w20 ⟨rfl, hw⟩; obtain rfl := hw.symm)
                  | (go_at_call 10; refine Calls.mono (HLv.out _) ?_; rintro e w7 ⟨rfl, hb7⟩; have HB7 := toHid hb7; clear hb7))
                go_ret
                exact ⟨rfl, HB.out.trans (HB7.out.mono HB.out.size)⟩
          · have hn1 : R.length ≤ 40 := by omega
            have HF0 := toHid (show BwdL w id wr R (.slice va R.length vc) R.length from ⟨σ, HT.out.mono (by omega), HB.out, HH.out, by rw [← fwd_bwd R hn0]; exact HX.out, HW.out⟩)
            go_wp2_with fail
            go_loopw [9, 10, 13] (fun la at' i W => ∃ m A L : Nat, m ≤ R.length ∧ la = .int .u64 L ∧ at' = .int .i64 A ∧ i = .int .i64 ((m : Int) - 1) ∧ A = 16 * (2 * R.length - m + 1) ∧ L = 16 * (2 * R.length - m) ∧ BwdL w id W R (.slice va R.length vc) m) (fun _ _ i _ => (intOf i + 1).toNat)
            case atStart => exact ⟨R.length, A, L, Nat.le_refl _, rfl, rfl, by go_num, by rw [HA.out]; omega, by rw [HLq.out]; omega, HF0.out⟩
            case round =>
              obtain ⟨m, A2, L2, hm2, rfl, rfl, rfl, hA2, hL2, σ2, hT2, hB2, _, hX2, hW2⟩ := hrel
              have HT2 := toHid hT2
              have HB2 := toHid hB2
              have HX2 := toHid hX2
              have HW2 := toHid hW2
              have HA2 := toHid hA2
              have HL2 := toHid hL2
              have hAb2 : A2 ≤ 2000 := by omega
              have hLb2 : L2 ≤ 2000 := by omega
              clear hT2 hB2 hX2 hW2 hA2 hL2 HF0 HT HB HX HW HA HLq
              by_cases hm0 : m = 0
              · subst hm0
                have q0 : ¬ (0 : Int) ≤ ((0 : Nat) : Int) - 1 := by omega
                as_aux_lemma =>
                  have eA : A2 = 16 * (2 * R.length + 1) := by have := HA2.out; omega
                  have eL : L2 = 16 * (2 * R.length) := by have := HL2.out; omega
                  have h4 := note_end (f := σ2.f) hr hn1 HX2.out
                  rw [← eA, ← eL] at h4
                  have HNx := toHid (next15 (t := id) HT2.out HId.out)
                  have HKx := toHid (kept14 (t := id) HT2.out HId.out)
                  rw [HX2.out] at HNx HKx
                  have HNx : Hid (Calls Try.prog 15 #[.pointer (some ⟨w.heap.size + 1, 0, none⟩), .int .i64 id] wr fun e w' => e = .returned (.int .u64 0) ∧ w' = wr) := HNx
                  have HKx : Hid (Calls Try.prog 14 #[.pointer (some ⟨w.heap.size + 1, 0, none⟩), .int .i64 id] wr fun e w' => e = .returned (.int .i64 54) ∧ w' = wr) := by
                    have h := HKx.out
                    rw [show keptO (some (xBwd R 0)) = 54 from by simp [keptO, xBwd, sumB]] at h
                    exact h
                  have HN4 := toHid (note16 (r := ⟨4, A2, id, L2, 0, 0, 0, [], [], [], [], []⟩) (tc := 0) (dc := 0) HT2.out (by omega) (ri_nil rfl rfl) HId.out)
                  rw [h4.1] at HN4
                  have HF4 := toHid h4.2
                  have HN5 := toHid (show ∀ W σ5 M5, Tb W w.heap.size (w.heap.size + 1) w.heap.size [.int .i64 id] M5 σ5 → M5 ≤ 1000000 → σ5.f id = some ⟨2, A2, 0, 27, []⟩ → Calls Try.prog 16 #[.pointer (some ⟨w.heap.size + 1, 0, none⟩), .agg #[.int .i64 5, .int .u64 ((A2 : Int) + 16), .int .i64 id, .int .u64 (A2 : Int), .int .u64 0, .int .i64 0, .int .i64 0, .string ⟨#[]⟩, .string ⟨#[]⟩, .string ⟨#[]⟩, .slice none 0 0, .slice none 0 0]] W fun e w' => e = .returned (.int .i64 0) ∧ ∃ σ6 M6, Tb w' w.heap.size (w.heap.size + 1) w.heap.size [.int .i64 id] M6 σ6 ∧ Below w.heap.size W w' ∧ σ6.f id = none from fun W σ5 M5 t5 hM5 hf5 => by
                    have h5 := note_end2 (f := σ5.f) (n := R.length) hr hn1 (by rw [← eA]; exact hf5)
                    rw [← eA] at h5
                    have hN := note16 (r := ⟨5, A2 + 16, id, A2, 0, 0, 0, [], [], [], [], []⟩) (tc := 0) (dc := 0) t5 (by omega) (ri_nil rfl rfl) HId.out
                    rw [h5.1] at hN
                    refine Calls.mono hN ?_
                    rintro e w' ⟨rfl, σ6, t6, s6, f6⟩
                    exact ⟨rfl, σ6, _, t6, s6.below t5 (Nat.le_trans t5.hA (Nat.le_of_lt t5.ltA)), by rw [f6]; exact h5.2⟩)
                  have hn0' : ((R.length : Int) == 0) = false := beq_eq_false_iff_ne.2 (by omega)
                  simp only [recV, recC] at HN4
                  have tok : True := trivial
                  have tok2 : True := trivial
                  clear h4 eA eL
                  go_wp2_with (first
                    | (go_at_call 15; refine Calls.mono HNx.out ?_; rintro e w20 ⟨rfl, hw⟩; obtain rfl := hw.symm)
                    | (go_at_call 14; have _t := tok; refine Calls.mono HKx.out ?_; rintro e w20 ⟨rfl, hw⟩; obtain rfl := hw.symm; clear tok)
                    | (go_at_call 16; have _t := tok2; refine Calls.mono HN4.out ?_; rintro e w3 ⟨rfl, σ3, t3, s3, f3⟩; have HT3 := toHid t3; have HB3 := toHid (HB2.out.trans (s3.below HT2.out HB2.out.size)); have HX3 := toHid (show σ3.f id = some ⟨2, A2, 0, 27, []⟩ from (by rw [f3]; exact HF4.out)); have HK3 := toHid (kept14 (t := id) t3 HId.out); clear t3 s3 f3 tok2)
                    | (go_at_call 14; refine Calls.mono HK3.out ?_; rintro e w20 ⟨rfl, hw⟩; obtain rfl := hw.symm; rw [HX3.out]; simp only [keptO])
                    | (go_at_call 16; refine Calls.mono (HN5.out _ σ3 (8000 + (R.length - 0) * 200 + 200) HT3.out (by omega) HX3.out) ?_; rintro e w4 ⟨rfl, σ4, M4, t4, b4, f4⟩; have HT4 := toHid t4; have HB4 := toHid (HB3.out.trans b4); have HX4 := toHid f4; clear t4 b4 f4)
                    | (go_at_call 19; refine Calls.mono (gone19 HT4.out HId.out) ?_; rintro e w5 ⟨rfl, t5, s5⟩; rw [HX4.out]; have HB5 := toHid (HB4.out.trans (s5.below HT4.out HB4.out.size)); clear t5 s5)
                    | (go_at_call 10; refine Calls.mono (HLv.out _) ?_; rintro e w7 ⟨rfl, hb7⟩; have HB7 := toHid hb7; clear hb7))
                  go_ret
                  exact ⟨rfl, HB5.out.trans (HB7.out.mono HB5.out.size)⟩
              · obtain ⟨m', rfl⟩ : ∃ m', m = m' + 1 := ⟨m - 1, by omega⟩
                have hmm : ((m' + 1 : Nat) : Int) - 1 = (m' : Int) := by omega
                rw [hmm]
                have q0 : (0 : Int) ≤ (m' : Int) := by omega
                as_aux_lemma =>
                  have hm3 : m' < R.length := by omega
                  obtain ⟨rm, hrm⟩ : ∃ rm, R[m'] = rm := ⟨_, rfl⟩
                  obtain ⟨NX, hNX⟩ : ∃ NX : Nat, NX = 16 * (m' + 1) := ⟨_, rfl⟩
                  obtain ⟨PV, hPV⟩ : ∃ PV : Nat, PV = 16 * m' := ⟨_, rfl⟩
                  have hist := HH.out m' rm (by rw [← hrm]; exact List.getElem?_eq_getElem hm3)
                  obtain ⟨g, rfl, hcs⟩ : ∃ g, va = some ⟨g, 0, none⟩ ∧ ∀ i, i < 12 → wr.cell? ⟨g, m' * 12 + i, none⟩ = (recC rm none 0 none 0).toList[i]? := by
                    rcases HW2.out.2 with ⟨h0, h1⟩ | ⟨g, cap, cur, e, _⟩
                    · omega
                    · injection e with e1 e2 e3
                      subst e1
                      refine ⟨g, rfl, fun i hi => ?_⟩
                      have h1 := recsC_get R m' hm3 i hi
                      rw [hrm] at h1
                      have hu : (recC rm none 0 none 0).toList[i]? = some ((recC rm none 0 none 0).toList[i]'(by simp; omega)) := List.getElem?_eq_getElem _
                      have h2 := HW2.out.cells (g := g) rfl (m' * 12 + i) _ (h1.trans hu)
                      rw [addr_add] at h2
                      rw [h2, hu]
                  have c0 : wr.cell? ⟨g, m' * 12, none⟩ = some (.int .i64 rm.kind) := hcs 0 (by omega)
                  have c1 : wr.cell? ⟨g, m' * 12 + 1, none⟩ = some (.int .u64 (NX : Int)) := by rw [hNX, ← hist.2.1]; exact hcs 1 (by omega)
                  have c2 : wr.cell? ⟨g, m' * 12 + 2, none⟩ = some (.int .i64 rm.txn) := hcs 2 (by omega)
                  have c3 : wr.cell? ⟨g, m' * 12 + 3, none⟩ = some (.int .u64 (PV : Int)) := by rw [hPV, ← hist.2.2.2.1]; exact hcs 3 (by omega)
                  have c4 : wr.cell? ⟨g, m' * 12 + 4, none⟩ = some (.int .u64 (rm.undo : Int)) := hcs 4 (by omega)
                  have c5 : wr.cell? ⟨g, m' * 12 + 5, none⟩ = some (.int .i64 rm.page) := hcs 5 (by omega)
                  have c6 : wr.cell? ⟨g, m' * 12 + 6, none⟩ = some (.int .i64 rm.ak) := hcs 6 (by omega)
                  have c7 : wr.cell? ⟨g, m' * 12 + 7, none⟩ = some (.string (txt rm.key)) := hcs 7 (by omega)
                  have c8 : wr.cell? ⟨g, m' * 12 + 8, none⟩ = some (.string (txt rm.old)) := hcs 8 (by omega)
                  have c9 : wr.cell? ⟨g, m' * 12 + 9, none⟩ = some (.string (txt rm.new)) := hcs 9 (by omega)
                  have c10 : wr.cell? ⟨g, m' * 12 + 10, none⟩ = some (.slice none rm.txns.length 0) := hcs 10 (by omega)
                  have c11 : wr.cell? ⟨g, m' * 12 + 11, none⟩ = some (.slice none rm.dirty.length 0) := hcs 11 (by omega)
                  have HTd := toHid (fun n => HT2.out.below (below_drewN (Below.refl wr.heap.size wr) n))
                  have HNx := toHid (show ∀ n, Calls Try.prog 15 #[.pointer (some ⟨w.heap.size + 1, 0, none⟩), .int .i64 id] (wr.drewN n) fun e w' => e = .returned (.int .u64 (NX : Int)) ∧ w' = wr.drewN n from fun n => by
                    have h := next15 (t := id) (HTd.out n) HId.out
                    rw [HX2.out, show nextO (some (xBwd R (m' + 1))) = NX from by rw [hNX]; rfl] at h
                    exact h)
                  have hidx : (m' : Int) < (R.length : Int) := by omega
                  have HHi := toHid hist
                  have HNX := toHid hNX
                  have HPV := toHid hPV
                  have HRm := toHid hrm
                  clear hcs hist hNX hPV hrm
                  go_upto_region 22 with fail
                  go_quiet ((go_at_call 15; exact Calls.quiet_of_same (HNx.out _)))
                  have dc : ∀ i, (wr.drewN nq).cell? ⟨g, i, none⟩ = wr.cell? ⟨g, i, none⟩ := fun _ => rfl
                  rw [← dc] at c0 c1 c2 c3 c4 c5 c6 c7 c8 c9 c10 c11
                  have hgl := World.block_lt_of_cell? _ _ c0
                  have HBd := toHid (below_drewN (Below.refl wr.heap.size wr) nq)
                  have HT3 := toHid (HTd.out nq)
                  have HB3 := toHid (HB2.out.trans (HBd.out.mono HB2.out.size))
                  have HW3 := toHid (own_at HW2.out fun j hj => HBd.out.block j (own_blk HW2.out hj).2)
                  clear dc
                  generalize wr.drewN nq = W3 at *
                  obtain ⟨cr, hcr⟩ : ∃ cr, cr = backRc rm A2 L2 PV := ⟨_, rfl⟩
                  have HBk := toHid (show ∀ W, Calls Try.prog 17 #[.agg #[.int .i64 rm.kind, .int .u64 (NX : Int), .int .i64 rm.txn, .int .u64 (PV : Int), .int .u64 (rm.undo : Int), .int .i64 rm.page, .int .i64 rm.ak, .string (txt rm.key), .string (txt rm.old), .string (txt rm.new), .slice none rm.txns.length 0, .slice none rm.dirty.length 0], .int .u64 (IntKind.u64.wrap (A2 : Int)), .int .u64 (L2 : Int), .int .u64 (PV : Int)] W fun e w' => e = .returned (.tuple #[recV cr none 0 none 0, .int .i64 0]) ∧ Below W.heap.size W w' from fun W => by
                    rw [show IntKind.u64.wrap (A2 : Int) = (A2 : Int) from by simp [IntKind.wrap, IntKind.bits, IntKind.signed]; omega]
                    have h := back17 rm none 0 none 0 A2 L2 PV W HHi.out.2.2.2.2.1 HHi.out.1
                    rw [← hcr] at h
                    rw [HNX.out, HPV.out, ← HHi.out.2.1, ← HHi.out.2.2.2.1]
                    rw [HPV.out, ← HHi.out.2.2.2.1] at h
                    exact h)
                  have HCr := toHid hcr
                  clear hcr
                  go_upto_region 24 with fail
                  go_cut [14, 15] (fun p e wc => e = .int .i64 0 ∧ ∃ gc, p = .pointer (some ⟨gc, 0, none⟩) ∧ wc.heap[gc]? = some (.cells (recC cr none 0 none 0) 34) ∧ W3.heap.size ≤ gc ∧ Below W3.heap.size W3 wc)
                  case first =>
                    have HS := toHid (show ∀ W, Below W3.heap.size W3 W → (W.cell? ⟨g, m' * 12, none⟩ = some (.int .i64 rm.kind) ∧ W.cell? ⟨g, m' * 12 + 1, none⟩ = some (.int .u64 (NX : Int)) ∧ W.cell? ⟨g, m' * 12 + 2, none⟩ = some (.int .i64 rm.txn) ∧ W.cell? ⟨g, m' * 12 + 3, none⟩ = some (.int .u64 (PV : Int)) ∧ W.cell? ⟨g, m' * 12 + 4, none⟩ = some (.int .u64 (rm.undo : Int)) ∧ W.cell? ⟨g, m' * 12 + 5, none⟩ = some (.int .i64 rm.page) ∧ W.cell? ⟨g, m' * 12 + 6, none⟩ = some (.int .i64 rm.ak) ∧ W.cell? ⟨g, m' * 12 + 7, none⟩ = some (.string (txt rm.key)) ∧ W.cell? ⟨g, m' * 12 + 8, none⟩ = some (.string (txt rm.old)) ∧ W.cell? ⟨g, m' * 12 + 9, none⟩ = some (.string (txt rm.new)) ∧ W.cell? ⟨g, m' * 12 + 10, none⟩ = some (.slice none rm.txns.length 0) ∧ W.cell? ⟨g, m' * 12 + 11, none⟩ = some (.slice none rm.dirty.length 0)) from fun W hb => by
                      have e : ∀ o, W.cell? ⟨g, o, none⟩ = W3.cell? ⟨g, o, none⟩ := fun o => hb.cell (p := ⟨g, o, none⟩) hgl
                      simp only [e]
                      exact ⟨c0, c1, c2, c3, c4, c5, c6, c7, c8, c9, c10, c11⟩)
                    have HBD := toHid (show Below W3.heap.size W3 W3.drew from ⟨rfl, rfl, rfl, Nat.le_refl _, fun _ _ => rfl⟩)
                    have HBA0 := toHid (show Below W3.heap.size W3 (W3.alloc (.cells zeroR 34)) from (Below.refl _ _).alloc (Nat.le_refl _) _)
                    have HBA := toHid (show Below W3.heap.size W3 (W3.alloc (.cells zeroR 34)).drew from ⟨HBA0.out.os, HBA0.out.tape, HBA0.out.output, HBA0.out.size, HBA0.out.block⟩)
                    have HZA := toHid (show (W3.alloc (.cells zeroR 34)).drew.heap[W3.heap.size]? = some (.cells zeroR 34) from heap_alloc_new W3 _)
                    clear c0 c1 c2 c3 c4 c5 c6 c7 c8 c9 c10 c11
                    refine wp_region_held_drew (S := (fun W => W.cell? ⟨g, m' * 12, none⟩ = some (.int .i64 rm.kind) ∧ W.cell? ⟨g, m' * 12 + 1, none⟩ = some (.int .u64 (NX : Int)) ∧ W.cell? ⟨g, m' * 12 + 2, none⟩ = some (.int .i64 rm.txn) ∧ W.cell? ⟨g, m' * 12 + 3, none⟩ = some (.int .u64 (PV : Int)) ∧ W.cell? ⟨g, m' * 12 + 4, none⟩ = some (.int .u64 (rm.undo : Int)) ∧ W.cell? ⟨g, m' * 12 + 5, none⟩ = some (.int .i64 rm.page) ∧ W.cell? ⟨g, m' * 12 + 6, none⟩ = some (.int .i64 rm.ak) ∧ W.cell? ⟨g, m' * 12 + 7, none⟩ = some (.string (txt rm.key)) ∧ W.cell? ⟨g, m' * 12 + 8, none⟩ = some (.string (txt rm.old)) ∧ W.cell? ⟨g, m' * 12 + 9, none⟩ = some (.string (txt rm.new)) ∧ W.cell? ⟨g, m' * 12 + 10, none⟩ = some (.slice none rm.txns.length 0) ∧ W.cell? ⟨g, m' * 12 + 11, none⟩ = some (.slice none rm.dirty.length 0))) (by kernel_rfl) (HS.out _ HBD.out) (fun hHeld => ?_)
                    refine wpAnyH_take (i := 0) (v := ?_) rfl (by kernel_rfl) (by kernel_rfl) (by kernel_rfl) (fun _ _ _ h => h) (Or.inl ⟨by rfl, ?_⟩) (by assumption) ?_
                    rotate_left
                    · (intro W hSw; (try dsimp only at hSw); go_simp; try with_reducible rfl)
                    try simp only [Act.put, List.getElem_toArray, List.getElem_cons_zero, List.setIfInBounds_toArray, List.set_cons_zero, List.set_cons_succ]
                    refine wpAnyH_take (i := 1) (v := ?_) rfl (by kernel_rfl) (by kernel_rfl) (by kernel_rfl) (fun _ _ _ h => h) (Or.inl ⟨by rfl, ?_⟩) (by assumption) ?_
                    rotate_left
                    · (intro W hSw; (try dsimp only at hSw); go_simp; try with_reducible rfl)
                    try simp only [Act.put, List.getElem_toArray, List.getElem_cons_zero, List.getElem_cons_succ, List.setIfInBounds_toArray, List.set_cons_zero, List.set_cons_succ]
                    refine wpAnyH_take (i := 2) (v := ?_) rfl (by kernel_rfl) (by kernel_rfl) (by kernel_rfl) (fun _ _ _ h => h) (Or.inl ⟨by rfl, ?_⟩) (by assumption) ?_
                    rotate_left
                    · (intro W hSw; (try dsimp only at hSw); go_simp; try with_reducible rfl)
                    try simp only [Act.put, List.getElem_toArray, List.getElem_cons_zero, List.getElem_cons_succ, List.setIfInBounds_toArray, List.set_cons_zero, List.set_cons_succ]
                    refine wpAnyH_take (i := 3) (v := ?_) rfl (by kernel_rfl) (by kernel_rfl) (by kernel_rfl) (fun _ _ _ h => h) (Or.inl ⟨by rfl, ?_⟩) (by assumption) ?_
                    rotate_left
                    · (intro W hSw; (try dsimp only at hSw); go_simp; try with_reducible rfl)
                    try simp only [Act.put, List.getElem_toArray, List.getElem_cons_zero, List.getElem_cons_succ, List.setIfInBounds_toArray, List.set_cons_zero, List.set_cons_succ]
                    refine wpAnyH_take (i := 4) (v := ?_) rfl (by kernel_rfl) (by kernel_rfl) (by kernel_rfl) (fun _ _ _ h => h) (Or.inl ⟨by rfl, ?_⟩) (by assumption) ?_
                    rotate_left
                    · (intro W hSw; (try dsimp only at hSw); go_simp; try with_reducible rfl)
                    try simp only [Act.put, List.getElem_toArray, List.getElem_cons_zero, List.getElem_cons_succ, List.setIfInBounds_toArray, List.set_cons_zero, List.set_cons_succ]
                    refine wpAnyH_take (i := 5) (v := ?_) rfl (by kernel_rfl) (by kernel_rfl) (by kernel_rfl) (fun _ _ _ h => h) (Or.inl ⟨by rfl, ?_⟩) (by assumption) ?_
                    rotate_left
                    · (intro W hSw; (try dsimp only at hSw); go_simp; try with_reducible rfl)
                    try simp only [Act.put, List.getElem_toArray, List.getElem_cons_zero, List.getElem_cons_succ, List.setIfInBounds_toArray, List.set_cons_zero, List.set_cons_succ]
                    refine wpAnyH_take (i := 6) (v := ?_) rfl (by kernel_rfl) (by kernel_rfl) (by kernel_rfl) (fun _ _ _ h => h) (Or.inl ⟨by rfl, ?_⟩) (by assumption) ?_
                    rotate_left
                    · (intro W hSw; (try dsimp only at hSw); go_simp; try with_reducible rfl)
                    try simp only [Act.put, List.getElem_toArray, List.getElem_cons_zero, List.getElem_cons_succ, List.setIfInBounds_toArray, List.set_cons_zero, List.set_cons_succ]
                    refine wpAnyH_take (i := 7) (v := ?_) rfl (by kernel_rfl) (by kernel_rfl) (by kernel_rfl) (fun _ _ _ h => h) (Or.inl ⟨by rfl, ?_⟩) (by assumption) ?_
                    rotate_left
                    · (intro W hSw; (try dsimp only at hSw); go_simp; try with_reducible rfl)
                    try simp only [Act.put, List.getElem_toArray, List.getElem_cons_zero, List.getElem_cons_succ, List.setIfInBounds_toArray, List.set_cons_zero, List.set_cons_succ]
                    refine wpAnyH_take (i := 8) (v := ?_) rfl (by kernel_rfl) (by kernel_rfl) (by kernel_rfl) (fun _ _ _ h => h) (Or.inl ⟨by rfl, ?_⟩) (by assumption) ?_
                    rotate_left
                    · (intro W hSw; (try dsimp only at hSw); go_simp; try with_reducible rfl)
                    try simp only [Act.put, List.getElem_toArray, List.getElem_cons_zero, List.getElem_cons_succ, List.setIfInBounds_toArray, List.set_cons_zero, List.set_cons_succ]
                    refine wpAnyH_take (i := 9) (v := ?_) rfl (by kernel_rfl) (by kernel_rfl) (by kernel_rfl) (fun _ _ _ h => h) (Or.inl ⟨by rfl, ?_⟩) (by assumption) ?_
                    rotate_left
                    · (intro W hSw; (try dsimp only at hSw); go_simp; try with_reducible rfl)
                    try simp only [Act.put, List.getElem_toArray, List.getElem_cons_zero, List.getElem_cons_succ, List.setIfInBounds_toArray, List.set_cons_zero, List.set_cons_succ]
                    refine wpAnyH_take (i := 10) (v := ?_) rfl (by kernel_rfl) (by kernel_rfl) (by kernel_rfl) (fun _ _ _ h => h) (Or.inl ⟨by rfl, ?_⟩) (by assumption) ?_
                    rotate_left
                    · (intro W hSw; (try dsimp only at hSw); go_simp; try with_reducible rfl)
                    try simp only [Act.put, List.getElem_toArray, List.getElem_cons_zero, List.getElem_cons_succ, List.setIfInBounds_toArray, List.set_cons_zero, List.set_cons_succ]
                    refine wpAnyH_take (i := 11) (v := ?_) rfl (by kernel_rfl) (by kernel_rfl) (by kernel_rfl) (fun _ _ _ h => h) (Or.inl ⟨by rfl, ?_⟩) (by assumption) ?_
                    rotate_left
                    · (intro W hSw; (try dsimp only at hSw); go_simp; try with_reducible rfl)
                    try simp only [Act.put, List.getElem_toArray, List.getElem_cons_zero, List.getElem_cons_succ, List.setIfInBounds_toArray, List.set_cons_zero, List.set_cons_succ]
                    refine wpAnyH_ready (rs := [12, 16]) (by kernel_rfl) (by simp) ?_
                    refine AllReadyH.cons rfl (fun K hK => ?_) (AllReadyH.cons rfl (fun K hK => ?_) AllReadyH.nil)
                    · go_simp
                      refine Calls.mono (HBk.out _) ?_
                      clear hHeld
                      rintro e w5 ⟨rfl, hb5⟩
                      have HB5 := toHid (HBD.out.trans hb5)
                      clear hb5
                      try go_wp2_with fail
                      refine hK.out _ _ (HS.out _ HB5.out) (fun hHeld => ?_)
                      clear hK K
                      try simp only [Act.put, List.getElem_toArray, List.getElem_cons_zero, List.getElem_cons_succ, List.setIfInBounds_toArray, List.set_cons_zero, List.set_cons_succ]
                      refine wpAnyH_take (i := 13) (v := ?_) rfl (by kernel_rfl) (by kernel_rfl) (by kernel_rfl) (fun _ _ _ h => h) (Or.inl ⟨by rfl, ?_⟩) (by assumption) ?_
                      rotate_left
                      · (intro W hSw; (try dsimp only at hSw); go_simp; try with_reducible rfl)
                      try simp only [Act.put, List.getElem_toArray, List.getElem_cons_zero, List.getElem_cons_succ, List.setIfInBounds_toArray, List.set_cons_zero, List.set_cons_succ]
                      refine wpAnyH_take (i := 14) (v := ?_) rfl (by kernel_rfl) (by kernel_rfl) (by kernel_rfl) (fun _ _ _ h => h) (Or.inl ⟨by rfl, ?_⟩) (by assumption) ?_
                      rotate_left
                      · (intro W hSw; (try dsimp only at hSw); go_simp; try with_reducible rfl)
                      try simp only [Act.put, List.getElem_toArray, List.getElem_cons_zero, List.getElem_cons_succ, List.setIfInBounds_toArray, List.set_cons_zero, List.set_cons_succ]
                      refine wpAnyH_take (i := 15) (v := ?_) rfl (by kernel_rfl) (by kernel_rfl) (by kernel_rfl) (fun _ _ _ h => h) (Or.inl ⟨by rfl, ?_⟩) (by assumption) ?_
                      rotate_left
                      · (intro W hSw; (try dsimp only at hSw); go_simp; try with_reducible rfl)
                      try simp only [Act.put, List.getElem_toArray, List.getElem_cons_zero, List.getElem_cons_succ, List.setIfInBounds_toArray, List.set_cons_zero, List.set_cons_succ]
                      refine wpAnyH_ready (rs := [16]) (by kernel_rfl) (by simp) ?_
                      refine AllReadyH.cons rfl (fun K hK => ?_) AllReadyH.nil
                      go_simp
                      try go_wp2_with fail
                      refine hK.out _ _ (HS.out _ (HB5.out.alloc HB5.out.size _)) (fun hHeld => ?_)
                      clear hK K
                      try simp only [Act.put, List.getElem_toArray, List.getElem_cons_zero, List.getElem_cons_succ, List.setIfInBounds_toArray, List.set_cons_zero, List.set_cons_succ]
                      refine wpAnyH_ready (rs := [17]) (by kernel_rfl) (by simp) ?_
                      refine AllReadyH.cons rfl (fun K hK => ?_) AllReadyH.nil
                      go_simp
                      try go_wp2_with fail
                      refine hK.out _ _ (HS.out _ (HB5.out.alloc HB5.out.size _)) (fun hHeld => ?_)
                      clear hK K
                      try simp only [Act.put, List.getElem_toArray, List.getElem_cons_zero, List.getElem_cons_succ, List.setIfInBounds_toArray, List.set_cons_zero, List.set_cons_succ]
                      refine wpAnyH_take (i := 18) (v := ?_) rfl (by kernel_rfl) (by kernel_rfl) (by kernel_rfl) (fun _ _ _ h => h) (Or.inl ⟨by rfl, ?_⟩) (by assumption) ?_
                      rotate_left
                      · (intro W hSw; (try dsimp only at hSw); go_simp; try with_reducible rfl)
                      try simp only [Act.put, List.getElem_toArray, List.getElem_cons_zero, List.getElem_cons_succ, List.setIfInBounds_toArray, List.set_cons_zero, List.set_cons_succ]
                      refine wpAnyH_done (by kernel_rfl) ?_ _
                      clear hHeld
                      go_wp2
                      refine Met.intro ?_
                      go_step
                      (repeat apply Exists.intro)
                      refine ⟨⟨?r1, w5.heap.size, ?r2, ?r3, ?r4, ?r5⟩, rfl⟩
                      case r1 => exact rfl
                      case r2 => exact rfl
                      case r3 => exact heap_alloc_new w5 _
                      case r4 => exact HB5.out.size
                      case r5 => exact HB5.out.alloc HB5.out.size _
                    · go_simp
                      try go_wp2_with fail
                      refine hK.out _ _ (HS.out _ HBA.out) (fun hHeld => ?_)
                      clear hK K
                      try simp only [Act.put, List.getElem_toArray, List.getElem_cons_zero, List.getElem_cons_succ, List.setIfInBounds_toArray, List.set_cons_zero, List.set_cons_succ]
                      refine wpAnyH_ready (rs := [12]) (by kernel_rfl) (by simp) ?_
                      refine AllReadyH.cons rfl (fun K hK => ?_) AllReadyH.nil
                      go_simp
                      refine Calls.mono (HBk.out _) ?_
                      clear hHeld
                      rintro e w5 ⟨rfl, hb5⟩
                      have HB5 := toHid (HBA.out.trans (hb5.mono HBA.out.size))
                      have hz5 : w5.heap[W3.heap.size]? = some (.cells zeroR 34) := (hb5.block _ (some_lt HZA.out)).trans HZA.out
                      have HZ5 := toHid hz5
                      have HP5 := toHid (below_setRow HB5.out (Nat.le_refl _) (recC cr none 0 none 0))
                      clear hb5 hz5
                      try go_wp2_with fail
                      refine hK.out _ _ (HS.out _ HB5.out) (fun hHeld => ?_)
                      clear hK K
                      try simp only [Act.put, List.getElem_toArray, List.getElem_cons_zero, List.getElem_cons_succ, List.setIfInBounds_toArray, List.set_cons_zero, List.set_cons_succ]
                      refine wpAnyH_take (i := 13) (v := ?_) rfl (by kernel_rfl) (by kernel_rfl) (by kernel_rfl) (fun _ _ _ h => h) (Or.inl ⟨by rfl, ?_⟩) (by assumption) ?_
                      rotate_left
                      · (intro W hSw; (try dsimp only at hSw); go_simp; try with_reducible rfl)
                      try simp only [Act.put, List.getElem_toArray, List.getElem_cons_zero, List.getElem_cons_succ, List.setIfInBounds_toArray, List.set_cons_zero, List.set_cons_succ]
                      refine wpAnyH_take (i := 14) (v := ?_) rfl (by kernel_rfl) (by kernel_rfl) (by kernel_rfl) (fun _ _ _ h => h) (Or.inl ⟨by rfl, ?_⟩) (by assumption) ?_
                      rotate_left
                      · (intro W hSw; (try dsimp only at hSw); go_simp; try with_reducible rfl)
                      try simp only [Act.put, List.getElem_toArray, List.getElem_cons_zero, List.getElem_cons_succ, List.setIfInBounds_toArray, List.set_cons_zero, List.set_cons_succ]
                      refine wpAnyH_take (i := 15) (v := ?_) rfl (by kernel_rfl) (by kernel_rfl) (by kernel_rfl) (fun _ _ _ h => h) (Or.inl ⟨by rfl, ?_⟩) (by assumption) ?_
                      rotate_left
                      · (intro W hSw; (try dsimp only at hSw); go_simp; try with_reducible rfl)
                      try simp only [Act.put, List.getElem_toArray, List.getElem_cons_zero, List.getElem_cons_succ, List.setIfInBounds_toArray, List.set_cons_zero, List.set_cons_succ]
                      refine wpAnyH_ready (rs := [17]) (by kernel_rfl) (by simp) ?_
                      refine AllReadyH.cons rfl (fun K hK => ?_) AllReadyH.nil
                      refine wp_store_row 34 (.tmp 14) (.tmp 127) rfl W3.heap.size (recC cr none 0 none 0) rfl rfl 34 zeroR HZ5.out (by kernel_rfl) rfl (all34 cr) ?_
                      refine hK.out _ _ (HS.out _ HP5.out) (fun hHeld => ?_)
                      clear hK K
                      try simp only [Act.put, List.getElem_toArray, List.getElem_cons_zero, List.getElem_cons_succ]
                      refine wpAnyH_take (i := 18) (v := ?_) rfl (by kernel_rfl) (by kernel_rfl) (by kernel_rfl) (fun _ _ _ h => h) (Or.inl ⟨by rfl, ?_⟩) (by assumption) ?_
                      rotate_left
                      · (intro W hSw; (try dsimp only at hSw); go_simp; try with_reducible rfl)
                      try simp only [Act.put, List.getElem_toArray, List.getElem_cons_zero, List.getElem_cons_succ, List.setIfInBounds_toArray, List.set_cons_zero, List.set_cons_succ]
                      refine wpAnyH_done (by kernel_rfl) ?_ _
                      clear hHeld
                      go_wp2
                      refine Met.intro ?_
                      go_step
                      (repeat apply Exists.intro)
                      refine ⟨⟨?r1, W3.heap.size, ?r2, ?r3, ?r4, ?r5⟩, rfl⟩
                      case r1 => exact rfl
                      case r2 => exact rfl
                      case r3 => exact heap_setRow HZ5.out
                      case r4 => exact Nat.le_refl _
                      case r5 => exact HP5.out
                  case rest =>
                    obtain ⟨rfl, gc, rfl, hgc, hgl2, hb4⟩ := hcut
                    have eA : A2 = 16 * (2 * R.length - m') := by have := HA2.out; omega
                    have eL : L2 = 16 * (2 * R.length - (m' + 1)) := HL2.out
                    obtain ⟨b1, b2, b3, b4, b5, b6⟩ := note_bwd (f := σ2.f) HH.out hm3 hn1 HX2.out cr (by rw [← eA, ← eL, ← HPV.out, HRm.out]; exact HCr.out)
                    have hck : chgB cr.kind = true := by rw [HCr.out]; rfl
                    have HCq := toHid (show cr.lsn = A2 ∧ cr.txns = [] ∧ cr.dirty = [] from by rw [HCr.out]; exact ⟨rfl, rfl, rfl⟩)
                    have HFr := toHid (fun W => refframe_chg cr none 0 none 0 W b1 hck)
                    have HT4 := toHid (HT3.out.below hb4)
                    have HB4 := toHid (HB3.out.trans (hb4.mono HB3.out.size))
                    have HW4 := toHid (own_at HW3.out fun j hj => hb4.block j (own_blk HW3.out hj).2)
                    have HGc := toHid hgc
                    have hlen : (txt (frameB cr)).size = (frameB cr).length := by simp [txt, ByteArray.size]
                    obtain ⟨N, hN⟩ : ∃ N, (frameB cr).length = N := ⟨_, rfl⟩
                    rw [hN] at hlen b6
                    have hNs : N ≤ 5000 := by have := sumB_le id R HH.out (m' + 1) (by omega); simp only [xBwd] at b6; omega
                    obtain ⟨nd, hnd⟩ : ∃ nd, (xBwd R (m' + 1)).need = nd := ⟨_, rfl⟩
                    rw [hnd] at b6
                    have hndl : nd ≤ 10000 := by have := sumB_le id R HH.out (m' + 1) (by omega); simp only [xBwd] at hnd; omega
                    have hnk : ¬ (nd : Int) < (N : Int) + 54 := by omega
                    have HKe := toHid (show keptO (some (xBwd R (m' + 1))) = (nd : Int) from by rw [← hnd]; rfl)
                    have HE := toHid b4
                    have HF := toHid b5
                    have HTx := toHid b3
                    obtain ⟨f0, f1, f2, f3, f4, f5, f6, f7, f8, f9, f10, f11⟩ := box_of hgc
                    clear hgc hb4 b1 b2 b3 b4 b5 hck hN hnd eA eL HT3 HB3 HW3 c0 c1 c2 c3 c4 c5 c6 c7 c8 c9 c10 c11
                    generalize wc = W4 at *
                    go_wp2_with fail
                    refine Calls.mono (HFr.out _) ?_
                    rintro e w6 ⟨rfl, hb6⟩
                    have HT6 := toHid (HT4.out.below hb6)
                    have HB6 := toHid (HB4.out.trans (hb6.mono HB4.out.size))
                    have HW6 := toHid (own_at HW4.out fun j hj => hb6.block j (own_blk HW4.out hj).2)
                    have hg6 := (hb6.block _ (some_lt HGc.out)).trans HGc.out
                    clear f0 f1 f2 f3 f4 f5 f6 f7 f8 f9 f10 f11 hb6
                    obtain ⟨f0, f1, f2, f3, f4, f5, f6, f7, f8, f9, f10, f11⟩ := box_of hg6
                    have HG6 := toHid hg6
                    have hkp := kept14 (t := id) HT6.out HId.out
                    rw [HX2.out, HKe.out] at hkp
                    have HKp := toHid hkp
                    have hnt := note16 (r := cr) (tc := 0) (dc := 0) HT6.out (by omega) (ri_nil HCq.out.2.1 HCq.out.2.2) (by rw [HTx.out]; exact HId.out)
                    rw [HE.out] at hnt
                    have HNt := toHid hnt
                    have HKq := toHid (show ∀ w8 f, Left w6 w.heap.size (w.heap.size + 1) w.heap.size [.int .i64 id] (8000 + (R.length - (m' + 1)) * 200 + 200) σ2 w8 f → Kp w6 w8 ∧ Below w.heap.size w w8 ∧ w8.ownsRow w.heap.size 34 12 (.slice (some ⟨g, 0, none⟩) R.length vc) R.length (recsC R) from fun w8 f hL => by
                      have hk := Kp.left HT6.out hL
                      refine ⟨hk, HB6.out.trans (hL.below HT6.out), own_at HW6.out fun j hj => ?_⟩
                      obtain ⟨_, cur, h2⟩ := own_kind HW6.out hj
                      rw [h2]
                      exact hk.2 _ _ _ _ h2 (by decide) (by decide))
                    clear hkp hnt hg6
                    go_wp2_with fail
                    refine Calls.mono HKp.out ?_
                    rintro e w7 ⟨rfl, hw7⟩
                    obtain rfl := hw7.symm
                    clear hw7
                    go_wp2_with fail
                    refine Calls.mono HNt.out ?_
                    rintro e w8 ⟨rfl, hL⟩
                    have HQ8 := toHid (HKq.out _ _ hL)
                    have HL8 := toHid hL
                    have hg8 := HQ8.out.1.2 _ _ _ _ HG6.out (by decide) (by decide)
                    clear f0 f1 f2 f3 f4 f5 f6 f7 f8 f9 f10 f11 hL
                    obtain ⟨f0, f1, f2, f3, f4, f5, f6, f7, f8, f9, f10, f11⟩ := box_of hg8
                    go_wp2_with fail
                    go_roundw
                    case rel =>
                      obtain ⟨σ8, t8, s8, e8⟩ := HL8.out
                      exact ⟨m', A2 + 16, A2, by omega, by rw [HCq.out.1], by go_num, by go_num, by have := HA2.out; omega, by have := HA2.out; omega, σ8, t8.mono (by omega), HQ8.out.2.1, HH.out, by rw [e8]; exact HF.out, HQ8.out.2.2⟩
                    case measure => simp [intOf]
  · have HOp := toHid (show ∀ W, Tb W w.heap.size (w.heap.size + 1) w.heap.size [.int .i64 id] 0 sg0 → Calls Try.prog 11 #[.pointer (some ⟨w.heap.size + 1, 0, none⟩), .int .i64 id] W fun e w' => e = .returned (.int .i64 1) ∧ w' = W from fun W _ => open_arg _ W (by omega))
    have hq : id < 1 ∨ 1073741824 < id := by omega
    rcases hq with hq | hq
    all_goals
      (try have hq1 : ¬ id < 1 := by omega)
      go_enter Try.func4, Try.ntmps4
      go_wp2_with (first
        | (go_at_call 8; refine hnew.mono ?_; rintro e w1 ⟨rfl, h1, b1⟩; have HT1 := toHid h1; have HB1 := toHid b1; clear h1 b1)
        | (go_at_call 11; refine Calls.mono (HOp.out _ HT1.out) ?_; rintro e w2 ⟨rfl, hw⟩; obtain rfl := hw.symm)
        | (go_at_call 10; refine Calls.mono (HLv.out _) ?_; rintro e w7 ⟨rfl, hb7⟩; have HB7 := toHid hb7; clear hb7))
      go_ret
      exact ⟨rfl, HB1.out.trans (HB7.out.mono HB1.out.size)⟩
end Go.Proofs.Yticadfaclnimgaa

namespace Go.Proofs.Yticadfaclnimgaa
open Go.ChangeShapes Go.WideShapes Go.ChangeAt Go.RowKit

set_option maxRecDepth 100000 in
theorem chainBack_lifted (os : Os) (started : os.Started) (H : Type) (enc : TypeId × Value → H) :
    ReturnsInHanded {} Try.checked os 4 .any (Rows.chainBackSpec.pre6 enc Try.prog Try.f4 Rows.chainBackRow.domain false) (Rows.chainBackSpec.post enc Try.prog Try.f4 false true false false) := by
  refine returnsInHanded_of_change (C := Try.checked) Try.own started (by kernel_rfl) Try.func4
    (ChangeSpec.witness6 (enc := enc) (C := Try.checked) false ⟨#[], #[.int .i64 0, .slice none 0 0, .slice none 0 0], []⟩ 8 (by kernel_rfl) (by kernel_rfl) (by kernel_rfl) (by kernel_rfl)) ?_
  intro W base args ds gs before hval0 hW _ _
  have hval : ∀ (j : Nat) t v, Try.f4.params[j]? = some t → args[j]? = some v → Value.okWide Try.prog W .any base t v := hval0
  have hW' := hW
  obtain ⟨p, q, hA0, hV, rfl, _, _⟩ := hW
  have hA : DataW.TrodAll enc Try.prog W 0 (fun _ => true) true Try.f4.params.toList args.toList ds p := hA0
  rw [Try.params4] at hA hval
  obtain ⟨v0, v1, v2, d0, d1, d2, p0, p1, p2, rfl, rfl, rfl, h0, h1, h2⟩ := trodAll_three hA
  obtain ⟨rfl, rfl⟩ := trodVars_none hV
  obtain ⟨x0, rfl, rfl, rfl, w0⟩ := open_int Try.underlying3 (hval 0 3 v0 rfl rfl) h0
  obtain ⟨a1, len1, cap1, rfl⟩ := okWide_slice Try.underlying51 (hval 1 51 v1 rfl rfl)
  have k1 := h1
  have lt1 : ∀ x ∈ p1, x.block < W.heap.size := by obtain ⟨m, hm⟩ := k1; exact DataW.trod_lt m _ _ _ hm
  obtain ⟨a1', cap1', l1, hv1, hsl1, hll1⟩ : ∃ a c, ∃ l : List Ak.Ac, Value.slice a1 len1 cap1 = .slice a l.length c ∧ SlA W a l ∧ l.length ≤ maxLen := by
    obtain ⟨fuel, hf⟩ := h1
    exact open_acts (by simpa [Value.cells] using hf)
  simp only [Value.slice.injEq] at hv1
  obtain ⟨rfl, rfl, rfl⟩ := hv1
  obtain ⟨a2, len2, cap2, rfl⟩ := okWide_slice Try.underlying52 (hval 2 52 v2 rfl rfl)
  have k2 := h2
  have lt2 : ∀ x ∈ p2, x.block < W.heap.size := by obtain ⟨m, hm⟩ := k2; exact DataW.trod_lt m _ _ _ hm
  obtain ⟨a2', cap2', l2, hv2, hsl2, hll2⟩ : ∃ a c, ∃ l : List Int, Value.slice a2 len2 cap2 = .slice a l.length c ∧ SlI W a l ∧ l.length ≤ maxLen := by
    obtain ⟨fuel, hf⟩ := h2
    exact open_ints' (by simpa [Value.cells] using hf)
  simp only [Value.slice.injEq] at hv2
  obtain ⟨rfl, rfl, rfl⟩ := hv2
  clear hA0 hval0
  refine Calls.mono (back_walk17 W x0 a1 l1 cap1 a2 l2 cap2 w0 hsl1 hll1 hsl2 hll2) fun e W' ⟨he, bel⟩ => ?_
  subst he
  exact ⟨_, rfl, _, _, _, [], _, [], hW', trodAll_mk1 (shut_bool Try.underlying4 _), trodAll_mk3 (shut_int Try.underlying3 w0) (Below.trod Try.laidOut (by kernel_rfl) (of_decide_eq_true (by kernel_rfl)) k1 bel lt1) (Below.trod Try.laidOut (by kernel_rfl) (of_decide_eq_true (by kernel_rfl)) k2 bel lt2), rfl, bel.frame _, fun h => by cases h⟩

theorem chainBack_holds : Rows.ChainBackSaid :=
  OpenClaim.holds_of_wide 4 Try.f4 rfl rfl rfl rfl rfl rfl rfl ⟨rfl, rfl, rfl, rfl, rfl⟩ rfl rfl rfl rfl rfl (by kernel_rfl) Try.func4 (by kernel_rfl)
    (of_decide_eq_true (by kernel_rfl)) (by unfold Func.isWrapper; first | (rw [if_pos (by decide +kernel)]; kernel_rfl) | (rw [if_neg (by decide +kernel)]; exact ⟨rfl, rfl⟩))
    (fun os started H enc _ => chainBack_lifted os started H enc)

#print axioms chainBack_holds
end Go.Proofs.Yticadfaclnimgaa
