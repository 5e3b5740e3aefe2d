/-
  The heap: New, Push, Pop, Len.
-/
import Derived.Test.YtnejcjebepidcaaHRe
namespace Go.Proofs.Ytnejcjebepidcaa
open Go.RowKit

/-- A heap in block h. -/
structure HeapR (B h : Nat) (th : Nat → Value) (key : Nat → Int) (live : List Nat) (N : Nd) (tv : Value) (tops : List Nat) (w : World) : Prop where
  blk : w.heap[h]? = some (.cells #[.func (.func 36) #[] #[], tv, .int .i64 (live.length : Int)] 101)
  row : w.ownsRow B 103 1 tv tops.length (ptrs tops)
  apart : Apart live N tv
  nodes : NdOk 108 103 B th w live N
  nodup : live.Nodup
  perm : PermOk live N tops
  ord : OrdOk live key N
  keys : ∀ x, x ∈ live → RdR B w (th x) (key x)
  few : live.length ≤ 500000
  base : B ≤ w.heap.size
  high : B ≤ h

theorem HeapR.foot {B h : Nat} {th : Nat → Value} {key : Nat → Int} {live : List Nat} {N : Nd} {tv : Value} {tops : List Nat} {w : World} (H : HeapR B h th key live N tv tops w) : ∀ k, Foot h live N tv k → B ≤ k := by
  rintro k (rfl | hk | ⟨b, hb, hk⟩ | hk)
  · exact H.high
  · exact H.nodes.base k hk
  · exact ((H.nodes.own b hb).lt k hk).1
  · exact (H.row.lt k hk).1

theorem popEndR {B h : Nat} {th : Nat → Value} {key : Nat → Int} {live : List Nat} {N N2 : Nd} {tv : Value} {tops O : List Nat} {w w2 y : World} {m : Nat} {v2 v' : Value} {tw sz : Value} (H : HeapR B h th key live N tv tops w)
    (hT : Turn live N N2 w w2) (hN : NdOk 108 103 B th w2 live N2) (hv : w2.ownsRow B 103 1 v2 O.length (ptrs O)) (ha : Apart live N2 v2) (hnew : ∀ k, v2.ownBlock = some k → w.heap.size ≤ k)
    (hP : PermOk live N2 (m :: O)) (hO : OrdOk live key N2) (hh : w2.heap[h]? = some (.cells #[.func (.func 36) #[] #[], tw, sz] 101))
    (ho : y.ownsRow B 103 1 v' (O.length + (N2.kids m).length) (ptrs O ++ ptrs (N2.kids m))) (hg : w2.grownBy y v2.ownBlock) (hf : Fresh w2 v2 v') (s' : Value) (hs : s' = .int .i64 ((live.erase m).length : Int)) :
    HeapR B h th key (live.erase m) N2 v' (O ++ N2.kids m) ((y.setCell ⟨h, 1, none⟩ v').setCell ⟨h, 2, none⟩ s') ∧
      Moved (Foot h live N tv) (Foot h (live.erase m) N2 v') w ((y.setCell ⟨h, 1, none⟩ v').setCell ⟨h, 2, none⟩ s') := by
  subst hs
  have hm : m ∈ live := hP.mem (by simp)
  have hsub : ∀ x, x ∈ live.erase m → x ∈ live := fun x hx => List.mem_of_mem_erase hx
  have hne2 : v2.ownBlock ≠ some h := row_other hh (by decide) hv
  have hyh : y.heap[h]? = some (.cells #[.func (.func 36) #[] #[], tw, sz] 101) := by rw [hg.block h (Array.getElem?_eq_some_iff.1 hh).1 (fun e => hne2 e.symm)]; exact hh
  have hNy := hN.grow (by decide) hv ha hg
  have hay := ha.grow hN hf
  have hk2 : ∀ k, k ≠ h → ((y.setCell ⟨h, 1, none⟩ v').setCell ⟨h, 2, none⟩ (.int .i64 ((live.erase m).length : Int))).heap[k]? = y.heap[k]? := fun k hk => by rw [heap_setCell_other _ _ _ _ hk, heap_setCell_other _ _ _ _ hk]
  have hgs : y.grownBy ((y.setCell ⟨h, 1, none⟩ v').setCell ⟨h, 2, none⟩ (.int .i64 ((live.erase m).length : Int))) (some h) := ⟨rfl, rfl, rfl, by simp, fun k _ hk => hk2 k (fun e => hk (by rw [e]))⟩
  have hmv : Moved (Foot h live N tv) (Foot h (live.erase m) N2 v') w ((y.setCell ⟨h, 1, none⟩ v').setCell ⟨h, 2, none⟩ (.int .i64 ((live.erase m).length : Int))) := by
    refine ⟨hg.os.trans hT.os, hg.tape.trans hT.tape, hg.output.trans hT.output, by simpa using Nat.le_trans hT.size hg.size, fun k hk hn => ?_, ?_⟩
    · rw [hk2 k (fun e => hn (.inl e)), hg.block k (Nat.lt_of_lt_of_le hk hT.size) (fun e => by have := hnew k e.symm; omega)]
      exact hT.keep k hk (fun e => hn (.inr (.inl e))) (fun b hb e => hn (.inr (.inr (.inl ⟨b, hb, e⟩))))
    · rintro k (rfl | hk | ⟨b, hb, hk⟩ | hk)
      · exact .inl (.inl rfl)
      · exact .inl (.inr (.inl (hsub k hk)))
      · rcases hT.fresh b (hsub b hb) k hk with e | e
        · exact .inl (.inr (.inr (.inl ⟨b, hsub b hb, e⟩)))
        · exact .inr e
      · rcases hf k hk with e | e
        · exact .inr (hnew k e)
        · exact .inr (Nat.le_trans hT.size e)
  refine ⟨⟨heapSet hyh _ _, ?_, fun b hb => hay b (hsub b hb), (hNy.other hyh (by decide) (by decide) hk2 hgs).sub hsub, H.nodup.erase m, hP.pop, fun b hb => hO b (hsub b hb), fun x hx => (H.keys x (hsub x hx)).low (hmv.low H.foot H.base), ?_, Nat.le_trans H.base hmv.size, H.high⟩, hmv⟩
  · rw [List.length_append, ptrs_append]
    exact ho.kept hgs (.inr (row_other hyh (by decide) ho))
  · have := List.length_erase_of_mem hm
    have := H.few
    omega

set_option maxRecDepth 100000 in
set_option maxHeartbeats 4000000 in
theorem popR (B h : Nat) (th : Nat → Value) (key : Nat → Int) (live : List Nat) (N : Nd) (tv : Value) (tops : List Nat) (w : World) (H : HeapR B h th key live N tv tops w) (hne : live ≠ []) :
    Calls Try.prog 38 #[.pointer (some ⟨h, 0, none⟩)] w fun e w' => ∃ (m : Nat) (N' : Nd) (tv' : Value) (tops' : List Nat), e = .returned (.tuple #[th m, .bool true]) ∧ m ∈ live ∧ (∀ x, x ∈ live → key m ≤ key x) ∧ HeapR B h th key (live.erase m) N' tv' tops' w' ∧ Moved (Foot h live N tv) (Foot h (live.erase m) N' tv') w w' := by
  obtain ⟨i0, hi0, hz0, hz1, hz2⟩ := info_parts Try.infoPR
  have htn := tops_some H.perm H.ord hne
  obtain ⟨g, c, rfl⟩ : ∃ g c, tv = .slice (some ⟨g, 0, none⟩) tops.length c := by
    rcases H.row.2 with ⟨_, e⟩ | ⟨g, cap, cur, e, _⟩
    · exact absurd (List.eq_nil_of_length_eq_zero e) htn
    · exact ⟨g, cap, e⟩
  obtain ⟨h0, h1, h2, h3, h4⟩ := heapCells H.blk
  have hlf := H.few
  have hln : 0 < live.length := List.length_pos_iff.2 hne
  have htl : (((tops.length : Nat) : Int) == 0) = false := by have := List.length_pos_iff.2 htn; simp; intro e; subst e; simp at htn
  have HPa := toHid (pairsR B h g c th key live N tops _ _ w H.nodes H.nodup H.perm H.ord H.blk H.keys H.few H.base htn H.row H.apart)
  have HH := toHid H
  have HNE := toHid hne
  clear hne H htn
  go_enter Try.func38, Try.ntmps38
  go_wp2_with fail
  refine Calls.mono HPa.out ?_
  rintro e w1 ⟨v1, N1, l1, rfl, r1, a1, f1, n1, t1, p1, o1, s1⟩
  obtain ⟨g1, c1, rfl⟩ : ∃ g c, v1 = .slice (some ⟨g, 0, none⟩) l1.length c := by
    rcases r1.2 with ⟨_, e⟩ | ⟨g, cap, cur, e, _⟩
    · exact absurd (List.eq_nil_of_length_eq_zero e) s1
    · exact ⟨g, cap, e⟩
  obtain ⟨p, hp⟩ : ∃ p, l1.length = p + 1 := ⟨l1.length - 1, by have := List.length_pos_iff.2 s1; omega⟩
  rw [hp] at r1 a1 ⊢
  have hB1 : B ≤ w1.heap.size := Nat.le_trans HH.out.base t1.size
  have hb1 := t1.other HH.out.nodes HH.out.blk (by decide) (by decide)
  have HLe := toHid (leastR B h g1 c1 p th key live N1 l1 _ _ w1 n1 HH.out.nodup p1 o1 hb1 (fun x hx => (HH.out.keys x hx).low (t1.low HH.out.nodes HH.out.base)) HH.out.few hB1 hp r1 a1)
  have HT1 := toHid t1
  have HN1 := toHid n1
  have HB1 := toHid hb1
  clear r1 a1 f1 n1 t1 p1 o1 s1 hp hb1 h0 h1 h2 h3 h4 HPa
  go_wp2_with fail
  refine Calls.mono HLe.out ?_
  rintro e w2 ⟨m, v2, N2, O, rfl, r2, a2, f2, n2, t2, p2, o2, k2⟩
  have hm : m ∈ live := p2.mem (by simp)
  have hb2 := t2.other HN1.out HB1.out (by decide) (by decide)
  obtain ⟨h0, h1, h2, h3, h4⟩ := heapCells hb2
  obtain ⟨z0, z1, z2⟩ := nodeCells (n2.blk m hm)
  have hkf := kids_few p2 hm
  have hof := p2.few
  simp at hof
  obtain ⟨rv, hrv⟩ : ∃ rv, rv = N2.row m := ⟨_, rfl⟩
  have hro := n2.own m hm
  rw [← hrv] at z1 hro
  have HRO := toHid hro
  have HR2 := toHid r2
  have HA2 := toHid a2
  have HF2 := toHid (fun k hk => Nat.le_trans HT1.out.size (f2 k hk))
  have HN2 := toHid n2
  have HT2 := toHid (HT1.out.trans t2)
  have HP2 := toHid p2
  have HO2 := toHid o2
  have HK2 := toHid k2
  have HB2 := toHid hb2
  have HM := toHid hm
  have hB2 : B ≤ w2.heap.size := Nat.le_trans hB1 t2.size
  have HSt := toHid (fun (y : World) (hg : w2.grownBy y v2.ownBlock) => (⟨(hg.block h (Array.getElem?_eq_some_iff.1 hb2).1 (fun e => row_other hb2 (by decide) r2 e.symm)).trans hb2, (hg.block m (n2.lt m hm) (fun e => n2.noRow (by decide) r2 m hm e.symm)).trans (n2.blk m hm)⟩ : y.heap[h]? = _ ∧ y.heap[m]? = _))
  have HhM := toHid (show m ≠ h from fun e => by subst e; rw [n2.blk m hm] at hb2; injection hb2 with hb2; injection hb2 with _ hb2; exact absurd hb2 (by decide))
  have HEr := toHid (List.length_erase_of_mem hm)
  clear r2 a2 f2 n2 t2 p2 o2 k2 hm hb2 hrv hro HLe HT1 HN1 HB1
  go_wp2_with (at_builtin; refine wpList_append_row _ rfl _ _ 99 rfl B 103 i0 _ 1 8 Try.underlying99 hi0 hz0 hz1 hz2 rfl (by decide) v2 O.length (ptrs O) rfl HR2.out rv (N2.kids m).length (ptrs (N2.kids m)) rfl HRO.out (ptrs_one _) (by unfold maxLen; omega) (by omega) hB2 ?_; intro v' y1 hown hgrow hfr; obtain ⟨a3, c3, rfl⟩ := ownsRow_shape hown; have HOW := toHid hown; have HGW := toHid hgrow; have HFW := toHid hfr; have hyy := HSt.out y1 hgrow; clear hown hgrow hfr z0 z1 z2 h0 h1 h2 h3 h4; obtain ⟨z0, z1, z2⟩ := nodeCells hyy.2; obtain ⟨h0, h1, h2, h3, h4⟩ := heapCells hyy.1; clear hyy; have hmh : m ≠ h := HhM.out)
  have hpe := popEndR HH.out HT2.out HN2.out HR2.out HA2.out HF2.out HP2.out HO2.out HB2.out HOW.out HGW.out HFW.out (.int .i64 ((live.length : Int) - 1)) (by rw [HEr.out, show ((live.length - 1 : Nat) : Int) = (live.length : Int) - 1 by omega])
  have HPE := toHid hpe
  have HMin := toHid (top_least HP2.out HO2.out (m := m) (fun x hx => by rcases List.mem_cons.1 hx with rfl | hx; exact Int.le_refl _; exact HK2.out x hx))
  clear hpe
  go_ret2
  exact ⟨m, N2, _, _, rfl, HM.out, HMin.out, HPE.out.1, HPE.out.2⟩

/-- Of an empty heap. -/
theorem popNoR (B h : Nat) (th : Nat → Value) (key : Nat → Int) (N : Nd) (tv : Value) (tops : List Nat) (w : World) (H : HeapR B h th key [] N tv tops w) :
    Calls Try.prog 38 #[.pointer (some ⟨h, 0, none⟩)] w fun e w' => e = .returned (.tuple #[.slice none 0 0, .bool false]) ∧ w' = w := by
  have ht : tops = [] := by have := H.perm; simpa [PermOk] using this
  subst ht
  obtain ⟨h0, h1, h2, h3, h4⟩ := heapCells H.blk
  obtain ⟨a, c, rfl⟩ := ownsRow_shape H.row
  clear H
  simp only [List.length_nil] at h1
  go_enter Try.func38, Try.ntmps38
  go_wp2
  go_ret2
  exact ⟨rfl, rfl⟩

theorem popNilR (w : World) : Calls Try.prog 38 #[.pointer none] w fun e w' => e = .returned (.tuple #[.slice none 0 0, .bool false]) ∧ w' = w := by
  go_enter Try.func38, Try.ntmps38
  go_wp2
  go_ret2
  exact ⟨rfl, rfl⟩

theorem newR (w : World) : Calls Try.prog 35 #[.func (.func 36) #[] #[]] w fun e w' => e = .returned (.pointer (some ⟨w.heap.size, 0, none⟩)) ∧ w' = w.alloc (.cells #[.func (.func 36) #[] #[], .slice none 0 0, .int .i64 0] 101) := by
  go_enter Try.func35, Try.ntmps35
  go_wp2
  go_ret
  exact ⟨rfl, rfl⟩

theorem HeapR.new (B : Nat) (th : Nat → Value) (key : Nat → Int) (w : World) (hB : B ≤ w.heap.size) : HeapR B w.heap.size th key [] ⟨fun _ => .slice none 0 0, fun _ => []⟩ (.slice none 0 0) [] (w.alloc (.cells #[.func (.func 36) #[] #[], .slice none 0 0, .int .i64 0] 101)) :=
  ⟨heap_alloc_new _ _, World.ownsRow_nil _ _ _ _, Apart.nil _ _, ⟨by simp, by simp, by simp, by simp⟩, List.nodup_nil, List.Perm.refl _, by intro b hb; simp at hb, by simp, by simp, by simp; omega, hB⟩

theorem lenHeapR {B h : Nat} {th : Nat → Value} {key : Nat → Int} {live : List Nat} {N : Nd} {tv : Value} {tops : List Nat} {w : World} (H : HeapR B h th key live N tv tops w) {b : Nat} (hb : b ∈ live) : b < w.heap.size := H.nodes.lt b hb

theorem pushEndR {B h : Nat} {th : Nat → Value} {key : Nat → Int} {live : List Nat} {N : Nd} {tv : Value} {tops : List Nat} {w y : World} {x v' : Value} {k : Int} {C : Obj} (H : HeapR B h th key live N tv tops w) (hx : RdR B w x k) (hfew : live.length < 500000)
    (ho : y.ownsRow B 103 1 v' (tops.length + 1) (ptrs tops ++ ptrs [w.heap.size])) (hg : ((w.alloc (.cells #[x, .slice none 0 0] 108)).alloc C).grownBy y tv.ownBlock) (hf : Fresh ((w.alloc (.cells #[x, .slice none 0 0] 108)).alloc C) tv v') (s' : Value) (hs : s' = .int .i64 ((live.length : Int) + 1)) :
    HeapR B h (fun q => if q = w.heap.size then x else th q) (fun q => if q = w.heap.size then k else key q) (w.heap.size :: live) ⟨fun q => if q = w.heap.size then .slice none 0 0 else N.row q, fun q => if q = w.heap.size then [] else N.kids q⟩ v' (tops ++ [w.heap.size]) ((y.setCell ⟨h, 1, none⟩ v').setCell ⟨h, 2, none⟩ s') ∧
      Moved (Foot h live N tv) (Foot h (w.heap.size :: live) ⟨fun q => if q = w.heap.size then .slice none 0 0 else N.row q, fun q => if q = w.heap.size then [] else N.kids q⟩ v') w ((y.setCell ⟨h, 1, none⟩ v').setCell ⟨h, 2, none⟩ s') := by
  subst hs
  obtain ⟨b, hb⟩ : ∃ b, b = w.heap.size := ⟨_, rfl⟩
  have hlt : ∀ q, q ∈ live → q ≠ b := fun q hq e => by have := H.nodes.lt q hq; omega
  have hsz : ((w.alloc (.cells #[x, .slice none 0 0] 108)).alloc C).heap.size = w.heap.size + 2 := by simp
  have hgw : w.grownBy y tv.ownBlock := grownBy_step (grownBy_step (World.grownBy_alloc w _ _) (World.grownBy_alloc _ C _)) hg
  have hhl : h < w.heap.size := (Array.getElem?_eq_some_iff.1 H.blk).1
  have hth : tv.ownBlock ≠ some h := row_other H.blk (by decide) H.row
  have hyh : y.heap[h]? = some (.cells #[.func (.func 36) #[] #[], tv, .int .i64 (live.length : Int)] 101) := by rw [hgw.block h hhl (fun e => hth e.symm)]; exact H.blk
  have hyb : y.heap[b]? = some (.cells #[x, .slice none 0 0] 108) := by
    rw [hg.block b (by rw [hsz]; omega) (fun e => by have := (H.row.lt b e.symm).2; omega), heap_alloc_old _ _ (by simp; omega), hb]
    exact heap_alloc_new _ _
  have hNy := H.nodes.grow (by decide) H.row H.apart hgw
  have hk2 : ∀ k, k ≠ h → ((y.setCell ⟨h, 1, none⟩ v').setCell ⟨h, 2, none⟩ (.int .i64 ((live.length : Int) + 1))).heap[k]? = y.heap[k]? := fun k hk => by rw [heap_setCell_other _ _ _ _ hk, heap_setCell_other _ _ _ _ hk]
  have hgs : y.grownBy ((y.setCell ⟨h, 1, none⟩ v').setCell ⟨h, 2, none⟩ (.int .i64 ((live.length : Int) + 1))) (some h) := ⟨rfl, rfl, rfl, by simp, fun k _ hk => hk2 k (fun e => hk (by rw [e]))⟩
  have hNs := hNy.other hyh (by decide) (by decide) hk2 hgs
  rw [← hb] at ho ⊢
  have hmv : Moved (Foot h live N tv) (Foot h (b :: live) ⟨fun q => if q = b then .slice none 0 0 else N.row q, fun q => if q = b then [] else N.kids q⟩ v') w ((y.setCell ⟨h, 1, none⟩ v').setCell ⟨h, 2, none⟩ (.int .i64 ((live.length : Int) + 1))) := by
    refine ⟨hgw.os, hgw.tape, hgw.output, by simpa using hgw.size, fun k hk hn => ?_, ?_⟩
    · rw [hk2 k (fun e => hn (.inl e))]
      exact hgw.block k hk (fun e => hn (.inr (.inr (.inr e.symm))))
    · rintro k (rfl | hk | ⟨q, hq, hk⟩ | hk)
      · exact .inl (.inl rfl)
      · rcases List.mem_cons.1 hk with rfl | hk
        · exact .inr (by omega)
        · exact .inl (.inr (.inl hk))
      · rcases List.mem_cons.1 hq with rfl | hq
        · simp [Value.ownBlock] at hk
        · simp only [if_neg (hlt q hq)] at hk
          exact .inl (.inr (.inr (.inl ⟨q, hq, hk⟩)))
      · rcases hf k hk with e | e
        · exact .inl (.inr (.inr (.inr e)))
        · exact .inr (by omega)
  have hlow := hmv.low H.foot H.base
  refine ⟨⟨?_, ?_, fun q hq i hi e => ?_, ⟨fun q hq => ?_, fun q hq => ?_, fun q hq c hc i e1 e2 => ?_, fun q hq => ?_⟩, List.nodup_cons.2 ⟨fun e => hlt b e rfl, H.nodup⟩, ?_, fun q hq c hc => ?_, fun q hq => ?_, by simp; omega, Nat.le_trans H.base hmv.size, H.high⟩, hmv⟩
  · rw [heapSet hyh]; simp
  · rw [List.length_append, ptrs_append]
    exact ho.kept hgs (.inr (row_other hyh (by decide) ho))
  · rcases List.mem_cons.1 hq with rfl | hq
    · simp [Value.ownBlock] at e
    · simp only [if_neg (hlt q hq)] at e
      rcases hf i hi with e' | e'
      · exact H.apart q hq i e' e
      · have := ((H.nodes.own q hq).lt i e).2; omega
  · rcases List.mem_cons.1 hq with rfl | hq
    · simp only [if_true]
      rw [hk2 q (by omega)]
      exact hyb
    · simp only [if_neg (hlt q hq)]
      exact hNs.blk q hq
  · rcases List.mem_cons.1 hq with rfl | hq
    · simp only [if_true]
      exact World.ownsRow_nil _ _ _ _
    · simp only [if_neg (hlt q hq)]
      exact hNs.own q hq
  · rcases List.mem_cons.1 hq with rfl | hq
    · simp [Value.ownBlock] at e1
    · rcases List.mem_cons.1 hc with rfl | hc
      · simp [Value.ownBlock] at e2
      · simp only [if_neg (hlt q hq)] at e1
        simp only [if_neg (hlt c hc)] at e2
        exact H.nodes.apart q hq c hc i e1 e2
  · rcases List.mem_cons.1 hq with rfl | hq
    · have := H.base; omega
    · exact H.nodes.base q hq
  · have hfl : (b :: live).flatMap (fun q => if q = b then [] else N.kids q) = live.flatMap N.kids := by
      rw [List.flatMap_cons, if_pos rfl, List.nil_append, List.flatMap_def, List.flatMap_def, List.map_congr_left fun q hq => if_neg (hlt q hq)]
    show (tops ++ [b] ++ (b :: live).flatMap (fun q => if q = b then [] else N.kids q)).Perm (b :: live)
    rw [hfl, List.append_assoc]
    exact List.perm_middle.trans (List.Perm.cons b H.perm)
  · rcases List.mem_cons.1 hq with rfl | hq
    · simp at hc
    · simp only [if_neg (hlt q hq)] at hc ⊢
      have hcl : c ∈ live := H.perm.mem_iff.1 (List.mem_append_right _ (List.mem_flatMap.2 ⟨q, hq, hc⟩))
      rw [if_neg (hlt c hcl)]
      exact H.ord q hq c hc
  · rcases List.mem_cons.1 hq with rfl | hq
    · simp only [if_true]
      exact hx.low hlow
    · simp only [if_neg (hlt q hq)]
      exact (H.keys q hq).low hlow

set_option maxRecDepth 100000 in
set_option maxHeartbeats 4000000 in
theorem pushR (B h : Nat) (th : Nat → Value) (key : Nat → Int) (live : List Nat) (N : Nd) (tv : Value) (tops : List Nat) (x : Value) (k : Int) (w : World) (H : HeapR B h th key live N tv tops w) (hx : RdR B w x k) (hfew : live.length < 500000) :
    Calls Try.prog 46 #[.pointer (some ⟨h, 0, none⟩), x] w fun e w' => e = .returned (.tuple #[]) ∧ ∃ (N' : Nd) (tv' : Value), w.heap.size ∉ live ∧ HeapR B h (fun q => if q = w.heap.size then x else th q) (fun q => if q = w.heap.size then k else key q) (w.heap.size :: live) N' tv' (tops ++ [w.heap.size]) w' ∧ Moved (Foot h live N tv) (Foot h (w.heap.size :: live) N' tv') w w' := by
  obtain ⟨i0, hi0, hz0, hz1, hz2⟩ := info_parts Try.infoPR
  obtain ⟨h0, h1, h2, h3, h4⟩ := heapCells H.blk
  have hhl : h < w.heap.size := (Array.getElem?_eq_some_iff.1 H.blk).1
  have htf := H.perm.few
  have hbs := H.base
  have HO0 := toHid (World.ownsRow.alloc (World.ownsRow.alloc H.row (.cells #[x, .slice none 0 0] 108)) (.cells #[.pointer (some ⟨w.heap.size, 0, none⟩)] 103))
  have HSt := toHid (fun (y : World) (hg : ((w.alloc (.cells #[x, .slice none 0 0] 108)).alloc (.cells #[.pointer (some ⟨w.heap.size, 0, none⟩)] 103)).grownBy y tv.ownBlock) => ((grownBy_step (grownBy_step (World.grownBy_alloc w _ _) (World.grownBy_alloc _ _ _)) hg).block h hhl (fun e => row_other H.blk (by decide) H.row e.symm)).trans H.blk)
  have HH := toHid H
  have HX := toHid hx
  have HNL := toHid (show w.heap.size ∉ live from fun e => by have := H.nodes.lt _ e; omega)
  have HNW := toHid (news_one (w.alloc (.cells #[x, .slice none 0 0] 108)) w.heap.size 103)
  rw [show (w.alloc (.cells #[x, .slice none 0 0] 108)).heap.size = w.heap.size + 1 by simp] at HNW
  clear H hx
  obtain ⟨b1, o1, n1, c1, rfl, -, -⟩ := HX.out
  go_enter Try.func46, Try.ntmps46
  go_wp2_with (at_builtin; go_must (refine wpList_append_fresh _ rfl _ _ 99 rfl B 103 i0 _ 1 8 Try.underlying99 hi0 hz0 hz1 hz2 rfl (by decide) tv tops.length (ptrs tops) rfl HO0.out ⟨w.heap.size + 1, 0, none⟩ 1 1 (ptrs [w.heap.size]) rfl rfl HNW.out (ptrs_one _) (by unfold maxLen; omega) (by omega) (by simp; omega) ?_); intro v' y1 hown hgrow hfr; obtain ⟨a3, c3, rfl⟩ := ownsRow_shape hown; have HOW := toHid hown; have HGW := toHid hgrow; have HFW := toHid hfr; have hyy := HSt.out y1 hgrow; clear hown hgrow hfr h0 h1 h2 h3 h4; obtain ⟨h0, h1, h2, h3, h4⟩ := heapCells hyy; clear hyy)
  go_end0
  have hpe := pushEndR HH.out HX.out hfew HOW.out HGW.out HFW.out (.int .i64 ((live.length : Int) + 1)) rfl
  exact ⟨rfl, _, _, HNL.out, hpe.1, hpe.2⟩

end Go.Proofs.Ytnejcjebepidcaa
