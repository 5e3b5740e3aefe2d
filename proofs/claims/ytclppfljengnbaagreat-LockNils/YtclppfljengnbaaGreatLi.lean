/-
  Who gets something, of those who wait for names on which something went.
-/
import Derived.Test.YtclppfljengnbaaGreatSh
import Derived.Test.YtclppfljengnbaaGreatSo
namespace Go.Proofs.YtclppfljengnbaaGreat
open Go.RowKit Go.Maps Go.Sort

/-- Name by name. -/
inductive LetA : List Name → AS → AS → List Gr → Prop
  | nil {s : AS} : LetA [] s s []
  | cons {n : Name} {ns : List Name} {s s1 s2 : AS} {l1 l2 : List Gr} : ShiftA n s s1 l1 → LetA ns s1 s2 l2 → LetA (n :: ns) s s2 (l1 ++ l2)
theorem LetA.snoc {n : Name} : ∀ {ns : List Name} {s s1 s2 : AS} {l1 l2 : List Gr}, LetA ns s s1 l1 → ShiftA n s1 s2 l2 → LetA (ns ++ [n]) s s2 (l1 ++ l2)
  | _, _, _, _, _, _, .nil, h => by
    have := LetA.cons h LetA.nil
    simpa using this
  | _, _, _, _, _, _, .cons h1 h2, h => by
    rw [List.append_assoc]
    exact .cons h1 (h2.snoc h)

theorem Good.rowLen {KT KN : List Lit} {w : World} {σ : Sg} {Q : Name → List Nat} {X : Name → Prop} {Y : Int → Prop} (h : Mem KT KN w σ) (G : Good σ Q X Y) (n : Name) : (Q n).length ≤ KT.length := by
  have := nodup_le' (l := (Q n).map fun z => Lit.int .i64 (σ.nd z).t) (T := KT) ?_ ?_
  · simpa using this
  · cases e : σ.lb n with
    | none => rw [(G.gone n e).2]; simp
    | some b =>
      rw [List.Nodup, List.pairwise_map]
      refine List.Pairwise.imp_of_mem (R := fun a b => a ≠ b) ?_ (G.ring n b e).nd
      intro a c ha hc hne e1
      injection e1 with e2 e3
      have h1 := (G.node n a ha).pw
      rw [e3, (G.node n c hc).pw] at h1
      exact hne (Option.some.inj h1).symm
  · intro x hx
    obtain ⟨z, hz, rfl⟩ := List.mem_map.1 hx
    obtain ⟨p, hp⟩ := G.pbOf (t := (σ.nd z).t) (by rw [(G.node n z hz).pw]; simp)
    obtain ⟨D, _, hD⟩ := h.hB
    exact hD.keys _ (by simp [ptF, hp])

theorem own_get {w : World} {B c i : Nat} {g : Nat} {e : TypeId} {zs : List (List UInt8)} (h : w.ownsRow B e 1 (.slice (some ⟨g, 0, none⟩) zs.length c) zs.length (zs.map encStr)) (hi : i < zs.length) : w.cell? ⟨g, i, none⟩ = some (nmV zs[i]) := by
  have := h.cells (g := g) rfl i (nmV zs[i]) (by simp [hi])
  rw [addr_add] at this
  exact this

theorem ownsRow_base {w : World} {B B' : Nat} {e : TypeId} {size : Nat} {v : Value} {n : Nat} {xs : List Value} (h : w.ownsRow B e size v n xs) (hb : B' ≤ B) : w.ownsRow B' e size v n xs := by
  refine ⟨h.1, ?_⟩
  rcases h.2 with h2 | ⟨g, cap, cur, hv, hg, r⟩
  · exact .inl h2
  · exact .inr ⟨g, cap, cur, hv, by omega, r⟩
theorem StepK.step {g0 : Nat} {w0 w w' : World} {σ0 σ σ' : Sg} (h : Step w0 σ0 w σ) (k : StepK g0 w σ w' σ') (hg : w0.heap.size ≤ g0) : Step w0 σ0 w' σ' :=
  ⟨h.turn.trans k.turn fun i hi => hi.elim (h.own i) fun e => .inr (Nat.le_trans hg e), fun i hi => (k.own i hi).elim (h.own i) fun h1 => .inr (Nat.le_trans h.turn.size h1), k.top.trans h.top, fun i hi => (k.tag i (by rw [h.tag i hi]; exact hi)).trans (h.tag i hi)⟩

section
variable {KT KN : List Lit} {w w0 : World} {σ σ0 : Sg} {Q : Name → List Nat} {X : Name → Prop} {B c : Nat} {va : Option Addr} {ns : List Name}

set_option maxRecDepth 100000 in
set_option maxHeartbeats 4000000 in
theorem letIn35 (h : Mem KT KN w σ) (G : Good σ Q X (fun _ => False)) (hX : ∀ k, X k ↔ k ∈ ns) (hlive : ∀ k, k ∈ ns → ∃ b, σ.lb k = some b) (hr : w.ownsRow B 9 1 (.slice va ns.length c) ns.length (ns.map encStr)) (hB : w0.heap.size ≤ B) (hbo : ∀ g, (Value.slice va ns.length c).ownBlock = some g → σ.own g = .no)
    (hn : ns.length ≤ 5000) (hs : Step w0 σ0 w σ) :
    Calls Tryz.prog 46 #[.pointer (some ⟨σ.T, 0, none⟩), .slice va ns.length c] w fun e w' => ∃ v, e = .returned v ∧ ∃ σ' Q' l', Mem KT KN w' σ' ∧ Good σ' Q' (fun _ => False) (fun _ => False) ∧ w'.ownsRow w0.heap.size 53 3 v l'.length (gcells l') ∧ (∀ g, v.ownBlock = some g → σ'.own g = .no) ∧ Step w0 σ0 w' σ' ∧ LetA (Lib.compact (srtT ns)) (absS σ Q) (absS σ' Q') l' ∧ l'.length ≤ 10000000 := by
  have hb1 : Below w.heap.size w (w.alloc (.cells #[.slice none 0 0] 50)) := (Below.refl _ _).alloc (Nat.le_refl _) _
  obtain ⟨g0, hg0⟩ : ∃ g0, w.heap.size = g0 := ⟨_, rfl⟩
  have hblk : ∀ g, (Value.slice va ns.length c).ownBlock = some g → B ≤ g ∧ g < g0 := fun g hg => by rw [← hg0]; exact ownsRow_blk hr hg
  have hr1 : (w.alloc (.cells #[.slice none 0 0] 50)).ownsRow B 9 1 (.slice va ns.length c) ns.length (ns.map encStr) := hr.alloc _
  have hst := sortT hr1 (by omega)
  have hls : (srtT ns).length = ns.length := (srtT_perm ns).length_eq
  have HCmp := toHid (show ∀ W, W.ownsRow B 9 1 (.slice va ns.length c) ns.length ((srtT ns).map encStr) → Calls Tryz.prog 72 #[.slice va ns.length c] W fun e' w' => e' = .returned (.slice va (Lib.compact (srtT ns)).length c) ∧ w'.ownsRow B 9 1 (.slice va (Lib.compact (srtT ns)).length c) (Lib.compact (srtT ns)).length ((Lib.compact (srtT ns)).map encStr) ∧ W.grownBy w' (Value.slice va ns.length c).ownBlock from fun W hW => by
    rw [← hls] at hW ⊢
    exact compT hW (by omega))
  have hno0 : σ.own g0 = .no := own_new h (by omega)
  obtain ⟨cs, hcs⟩ : ∃ cs, Lib.compact (srtT ns) = cs := ⟨_, rfl⟩
  have hcm : ∀ x, x ∈ cs ↔ x ∈ ns := fun x => by rw [← hcs, compact_mem]; exact (srtT_perm ns).mem_iff
  have hcl : cs.length ≤ 5000 := by rw [← hcs]; have := compact_len (srtT ns); omega
  have hcd : cs.Nodup := by
    rw [← hcs]
    refine (cmpT_rise ns).imp fun {a b} hab e => ?_
    rw [e] at hab
    exact List.lt_irrefl b hab
  rw [hcs] at HCmp ⊢
  have HM := toHid h
  have HG := toHid G
  have HS := toHid hs
  have HX := toHid hX
  have HLv := toHid hlive
  have HBo := toHid hbo
  have HBk := toHid hblk
  have Hcm := toHid hcm
  have Hcd := toHid hcd
  have HB0 := toHid hB
  have HB1 := toHid hb1
  have HN0 := toHid hno0
  have HG0 := toHid (show (w.alloc (.cells #[.slice none 0 0] 50)).heap[g0]? = some (.cells #[.slice none 0 0] 50) from by rw [← hg0]; exact heap_alloc_new w _)
  have HSz := toHid (show g0 + 1 ≤ (w.alloc (.cells #[.slice none 0 0] 50)).heap.size from by rw [← hg0]; simp)
  have Hw0 := toHid (show w0.heap.size ≤ g0 from by rw [← hg0]; exact hs.turn.size)
  clear h G hs hX hlive hbo hblk hcm hcd hB hb1 hr hr1 hno0 hcs hls
  obtain ⟨T, hT⟩ : ∃ T, σ.T = T := ⟨_, rfl⟩
  have HT := toHid hT
  rw [hT]
  clear hT
  go_enter Tryz.func46, Tryz.ntmps46
  go_wp2_with (first
    | (go_at_call 71; refine hst.mono ?_; rintro e w2 ⟨rfl, o2, gr2⟩; have GR2 := toHid gr2; have hcmp := HCmp.out w2 o2; clear gr2 o2)
    | (go_at_call 72; refine hcmp.mono ?_; rintro e w3 ⟨rfl, o3, gr3⟩; have GR3 := toHid gr3; have O3 := toHid o3; clear gr3 o3))
  have TU := toHid (show Turn (fun i => some i = (Value.slice va ns.length c).ownBlock) w w3 from ((Turn.of_below HB1.out _).trans (Turn.of_grown GR2.out) (fun i hi => .inl hi)).trans (Turn.of_grown GR3.out) (fun i hi => .inl hi))
  have hkn : w.heap.size = g0 := hg0
  have M3 := toHid (HM.out.keep TU.out fun i hi => HBo.out i hi.symm)
  have S3 := toHid (show Step w0 σ0 w3 σ from ⟨HS.out.turn.trans TU.out fun i hi => .inr (Nat.le_trans HB0.out (HBk.out i hi.symm).1), HS.out.own, HS.out.top, HS.out.tag⟩)
  have sz2 : g0 + 1 ≤ w3.heap.size := Nat.le_trans HSz.out (Nat.le_trans GR2.out.size GR3.out.size)
  have OG := toHid (show Got w3 σ g0 [] from ⟨.slice none 0 0, by
      have hne : ∀ k, (Value.slice va ns.length c).ownBlock = some k → k ≠ g0 := fun k hk => by have := (HBk.out k hk).2; omega
      rw [GR3.out.block g0 (Nat.le_trans HSz.out GR2.out.size) (fun e => hne g0 e.symm rfl), GR2.out.block g0 HSz.out (fun e => hne g0 e.symm rfl)]
      exact HG0.out, HN0.out, World.ownsRow_nil _ _ _ _, fun g hg => by cases hg⟩)
  clear HCmp hst HG0 HB1 GR2 GR3 hkn
  have HRd := toHid (show ∀ W σ1, StepK g0 w3 σ W σ1 → ∀ i (hi : i < cs.length), ∃ g, va = some ⟨g, 0, none⟩ ∧ W.cell? ⟨g, i, none⟩ = some (nmV cs[i]) from fun W σ1 hk i hi => by
    have O := O3.out
    rcases O.2 with ⟨_, e⟩ | ⟨g, cap, cur, hv, hg, hh, _⟩
    · omega
    · injection hv with e1 e2 e3
      subst e1
      refine ⟨g, rfl, ?_⟩
      have hgb := HBk.out g rfl
      have hgo := HBo.out g rfl
      have hbl : W.heap[g]? = w3.heap[g]? := hk.turn.block g (by omega) (fun e => e.elim (fun e1 => e1 hgo) (fun e1 => by omega))
      have := own_get O hi
      rw [← this]
      simp [World.cell?, hbl])
  go_loopw [15] (fun k W => ∃ (i : Nat) (σ1 : Sg) (Q1 : Name → List Nat) (l1 : List Gr), i ≤ cs.length ∧ k = .int .i64 i ∧ Hid (Mem KT KN W σ1) ∧ Hid (Good σ1 Q1 (fun k => k ∈ cs.drop i) (fun _ => False)) ∧ Hid (Got W σ1 g0 l1) ∧ Hid (StepK g0 w3 σ W σ1) ∧ Hid (σ1.T = T) ∧ Hid (LetA (cs.take i) (absS σ Q) (absS σ1 Q1) l1) ∧ Hid (l1.length ≤ 1000 * i) ∧ Hid (∀ k, k ∈ cs.drop i → σ1.lb k = σ.lb k)) (fun k _ => cs.length - (intOf k).toNat)
  case atStart => exact ⟨0, σ, Q, [], Nat.zero_le _, rfl, M3, toHid (HG.out.mono (fun k hk => by simpa using (Hcm.out k).2 ((HX.out k).1 hk)) (fun _ hk => hk)), OG, toHid (StepK.refl _ _ _), HT, toHid (by simpa using LetA.nil), toHid (by simp), toHid (fun _ _ => rfl)⟩
  case round =>
    obtain ⟨i, σ1, Q1, l1, hi, rfl, M1, G1, O1, K1, T1, A1, L1, LB⟩ := hrel
    clear OG M3
    have hq0 : 0 ≤ (i : Int) := by omega
    by_cases hlt : i < cs.length
    · have hq1 : (i : Int) < (cs.length : Int) := by omega
      obtain ⟨g, rfl, hcell⟩ := HRd.out wr σ1 K1.out i hlt
      have hd : cs.drop i = cs[i] :: cs.drop (i + 1) := List.drop_eq_getElem_cons hlt
      obtain ⟨n, hn'⟩ : ∃ n, cs[i] = n := ⟨_, rfl⟩
      rw [hn'] at hcell hd
      obtain ⟨b, hb⟩ := HLv.out n ((Hcm.out n).1 (by rw [← hn']; exact List.getElem_mem hlt))
      have hb1 : σ1.lb n = some b := by rw [LB.out n (by rw [hd]; simp)]; exact hb
      have hT1 := M1.out.cellsT.1
      rw [T1.out] at hT1
      have hlk := M1.out.hA.look lawS Tryz.underlying64 zero83 (keyS (G1.out.nm n b hb1))
      rw [show lkF σ1.lb (.string n) = some (ptr (some b)) from by simp [lkF, hb1]] at hlk
      simp only [Option.getD_some, ptr_some] at hlk
      have hrl := Good.rowLen M1.out G1.out n
      have hkt := M1.out.kt
      have HSh := toHid (show Calls Tryz.prog 73 #[.pointer (some ⟨T, 0, none⟩), .pointer (some ⟨b, 0, none⟩), .func (.func 70) #[] #[.pointer (some ⟨g0, 0, none⟩)]] wr fun e w' => e = .returned (.tuple #[]) ∧ ∃ σ' Q' l', Mem KT KN w' σ' ∧ Good σ' Q' (fun k => k ∈ cs.drop (i + 1)) (fun _ => False) ∧ Got w' σ' g0 (l1 ++ l') ∧ StepK g0 w3 σ w' σ' ∧ ShiftA n (absS σ1 Q1) (absS σ' Q') l' ∧ l1.length + l'.length ≤ l1.length + (Q1 n).length ∧ ∀ k, k ≠ n → σ'.lb k = σ1.lb k from by
        have := shift54 (X' := fun k => k ∈ cs.drop (i + 1)) (n := n) (b := b) M1.out G1.out hb1 (by rw [hd]; simp) O1.out (M := l1.length + (Q1 n).length) (by have := L1.out; omega) (Nat.le_refl _) K1.out (fun k hk => by rw [hd] at hk; simpa using hk)
        rw [T1.out] at this
        exact this)
      have HStep := toHid (show ∀ w' σ' Q' l', ShiftA n (absS σ1 Q1) (absS σ' Q') l' → l1.length + l'.length ≤ l1.length + (Q1 n).length → (∀ k, k ≠ n → σ'.lb k = σ1.lb k) → StepK g0 w3 σ w' σ' → LetA (cs.take (i + 1)) (absS σ Q) (absS σ' Q') (l1 ++ l') ∧ (l1 ++ l').length ≤ 1000 * (i + 1) ∧ (∀ k, k ∈ cs.drop (i + 1) → σ'.lb k = σ.lb k) ∧ σ'.T = T from fun w' σ' Q' l' s1 s2 s3 s4 => by
        refine ⟨?_, by have := L1.out; simp; omega, fun k hk => ?_, by rw [s4.top]; exact HT.out⟩
        · rw [List.take_add_one, List.getElem?_eq_getElem hlt, hn']
          exact A1.out.snoc s1
        · have hnd : (cs.drop i).Nodup := List.Nodup.sublist (List.drop_sublist _ _) Hcd.out
          rw [hd] at hnd
          rw [s3 k (fun e => (List.nodup_cons.1 hnd).1 (by rw [← e]; exact hk))]
          exact LB.out k (by rw [hd]; simp [hk]))
      clear hb hb1 hd hn' hrl A1 L1 LB M1 G1 O1 K1
      go_wp2_with (first
        | (go_at_call 73; refine HSh.out.mono ?_; rintro e w4 ⟨rfl, σ4, Q4, l4, m4, g4, o4, k4, s4, b4, lb4⟩; have HR := toHid (HStep.out w4 σ4 Q4 l4 s4 b4 lb4 k4); have M4 := toHid m4; have G4 := toHid g4; have O4 := toHid o4; have K4 := toHid k4; clear m4 g4 o4 k4 s4 b4 lb4))
      go_roundw
      case rel => exact ⟨i + 1, σ4, Q4, l1 ++ l4, by omega, by simp, M4, G4, O4, K4, toHid HR.out.2.2.2, toHid HR.out.1, toHid HR.out.2.1, toHid HR.out.2.2.1⟩
      case measure => first | omega | (simp only [intOf]; omega)
    · obtain rfl : i = cs.length := by omega
      obtain ⟨v, v1, v2, v3, v4⟩ := O1.out
      have hc0 : wr.cell? ⟨g0, 0, none⟩ = some v := by simp [World.cell?, v1]
      obtain ⟨ay, cy, rfl⟩ := ownsRow_shape v3
      have HR := toHid (show ∃ σ' Q' l', Mem KT KN wr σ' ∧ Good σ' Q' (fun _ => False) (fun _ => False) ∧ wr.ownsRow w0.heap.size 53 3 (.slice ay l1.length cy) l'.length (gcells l') ∧ (∀ g, (Value.slice ay l1.length cy).ownBlock = some g → σ'.own g = .no) ∧ Step w0 σ0 wr σ' ∧ LetA cs (absS σ Q) (absS σ' Q') l' ∧ l'.length ≤ 10000000 from
        ⟨σ1, Q1, l1, M1.out, G1.out.mono (fun k hk => by simp at hk) (fun _ hk => hk), ownsRow_base v3 (by have := Hw0.out; omega), v4, StepK.step S3.out K1.out Hw0.out, by have := A1.out; rwa [List.take_length] at this, by have := L1.out; omega⟩)
      clear v1 v2 v3 v4 A1 L1 LB M1 G1 O1 K1 hlt
      go_wp2_with fail
      go_ret
      exact ⟨_, rfl, HR.out⟩
end

end Go.Proofs.YtclppfljengnbaaGreat
