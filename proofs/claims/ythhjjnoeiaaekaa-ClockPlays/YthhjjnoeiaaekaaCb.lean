/-
  ClockTurns: who asks as often as there are frames that aren't pinned, behind one round, is told each of them just once.
-/
import Derived.Test.YthhjjnoeiaaekaaCa
import Derived.Test.YthhjjnoeiaaekaaMc
import Derived.Lib.OwnKind
import Derived.OneCell
namespace Go.Proofs.Ythhjjnoeiaaekaa
open Go.RowKit

theorem loose_pos {l : List Fr} (h : looseN l ≠ 0) : ∃ j, ∃ hj : j < l.length, l[j].pins = 0 := by
  have : 0 < looseN l := by omega
  unfold looseN at this
  rw [List.countP_pos_iff] at this
  obtain ⟨f, hf, hp⟩ := this
  obtain ⟨j, hj, rfl⟩ := List.getElem_of_mem hf
  exact ⟨j, hj, by simpa using hp⟩
theorem loose_told {n : Nat} {l l' : List Fr} {i h' : Nat} (T : Told n l i l' h') (hl : l.length = n) : looseN l' = looseN l := by
  have e : l'.map (·.pins) = l.map (·.pins) := by
    refine List.ext_getElem (by simpa using T.len) fun j h1 h2 => ?_
    simp only [List.length_map] at h1 h2
    have := T.pins j (by omega)
    rw [getD_at h1, getD_at h2] at this
    simpa using this
  have hc : ∀ m : List Fr, looseN m = (m.map (·.pins)).countP fun x => decide (x = 0) := fun m => by
    unfold looseN
    rw [List.countP_map]
    rfl
  rw [hc, hc, e]
theorem next_goes {r : Rg} (hM : MayR r) (hp : looseN r.fr ≠ 0) : ∃ (i : Nat) (l : List Fr) (h' : Nat), nextR r = ((i : Int), ⟨l, (h' : Int)⟩, 0) ∧ Told r.fr.length r.fr i l h' ∧ lookN r.fr.length (2 * r.fr.length) r.fr r.hand.toNat = some (i, l, h') := by
  rcases next_cases r with ⟨-, h⟩ | ⟨-, -, h⟩ | ⟨i, l, h', e, -, T, hlk⟩
  · exact absurd hM h
  · obtain ⟨j, hj, hz⟩ := loose_pos hp
    have := h j hj
    omega
  · exact ⟨i, l, h', e, T, hlk⟩
theorem posn_le {n h t : Nat} (hh : h < n) (ht : t ≤ n) : posn n h t < n := by unfold posn; split <;> omega

theorem info3 : (Try.prog.info? 3).map (fun i => (i.zero, i.size, i.bytes)) = some (some (.int .i64 0), 1, 8) := by kernel_rfl
def nats (l : List Nat) : List Value := l.map fun (x : Nat) => .int .i64 (x : Int)
theorem nats_append (l m : List Nat) : nats (l ++ m) = nats l ++ nats m := by simp [nats]
theorem nats_length (l : List Nat) : (nats l).length = l.length := by simp [nats]
theorem ownsRow_shape {w : World} {B : Nat} {e : TypeId} {size : Nat} {v : Value} {n : Nat} {xs : List Value} (h : w.ownsRow B e size v n xs) : ∃ a c, v = .slice a n c := by
  rcases h.2 with ⟨rfl, rfl⟩ | ⟨g, cap, cur, rfl, _⟩
  · exact ⟨none, 0, rfl⟩
  · exact ⟨_, _, rfl⟩
theorem nats_at {w : World} {B : Nat} {v : Value} {l : List Nat} (h : w.ownsRow B 3 1 v l.length (nats l)) (j : Nat) (hj : j < l.length) : ∃ g c, v = .slice (some ⟨g, 0, none⟩) l.length c ∧ w.cell? ⟨g, j, none⟩ = some (.int .i64 (l[j] : Int)) := by
  rcases h.2 with ⟨rfl, h0⟩ | ⟨g, cap, cur, rfl, _⟩
  · omega
  · refine ⟨g, cap, rfl, ?_⟩
    have := h.cells (g := g) rfl j (.int .i64 (l[j] : Int)) (by simp [nats, hj])
    rw [add_at] at this
    simpa using this
theorem own_below {w w' : World} {B : Nat} {e : TypeId} {size : Nat} {v : Value} {n : Nat} {xs : List Value} (h : w.ownsRow B e size v n xs) (hb : Below w.heap.size w w') : w'.ownsRow B e size v n xs :=
  h.kept (row := none) ⟨hb.os, hb.tape, hb.output, hb.size, fun k hk _ => hb.block k hk⟩ (by cases v.ownBlock <;> simp)
/-- A row of frames stays where a row elsewhere grows. -/
theorem SlF.grown {w w' : World} {a : Option Addr} {l : List Fr} {o : Option Nat} (h : SlF w a l) (hg : w.grownBy w' o) (ho : ∀ y k, a = some y → o = some k → y.block ≠ k) : SlF w' a l :=
  ⟨h.nonil, fun x hx i t ht => by
    obtain ⟨h0, h1, h2, h3⟩ := h.cells x hx i t ht
    have hlt := World.block_lt_of_cell? _ _ h1
    simp only at hlt
    have hb := hg.block x.block hlt (fun e => ho x x.block hx e.symm rfl)
    have hc : ∀ o', w'.cell? ⟨x.block, o', none⟩ = w.cell? ⟨x.block, o', none⟩ := fun o' => by simp only [World.cell?, hb]
    exact ⟨h0, by rw [hc]; exact h1, by rw [hc]; exact h2, by rw [hc]; exact h3⟩⟩

theorem cell_one_new (w : World) (v : Value) (t : TypeId) : ∀ j u, [v][j]? = some u → (w.alloc (.cells #[v] t)).cell? ((⟨w.heap.size, 0, none⟩ : Addr).add j) = some u := by
  intro j u hu
  match j, hu with
  | 0, hu =>
    simp at hu
    subst hu
    simp [Addr.add]
theorem app_turn {w W w' : World} {v : Value} {k : Nat} {xs : List Value} {o : Obj} (HO : W.ownsRow w.heap.size 3 1 v k xs) (hgr : (W.alloc o).grownBy w' v.ownBlock) (hB : Below w.heap.size w W) :
    (∀ (b : Nat) (q : Array Value), W.heap[b]? = some (.cells q 24) → w'.heap[b]? = some (.cells q 24)) ∧ (∀ a l, SlF W a l → (∀ y kk, a = some y → v.ownBlock = some kk → y.block ≠ kk) → SlF w' a l) ∧ Below w.heap.size w w' := by
  have f2 := (al1 W o).2.2
  refine ⟨fun b q hb => ?_, fun a l hs hn => (hs.below f2).grown hgr hn, (below_on hB f2).grown hgr (by have := hB.size; simp; omega) (fun j hj => (HO.lt j hj).1)⟩
  have hlt := (Array.getElem?_eq_some_iff.mp hb).1
  refine (hgr.block b (by simp; omega) (fun e => ?_)).trans (box_in' hb f2)
  obtain ⟨c', fz, hc'⟩ := Lib.ownsRow_kind HO b e.symm
  rw [hb] at hc'
  simp at hc'

/-- What the second loop holds. -/
def L2R (w : World) (F nn hd P : Nat) (l : List Fr) (v ii : Value) (wr : World) : Prop :=
  ∃ i T : Nat, ∃ td : List Nat, ∃ a c, i ≤ F ∧ ii = .int .i64 i ∧ td.length = i ∧ T ≤ nn ∧ cntP nn hd l T = i ∧ (∀ x, x ∈ td → ∃ t, t < T ∧ x = posn nn hd t) ∧ wr.ownsRow w.heap.size 3 1 v i (nats td) ∧ wr.heap[P]? = some (.cells (rgC a c ⟨l, (posn nn hd T : Int)⟩) 24) ∧ SlF wr a l ∧ Below w.heap.size w wr

set_option maxRecDepth 20000 in
set_option maxHeartbeats 4000000 in
theorem turns_walk {n : Int} {a0 : Option Addr} {c0 : Nat} {l0 : List OpL} {w : World} (h : SlO w a0 l0) (hl : l0.length ≤ maxLen) :
    Calls Try.prog 7 #[.int .i64 n, .slice a0 l0.length c0] w fun e w' => e = .returned (.bool true) ∧ Below w.heap.size w w' := by
  go_enter Try.func7, Try.ntmps7
  go_wp2_with fail
  refine Calls.mono (made_any n a0 c0 l0 w h hl) ?_
  rintro e w1 ⟨a, c, r, rfl, hs1, hb1, hz⟩
  clear h hl
  have hws := hb1.size
  obtain ⟨i0, i1, i2⟩ := al1 w1 (.cells (rgC a c r) 24)
  have hs2 := hs1.below i2
  have hB2 := below_on hb1 i2
  have hwP : w.heap.size ≤ w1.heap.size := hb1.size
  clear hs1 hb1
  rcases hz with ⟨hM, -⟩ | ⟨rfl, -⟩
  · have h16 := hM.most
    have h01 := hM.one
    have hne : ((r.fr.length : Int) == 0) = false := by simp; intro e; simp [e] at h01
    go_wp2_with fail
    generalize World.alloc _ _ = W at i0 i1 i2 hs2 hB2 ⊢
    generalize w1.heap.size = P at i0 i1 hwP ⊢
    clear i1 i2 hws
    refine Calls.mono (loose_any a c r W hs2 (by omega)) ?_
    rintro e w2 ⟨rfl, hb2⟩
    have hs3 := hs2.below hb2
    have hB3 := below_on hB2 hb2
    have k3 := box_in' i0 hb2
    clear hs2 hB2 i0 hb2
    by_cases hF : looseN r.fr = 0
    · rw [hF]
      go_wp2_with fail
      refine Calls.mono (lives_any w2) ?_
      rintro e w3 ⟨rfl, hb3⟩
      have HB := toHid (below_on hB3 hb3)
      clear hb3 hB3 hs3 k3
      go_wp2
      go_ret
      exact ⟨rfl, HB.out⟩
    · obtain ⟨F, hFd⟩ : ∃ F, Hid (looseN r.fr = F) := ⟨_, toHid rfl⟩
      rw [hFd.out] at hF ⊢
      have hFle : F ≤ 16 := by have := looseN_le r.fr; have := hFd.out; omega
      obtain ⟨p0, p1, p2, p3, p4⟩ := cell2 k3
      have hFz : ((F : Int) == 0) = false := by simp; omega
      go_wp2_with fail
      refine Calls.mono (loose_any a c r w2 hs3 (by omega)) ?_
      rintro e w3 ⟨rfl, hb3⟩
      rw [hFd.out]
      have HS := toHid (hs3.below hb3)
      have HB := toHid (below_on hB3 hb3)
      have HP := toHid (box_in' k3 hb3)
      clear hs3 hB3 k3 hb3 p0 p1 p2 p3 p4
      obtain ⟨nn, hnn⟩ : ∃ nn, Hid (r.fr.length = nn) := ⟨_, toHid rfl⟩
      have hn1 : 1 ≤ nn := by have := hnn.out; omega
      have hn16 : nn ≤ 16 := by have := hnn.out; omega
      go_wp2_with fail
      go_loopw [7] (fun i wr => ∃ k : Nat, ∃ a c, ∃ q : Rg, k ≤ 2 * nn ∧ i = .int .i64 k ∧ MayR q ∧ q.fr.length = nn ∧ looseN q.fr = F ∧ Swept nn q.fr q.hand.toNat k ∧ wr.heap[P]? = some (.cells (rgC a c q) 24) ∧ SlF wr a q.fr ∧ Below w.heap.size w wr) (fun i _ => 2 * nn - (intOf i).toNat)
      case atStart => exact ⟨0, a, c, r, Nat.zero_le _, rfl, hM, hnn.out, hFd.out, Swept.zero _ _ _, HP.out, HS.out, HB.out⟩
      case round =>
        clear HP HS HB hM hFd hnn h16 h01
        obtain ⟨k, a, c, q, hk, rfl, hM, hln, hlo, hsw, hp, hs, hB⟩ := hrel
        have HM := toHid hM
        have HL := toHid hln
        have HF := toHid hlo
        have HW := toHid hsw
        have HP := toHid hp
        have HS := toHid hs
        have HB := toHid hB
        obtain ⟨p0, p1, p2, p3, p4⟩ := cell2 hp
        rw [hln] at p0
        have hPl : w.heap.size ≤ P := hwP
        clear hM hln hlo hsw hp hs hB
        by_cases hlt : k < 2 * nn
        · obtain ⟨i, l, h', hN, T, hlk⟩ := next_goes HM.out (by rw [HF.out]; exact hF)
          have hnx := next_any a c q wr HS.out (by have := HM.out.most; unfold maxLen; omega)
          simp only [rgV, rgC] at hnx
          rw [HL.out] at hnx
          have HX := toHid hnx
          have HN := toHid hN
          have HT := toHid T
          have HK := toHid hlk
          clear hnx hN T hlk
          go_wp2_with fail
          refine Calls.mono HX.out ?_
          rintro e w4 ⟨a4, c4, rfl, hs4, hb4⟩
          rw [HN.out] at hs4 ⊢
          simp only at hs4 ⊢
          have HS4 := toHid hs4
          have HB4 := toHid (below_on HB.out hb4)
          have HP4 := toHid (box_in' HP.out hb4)
          clear hs4 hb4 HX HN p0 p1 p2 p3 p4 HS HB HP
          obtain ⟨p0, p1, p2, p3, p4⟩ := cell2 HP4.out
          have hPn : ¬ P = w4.heap.size := by omega
          go_wp2_with fail
          go_roundw
          case rel =>
            have hT := HT.out
            rw [HL.out] at hT
            have hhl : h' < nn := by rw [hT.hand]; exact Nat.mod_lt _ (by omega)
            obtain ⟨e0, -, e2⟩ := al1 ((w4.setCell ⟨P, 0, none⟩ (.slice a4 l.length c4)).setCell ⟨P, 1, none⟩ (.int .i64 (h' : Int))) (.cells (rgC a4 c4 ⟨l, (h' : Int)⟩) 24)
            have hb5 := below_two (u := .slice a4 l.length c4) (v := .int .i64 (h' : Int)) HB4.out hPl
            refine ⟨k + 1, a4, c4, ⟨l, (h' : Int)⟩, by omega, by simp, told_may HM.out HT.out, by simp only; have := hT.len; have := HL.out; omega, ?_, ?_, box_in' (ring_set HP4.out) e2, (slF_two HS4.out HP4.out).below e2, below_on hb5 e2⟩
            · rw [← HF.out]
              exact loose_told hT HL.out
            · have hlk := HK.out
              rw [HL.out] at hlk
              have := look_swept _ _ _ k HL.out (by have := HM.out.h1; have := HM.out.h0; have := HL.out; omega) _ _ _ HW.out hlk
              simpa using this
          case measure => first | omega | (simp only [intOf]; omega)
        · obtain rfl : k = 2 * nn := by omega
          have hhn : q.hand.toNat < nn := by have := HM.out.h1; have := HM.out.h0; have := HL.out; omega
          have HC := toHid (HW.out.clean HL.out hhn (by omega))
          obtain ⟨hd, hhd⟩ : ∃ hd : Nat, Hid (q.hand = (hd : Int)) := ⟨q.hand.toNat, toHid (by have := HM.out.h0; omega)⟩
          have hdn : hd < nn := by have := hhd.out; omega
          obtain ⟨l, hq⟩ : ∃ l, q = ⟨l, (hd : Int)⟩ := ⟨q.fr, by rw [← hhd.out]⟩
          subst hq
          simp only at *
          clear HW hlt hhd hhn
          obtain ⟨i9, hi, hz0, hz1, hz2⟩ := info_parts info3
          have HCA := toHid (cnt_all (h := hd) HL.out hdn)
          go_wp2_with fail
          go_loopw [11, 12] (fun v ii wr => L2R w F nn hd P l v ii wr) (fun _ ii _ => F - (intOf ii).toNat)
          case atStart => exact ⟨0, 0, [], a, c, Nat.zero_le _, rfl, rfl, Nat.zero_le _, rfl, fun x hx => by simp at hx, World.ownsRow_nil _ _ _ _, by rw [show posn nn hd 0 = hd by simp [posn, hdn]]; exact HP.out, HS.out, HB.out⟩
          case round =>
            clear HP HS HB p0 p1 p2 p3 p4
            obtain ⟨i, T, td, a, c, hiF, rfl, htl, hT, hcn, htd, hown, hp, hs, hB⟩ := hrel
            have HTL := toHid htl
            have HCN := toHid hcn
            have HTD := toHid htd
            have HO := toHid hown
            have HP := toHid hp
            have HS := toHid hs
            have HB := toHid hB
            obtain ⟨av, cv, rfl⟩ := ownsRow_shape hown
            obtain ⟨p0, p1, p2, p3, p4⟩ := cell2 hp
            simp only at p0 p1
            rw [HL.out] at p0
            clear htl hcn htd hown hp hs hB
            by_cases hlt : i < F
            · obtain ⟨t, hTt, htn, hlk, hct⟩ := look_clean HL.out hdn HC.out (fun j hj => (mayF_pins (HM.out.up.may j hj hj)).1) (nn - T) T (2 * nn) (by omega) (by rw [HCA.out, HCN.out, HF.out]; exact hlt) (by omega)
              have hpT := posn_le hdn hT
              have hMq : MayR ⟨l, (posn nn hd T : Int)⟩ := ⟨HM.out.one, HM.out.most, by simp only; omega, by have := HL.out; simp only; omega, HM.out.up⟩
              have hN := nextR_told (i := posn nn hd t) (l := l) (h' := posn nn hd (t + 1)) hMq (by simp only [HL.out, Int.toNat_natCast]; exact hlk)
              have hnx := next_new a c ⟨l, (posn nn hd T : Int)⟩ wr HS.out (by have := HM.out.most; unfold maxLen; simp only at this ⊢; omega)
              simp only [rgV, rgC] at hnx
              rw [HL.out, hN] at hnx
              have HX := toHid hnx
              have HCT := toHid hct
              obtain ⟨x, hx⟩ : ∃ x, Hid (x = posn nn hd t) := ⟨_, toHid rfl⟩
              obtain ⟨y, hy⟩ : ∃ y, Hid (y = posn nn hd (t + 1)) := ⟨_, toHid rfl⟩
              obtain ⟨z, hzz⟩ : ∃ z, Hid (z = posn nn hd T) := ⟨_, toHid rfl⟩
              rw [← hx.out, ← hy.out, ← hzz.out] at HX
              rw [← hzz.out] at p1 HP
              clear hnx hlk hct hMq hN
              go_wp2_with fail
              refine Calls.mono HX.out ?_
              rintro e w4 ⟨a4, c4, rfl, hs4, hb4, hnew⟩
              simp only at hs4 ⊢
              have HS4 := toHid hs4
              have HB4 := toHid (below_on HB.out hb4)
              have HP4 := toHid (box_in' HP.out hb4)
              have HO4 := toHid (own_below HO.out hb4)
              have HNW := toHid hnew
              have HOL := toHid (show ∀ g, (Value.slice av i cv).ownBlock = some g → g < wr.heap.size from fun g hg => (HO.out.lt g hg).2)
              have hwr := hb4.size
              clear hs4 hb4 hnew HX p0 p1 p2 p3 p4 HS HB HP HO
              obtain ⟨p0, p1, p2, p3, p4⟩ := cell2 HP4.out
              have hPn : ¬ P = w4.heap.size := by omega
              obtain ⟨e0, e1, e2⟩ := al1 w4 (.cells (rgC a4 c4 ⟨l, (y : Int)⟩) 24)
              have HS5 := toHid (HS4.out.below e2)
              have HB5 := toHid (below_on HB4.out e2)
              have HP5 := toHid (box_in' HP4.out e2)
              have HO5 := toHid (own_below HO4.out e2)
              have HX5 := toHid e0
              clear e0 e1 e2
              go_wp2_with fail
              generalize World.alloc _ _ = W5 at HS5 HB5 HP5 HO5 HX5 ⊢
              go_loop [16] (fun j => ∃ k : Nat, k ≤ i ∧ j = .int .i64 k) (fun j => i - (intOf j).toNat)
              case atStart => exact ⟨0, Nat.zero_le _, rfl⟩
              case round =>
                obtain ⟨k, hk, rfl⟩ := hrel
                by_cases hki : k < i
                · have hktd : k < td.length := by have := HTL.out; omega
                  have ho := HO5.out
                  rw [← HTL.out] at ho
                  obtain ⟨g, cg, hv, hcl⟩ := nats_at ho k hktd
                  rw [HTL.out] at hv
                  injection hv with hv1 hv2 hv3
                  subst hv1 hv3
                  have hne : ((td[k] : Int) == (x : Int)) = false := by
                    obtain ⟨u, hu, hue⟩ := HTD.out td[k] (List.getElem_mem hktd)
                    have : td[k] ≠ x := fun e => by
                      rw [hue, hx.out] at e
                      have := posn_inj hdn (by omega) htn e
                      omega
                    simp; omega
                  generalize td[k] = tk at hcl hne
                  clear ho hv2
                  go_wp2_with fail
                  go_round
                  case rel => exact ⟨k + 1, by omega, by simp⟩
                  case measure => first | omega | (simp only [intOf]; omega)
                · obtain rfl : k = i := by omega
                  obtain ⟨s0, s1, s2, s3, s4⟩ := cell2 HX5.out
                  obtain ⟨t0, t1, t2, t3, t4⟩ := cell2 HP5.out
                  have HW5 := HO5
                  have hk16 : k ≤ 16 := by omega
                  have hB5s := HB5.out.size
                  go_wp2_with (at_builtin; go_must (refine wpList_append_own _ rfl _ _ 46 rfl w.heap.size 3 i9 (.int .i64 0) 1 8 Try.underlying46 hi hz0 hz1 hz2 rfl (by decide) _ _ _ rfl (HW5.out.alloc _) ⟨W5.heap.size, 0, none⟩ 1 1 [_] rfl rfl (cell_one_new _ _ _) (by intro u hu; simp at hu; subst hu; rfl) (by unfold maxLen; omega) (by omega) (by simp; omega) ?_; intro v' w' hown' hgr _; obtain ⟨av', cv', rfl⟩ := ownsRow_shape hown'; obtain ⟨hbx, hsl, hB6⟩ := app_turn HW5.out hgr HB5.out; have hP6 := hbx P _ HP5.out; have hX6 := hbx _ _ HX5.out; have hS6 := hsl a4 l HS5.out (fun yy kk hyy hkk => Nat.ne_of_gt (Nat.lt_of_lt_of_le (HOL.out kk hkk) (HNW.out yy hyy))); obtain ⟨u0, u1, u2, u3, u4⟩ := cell2 hP6; obtain ⟨r0, r1, r2, r3, r4⟩ := cell2 hX6; have HP6 := toHid hP6; have HX6 := toHid hX6; have HS6 := toHid hS6; have HB6 := toHid hB6; have HO6 := toHid hown'; clear hP6 hX6 hS6 hB6 hown' hgr hbx hsl))
                  go_roundw
                  case rel =>
                    refine ⟨_, _, _, ?_, rfl, rfl, rfl⟩
                    refine ⟨k + 1, t + 1, td ++ [x], a4, c4, by omega, by simp, by simp [HTL.out], by omega, by rw [HCT.out, HCN.out], fun u hu => ?_, ?_, ?_, slF_two HS6.out HP6.out, below_two HB6.out hPl⟩
                    · simp at hu
                      rcases hu with hu | rfl
                      · obtain ⟨t', h1, h2⟩ := HTD.out u hu
                        exact ⟨t', by omega, h2⟩
                      · exact ⟨t, by omega, hx.out⟩
                    · rw [nats_append]
                      have hne : (Value.slice av' (k + 1) cv').ownBlock ≠ some P := fun e => by
                        obtain ⟨c', fz, hc'⟩ := Lib.ownsRow_kind HO6.out P e
                        rw [HP6.out] at hc'
                        simp at hc'
                      exact ownsRow_setCell_other (ownsRow_setCell_other HO6.out hne _) hne _
                    · rw [← hy.out]
                      exact ring_set HP6.out
                  case measure => first | omega | (simp only [intOf]; omega)
            · obtain rfl : i = F := by omega
              go_wp2_with fail
              refine Calls.mono (lives_any wr) ?_
              rintro e w3 ⟨rfl, hb3⟩
              have HB9 := toHid (below_on HB.out hb3)
              clear hb3 HB HS HP p0 p1 p2 p3 p4
              go_wp2
              go_ret
              exact ⟨rfl, HB9.out⟩
  · simp only [rgV, rgC, Rg.zero, List.length_nil] at i0 i1 i2 hs2 hB2 ⊢
    go_wp2_with fail
    generalize World.alloc _ _ = W at i0 i1 i2 hs2 hB2 ⊢
    refine Calls.mono (lives_any W) ?_
    rintro e w3 ⟨rfl, hb3⟩
    have HB := toHid (below_on hB2 hb3)
    clear hb3 hB2 hs2 i0 i1 i2
    go_wp2
    go_ret
    exact ⟨rfl, HB.out⟩
end Go.Proofs.Ythhjjnoeiaaekaa
