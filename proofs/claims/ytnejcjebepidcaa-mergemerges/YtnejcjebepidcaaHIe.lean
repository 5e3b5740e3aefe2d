/-
  least: the one that none of the others is less than.
-/
import Derived.Test.YtnejcjebepidcaaHId
namespace Go.Proofs.Ytnejcjebepidcaa
open Go.RowKit

/-- Where least stands. -/
structure LeastI (B : Nat) (th : Nat → Value) (key : Nat → Int) (live : List Nat) (N : Nd) (l : List Nat) (w : World) (j m : Nat) (O : List Nat) (N1 : Nd) (u : Value) (W : World) : Prop where
  lt : j < l.length
  own : W.ownsRow B 83 1 u O.length (ptrs O)
  apart : Apart live N1 u
  new : ∀ k, u.ownBlock = some k → w.heap.size ≤ k
  nodes : NdOk 85 83 B th W live N1
  turn : Turn live N N1 w W
  perm : PermOk live N1 (m :: (O ++ l.take j))
  ord : OrdOk live key N1
  min : ∀ x, x ∈ O → key m ≤ key x

theorem news_optI (w : World) (m : List (Option Nat)) (p : Option Nat) (t : Nat) (hm : m = [p]) : ∀ j (hj : j < m.length), (w.alloc (.cells #[.pointer (p.map fun x => ⟨x, 0, none⟩)] t)).cell? ⟨w.heap.size, 0 + j, none⟩ = some (.pointer (m[j].map fun x => ⟨x, 0, none⟩)) := by
  subst hm
  intro j hj
  obtain rfl : j = 0 := by simp at hj; omega
  unfold World.cell?
  simp only [heap_alloc_new]
  rfl
theorem filter_optI (q : Option Nat) : [q].filterMap id = q.toList := by cases q <;> rfl

set_option maxRecDepth 100000 in
set_option maxHeartbeats 4000000 in
theorem leastI (B h g c p : Nat) (th : Nat → Value) (key : Nat → Int) (live : List Nat) (N : Nd) (l : List Nat) (tv sz : Value) (w : World) (hN : NdOk 85 83 B th w live N) (hd : live.Nodup) (hP : PermOk live N l) (hO : OrdOk live key N)
    (hh : w.heap[h]? = some (.cells #[.func (.func 24) #[] #[], tv, sz] 82)) (hk : ∀ x, x ∈ live → RdI B w (th x) (key x)) (hf : live.length ≤ 500000) (hB : B ≤ w.heap.size) (hlp : l.length = p + 1)
    (hr : w.ownsRow B 83 1 (.slice (some ⟨g, 0, none⟩) (p + 1) c) (p + 1) (ptrs l)) (ha : Apart live N (.slice (some ⟨g, 0, none⟩) (p + 1) c)) :
    Calls Try.prog 42 #[.pointer (some ⟨h, 0, none⟩), .slice (some ⟨g, 0, none⟩) (p + 1) c] w fun e w' =>
      ∃ (m : Nat) (v : Value) (N' : Nd) (O : List Nat), e = .returned (.tuple #[.pointer (some ⟨m, 0, none⟩), v]) ∧ w'.ownsRow B 83 1 v O.length (ptrs O) ∧ Apart live N' v ∧ (∀ k, v.ownBlock = some k → w.heap.size ≤ k) ∧ NdOk 85 83 B th w' live N' ∧ Turn live N N' w w' ∧ PermOk live N' (m :: O) ∧ OrdOk live key N' ∧ (∀ x, x ∈ O → key m ≤ key x) := by
  have hgl : g < w.heap.size := (hr.lt g rfl).2
  have hpf : p + 1 ≤ 500000 := by have := hP.few; omega
  obtain ⟨t0, ht0⟩ : ∃ t0, l[p]? = some t0 := ⟨l[p], by simp [hlp]⟩
  have c0 := row_cell hr ht0
  have HP0 := toHid (⟨by omega, World.ownsRow_nil _ _ _ _, Apart.nil _ _, fun k hk => by simp [Value.ownBlock] at hk, hN, Turn.refl _ _ _, hP.of (by
      have e : l = l.take p ++ [t0] := by
        conv => lhs; rw [← List.take_length (l := l), hlp, List.take_add_one, ht0]
        rfl
      conv => rhs; rw [e]
      simpa using (List.perm_append_singleton t0 (l.take p)).symm), hO, fun x hx => by simp at hx⟩ : LeastI B th key live N l w p t0 [] N (.slice none 0 0) w)
  have HRow := toHid (fun (W : World) (N1 : Nd) (hT : Turn live N N1 w W) => (hT.row hN (by decide) hr ha).1)
  have HHp := toHid (fun (W : World) (N1 : Nd) (hT : Turn live N N1 w W) => hT.other hN hh (by decide) (by decide))
  have HKy := toHid (fun (W : World) (N1 : Nd) (hT : Turn live N N1 w W) x hx => (hk x hx).low (hT.low hN hB))
  have HD := toHid hd
  have HLP := toHid hlp
  clear hN hP hO hh hk hr ha hd hlp ht0
  have hp1 : (p : Int) < (p : Int) + 1 := by omega
  have hp2 : 0 ≤ (p : Int) := by omega
  go_enter Try.func42, Try.ntmps42
  go_wp2_with fail
  clear c0
  go_loopw [6, 8, 9] (fun q s k W => ∃ (j m : Nat) (O : List Nat) (N1 : Nd) (u : Value), q = u ∧ s = .pointer (some ⟨m, 0, none⟩) ∧ k = .int .i64 ((j : Int) - 1) ∧ LeastI B th key live N l w j m O N1 u W) (fun _ _ k _ => (intOf k + 1).toNat)
  case atStart => exact ⟨p, t0, [], N, _, rfl, rfl, by first | rfl | go_num, HP0.out⟩
  case round =>
    obtain ⟨j, m, O, N1, u, hqu, rfl, rfl, hp⟩ := hrel
    obtain rfl := hqu.symm
    have HP := toHid hp
    clear hp HP0
    have hBw : B ≤ wr.heap.size := Nat.le_trans hB HP.out.turn.size
    have hLf : O.length ≤ 500000 := by have := HP.out.perm.few; simp at this; omega
    rcases j with _ | j
    · go_wp2
      go_ret2
      exact ⟨m, u, rfl, N1, O, HP.out.own, HP.out.apart, HP.out.new, HP.out.nodes, HP.out.turn, by simpa using HP.out.perm, HP.out.ord, HP.out.min⟩
    · have hjl := HP.out.lt
      obtain ⟨t, ht⟩ : ∃ t, l[j]? = some t := ⟨l[j], by rw [List.getElem?_eq_getElem]⟩
      have q0 := row_cell (HRow.out wr N1 HP.out.turn) ht
      have HM := toHid (meetTopI B h th key live N1 m t (O ++ l.take j) tv sz wr HP.out.nodes HD.out (HP.out.perm.of (by
        rw [List.take_add_one, ht]
        exact List.perm_iff_count.2 fun a => by simp [List.count_append, List.count_cons]; omega)) HP.out.ord (HHp.out wr N1 HP.out.turn) (HKy.out wr N1 HP.out.turn) hf hBw)
      have hj1 : (j : Int) < (p : Int) + 1 := by have := HLP.out; omega
      have hj2 : 0 ≤ (j : Int) := by omega
      have hj3 : ((j + 1 : Nat) : Int) - 1 = (j : Int) := by omega
      rw [hj3]
      clear hj3 ht
      go_wp2_with fail
      refine Calls.mono HM.out ?_
      rintro e w2 ⟨N2, pa, pb, rfl, n2, t2, p2, o2, k1, k2, k3⟩
      have HN2 := toHid n2
      have HT2 := toHid t2
      have HP2 := toHid p2
      have HO2 := toHid o2
      have HK1 := toHid k1
      have HK3 := toHid k3
      clear n2 t2 p2 o2 k1 k2 k3 HM q0
      have hrow := HT2.out.row HP.out.nodes (by decide) HP.out.own HP.out.apart
      have HRo := toHid hrow.1
      have HAp := toHid hrow.2
      have hsz2 := HT2.out.size
      have HPut := toHid (putI B u O w2.heap.size 0 1 [pb] (w2.alloc (.cells #[.pointer (pb.map fun x => ⟨x, 0, none⟩)] 83)) (World.ownsRow.alloc hrow.1 _) (news_optI w2 _ pb 83 rfl) (fun e => by have := (hrow.1.lt _ e).2; omega) (fun _ => by simp) (by simp; omega) (by simp; omega))
      clear hrow
      go_wp2_with fail
      refine Calls.mono HPut.out ?_
      rintro e w3 ⟨v3, rfl, o3, g3, f3⟩
      have HO3 := toHid o3
      have HG3 := toHid (grownBy_step (World.grownBy_alloc w2 _ _) g3)
      have HF3 := toHid (f3.mono (show w2.heap.size ≤ _ by simp))
      clear o3 g3 f3 HPut
      have HFin := toHid (⟨by omega, by have := HO3.out; rw [filter_optI] at this; exact this, HAp.out.grow HN2.out HF3.out, fun k hk => by
          rcases HF3.out k hk with e | e
          · exact HP.out.new k e
          · have := HP.out.turn.size; omega, HN2.out.grow (by decide) HRo.out HAp.out HG3.out, (HP.out.turn.trans HT2.out).grow HG3.out HP.out.new, HP2.out.of (List.perm_iff_count.2 fun a => by simp [List.count_append, List.count_cons]; omega), HO2.out, fun x hx => by
          rcases List.mem_append.1 hx with hx | hx
          · have := HP.out.min x hx; have := HK1.out; omega
          · exact HK3.out x (by simpa using hx)⟩ : LeastI B th key live N l w j pa (O ++ pb.toList) N2 v3 w3)
      go_wp2_with fail
      go_roundw
      case rel => exact ⟨j, pa, _, N2, v3, rfl, rfl, rfl, HFin.out⟩
      case measure => simp [intOf]

end Go.Proofs.Ytnejcjebepidcaa
