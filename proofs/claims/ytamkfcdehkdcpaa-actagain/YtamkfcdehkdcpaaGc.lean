/-
  ActAgain: the first loop.
-/
import Derived.Test.YtamkfcdehkdcpaaGb
namespace Go.Proofs.Ytamkfcdehkdcpaa
open Go.RowKit

set_option maxRecDepth 100000 in
set_option maxHeartbeats 3000000 in
theorem round7a (w : World) (a : Option Addr) (c : Nat) (l : List Ac) (fr : Int) (s : Nat) (hA : SlA w a l) (j : Nat) (hlt : j < l.length) (h40 : j < 40) (u : Nat → Value) (wr : World) (hu : Sl7 a c l fr s u) (lsn : Nat) (L : List Cl) (v rv : Value) (R : List Rc) (h9 : u 9 = rv) (h10 : u 10 = .int .i64 (j : Int)) (hl : lsn ≤ 16 * j) (hR : R.length ≤ j) (hG : Ag7 w s lsn L v rv R wr) (Q0 : Exit → Act → World → Prop)
    (hret : ∀ u' w', u' 6 = .bool true → Below w.heap.size w w' → Q0 .ret (frame7 u') w') :
    Code.wp Try.prog loop7a (Exit.then (fun x w'' => I7a w a c l fr s (j + 1) x w'') Q0) (frame7 u) wr := by
  obtain ⟨h1, h2, h7⟩ := hu
  obtain ⟨b, o, rfl, hbl, _⟩ := hA.at j hlt
  have hs := hG.sz
  have HA : Hid (∀ W, Below s w W → W.cell? ⟨b, o + j * 4, none⟩ = some (.int .i64 l[j].kind) ∧ W.cell? ⟨b, o + j * 4 + 1, none⟩ = some (.string (txt l[j].key)) ∧ W.cell? ⟨b, o + j * 4 + 2, none⟩ = some (.string (txt l[j].old)) ∧ W.cell? ⟨b, o + j * 4 + 3, none⟩ = some (.string (txt l[j].new))) := fun W hW => by
    obtain ⟨b', o', he, _, hC⟩ := (hA.on (by rw [← hs]; exact hW)).at j hlt
    simp at he
    obtain ⟨rfl, rfl⟩ := he
    exact hC
  have HG : Hid _ := hG
  have HX : Hid _ := hret
  have HL : Hid _ := hl
  rw [frame7_open, h1, h2, h7, h9, h10]
  clear h1 h2 h7 h9 h10 hA hG hret hl hbl hs
  conv => arg 2; whnf
  refine wp_seq_k fun K hK => ?_
  have HK : Hid _ := hK
  clear hK
  go_wp2_with fail
  refine HK.out _ _ ?_
  clear HK K
  refine wp_seq_k fun K2 hK2 => ?_
  have HK2 : Hid _ := hK2
  clear hK2
  refine wp_block ?_
  refine wp_seq_k fun K3 hK3 => ?_
  have HK3 : Hid _ := hK3
  clear hK3
  obtain ⟨x0, x1, x2, x3⟩ := HA.out _ HG.out.bel
  refine wp7 rfl rfl (reg8 b o l.length c j fr s rv l[j] hlt h40 _ wr rfl rfl rfl rfl rfl x0 x1 x2 x3 K3 _ ?_)
  intro u2 w2 k1 k2 k7 k9 k10 k11 hx hb2
  have HG2 := HG.out.on hb2
  obtain ⟨y0, y1, y2, y3⟩ := HA.out _ HG2.bel
  refine HK3.out _ _ (rest9 w b o l.length c j fr s rv l[j] hlt h40 u2 w2 wr.heap.size (16 * (j + 1)) k1 k2 k7 k9 k10 k11 y0 y1 y2 y3 hx lsn L v R (by have := HL.out; omega) hR HG2 _ ?_ ?_)
  · intro u' w' e1 e2
    exact HX.out u' w' e1 e2
  · intro u3 w3 lsn' L' v' rv' R' m1 m2 m7 m9 m10 hl3 hR3 hG3
    have HG3 : Hid _ := hG3
    show K2 (frame7 u3) w3
    refine HK2.out _ _ ?_
    rw [frame7_open, m1, m2, m7, m9, m10]
    have HL3 : Hid (lsn' ≤ 16 * (j + 1)) := by
      have := HL.out
      show _ ≤ _
      rcases hl3 with e | e <;> omega
    clear m1 m2 m7 m9 m10 hG3 hl3 x0 x1 x2 x3 y0 y1 y2 y3 hx hb2 HG2
    go_wp2_with fail
    exact ⟨_, lsn', L', v', rv', R', frame7_lit _ rfl rfl, ⟨rfl, rfl, rfl⟩, rfl, by show Value.int .i64 _ = _; simp, HL3.out, hR3, HG3.out⟩

set_option maxRecDepth 100000 in
set_option maxHeartbeats 3000000 in
theorem exit7a (a : Option Addr) (c : Nat) (l : List Ac) (fr : Int) (s : Nat) (j : Nat) (hj : ¬ (j < l.length ∧ j < 40)) (u : Nat → Value) (wr : World) (hu : Sl7 a c l fr s u) (rv : Value) (h9 : u 9 = rv) (h10 : u 10 = .int .i64 (j : Int)) (Q0 : Exit → Act → World → Prop) (R : Act → World → Prop)
    (hexit : ∀ u', Sl7 a c l fr s u' → u' 9 = rv → Q0 (.exit 0) (frame7 u') wr) :
    Code.wp Try.prog loop7a (Exit.then R Q0) (frame7 u) wr := by
  obtain ⟨h1, h2, h7⟩ := hu
  have HX : Hid _ := hexit
  clear hexit
  rw [frame7_open, h1, h2, h7, h9, h10]
  clear h1 h2 h7 h9 h10
  conv => arg 2; whnf
  by_cases hlt : j < l.length
  · have h40 : ¬ j < 40 := fun e => hj ⟨hlt, e⟩
    go_wp2_with fail
    exact q7 rfl rfl (HX.out _ ⟨rfl, rfl, rfl⟩ rfl)
  · go_wp2_with fail
    exact q7 rfl rfl (HX.out _ ⟨rfl, rfl, rfl⟩ rfl)

theorem loop7a_wp (w : World) (a : Option Addr) (c : Nat) (l : List Ac) (fr : Int) (s : Nat) (hA : SlA w a l) (u : Nat → Value) (wr : World) (hu : Sl7 a c l fr s u) (L : List Cl) (v : Value) (h9 : u 9 = .slice none 0 0) (h10 : u 10 = .int .i64 0) (hG : Ag7 w s 0 L v (.slice none 0 0) [] wr) (Q0 : Exit → Act → World → Prop)
    (hret : ∀ u' w', u' 6 = .bool true → Below w.heap.size w w' → Q0 .ret (frame7 u') w')
    (hexit : ∀ u' w' lsn' L' v' rv' R', Sl7 a c l fr s u' → u' 9 = rv' → lsn' < 18446744073709551616 → R'.length ≤ 40 → Ag7 w s lsn' L' v' rv' R' w' → Q0 (.exit 0) (frame7 u') w') :
    Code.wp Try.prog (Code.loop loop7a) Q0 (frame7 u) wr := by
  refine wp_loop (fun x w' => ∃ j, j ≤ l.length ∧ j ≤ 40 ∧ I7a w a c l fr s j x w') (fun x _ => l.length - (intOf (x.tmps.getD 10 undef)).toNat) ⟨0, by omega, by omega, u, 0, L, v, _, [], rfl, hu, h9, h10, by omega, by simp, hG⟩ ?_
  rintro x w' ⟨j, hjl, hj40, u', lsn', L', v', rv', R', rfl, hu', g9, g10, hl', hR', hG'⟩
  by_cases hj : j < l.length ∧ j < 40
  · refine Code.wp_mono ?_ (round7a w a c l fr s hA j hj.1 hj.2 u' w' hu' lsn' L' v' rv' R' g9 g10 hl' hR' hG' Q0 hret)
    intro e x w'' h'
    cases e <;> first | exact h' | skip
    refine ⟨⟨j + 1, by omega, by omega, h'⟩, ?_⟩
    obtain ⟨u'', _, _, _, _, _, rfl, _, _, k10, _⟩ := h'
    show l.length - (intOf (u'' 10)).toNat < l.length - (intOf (u' 10)).toNat
    rw [k10, g10]
    simp only [intOf]
    omega
  · exact exit7a a c l fr s j hj u' w' hu' rv' g9 g10 Q0 _ (fun u'' h1 h2 => hexit u'' w' lsn' L' v' rv' R' h1 h2 (by omega) (by omega) hG')

end Go.Proofs.Ytamkfcdehkdcpaa
