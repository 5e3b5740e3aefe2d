/-
  ActDoes: one act, from its beginning.
-/
import Derived.Test.YtamkfcdehkdcpaaJc
namespace Go.Proofs.Ytamkfcdehkdcpaa
open Go.RowKit

set_option maxRecDepth 100000 in
set_option maxHeartbeats 3000000 in
theorem begin3 (w : World) (s g b o n c j : Nat) (hlt : j < n) (t : Ac) (L : List Cl) (v : Value) (a' : Option Addr) (c' : Nat) (u : Nat → Value) (wr : World) (h1 : u 1 = .slice (some ⟨b, o, none⟩) n c) (h5 : u 5 = .pointer (some ⟨s + 1, 0, none⟩)) (h6 : u 6 = .pointer (some ⟨g, 0, none⟩)) (h7 : u 7 = .int .i64 (j : Int))
    (HA : ∀ W, Below w.heap.size w W → W.cell? ⟨b, o + j * 4, none⟩ = some (.int .i64 t.kind) ∧ W.cell? ⟨b, o + j * 4 + 1, none⟩ = some (.string (txt t.key)) ∧ W.cell? ⟨b, o + j * 4 + 2, none⟩ = some (.string (txt t.old)) ∧ W.cell? ⟨b, o + j * 4 + 3, none⟩ = some (.string (txt t.new)))
    (hT : TwoOk wr s (s + 1) g 1 0 L v a' c') (hs : w.heap.size ≤ s) (hgs : w.heap.size ≤ g) (hB : Below w.heap.size w wr)
    (Q : Exit → Act → World → Prop) (HQ : ∀ c (a : Act) t v w, Q (.panic c) (a.put t v) w → Q (.panic c) a w)
    (hret : ∀ u' w', u' 4 = .bool true → Below w.heap.size w w' → Q .ret (frame3 u') w')
    (hnorm : ∀ u' w' L' v' a5 c5, u' 1 = .slice (some ⟨b, o, none⟩) n c → u' 5 = .pointer (some ⟨s + 1, 0, none⟩) → u' 6 = .pointer (some ⟨g, 0, none⟩) → u' 7 = .int .i64 (j : Int) → TwoOk w' s (s + 1) g 1 0 L' v' a5 c5 → Below w.heap.size w w' → Q .normal (frame3 u') w') :
    Code.wp Try.prog blk3 Q (frame3 u) wr := by
  have HN : Hid _ := hnorm
  have HX : Hid _ := hret
  have HT : Hid _ := hT
  have HB : Hid _ := hB
  have Hs : Hid _ := hs
  have Hgs : Hid _ := hgs
  have HQh : Hid _ := HQ
  have HAh : Hid _ := HA
  have hl := pageB_length 1 0 L hT.good.room
  obtain ⟨x0, x1, x2, x3⟩ := HA wr hB
  have HSh : Hid _ := short_any t
  have HPl : Hid (∀ W, PgOk W (s + 1) (s + 1) 1 0 v L → Calls Try.prog 13 #[.pointer (some ⟨s + 1, 0, none⟩), .agg #[.int .i64 t.kind, .string (txt t.key), .string (txt t.old), .string (txt t.new)]] W fun e w' => e = .returned (.int .i64 (doL L t).2) ∧ Below W.heap.size W w') := fun W hW => plan_any (s + 1) (s + 1) 1 0 v L t W hW hT.good
  simp only [actV, actC] at HSh
  rw [frame3_open, h1, h5, h6, h7]
  clear h1 h5 h6 h7 hnorm hret hT hB hs hgs HQ HA
  conv => arg 2; whnf
  refine wp_seq_k fun K hK => ?_
  have HK : Hid _ := hK
  clear hK
  go_wp2_with fail
  refine (HSh.out _).mono ?_
  rintro e w3 ⟨⟨bb, rfl⟩, hb3⟩
  have HT3 : Hid _ := HT.out.on hb3
  have HB3 : Hid _ := below_on HB.out hb3
  clear hb3 x0 x1 x2 x3 HSh HT HB
  cases bb
  · go_wp2_with fail
    refine (lives_any _).mono ?_
    rintro e w4 ⟨rfl, hb4⟩
    go_wp2_with fail
    exact q3 rfl rfl (HX.out _ _ rfl (below_on HB3.out hb4))
  · go_wp2_with fail
    refine HK.out _ _ ?_
    clear HK K
    have HBy : Hid _ := bytes_any (s + 1) (s + 1) 1 0 v L w3 HT3.out.pg HT3.out.good (by omega)
    go_wp2_with fail
    refine Calls.mono HBy.out ?_
    rintro e w4 ⟨G, rfl, _, hB4, hb4⟩
    have cb := conv_buf hB4 hl
    have HT4 : Hid _ := HT3.out.on hb4
    have HB4 : Hid _ := below_on HB3.out hb4
    clear hB4 hb4 HBy HT3 HB3
    obtain ⟨x0, x1, x2, x3⟩ := HAh.out _ HB4.out
    go_wp2_with fail
    refine Calls.mono (HPl.out _ HT4.out.pg) ?_
    rintro e w5 ⟨rfl, hb5⟩
    have HT5 : Hid _ := HT4.out.on hb5
    have HB5 : Hid _ := below_on HB4.out hb5
    clear hb5 x0 x1 x2 x3 cb HT4 HB4 HPl
    have HBy : Hid _ := bytes_any (s + 1) (s + 1) 1 0 v L w5 HT5.out.pg HT5.out.good (by omega)
    go_wp2_with fail
    refine Calls.mono HBy.out ?_
    rintro e w6 ⟨G6, rfl, _, hB6, hb6⟩
    have cb := conv_buf hB6 hl
    have HT6 : Hid _ := HT5.out.on hb6
    have HB6 : Hid _ := below_on HB5.out hb6
    clear hB6 hb6 HBy HT5 HB5
    go_wp2_with fail
    rename_i Kx hKx
    refine wp3 rfl rfl (reg13 w s g b o n c j hlt t L v a' c' _ w6 _ rfl rfl rfl rfl rfl HAh.out HT6.out HB6.out Kx _ HQh.out ?_)
    intro u' w' h5 a5 c5 k1 k5 k6 k7 k9 k10 k11 hk hT hS hN hB
    refine hKx _ _ ?_
    refine wp_seq_k fun K4 hK4 => ?_
    have HK4 : Hid _ := hK4
    have HTX : Hid _ := hT
    have HSX : Hid _ := hS
    have HNX : Hid _ := hN
    have HBX : Hid _ := hB
    rw [frame3_open, k1, k5, k6, k7, k9, k10, k11]
    obtain ⟨x0, x1, x2, y0, y1, y2, hzx⟩ := cell3 hk
    obtain ⟨d0, d1, d2, g0, g1, g2, hzd⟩ := cell3 hT.ref
    clear hK4 hKx hT hS hN hB k1 k5 k6 k7 k9 k10 k11 hk cb hl
    go_wp2_with fail
    refine HK4.out _ _ ?_
    refine wp3 rfl rfl (rest14 w s g b o n c j hlt t L HTX.out.good v a5 c5 _ (newW w' g 1 0 (.slice a5 (doL L t).1.length c5)) rfl rfl rfl rfl rfl rfl HAh.out (newW_pg HTX.out.pg HTX.out.pne HTX.out.own 1 0 _) Hs.out (newW_below HBX.out Hgs.out 1 0 _) (fun w8 v8 hp ht hf => two_next (c5 := c5) HTX.out HSX.out HNX.out (do_good HTX.out.good t) hp ht hf) Q HQh.out (fun u'' w'' v'' m1 m5 m6 m7 q1 q2 => HN.out u'' w'' _ v'' a5 c5 m1 m5 m6 m7 q1 q2))

end Go.Proofs.Ytamkfcdehkdcpaa
