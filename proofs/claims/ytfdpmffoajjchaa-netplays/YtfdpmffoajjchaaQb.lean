/-
  NetPlays: a step that takes.
-/
import Derived.Test.YtfdpmffoajjchaaQa
import Derived.Test.YtfdpmffoajjchaaNe
namespace Go.Proofs.Ytfdpmffoajjchaa
open Go.RowKit Go.Conc

/-- A message was taken on both sides. -/
def T20 (w : World) (s n : Nat) (m : Ms) (p1 p2 : Pl) (v : Value) (W : World) : Prop :=
  ∃ (R : Nat → List Nat) (MM : Nat → Ms) (PL : Nat → Pl) (its : List It), Sim w W s n R MM PL v its ∧ Own W w.heap.size m p2 ∧ MI W m p1 ∧ (∀ j, j < 2 * n → ∀ b, b ∈ R j → Disj (PL b) p2) ∧ (∀ x, x ∈ its → Disj x.p p2)
theorem T20.below {w W W' : World} {s n : Nat} {m : Ms} {p1 p2 : Pl} {v : Value} (h : T20 w s n m p1 p2 v W) (hb : Below W.heap.size W W') : T20 w s n m p1 p2 v W' := by
  obtain ⟨R, MM, PL, its, h1, h2, h3, h4, h5⟩ := h
  exact ⟨R, MM, PL, its, h1.below hb, h2.keep (KeepC.below hb), h3.keep (KeepC.below hb), h4, h5⟩

theorem T20.mi1 {w W : World} {s n : Nat} {m : Ms} {p1 p2 : Pl} {v : Value} (h : T20 w s n m p1 p2 v W) : MI W m p1 := let ⟨_, _, _, _, _, _, h3, _⟩ := h; h3
theorem T20.mi2 {w W : World} {s n : Nat} {m : Ms} {p1 p2 : Pl} {v : Value} (h : T20 w s n m p1 p2 v W) : MI W m p2 := let ⟨_, _, _, _, _, h2, _⟩ := h; h2.mi

set_option maxRecDepth 100000 in
set_option maxHeartbeats 3000000 in
theorem step20_takeG (w wr : World) (s n : Nat) (D : Nat × Array Value) (R : Nat → List Nat) (MM : Nat → Ms) (PL : Nat → Pl) (v : Value) (its : List It) (x : Op1) (p : Pl) (hS : Sim w wr s n R MM PL v its) (hD : wr.heap[D.1]? = some (.cells D.2 45)) (hk : x.kind = 1) (m : Ms) (p1 p2 : Pl) (ok : Bool) (hL : Lim m)
    (hA : ∀ W, Below wr.heap.size wr W → Calls Try.prog 32 #[refN n v, .int .i64 x.frm, .int .i64 x.tow] W fun e w1 => ∃ a' k' c', e = .returned (.tuple #[refN n (.slice a' k' c'), msV m p1, .bool ok]) ∧ Below W.heap.size W w1 ∧ ∀ W2, Below w1.heap.size w1 W2 → Calls Try.prog 10 #[netP s n, .int .i64 x.frm, .int .i64 x.tow] W2 fun e w' => e = .returned (.tuple #[msV m p2, .bool ok]) ∧ Tn s n W2 w' ∧ T20 w s n m p1 p2 (.slice a' k' c') w') :
    Calls Try.prog 20 #[netP s n, refN n v, opV x p] wr (Post20 w s n D) := by
  obtain ⟨a, c, rfl⟩ := ownsRow_shape hS.row
  have HX := toHid (BoxS.new #[.int .i64 n, .slice a its.length c] (opA x p) zer45 hD)
  have hb3 := below_alloc3 wr (.cells #[.int .i64 n, .slice a its.length c] 45) (.cells (opA x p) 50) (.cells zer45 45)
  have HS := toHid (hS.below hb3)
  have HA := toHid (hA _ hb3)
  have HL := toHid hL
  have HZ := toHid hS.bel.size
  clear hS hD hL hA hb3
  go_enter Try.func20, Try.ntmps20
  refine wp_seq_k fun K0 hK0 => ?_
  have HK0 := toHid hK0
  clear hK0
  go_wp2_with fail
  refine HK0.out _ _ ?_
  clear HK0
  generalize hw0 : ((wr.alloc (.cells #[.int .i64 n, .slice a its.length c] 45)).alloc (.cells (opA x p) 50)).alloc (.cells zer45 45) = w0 at HX HS HA ⊢
  clear hw0
  generalize hB : wr.heap.size = B at HX HZ ⊢
  clear hB
  obtain ⟨o0, o1, o2, o3, o4, o5, o6, o7, o8, o9, o10, o11, o12⟩ := cell13 HX.out.h1
  obtain ⟨x0, x1, xf⟩ := cell2 HX.out.h0
  rw [hk] at o0
  go_wp2_with fail
  go_at_call 32
  refine Calls.mono HA.out ?_
  rintro e w1 ⟨a', k', c', rfl, hB1, hT⟩
  have HT := toHid hT
  have HX1 := toHid (HX.out.keep (KeepC.below hB1))
  have HS1 := toHid (HS.out.below hB1)
  clear hT hB1 HA HX HS o0 o1 o2 o3 o4 o5 o6 o7 o8 o9 o10 o11 o12 x0 x1 xf
  have hb2 : Below w1.heap.size w1 ((w1.alloc (.cells #[.int .i64 (n : Int), .slice a' k' c'] 45)).alloc (.cells #[.int .i64 m.kind, .int .i64 m.txn, .int .i64 m.page, .int .i64 m.to, .bool m.fast, .int .u64 (m.lsn : Int), .slice p1.wa m.wants.length p1.wc, .slice p1.pa m.pages.length p1.pc, .string (txt m.body)] 31)) := ((Below.refl _ _).alloc (Nat.le_refl _) _).alloc (by simp) _
  have HX2 := toHid (HX1.out.keep (KeepC.below hb2))
  have HS2 := toHid (HS1.out.below hb2)
  have HT2 := toHid (HT.out _ hb2)
  have HY13 := toHid (heap_alloc2_old w1 (.cells #[.int .i64 (n : Int), .slice a' k' c'] 45) (.cells #[.int .i64 m.kind, .int .i64 m.txn, .int .i64 m.page, .int .i64 m.to, .bool m.fast, .int .u64 (m.lsn : Int), .slice p1.wa m.wants.length p1.wc, .slice p1.pa m.pages.length p1.pc, .string (txt m.body)] 31))
  have HY14 := toHid (heap_alloc2_new w1 (.cells #[.int .i64 (n : Int), .slice a' k' c'] 45) (.cells #[.int .i64 m.kind, .int .i64 m.txn, .int .i64 m.page, .int .i64 m.to, .bool m.fast, .int .u64 (m.lsn : Int), .slice p1.wa m.wants.length p1.wc, .slice p1.pa m.pages.length p1.pc, .string (txt m.body)] 31))
  clear hb2 HX1 HS1 HT
  obtain ⟨o0, o1, o2, o3, o4, o5, o6, o7, o8, o9, o10, o11, o12⟩ := cell13 HX2.out.h1
  go_wp2_with fail
  go_at_call 10
  refine Calls.mono HT2.out ?_
  rintro e w3 ⟨rfl, hTn, hT3⟩
  have HX3 := toHid (HX2.out.keep (hTn.keepC HS2.out.net))
  have HZ13 := toHid (hTn.keepC HS2.out.net _ _ _ _ HY13.out)
  have HZ14 := toHid (hTn.keepC HS2.out.net _ _ _ _ HY14.out)
  have hb4 : Below w3.heap.size w3 (w3.alloc (.cells #[.int .i64 m.kind, .int .i64 m.txn, .int .i64 m.page, .int .i64 m.to, .bool m.fast, .int .u64 (m.lsn : Int), .slice p2.wa m.wants.length p2.wc, .slice p2.pa m.pages.length p2.pc, .string (txt m.body)] 31)) := (Below.refl _ _).alloc (Nat.le_refl _) _
  have HT4 := toHid (hT3.below hb4)
  have HX4 := toHid (HX3.out.keep (KeepC.below hb4))
  have H13 := toHid (KeepC.below hb4 _ _ _ _ HZ13.out)
  have H14 := toHid (KeepC.below hb4 _ _ _ _ HZ14.out)
  have H16 : Hid ((w3.alloc (.cells #[.int .i64 m.kind, .int .i64 m.txn, .int .i64 m.page, .int .i64 m.to, .bool m.fast, .int .u64 (m.lsn : Int), .slice p2.wa m.wants.length p2.wc, .slice p2.pa m.pages.length p2.pc, .string (txt m.body)] 31)).heap[w3.heap.size]? = some (.cells #[.int .i64 m.kind, .int .i64 m.txn, .int .i64 m.page, .int .i64 m.to, .bool m.fast, .int .u64 (m.lsn : Int), .slice p2.wa m.wants.length p2.wc, .slice p2.pa m.pages.length p2.pc, .string (txt m.body)] 31)) := heap_alloc_new _ _
  clear hTn hT3 hb4 HT2 HS2 HX2 HX3 HY13 HY14 HZ13 HZ14 o0 o1 o2 o3 o4 o5 o6 o7 o8 o9 o10 o11 o12
  obtain ⟨y0, y1, y2, y3, y4, y5, y6, y7, y8, yf⟩ := cell9 H14.out
  obtain ⟨z0, z1, z2, z3, z4, z5, z6, z7, z8, zf⟩ := cell9 H16.out
  go_wp2_with fail
  go_at_call 11
  refine Calls.mono (same11 m p1 p2 _ HT4.out.mi1 HT4.out.mi2 HL.out) ?_
  rintro e w5 ⟨rfl, hB5⟩
  have HT5 := toHid (HT4.out.below hB5)
  have HX5 := toHid (HX4.out.keep (KeepC.below hB5))
  have H13' := toHid (KeepC.below hB5 _ _ _ _ H13.out)
  have H16' := toHid (KeepC.below hB5 _ _ _ _ H16.out)
  clear hB5 HT4 HX4 H13 H14 H16 y0 y1 y2 y3 y4 y5 y6 y7 y8 yf z0 z1 z2 z3 z4 z5 z6 z7 z8 zf
  obtain ⟨z0, z1, z2, z3, z4, z5, z6, z7, z8, zf⟩ := cell9 H16'.out
  go_wp2_with fail
  go_at_call 31
  obtain ⟨R5, MM5, PL5, its5, hs5, ho5, hm5, hd5, hd5'⟩ := HT5.out
  refine Calls.mono (spoil31 m p2 _ w5 ho5 HL.out) ?_
  rintro e w6 ⟨rfl, hsp⟩
  have HX6 := toHid (HX5.out.spo ho5 hsp)
  have HS6 := toHid (hs5.spo ho5 (Nat.le_refl _) hsp hd5 hd5')
  have HY6 := toHid (hsp.other ho5 H13'.out (by decide) (by decide))
  clear hsp hs5 ho5 hm5 hd5 hd5' HT5 HX5 H13' H16' z0 z1 z2 z3 z4 z5 z6 z7 z8 zf
  obtain ⟨f1, f2, f3⟩ := fin20 HS6.out HX6.out HZ.out (.int .i64 (n : Int)) (.slice a' k' c')
  have HF1 := toHid f1
  have HF2 := toHid f2
  have HF3 := toHid f3
  obtain ⟨x0, x1, xf⟩ := cell2 HY6.out
  obtain ⟨z0, z1, zf⟩ := cell2 HX6.out.h2
  clear f1 f2 f3
  go_wp2_with fail
  exact bodyPost_ret (results_cell_row2 (P := Try.prog) Try.results20 _ _ (B + 2) 45 _ (0, 0) _ rfl HF1.out Try.underlying45 rfl (by kernel_rfl)) rfl ⟨_, _, _, _, _, rfl, HF2.out, HF3.out⟩

end Go.Proofs.Ytfdpmffoajjchaa
