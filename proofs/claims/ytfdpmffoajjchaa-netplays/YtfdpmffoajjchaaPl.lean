/-
  Peek of a row.
-/
import Derived.Test.YtfdpmffoajjchaaPk
namespace Go.Proofs.Ytfdpmffoajjchaa
open Go.RowKit Go.Conc

set_option maxRecDepth 100000 in
theorem frame_open31 (u : Nat → Value) : frameN 31 u = ⟨#[u 0, u 1, u 2, u 3, u 4, u 5, u 6, u 7, u 8, u 9, u 10, u 11, u 12, u 13, u 14, u 15, u 16, u 17, u 18, u 19, u 20, u 21, u 22, u 23, u 24, u 25, u 26, u 27, u 28, u 29, u 30], []⟩ := by kernel_rfl

def rot (l : List Nat) (i : Nat) : List Nat := l.drop i ++ l.take i
theorem rot_zero (l : List Nat) : rot l 0 = l := by simp [rot]
theorem rot_full (l : List Nat) : rot l l.length = l := by simp [rot]
theorem rot_cons (l : List Nat) (i : Nat) (h : i < l.length) : rot l i = l[i] :: (l.drop (i + 1) ++ l.take i) := by unfold rot; rw [List.drop_eq_getElem_cons h]; rfl
theorem rot_next (l : List Nat) (i : Nat) (h : i < l.length) : (l.drop (i + 1) ++ l.take i) ++ [l[i]] = rot l (i + 1) := by unfold rot; rw [List.append_assoc, List.take_succ_eq_append_getElem h]

/-- Between two messages of a look. -/
structure PeekI (w W : World) (s n k : Nat) (R : Nat → List Nat) (ms : List Ms) (i : Nat) (v : Value) (u : Nat → Value) : Prop where
  h7 : u 7 = .chan (some (chb s n k))
  h8 : u 8 = v
  h15 : u 15 = .int .i64 ((R k).length : Nat)
  h16 : u 16 = .int .i64 (i : Nat)
  le : i ≤ (R k).length
  net : NetOk W s n (upd R k (rot (R k) i))
  tn : Tn s n w W
  all : ∃ ps, AllR W w.heap.size v (ms.take i) ps

set_option maxRecDepth 100000 in
set_option maxHeartbeats 2000000 in
theorem peek_row {w : World} {s n k : Nat} {R : Nat → List Nat} {ms : List Ms} (h : NetOk w s n R) (f t : Int) (hr : rix n f t = some k) (hM : RowM w (R k) ms) :
    Calls Try.prog 16 #[netP s n, .int .i64 f, .int .i64 t] w fun e w' => ∃ v ps, e = .returned v ∧ AllR w' w.heap.size v ms ps ∧ NetOk w' s n R ∧ Tn s n w w' := by
  have hk := rix_lt hr
  have HB := toHid (between_any w s n R h f t)
  rw [hr] at HB
  simp only [rowV, Option.map_some] at HB
  obtain ⟨sn, rc, hc⟩ := h.ch k hk
  have hl : ∀ ty, (Builtin.len_ #[66] ty #[.chan (some (chb s n k))]).run Try.prog w = .ok (.int .i64 ((R k).length : Nat)) w := fun ty => by
    rw [run_len_chan 66 ty Try.underlying66 hc]
    simp [goInt, ptrs_length]
  clear hc
  have hlen := h.len k hk
  have HM := toHid hM
  have HN := toHid h
  have HK := toHid hk
  have HLT := toHid h.lt
  clear hr hM h hk
  refine calls_of_wpN Try.func16 rfl ?_
  simp only [Try.ntmps16, List.size_toArray, List.length_cons, List.length_nil, Nat.reduceAdd, Nat.reduceSub, Array.replicate_succ, Array.replicate_zero, List.push_toArray, List.append_toArray, List.nil_append, List.cons_append]
  refine wpN_seq_k fun K hK => ?_
  go_wp2_with fail
  refine wpN_seq_k fun K hK => ?_
  go_wp2_with (go_at_call 26; refine Calls.mono HB.out ?_; rintro e w' ⟨rfl, hw⟩; obtain rfl := hw.symm)
  refine wpN_seq_k fun K hK => ?_
  go_wp2_with fail
  refine wpN_seqN_k fun K hK => ?_
  have HKK := toHid hK
  clear hK
  refine wpN_seq_k fun K2 hK2 => ?_
  go_wp2_with fail
  clear hl
  refine wpN_block ?_
  refine wpN_loop (fun A W => ∃ (i : Nat) (v : Value) (u : Nat → Value), A = frameN 31 u ∧ PeekI w W s n k R ms i v u) (fun A _ => (R k).length - (intOf (A.tmps.getD 16 undef)).toNat) ?_ ?_
  · refine ⟨0, .slice none 0 0, _, frameN_lit 31 _ rfl rfl, ⟨rfl, rfl, rfl, rfl, Nat.zero_le _, ?_, Tn.refl _ _ _, [], ?_⟩⟩
    · rw [rot_zero, upd_self]
      exact HN.out
    · rw [List.take_zero]
      exact AllR.nil _ _
  rintro A W ⟨i, v, u, rfl, ⟨h7, h8, h15, h16, hi, hNr, hTr, ps, hAr⟩⟩
  have HNr := toHid hNr
  have HTr := toHid hTr
  have HAr := toHid hAr
  have hmi : (intOf ((frameN 31 u).tmps.getD 16 undef)).toNat = i := by
    show (intOf (u 16)).toNat = i
    rw [h16]
    simp [intOf]
  rw [hmi]
  have HH16 := toHid h16
  clear hNr hTr hAr hmi
  rw [frame_open31, h7, h8, h15, h16]
  clear h7 h8 h15 h16
  by_cases hlt : i < (R k).length
  · have e1 : (i : Int) < ((R k).length : Int) := by omega
    have hml := HM.out.len
    obtain ⟨b, hb⟩ : ∃ b, b = (R k)[i] := ⟨_, rfl⟩
    obtain ⟨m, hm⟩ : ∃ m, m = ms[i]'(by omega) := ⟨_, rfl⟩
    obtain ⟨hLm, p, hbk, hmi⟩ := HM.out.each i b m (by rw [hb]; exact List.getElem?_eq_getElem hlt) (by rw [hm]; exact List.getElem?_eq_getElem (by omega))
    have hbw : b < w.heap.size := (Array.getElem?_eq_some_iff.1 hbk).1
    have hx : upd R k (rot (R k) i) k = b :: ((R k).drop (i + 1) ++ (R k).take i) := by rw [upd_same, rot_cons _ _ hlt, hb]
    have HX := toHid hx
    have HBK := toHid (HTr.out.keepC HN.out _ _ _ _ hbk)
    have HMI := toHid (hmi.keep (HTr.out.keepC HN.out))
    have HLM := toHid hLm
    have HNX : Hid (((R k).drop (i + 1) ++ (R k).take i) ++ [b] = rot (R k) (i + 1)) := by show _ = _; rw [hb]; exact rot_next _ _ hlt
    obtain ⟨mt, hmt⟩ : ∃ mt, mt = ms.take i := ⟨_, rfl⟩
    have HTk : Hid (ms.take (i + 1) = mt ++ [m]) := by show _ = _; rw [hmt, hm]; exact List.take_succ_eq_append_getElem (by omega)
    have HTl : Hid (mt.length = i) := by show _ = _; rw [hmt, List.length_take]; omega
    rw [← hmt] at HAr
    clear hmt
    have HBW := toHid hbw
    obtain ⟨wa, wc, pa, pc⟩ := p
    clear hb hm hLm hbk hmi hx hml hbw
    refine wpN_seq_k fun K3 hK3 => ?_
    go_wp2_with fail
    refine wpN_seq_k fun K4 hK4 => ?_
    go_wp2_with fail
    refine wpN_seqN_k fun K5 hK5 => ?_
    have HK5 := toHid hK5
    clear hK5
    refine wpN_block ?_
    refine wpN_seq_k fun K6 hK6 => ?_
    go_wp2_with (go_at_call 27; refine Calls.mono (first_c HNr.out HK.out HX.out) ?_; rintro e w1 ⟨rfl, hN1, hT1, hz1⟩; have HN1 := toHid hN1; have HT1 := toHid hT1; have HBK1 := toHid (hT1.keepC HNr.out _ _ _ _ HBK.out); have HMI1 := toHid (HMI.out.keep (hT1.keepC HNr.out)); have HA1 := toHid (HAr.out.keep (hT1.keepC HNr.out)); have HTw1 := toHid (HTr.out.trans hT1); clear hN1 hT1 hz1)
    obtain ⟨q0, q1, q2, q3, q4, q5, q6, q7, q8, qf⟩ := cell9 HBK1.out
    refine wpN_seq_k fun K7 hK7 => ?_
    go_wp2_with fail
    go_at_call 28
    refine Calls.mono (copied28 m ⟨wa, wc, pa, pc⟩ w1 HMI1.out HLM.out) ?_
    rintro e w2 ⟨⟨wa2, wc2, pa2, pc2⟩, rfl, hO2, hB2⟩
    clear q0 q1 q2 q3 q4 q5 q6 q7 q8 qf
    have HN2 := toHid (HN1.out.below hB2)
    have HA2 := toHid (HA1.out.keep (KeepC.below hB2))
    have HTw2 := toHid (HTw1.out.low (hB2.mono HTw1.out.size))
    have HO2 := toHid (hO2.low HTw1.out.size)
    have HD2 : Hid (∀ q, q ∈ ps → Disj q ⟨wa2, wc2, pa2, pc2⟩) := fun q hq => disj_of (HA1.out.till q hq) (own_from hO2)
    clear hO2 hB2
    have hb3 : Below w2.heap.size w2 (w2.alloc (.cells (msC m ⟨wa2, wc2, pa2, pc2⟩) 31)) := (Below.refl _ _).alloc (Nat.le_refl _) _
    have HN3 := toHid (HN2.out.below hb3)
    have HA3 := toHid (HA2.out.keep (KeepC.below hb3))
    have HTw3 := toHid (HTw2.out.low (hb3.mono HTw2.out.size))
    have HO3 := toHid (HO2.out.keep (KeepC.below hb3))
    have HC3 : Hid ((w2.alloc (.cells (msC m ⟨wa2, wc2, pa2, pc2⟩) 31)).heap[w2.heap.size]? = some (.cells (msC m ⟨wa2, wc2, pa2, pc2⟩) 31)) := heap_alloc_new _ _
    have hsz3 : w.heap.size ≤ w2.heap.size := HTw2.out.size
    clear hb3
    obtain ⟨i0, hi0, hz0, hz1, hz2⟩ := info_parts info31
    go_wp2_with (at_builtin; go_must (refine wpList_append_fresh _ rfl (.tmp 20) (.tmp 25) 39 rfl w.heap.size 31 i0 _ 9 112 Try.underlying39 hi0 hz0 hz1 hz2 rfl (by decide) v mt.length (allC mt ps) rfl HA3.out.row ⟨w2.heap.size, 0, none⟩ 1 1 (msL m ⟨wa2, wc2, pa2, pc2⟩) rfl rfl (fun j u hj => ?_) (fun u hu => ?_) ?_ ?_ (by simp; omega) ?_))
    · rw [add_plain]
      have hj9 : j < 9 := (List.getElem?_eq_some_iff.1 hj).1
      simp only [World.cell?, HC3.out, Nat.zero_add]
      have : (msC m ⟨wa2, wc2, pa2, pc2⟩)[j]? = some u := by rw [← Array.getElem?_toList]; exact hj
      simpa using this
    · simp only [msL, List.mem_cons, List.not_mem_nil, or_false] at hu
      rcases hu with rfl | rfl | rfl | rfl | rfl | rfl | rfl | rfl | rfl <;> rfl
    · rw [HTl.out]; unfold maxLen; omega
    · rw [HTl.out]; omega
    intro v' y hown hgrow hfr
    have HA4 := toHid (HA3.out.push HO3.out HD2.out hown hgrow)
    have hkeep : ∀ j, j < w.heap.size → y.heap[j]? = (w2.alloc (.cells (msC m ⟨wa2, wc2, pa2, pc2⟩) 31)).heap[j]? := fun j hj => hgrow.block j (by simp; omega) (fun e => by have := (HA3.out.block j e.symm).1; omega)
    have HN4 := toHid (HN3.out.keep (w' := y) fun j _ hj => hkeep j (by have := HLT.out; omega))
    have HT4 : Hid (Tn s n w y) := HTw3.out.low ⟨hgrow.os, hgrow.tape, hgrow.output, hgrow.size, hkeep⟩
    clear hown hgrow hfr hkeep
    go_wp2_with fail
    obtain ⟨sn, rc, hc⟩ := HN4.out.ch k HK.out
    rw [upd_upd, upd_same] at hc
    have HN5 := toHid (HN4.out.set HK.out (rot (R k) (i + 1)) (by rw [← HNX.out]; simp; omega) (sn + 1) rc)
    have HT5 := toHid (Tn.setChan (s := s) y HK.out 256 (ptrs (rot (R k) (i + 1))).toArray false (sn + 1) rc false)
    have hset : (ptrs ((R k).drop (i + 1) ++ (R k).take i)).toArray.push (.pointer (some ⟨b, 0, none⟩)) = (ptrs (rot (R k) (i + 1))).toArray := by rw [← HNX.out]; simp [ptrs, ptr]
    refine wpN_region_send (v1 := .chan (some (chb s n k))) (v2 := .pointer (some ⟨b, 0, none⟩)) (v := undef) (w' := y) (w'' := y.setChan (chb s n k) 256 (ptrs (rot (R k) (i + 1))).toArray false (sn + 1) rc false) (cases := #[scase (chb s n k) (.pointer (some ⟨b, 0, none⟩)) (.tuple #[])]) (blocking := true) (shape := .send) rfl rfl rfl rfl rfl (by simp [go_sem, execOp, scase, Act.eval, Act.put]) (fun fr cs es h => by rw [← hset]; exact step_lone_send_room h hc (by simp [ptrs_length]; omega)) ?_
    clear hset hc
    have HA5 := toHid (HA4.out.keep (HT5.out.keepC HN4.out))
    have HT6 := toHid (HT4.out.trans HT5.out)
    generalize hw5 : y.setChan (chb s n k) 256 (ptrs (rot (R k) (i + 1))).toArray false (sn + 1) rc false = w5 at HN5 HT5 HA5 HT6 ⊢
    clear hw5
    refine HK5.out _ _ ?_
    refine wpN_of ?_
    go_wp2_with fail
    refine ⟨⟨i + 1, v', _, frameN_lit 31 _ rfl rfl, ⟨rfl, rfl, rfl, by show Value.int .i64 _ = _; simp, by omega, ?_, HT6.out, _, by rw [HTk.out]; exact HA5.out⟩⟩, ?_⟩
    · have := HN5.out
      rw [upd_upd, upd_upd] at this
      exact this
    · simp [intOf]
      omega
  · have e1 : ¬ (i : Int) < ((R k).length : Int) := by omega
    have HE : Hid (i = (R k).length) := by show _ = _; omega
    have HN6 : Hid (NetOk W s n R) := by
      have := HNr.out
      rw [HE.out, rot_full, upd_self] at this
      exact this
    have HA6 : Hid (AllR W w.heap.size v ms ps) := by
      have := HAr.out
      rw [List.take_of_length_le (by have := HM.out.len; have := HE.out; omega)] at this
      exact this
    refine wpN_of ?_
    go_wp2_with fail
    refine HKK.out _ _ ?_
    refine wpN_of ?_
    go_wp2_with fail
    go_ret
    exact ⟨v, ps, rfl, HA6.out, HN6.out, HTr.out⟩

end Go.Proofs.Ytfdpmffoajjchaa
