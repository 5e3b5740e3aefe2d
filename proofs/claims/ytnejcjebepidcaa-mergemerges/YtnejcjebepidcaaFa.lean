/-
  The walk of From.
-/
import Derived.Test.YtnejcjebepidcaaMg
namespace Go.Proofs.Ytnejcjebepidcaa
open Go.RowKit

/-- Those from an LSN on. -/
def fromL (l : List Rc) (at_ : Nat) : List Rc := l.filter fun r => decide (at_ ≤ r.lsn)
theorem from_take {l : List Rc} {at_ k : Nat} (h : k < l.length) : fromL (l.take (k + 1)) at_ = fromL (l.take k) at_ ++ (if at_ ≤ l[k].lsn then [l[k]] else []) := by
  unfold fromL
  rw [List.take_succ_eq_append_getElem h, List.filter_append]
  by_cases hk : at_ ≤ l[k].lsn <;> simp [hk]
theorem from_len (l : List Rc) (at_ k : Nat) : (fromL (l.take k) at_).length ≤ l.length := Nat.le_trans (List.length_filter_le _ _) (by simp; omega)

set_option maxRecDepth 100000 in
set_option maxHeartbeats 8000000 in
theorem from15 (a : Option Addr) (c : Nat) (l : List Rc) (at_ : Nat) (w : World) (hL : SlR w a l) (hl : l.length ≤ 100000) (hlim : ∀ r, r ∈ l → Lim r) :
    Calls Try.prog 15 #[.slice a l.length c, .int .u64 (at_ : Int)] w fun e w' => ∃ a' c', e = .returned (.slice a' (fromL l at_).length c') ∧ AllOk w' w.heap.size (.slice a' (fromL l at_).length c') (fromL l at_) ∧ Below w.heap.size w w' := by
  obtain ⟨i0, hi0, hz0, hz1, hz2⟩ := info_parts Try.info46
  have HL := toHid hL
  have HLim := toHid hlim
  clear hL hlim
  go_enter Try.func15, Try.ntmps15
  go_wp2_with fail
  go_loopw [5, 10] (fun s k W => ∃ (i : Nat) (va : Option Addr) (vc : Nat) (out : List Rc), i ≤ l.length ∧ k = .int .i64 i ∧ s = .slice va out.length vc ∧ out = fromL (l.take i) at_ ∧ AllOk W w.heap.size (.slice va out.length vc) out ∧ Below w.heap.size w W) (fun _ k _ => l.length - (intOf k).toNat)
  case atStart => exact ⟨0, none, 0, [], Nat.zero_le _, rfl, rfl, by simp [fromL], AllOk.nil _ _, Below.refl _ _⟩
  case round =>
    obtain ⟨i, va, vc, out, hi, rfl, rfl, hoe, hall, hbw⟩ := hrel
    have HOE := toHid hoe
    have HAll := toHid hall
    have HBw := toHid hbw
    have hof : out.length ≤ 100000 := by rw [hoe]; exact Nat.le_trans (from_len l at_ i) hl
    clear hoe hall hbw
    have hwz : w.heap.size ≤ wr.heap.size := HBw.out.size
    by_cases hlt : i < l.length
    · obtain ⟨b, o, rfl, _⟩ := HL.out.there (by omega)
      obtain ⟨pl, h12, hri⟩ := (HL.out.below HBw.out).get i hlt
      have HLr := toHid (HLim.out l[i] (List.getElem_mem hlt))
      have HFT := toHid (from_take (at_ := at_) hlt)
      have HRI := toHid hri
      have hi1 : (i : Int) < (l.length : Int) := by omega
      obtain ⟨d0, d1, d2, d3, d4, d5, d6, d7, d8, d9, d10, d11⟩ := h12
      obtain ⟨r, hre⟩ : ∃ r, l[i] = r := ⟨_, rfl⟩
      rw [hre] at HLr HFT HRI d0 d1 d2 d3 d4 d5 d6 d7 d8 d9 d10 d11
      clear hre
      obtain ⟨W1, hW1⟩ : ∃ W1, W1 = wr.alloc (.cells (recC r pl) 46) := ⟨_, rfl⟩
      have HB1 := toHid (show Below wr.heap.size wr W1 from hW1 ▸ (Below.refl _ _).alloc (Nat.le_refl _) _)
      have HBX := toHid (show W1.heap[wr.heap.size]? = some (.cells (recC r pl) 46) from hW1 ▸ heap_alloc_new _ _)
      have HW1 := toHid hW1
      clear hW1
      by_cases hle : at_ ≤ r.lsn
      · have q1 : (at_ : Int) ≤ (r.lsn : Int) := by omega
        have q2 : decide ((at_ : Int) ≤ (r.lsn : Int)) = true := by simp; omega
        rw [if_pos hle] at HFT
        go_wp2_with fail
        rw [← HW1.out]
        have HCo := toHid (copied34 r pl W1 (HRI.out.below HB1.out) HLr.out)
        have hsz1 := HB1.out.size
        refine Calls.mono HCo.out ?_
        rintro e w3 ⟨pp, rfl, hO3, hb3⟩
        have HB3 := toHid (HB1.out.trans (hb3.mono HB1.out.size))
        have hsz3 := hb3.size
        have HO3 := toHid (hO3.low (show w.heap.size ≤ W1.heap.size by omega))
        clear hO3 hb3 HCo
        obtain ⟨qs, hq1, hq2, hq3⟩ := HAll.out.below HB3.out
        have HQ1 := toHid hq1
        have HQ3 := toHid hq3
        have HRo := toHid (World.ownsRow.alloc hq2 (.cells (recC r pp) 46))
        have HNw := toHid (news_rec w3 r pp)
        clear hq1 hq2 hq3
        go_wp2_with (at_builtin; go_must (refine wpList_append_fresh _ rfl _ _ 26 rfl w.heap.size 46 i0 _ 12 152 Try.underlying26 hi0 hz0 hz1 hz2 rfl (by decide) _ out.length _ rfl HRo.out ⟨w3.heap.size, 0, none⟩ 1 1 (recL r pp) rfl rfl HNw.out (recL_one r pp) (by unfold maxLen; omega) (by omega) (by simp; omega) ?_; intro v5 y1 hown hgrow hfr; obtain ⟨a5, c5, rfl⟩ := ownsRow_shape hown; have HOW := toHid hown; have HGW := toHid hgrow; clear hown hgrow hfr))
        have HY := toHid (kept_row HAll.out HB3.out (o := .cells (recC r pp) 46) HGW.out)
        have HAl := toHid (AllOk.add (r := r) (p := pp) ⟨qs, HQ1.out, HOW.out, fun q hq => (HQ3.out q hq).stay (fun k c hc => by rcases hc with hc | hc; exact HY.out k c 65 ⟨.inr (.inr (.inr (.inl rfl))), hc⟩; exact HY.out k c 67 ⟨.inr (.inr (.inr (.inr rfl))), hc⟩)⟩ (HO3.out.stay (fun k c hc => by rcases hc with hc | hc; exact HY.out k c 65 ⟨.inr (.inr (.inr (.inl rfl))), hc⟩; exact HY.out k c 67 ⟨.inr (.inr (.inr (.inr rfl))), hc⟩)))
        have HBy := toHid (HBw.out.trans ((HB3.out.mono hwz).trans (low_row HAll.out HB3.out HGW.out hwz)))
        clear HNw HRo HQ1 HQ3 HOW HGW HY HO3
        go_roundw
        case rel => exact ⟨i + 1, a5, c5, out ++ [r], by omega, by go_num, by rw [List.length_append]; rfl, by rw [HFT.out, ← HOE.out], by rw [List.length_append]; exact HAl.out, HBy.out⟩
        case measure => simp [intOf]; omega
      · have q1 : ¬ (at_ : Int) ≤ (r.lsn : Int) := by omega
        have q2 : decide ((at_ : Int) ≤ (r.lsn : Int)) = false := by simp; omega
        rw [if_neg hle, List.append_nil] at HFT
        go_wp2_with fail
        go_roundw
        case rel => exact ⟨i + 1, va, vc, out, by omega, by go_num, rfl, by rw [HFT.out]; exact HOE.out, HAll.out.below (HW1.out ▸ HB1.out), HBw.out.trans ((HW1.out ▸ HB1.out : Below wr.heap.size wr _).mono hwz)⟩
        case measure => simp [intOf]; omega
    · obtain rfl : i = l.length := by omega
      obtain rfl : out = fromL l at_ := by rw [HOE.out, List.take_length]
      go_wp2
      go_ret
      exact ⟨va, vc, rfl, HAll.out, HBw.out⟩

end Go.Proofs.Ytnejcjebepidcaa
