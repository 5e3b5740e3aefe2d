/-
  The walk of the document's From.
-/
import Derived.Test.YtnejcjebepidcaaFa
import Derived.Test.YtnejcjebepidcaaGc
namespace Go.Proofs.Ytnejcjebepidcaa
open Go.RowKit

set_option maxRecDepth 100000 in
set_option maxHeartbeats 8000000 in
theorem from16 (a : Option Addr) (c : Nat) (l : List Rc) (at_ : Nat) (w : World) (hL : SlR w a l) (hl : l.length ≤ 100000) :
    Calls Try.prog 16 #[.slice a l.length c, .int .u64 (at_ : Int)] w fun e w' => ∃ a' c', e = .returned (.slice a' (fromL l at_).length c') ∧ ShOk w w' w.heap.size (.slice a' (fromL l at_).length c') (fromL l at_) ∧ Below w.heap.size w w' := by
  obtain ⟨i0, hi0, hz0, hz1, hz2⟩ := info_parts Try.info46
  have HL := toHid hL
  clear hL
  go_enter Try.func16, Try.ntmps16
  go_wp2_with fail
  go_loopw [5, 6] (fun s k W => ∃ (i : Nat) (va : Option Addr) (vc : Nat) (out : List Rc), i ≤ l.length ∧ k = .int .i64 i ∧ s = .slice va out.length vc ∧ out = fromL (l.take i) at_ ∧ ShOk w W w.heap.size (.slice va out.length vc) out ∧ Below w.heap.size w W) (fun _ k _ => l.length - (intOf k).toNat)
  case atStart => exact ⟨0, none, 0, [], Nat.zero_le _, rfl, rfl, by simp [fromL], ShOk.nil _ _ _, Below.refl _ _⟩
  case round =>
    obtain ⟨i, va, vc, out, hi, rfl, rfl, hoe, hall, hbw⟩ := hrel
    have HOE := toHid hoe
    have HAll := toHid hall
    have HBw := toHid hbw
    have hof : out.length ≤ 100000 := by rw [hoe]; exact Nat.le_trans (from_len l at_ i) hl
    clear hoe hall hbw
    have hwz : w.heap.size ≤ wr.heap.size := HBw.out.size
    by_cases hlt : i < l.length
    · obtain ⟨b, o, rfl, _⟩ := HL.out.there (by omega)
      obtain ⟨pl, h12, hri⟩ := HL.out.get i hlt
      have HFT := toHid (from_take (at_ := at_) hlt)
      have HRI := toHid hri
      have hi1 : (i : Int) < (l.length : Int) := by omega
      have hi2 : 0 ≤ (i : Int) := by omega
      obtain ⟨d0, d1, d2, d3, d4, d5, d6, d7, d8, d9, d10, d11⟩ := h12.stay (HBw.out.block _ h12.lt)
      obtain ⟨r, hre⟩ : ∃ r, l[i] = r := ⟨_, rfl⟩
      rw [hre] at HFT HRI d0 d1 d2 d3 d4 d5 d6 d7 d8 d9 d10 d11
      clear hre h12 hri
      by_cases hle : at_ ≤ r.lsn
      · have q1 : (at_ : Int) ≤ (r.lsn : Int) := by omega
        have q2 : decide ((at_ : Int) ≤ (r.lsn : Int)) = true := by simp; omega
        rw [if_pos hle] at HFT
        obtain ⟨qs, hq1, hq2, hq3⟩ := HAll.out
        have HQ1 := toHid hq1
        have HQ3 := toHid hq3
        have HRo := toHid (World.ownsRow.alloc hq2 (.cells (recC r pl) 46))
        have HNw := toHid (news_rec wr r pl)
        clear hq1 hq2 hq3
        go_wp2_with (at_builtin; go_must (refine wpList_append_fresh _ rfl _ _ 26 rfl w.heap.size 46 i0 _ 12 152 Try.underlying26 hi0 hz0 hz1 hz2 rfl (by decide) _ out.length _ rfl HRo.out ⟨wr.heap.size, 0, none⟩ 1 1 (recL r pl) rfl rfl HNw.out (recL_one r pl) (by unfold maxLen; omega) (by omega) (by simp; omega) ?_; intro v5 y1 hown hgrow hfr; obtain ⟨a5, c5, rfl⟩ := ownsRow_shape hown; have HOW := toHid hown; have HGW := toHid hgrow; clear hown hgrow hfr))
        have HAl := toHid (ShOk.add (r := r) (p := pl) ⟨qs, HQ1.out, HOW.out, HQ3.out⟩ HRI.out)
        have HBy := toHid (HBw.out.trans (((Below.refl w.heap.size wr).alloc hwz _).grown HGW.out (by simp; omega) (fun k hk => HAll.out.own_ge k hk)))
        clear HNw HRo HQ1 HQ3 HOW HGW
        go_roundw
        case rel => exact ⟨i + 1, a5, c5, out ++ [r], by omega, by go_num, by rw [List.length_append]; rfl, by rw [HFT.out, ← HOE.out], by rw [List.length_append]; exact HAl.out, HBy.out⟩
        case measure => simp [intOf]; omega
      · have q1 : ¬ (at_ : Int) ≤ (r.lsn : Int) := by omega
        have q2 : decide ((at_ : Int) ≤ (r.lsn : Int)) = false := by simp; omega
        rw [if_neg hle, List.append_nil] at HFT
        go_wp2_with fail
        go_roundw
        case rel => exact ⟨i + 1, va, vc, out, by omega, by go_num, rfl, by rw [HFT.out]; exact HOE.out, HAll.out, HBw.out⟩
        case measure => simp [intOf]; omega
    · obtain rfl : i = l.length := by omega
      obtain rfl : out = fromL l at_ := by rw [HOE.out, List.take_length]
      go_wp2
      go_ret
      exact ⟨va, vc, rfl, HAll.out, HBw.out⟩

end Go.Proofs.Ytnejcjebepidcaa
