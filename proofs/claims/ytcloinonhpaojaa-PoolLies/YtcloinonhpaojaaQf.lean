/-
  Lay of the laws' store: a page's bytes come to lie there.
-/
import Derived.Test.YtcloinonhpaojaaQe
import Derived.BigQuiet
namespace Go.Proofs.Ytcloinonhpaojaa
open Go.RowKit

theorem conv_buf {W : World} {G : Nat} {L : List UInt8} (h : Buf W G L) (hl : L.length = 512) : (convert 69 9 (.slice (some ⟨G, 0, none⟩) 512 512)).run Try.prog W = .ok (.string (txt L)) W := by
  have := conv_slB (c := 512) (Buf.slB h 0)
  rw [List.drop_zero, hl] at this
  exact this
theorem PgOk.dn {w : World} {B p : Nat} {id : Int} {lsn : Nat} {v : Value} {l : List Cl} (h : PgOk w B p id lsn v l) (n : Nat) : PgOk (w.drewN n) B p id lsn v l := ⟨h.blk, h.own, h.ne, h.base⟩
theorem DkIn.drew {w : World} {d : Nat} {k : Dk} (h : DkIn w d k) : DkIn w.drew d k := h.kept rfl
theorem DkIn.dn {w : World} {d : Nat} {k : Dk} (h : DkIn w d k) (n : Nat) : DkIn (w.drewN n) d k := h.kept rfl

theorem bdn {B : Nat} {a w : World} (h : Below B a w) (n : Nat) : Below B a (w.drewN n) := h.trans ⟨rfl, rfl, rfl, Nat.le_refl _, fun _ _ => rfl⟩
theorem own_kept {w w' : World} {B : Nat} {e : TypeId} {k : Nat} {v : Value} {n : Nat} {xs : List Value} (h : w.ownsRow B e k v n xs) (hr : ∀ q, v.ownBlock = some q → w'.heap[q]? = w.heap[q]?) : w'.ownsRow B e k v n xs :=
  ⟨h.1, h.2.imp id fun ⟨g, cap, cur, h1, h2, h3, h4⟩ => ⟨g, cap, cur, h1, h2, by rw [hr g (by rw [h1]; rfl)]; exact h3, h4⟩⟩
theorem PgOk.kept {w w' : World} {B p : Nat} {id : Int} {lsn : Nat} {v : Value} {l : List Cl} (h : PgOk w B p id lsn v l) (hb : w'.heap[p]? = w.heap[p]?) (hr : ∀ q, v.ownBlock = some q → w'.heap[q]? = w.heap[q]?) : PgOk w' B p id lsn v l :=
  ⟨by rw [hb]; exact h.blk, own_kept h.own hr, h.ne, h.base⟩
/-- A page lies apart from a block of another kind. -/
theorem PgOk.one {w w' : World} {B p d : Nat} {id : Int} {lsn : Nat} {v : Value} {l : List Cl} (h : PgOk w B p id lsn v l) (ho : One d w w') {M : Array Value} {t : TypeId} (hd : w.heap[d]? = some (.cells M t)) (h1 : t ≠ 96) (h2 : t ≠ 98) : PgOk w' B p id lsn v l := by
  refine h.kept (ho.block p (blk_lt h.blk) fun e => ?_) fun q hq => ?_
  · have := h.blk
    rw [e, hd] at this
    simp at this
    exact h1 this.2
  · obtain ⟨c, fz, hc⟩ := Lib.ownsRow_kind h.own q hq
    refine ho.block q (blk_lt hc) fun e => ?_
    rw [e, hd] at hc
    simp at hc
    exact h2 hc.2.1

/-- A store in which a page was laid. -/
def laid (k : Dk) (i lsn : Nat) (l : List Cl) : Dk := ⟨upd k.on i true, upd k.lsn i lsn, upd k.l i l, k.stable, max k.most lsn⟩

set_option maxRecDepth 20000 in
set_option maxHeartbeats 1000000 in
theorem lay_ok (d B b i lsn : Nat) (v : Value) (l : List Cl) (k : Dk) (w : World) (h : DkIn w d k) (hp : PgOk w B b (i : Int) lsn v l) (hg : GoodL l) (hi : i < 16) (hl : lsn < 18446744073709551616) :
    Calls Try.prog 118 #[.pointer (some ⟨d, 0, none⟩), .pointer (some ⟨b, 0, none⟩)] w fun e w' => e = .returned (.int .i64 0) ∧ DkIn w' d (laid k i lsn l) ∧ One d w w' := by
  have hlen := pageB_length i lsn l hg.room
  obtain ⟨c0, c1, f0, hlt⟩ := h.cells i hi
  have HD := toHid h
  have HP := toHid hp
  have HG := toHid hg
  have HL := toHid hlen
  have HI : Hid (∀ W, PgOk W B b (i : Int) lsn v l → Calls Try.prog 57 #[.pointer (some ⟨b, 0, none⟩)] W fun e w' => e = .returned (.int .i64 (i : Int)) ∧ w' = W) := fun W hW => id_any B b i lsn v l W hW
  have HN : Hid (∀ W, PgOk W B b (i : Int) lsn v l → Calls Try.prog 70 #[.pointer (some ⟨b, 0, none⟩)] W fun e w' => e = .returned (.int .u64 (lsn : Int)) ∧ w' = W) := fun W hW => lsn_any B b i lsn v l W hW
  have HY : Hid (∀ W, PgOk W B b (i : Int) lsn v l → Calls Try.prog 19 #[.pointer (some ⟨b, 0, none⟩)] W fun e w' => ∃ G, e = .returned (.slice (some ⟨G, 0, none⟩) 512 512) ∧ W.heap.size ≤ G ∧ Buf w' G (pageB i lsn l) ∧ Below W.heap.size W w') := fun W hW => bytes_any B b i lsn v l W hW HG.out hi
  clear h hp hg hlen
  go_enter Try.func118, Try.ntmps118
  go_wp2_with fail
  go_quiet ((go_at_call 57; exact Calls.quiet_of_same (HI.out _ (HP.out.dn _))))
  generalize hW1 : World.drewN _ _ = W1
  have hB1 : Below w.heap.size w W1 := by rw [← hW1]; exact bdn (Below.refl _ _) _
  have HP1 : Hid (PgOk W1 B b (i : Int) lsn v l) := by rw [← hW1]; exact HP.out.dn _
  have HD1 : Hid (DkIn W1 d k) := HD.out.below hB1
  clear hW1 c0 c1 f0 hlt
  go_wp2_with fail
  go_region_with (first | (go_at_call 57; refine Calls.mono (HI.out _ HP1.out.drew) ?_; rintro e w2 ⟨rfl, hw2⟩; obtain rfl := hw2.symm) | (go_at_call 19; refine Calls.mono (HY.out _ HP1.out.drew) ?_; rintro e w3 ⟨G, rfl, hG, hbuf, hb3⟩; have hcv := conv_buf hbuf HL.out; obtain ⟨c0, c1, f0, hlt⟩ := (HD1.out.drew.below hb3).cells i hi))
  have hb4 := hB1.drew.trans (hb3.mono hB1.size)
  have HD3 := toHid ((HD1.out.drew.below hb3).setPage i lsn l hi HG.out hl)
  have HP3 := HP1.out.drew.below hb3 (Nat.le_refl _)
  obtain ⟨M, hM, -⟩ := (HD1.out.drew.below hb3).blk
  have HO4 := toHid ((One.of hb4).set (p := d) i (.string (txt (pageB i lsn l))))
  have HP4 := toHid (HP3.one ((One.of (Below.refl _ _)).set (p := d) i (.string (txt (pageB i lsn l)))) hM (by decide) (by decide))
  generalize w3.setCell ⟨d, i, none⟩ (.string (txt (pageB i lsn l))) = W at HD3 HO4 HP4 ⊢
  clear hM HP3 HD1 HP1 hB1 hb3 hb4 hcv c0 c1 f0 hlt hbuf hG
  obtain ⟨n0, n1, f0, f1, hlt⟩ := HD3.out.nums
  simp only at n1
  by_cases hm : k.most < lsn
  · have hd : decide ((k.most : Int) < (lsn : Int)) = true := by simp; omega
    go_wp2_with fail
    go_quiet ((go_at_call 70; exact Calls.quiet_of_same (HN.out _ (HP4.out.dn _))))
    go_wp2_with fail
    refine Calls.mono (HN.out _ (HP4.out.dn _)) ?_
    rintro e w5 ⟨rfl, hw5⟩
    obtain rfl := hw5.symm
    go_wp2
    go_ret
    refine ⟨rfl, ?_, (HO4.out.trans (One.of (bdn (Below.refl _ _) _))).set _ _⟩
    have := (HD3.out.dn nq).setMost lsn
    have e : max k.most lsn = lsn := by omega
    unfold laid
    rw [e]
    exact this
  · have hd : decide ((k.most : Int) < (lsn : Int)) = false := by simp; omega
    go_wp2_with fail
    go_quiet ((go_at_call 70; exact Calls.quiet_of_same (HN.out _ (HP4.out.dn _))))
    go_wp2
    go_ret
    refine ⟨rfl, ?_, HO4.out.trans (One.of (bdn (Below.refl _ _) _))⟩
    have e : max k.most lsn = k.most := by omega
    unfold laid
    rw [e]
    exact HD3.out.dn _
end Go.Proofs.Ytcloinonhpaojaa
