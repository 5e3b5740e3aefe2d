/-
  The walk of the document's Unframe.
-/
import Derived.Test.YtjhjicokbdloiaaFc
import Derived.Test.YtjhjicokbdloiaaRo
import Derived.Test.YtjhjicokbdloiaaUn
import Derived.BigQuiet
namespace Go.Proofs.Ytjhjicokbdloiaa
open Go.RowKit

theorem results_one2 {fn : Func} (h : fn.results = #[.cell 2 31, .tmp 3, .tmp 4]) (tmps : Array Value) {w : World} {a : Nat} {v0 v1 v2 v3 v4 v5 v6 v7 v8 v9 v10 v11 : Value} (ha : tmps[2]?.getD undef = .pointer (some ⟨a, 0, none⟩))
    (h2 : w.heap[a]? = some (.cells #[v0, v1, v2, v3, v4, v5, v6, v7, v8, v9, v10, v11] 31)) : (results fn tmps).run Try.prog w = .ok (.tuple #[.agg #[v0, v1, v2, v3, v4, v5, v6, v7, v8, v9, v10, v11], tmps[3]?.getD undef, tmps[4]?.getD undef]) w := by
  have e2 := run_loadVar_row (P := Try.prog) w a 31 31 #[v0, v1, v2, v3, v4, v5, v6, v7, v8, v9, v10, v11] (0, 0) _ h2 Try.underlying31 rfl (by kernel_rfl)
  have e3 : (asAddr (tmps[2]?.getD undef)).run Try.prog w = .ok ⟨a, 0, none⟩ w := by rw [ha]; rfl
  simp only [results, h]
  simp [Sem.run_bind, Result.andThen, e2, e3]

theorem size12 {W : World} {B n : Nat} {v0 v1 v2 v3 v4 v5 v6 v7 v8 v9 v10 v11 : Value} (h : B ≤ W.heap.size) : B ≤ (put12 W n v0 v1 v2 v3 v4 v5 v6 v7 v8 v9 v10 v11).heap.size := by simpa [World.setCell] using h
theorem fin_al {W : World} {o : Obj} {a : Nat} {z0 z1 z2 z3 z4 z5 z6 z7 z8 z9 z10 z11 v0 v1 v2 v3 v4 v5 v6 v7 v8 v9 v10 v11 : Value} (ha : W.heap[a]? = some (.cells #[z0, z1, z2, z3, z4, z5, z6, z7, z8, z9, z10, z11] 31)) : ((put12 W a v0 v1 v2 v3 v4 v5 v6 v7 v8 v9 v10 v11).alloc o).heap[a]? = some (.cells #[v0, v1, v2, v3, v4, v5, v6, v7, v8, v9, v10, v11] 31) := by
  rw [Below.heap_alloc _ _ _ (size12 (lt_of_block ha))]
  exact set12 v0 v1 v2 v3 v4 v5 v6 v7 v8 v9 v10 v11 ha

/-- What is at the end. -/
def UnfP (w : World) (l : List UInt8) (e : Ending) (w' : World) : Prop := ∃ ta tc da dc, e = .returned (.tuple #[recV (unf l).1 ta tc da dc, .int .i64 ((unf l).2.1 : Nat), .int .i64 (unf l).2.2]) ∧
  w'.ownsRow w.heap.size 71 3 (.slice ta (unf l).1.txns.length tc) (unf l).1.txns.length (txsC (unf l).1.txns) ∧ w'.ownsRow w.heap.size 73 2 (.slice da (unf l).1.dirty.length dc) (unf l).1.dirty.length (disC (unf l).1.dirty) ∧ Below w.heap.size w w'
theorem unfP_no {w w' : World} {l : List UInt8} {v : Value} {er : Int} (h : unf l = (Rc.zero, 0, er)) (hv : v = .tuple #[recV Rc.zero none 0 none 0, .int .i64 0, .int .i64 er]) (hb : Below w.heap.size w w') : UnfP w l (.returned v) w' := by
  unfold UnfP
  rw [h]
  exact ⟨none, 0, none, 0, by rw [hv]; rfl, World.ownsRow_nil _ _ _ _, World.ownsRow_nil _ _ _ _, hb⟩
theorem unfP_yes {w w' : World} {l : List UInt8} {v : Value} {r : Rc} {n : Nat} {ta : Option Addr} {tc : Nat} {da : Option Addr} {dc : Nat} (h : unf l = (r, n, 0)) (hv : v = .tuple #[recV r ta tc da dc, .int .i64 (n : Int), .int .i64 0])
    (h1 : w'.ownsRow w.heap.size 71 3 (.slice ta r.txns.length tc) r.txns.length (txsC r.txns)) (h2 : w'.ownsRow w.heap.size 73 2 (.slice da r.dirty.length dc) r.dirty.length (disC r.dirty)) (hb : Below w.heap.size w w') : UnfP w l (.returned v) w' := by
  unfold UnfP
  rw [h]
  exact ⟨ta, tc, da, dc, hv ▸ rfl, h1, h2, hb⟩

set_option maxRecDepth 20000 in
set_option maxHeartbeats 4000000 in
theorem refunframe_any (S : ByteArray) (w : World) (hS : S.size ≤ 1000000000) :
    Calls Try.prog 21 #[.string S] w fun e w' => UnfP w S.data.toList e w' := by
  have hlen : S.data.toList.length = S.size := by simp
  have HA0 : Hid ((w.alloc (.cells (recC Rc.zero none 0 none 0) 31)).heap[w.heap.size]? = some (.cells (recC Rc.zero none 0 none 0) 31)) := heap_alloc_new _ _
  have HB0 : Hid (Below w.heap.size w (w.alloc (.cells (recC Rc.zero none 0 none 0) 31))) := (Below.refl _ _).alloc (Nat.le_refl _) _
  by_cases h2 : S.size < 2
  · have HU : Hid (unf S.data.toList = (Rc.zero, 0, 4)) := by show _ = _; unfold unf; rw [if_pos (by omega)]
    clear hlen
    go_enter Try.func21, Try.ntmps21
    go_wp2
    refine bodyPost_ret (results_one2 rfl _ rfl HA0.out) rfl (unfP_no HU.out rfl HB0.out)
  obtain ⟨l, Hl⟩ : ∃ l, Hid (l = S.data.toList) := ⟨_, rfl⟩
  rw [← Hl.out] at hlen
  have hb0 : (S[0]'(by omega)).toNat < 256 := UInt8.toNat_lt _
  have hb1 : (S[1]'(by omega)).toNat < 256 := UInt8.toNat_lt _
  obtain ⟨n, Hn⟩ : ∃ n, Hid (n = leV (l.take 2)) := ⟨_, rfl⟩
  have HN : Hid ((S[0]'(by omega)).toNat + 256 * (S[1]'(by omega)).toNat = n) := by
    show _ = _
    rw [Hn.out]
    have e2 : l = S.data.toList := Hl.out
    clear Hl Hn
    subst e2
    have e0 : S.data.toList[0]? = some (S[0]'(by omega)) := by rw [List.getElem?_eq_getElem (by simp; omega)]; rfl
    have e1 : S.data.toList[1]? = some (S[1]'(by omega)) := by rw [List.getElem?_eq_getElem (by simp; omega)]; rfl
    have s0 := leV_step (S.data.toList.take 2) 0 _ (by rw [List.getElem?_take_of_lt (by decide)]; exact e0)
    have s1 := leV_step (S.data.toList.take 2) 1 _ (by rw [List.getElem?_take_of_lt (by decide)]; exact e1)
    have s2 : leV ((S.data.toList.take 2).drop 2) = 0 := by rw [List.drop_of_length_le (by simp; omega)]; rfl
    simp only [List.drop_zero] at s0
    rw [s0, s1, s2]
    omega
  have hn6 : n < 65536 := by rw [← HN.out]; omega
  have hq0 : 0 < S.size := by omega
  have hq1 : 1 < S.size := by omega
  have hi0 : 0 ≤ (0 : Int) ∧ (0 : Int) < (S.size : Int) := by omega
  have hi1 : 0 ≤ (1 : Int) ∧ (1 : Int) < (S.size : Int) := by omega
  go_enter Try.func21, Try.ntmps21
  go_wp2_with fail
  go_region
  have hI : (Int.ofNat (S[0]'hq0).toNat) + (256 : Int) * (Int.ofNat (S[1]'hq1).toNat) + (6 : Int) = ((n + 6 : Nat) : Int) := by rw [← HN.out]; simp
  rw [show ((S[0]'hq0).toNat : Int) + (256 : Int) * ((S[1]'hq1).toNat : Int) + (6 : Int) = ((n + 6 : Nat) : Int) from hI]
  obtain ⟨m, Hm⟩ : ∃ m, Hid (m = n + 6) := ⟨_, rfl⟩
  have hm6 : m < 65542 := by rw [Hm.out]; omega
  have hm4 : 6 ≤ m := by rw [Hm.out]; omega
  rw [← Hm.out]
  obtain ⟨W, HW⟩ : ∃ W, W = (w.alloc (.cells (recC Rc.zero none 0 none 0) 31)).drew := ⟨_, rfl⟩
  have HA : Hid (W.heap[w.heap.size]? = some (.cells (recC Rc.zero none 0 none 0) 31)) := by rw [HW]; exact HA0.out
  have HB : Hid (Below w.heap.size w W) := by rw [HW]; exact HB0.out.drew
  rw [show (w.alloc (.cells #[.int .i64 0, .int .u64 0, .int .i64 0, .int .u64 0, .int .u64 0, .int .i64 0, .int .i64 0, .string ⟨#[]⟩, .string ⟨#[]⟩, .string ⟨#[]⟩, .slice none 0 0, .slice none 0 0] 31)).drew = W from HW.symm]
  clear HW HA0 HB0 HN hn6 hb0 hb1 hI
  obtain ⟨⟨z0, z1, z2, z3, z4, z5, z6, z7, z8, z9, z10, z11⟩, hz⟩ := rw_cells HA.out
  by_cases hlt : S.size < m
  · have HU : Hid (unf S.data.toList = (Rc.zero, 0, 4)) := by
      show _ = _
      rw [← Hl.out]
      unfold unf
      rw [if_neg (by omega), ← Hn.out, ← Hm.out, if_pos (by omega)]
    clear hlen
    go_wp2
    refine bodyPost_ret (results_one2 rfl _ rfl (set12 _ _ _ _ _ _ _ _ _ _ _ _ HA.out)) rfl (unfP_no HU.out rfl (set12_below _ _ _ _ _ _ _ _ _ _ _ _ HB.out (Nat.le_refl _)))
  have hle : m ≤ S.size := by omega
  have hmi : (0 : Int) ≤ (m : Int) ∧ (m : Int) ≤ (S.size : Int) := by omega
  have HO : Hid (Calls Try.prog 53 #[.string (S.extract 0 m)] W fun e w' => e = .returned (.tuple #[.string ⟨(openB (l.take m)).1.toArray⟩, .int .i64 (openB (l.take m)).2]) ∧ Below W.heap.size W w') := by
    have := refopen_any (S.extract 0 m) W (by rw [ByteArray.size_extract]; omega)
    rw [extract_list, ← Hl.out] at this
    exact this
  have Hunf : Hid (unf S.data.toList = if (openB (l.take m)).2 = 0 then (decR ((openB (l.take m)).1.drop 2), if decK ((openB (l.take m)).1.drop 2) then m else 0, decE ((openB (l.take m)).1.drop 2)) else (Rc.zero, 0, (openB (l.take m)).2)) := by
    show _ = _
    rw [← Hl.out]
    unfold unf
    rw [if_neg (by omega), ← Hn.out, ← Hm.out, if_neg (by omega)]
  have hOl : (l.take m).length = m := by rw [List.length_take]; omega
  have hO6 : (openB (l.take m)).2 = 0 ∨ (openB (l.take m)).2 = 6 := by
    unfold openB
    rw [if_neg (by omega)]
    by_cases g : leN ((l.take m).drop ((l.take m).length - 4)) = more 0 ((l.take m).take ((l.take m).length - 4))
    · rw [if_pos g]; exact .inl rfl
    · rw [if_neg g]; exact .inr rfl
  have hOb : (openB (l.take m)).2 = 0 → (openB (l.take m)).1.length + 4 = m := fun h => by have := openB_length (l.take m) h; omega
  obtain ⟨O, HOO⟩ : ∃ O, Hid (O = openB (l.take m)) := ⟨_, rfl⟩
  rw [← HOO.out] at HO Hunf hO6 hOb
  clear HOO hOl z0 z1 z2 z3 z4 z5 z6 z7 z8 z9 z10 z11 hz
  go_wp2_with fail
  refine Calls.mono HO.out ?_
  rintro e w1 ⟨rfl, hb⟩
  clear HO
  have HA1 : Hid (w1.heap[w.heap.size]? = some (.cells (recC Rc.zero none 0 none 0) 31)) := by
    show _ = _
    rw [hb.block _ (lt_of_block HA.out)]
    exact HA.out
  have HB1 : Hid (Below w.heap.size w w1) := HB.out.trans (hb.mono HB.out.size)
  clear hb HA HB
  obtain ⟨o1, o2⟩ := O
  dsimp only at hO6 hOb Hunf ⊢
  obtain ⟨⟨z0, z1, z2, z3, z4, z5, z6, z7, z8, z9, z10, z11⟩, hz⟩ := rw_cells HA1.out
  rcases hO6 with rfl | rfl
  rotate_left
  · have HU : Hid (unf S.data.toList = (Rc.zero, 0, 6)) := by show _ = _; rw [Hunf.out, if_neg (by decide)]
    clear hOb Hunf
    go_wp2
    refine bodyPost_ret (results_one2 rfl _ rfl (set12 _ _ _ _ _ _ _ _ _ _ _ _ HA1.out)) rfl (unfP_no HU.out rfl (set12_below _ _ _ _ _ _ _ _ _ _ _ _ HB1.out (Nat.le_refl _)))
  have hol : o1.length + 4 = m := hOb rfl
  have Hunf2 : Hid (unf S.data.toList = (decR (o1.drop 2), if decK (o1.drop 2) then m else 0, decE (o1.drop 2))) := by show _ = _; rw [Hunf.out, if_pos rfl]
  have hts : (⟨o1.toArray⟩ : ByteArray).size = o1.length := by simp [ByteArray.size]
  have hX : ((⟨o1.toArray⟩ : ByteArray).extract 2 (⟨o1.toArray⟩ : ByteArray).size).data.toList = o1.drop 2 := by rw [Lib.extract_data, hts]; simp; exact List.take_of_length_le (by simp)
  have HD : Hid (∀ W, Calls Try.prog 19 #[.string ((⟨o1.toArray⟩ : ByteArray).extract 2 o1.length)] W fun e w' => DecP W (o1.drop 2) e w') := fun W => by
    have := refdecode_any ((⟨o1.toArray⟩ : ByteArray).extract 2 (⟨o1.toArray⟩ : ByteArray).size) W (by rw [ByteArray.size_extract]; unfold maxLen; omega)
    rw [hX, hts] at this
    exact this
  have HTS : Hid _ := hts
  have h2l : (2 : Int) ≤ (o1.length : Int) := by omega
  have h2n : 2 ≤ o1.length := by omega
  clear hOb Hunf hX z0 z1 z2 z3 z4 z5 z6 z7 z8 z9 z10 z11 hz
  go_wp2_with fail
  refine Calls.mono (HD.out w1) ?_
  rintro e w2 ⟨ta, tc, da, dc, rfl, ho1, ho2, hb⟩
  have hsz2 := hb.size
  obtain ⟨X, HX⟩ : ∃ X, Hid (X = o1.drop 2) := ⟨_, rfl⟩
  rw [← HX.out] at Hunf2 ho1 ho2 ⊢
  clear HX HD
  obtain ⟨R, HR⟩ : ∃ R, Hid (R = decR X) := ⟨_, rfl⟩
  rw [← HR.out] at Hunf2 ho1 ho2 ⊢
  have hlw : w.heap.size ≤ w1.heap.size := HB1.out.size
  have HP1 : Hid _ := ownsRow_base ho1 hlw
  have HP2 : Hid _ := ownsRow_base ho2 hlw
  have HA2 : Hid (w2.heap[w.heap.size]? = some (.cells (recC Rc.zero none 0 none 0) 31)) := by
    show _ = _
    rw [hb.block _ (lt_of_block HA1.out)]
    exact HA1.out
  have HB2 : Hid (Below w.heap.size w w2) := HB1.out.trans (hb.mono hlw)
  have hza : w.heap.size < w2.heap.size := lt_of_block HA2.out
  have HSZ : Hid (w.heap.size ≤ w2.heap.size) := Nat.le_of_lt hza
  clear hb ho1 ho2 HA1 HB1 hlw hsz2
  obtain ⟨⟨z0, z1, z2, z3, z4, z5, z6, z7, z8, z9, z10, z11⟩, hz⟩ := rw_cells HA2.out
  cases hk : decK X
  · have HU : Hid (unf S.data.toList = (Rc.zero, 0, 5)) := by
      show _ = _
      rw [Hunf2.out, HR.out]
      unfold decR decE
      rw [hk]
      rfl
    have hE : decE X = 5 := by unfold decE; rw [hk]; rfl
    rw [hE]
    clear hE hk
    go_wp2
    refine bodyPost_ret (results_one2 rfl _ rfl (fin_al HA2.out)) rfl (unfP_no HU.out rfl ((set12_below _ _ _ _ _ _ _ _ _ _ _ _ HB2.out (Nat.le_refl _)).alloc (size12 HSZ.out) _))
  · have HU : Hid (unf S.data.toList = (R, m, 0)) := by
      show _ = _
      rw [Hunf2.out]
      unfold decE
      rw [hk]
      rfl
    have hE : decE X = 0 := by unfold decE; rw [hk]; rfl
    rw [hE]
    clear hE hk
    go_wp2
    refine bodyPost_ret (results_one2 rfl _ rfl (fin_al HA2.out)) rfl (unfP_yes (r := R) (n := m) (ta := ta) (tc := tc) (da := da) (dc := dc) HU.out rfl ?_ ?_ ((set12_below _ _ _ _ _ _ _ _ _ _ _ _ HB2.out (Nat.le_refl _)).alloc (size12 HSZ.out) _))
    · exact (own12 _ _ _ _ _ _ _ _ _ _ _ _ HP1.out (by decide) HA2.out).alloc _
    · exact (own12 _ _ _ _ _ _ _ _ _ _ _ _ HP2.out (by decide) HA2.out).alloc _

end Go.Proofs.Ytjhjicokbdloiaa
