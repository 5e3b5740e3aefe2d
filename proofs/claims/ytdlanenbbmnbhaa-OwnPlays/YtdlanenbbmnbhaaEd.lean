/-
  The document's book: Back (27), Mend (29).
-/
import Derived.Test.YtdlanenbbmnbhaaEc
import Derived.Test.YtdlanenbbmnbhaaCf
namespace Go.Proofs.Ytdlanenbbmnbhaa
open Go.RowKit

def pls (L : List Pl) : List Lf := L.map (·.x)
theorem pls_len (L : List Pl) : (pls L).length = L.length := by simp [pls]
theorem pls_at {L : List Pl} {i : Nat} (hi : i < L.length) : (pls L)[i]'(by rw [pls_len]; exact hi) = L[i].x := by simp [pls]
/-- What a call of the document leaves. -/
def AnsD (w : World) (r : List Lf × List Od × Int) (e : Ending) (w' : World) : Prop := ∃ v' vo L', e = .returned (.tuple #[v', vo, .int .i64 r.2.2]) ∧ Dl w' v' L' ∧ pls L' = r.1 ∧ OrdA w' vo r.2.1 ∧ Below w.heap.size w w'
theorem AnsD.err {w w' : World} {v : Value} {L : List Pl} (h : Dl w v L) (n : Int) (hb : Below w.heap.size w w') : AnsD w (pls L, [], n) (.returned (.tuple #[v, .slice none 0 0, .int .i64 n])) w' :=
  ⟨_, _, L, rfl, h.below hb, rfl, OrdA.nil _, hb⟩
theorem AnsD.serve {w w3 w' : World} {v' vo : Value} {L L' : List Pl} {i : Nat} {t : Pl} (hi : i < L.length) (e1 : L'.map (·.x) = ((L.set i t).map (·.x)).set i (serveF (i : Int) ((L.set i t)[i]'(by simpa using hi)).x).1) (hd : Dl w' v' L') (ho : OrdA w' vo (serveF (i : Int) ((L.set i t)[i]'(by simpa using hi)).x).2) (hb : Below w.heap.size w w3) (hb2 : Below w3.heap.size w3 w') :
    AnsD w ((pls L).set i (serveF (i : Int) t.x).1, (serveF (i : Int) t.x).2, 0) (.returned (.tuple #[v', vo, .int .i64 0])) w' := by
  simp only [List.getElem_set_self] at e1 ho
  refine ⟨v', vo, L', rfl, hd, ?_, ho, hb.trans (hb2.mono hb.size)⟩
  unfold pls
  rw [e1, map_set_x, List.set_set]

theorem back_any_d {w : World} {v : Value} {L : List Pl} (h : Dl w v L) (hok : BkOk (pls L)) (hl : L.length ≤ 16) (pg k : Int) :
    Calls Try.prog 27 #[v, .int .i64 pg, .int .i64 k] w fun e w' => AnsD w (backL (pls L) pg k) e w' := by
  obtain ⟨a0, c00, hv⟩ := own_shape h.own
  by_cases hbad : pageB (pls L) pg = true ∧ instB k = true
  · obtain ⟨hp, hk⟩ := hbad
    rw [page_iff, pls_len] at hp
    obtain ⟨i, rfl⟩ := Int.eq_ofNat_of_zero_le hp.1
    have hi : i < L.length := by omega
    have hi' : i < (pls L).length := by rw [pls_len]; exact hi
    have hlf := hok.at hi'
    rw [pls_at hi] at hlf
    have hkk := inst_iff.1 hk
    obtain ⟨g, c, rfl, hg, hc, ho, c0, c1, c2, c3, c4⟩ := h.at hi
    have hBg := fun e => back_good (k := k) hi' hk e
    have hBs := fun e => back_state (k := k) hi' hk e
    rw [pls_at hi] at hBg hBs
    have hset := fun (t : Pl) (ht : PlOk w t) => with40 (h.below ((Below.refl w.heap.size w).alloc (Nat.le_refl _) (.cells (plA t) 65))) hi t (ht.below ((Below.refl _ _).alloc (Nat.le_refl _) _)) hl
    have HH := toHid h
    have HSet := toHid hset
    have HLf := toHid hlf
    have HO := toHid ho
    have HHi := toHid hi
    generalize hti : L[i] = t at *
    obtain ⟨x, a, d⟩ := t
    obtain ⟨fa, ow, lo, ca, ws⟩ := x
    dsimp only at c0 c1 c2 c3 c4 hBg hBs ⊢
    clear h hlf ho hset hv
    by_cases how : ow = k
    · subst how
      obtain rfl : lo = false := by cases lo with | false => rfl | true => have := HLf.out.lost rfl; dsimp only at this; omega
      rw [hBg rfl]
      have HPre := toHid (leave_pre HLf.out false)
      have HC := toHid (HSet.out ⟨⟨fa, 0, false, false, ws⟩, a, d⟩ ⟨HO.out.row, HO.out.cap, HO.out.zero⟩)
      simp only [plA] at HC
      clear hBg hBs hti HSet
      go_enter Try.func27, Try.ntmps27
      go_wp2_with fail
      refine Calls.mono HC.out ?_
      rintro e w3 ⟨v3, rfl, hd3, hb3⟩
      have hlow : Below w.heap.size w w3 := ((Below.refl w.heap.size w).alloc (Nat.le_refl _) _).trans (hb3.mono (by simp))
      have HS := toHid (serve39 hd3 (i := i) (by simpa using hi) (by rw [List.getElem_set_self]; exact HPre.out) (by simpa using hl))
      have HL3 := toHid hlow
      clear hd3 hb3 hlow HC
      go_wp2_with fail
      refine Calls.mono HS.out ?_
      rintro e w4 ⟨v', vo, L', rfl, hd, e1, hoo, hb⟩
      have HA := toHid (AnsD.serve HHi.out e1 hd hoo HL3.out hb)
      clear hd e1 hoo hb HS
      go_wp2
      exact bodyPost_ret (v := .tuple #[v', vo, .int .i64 0]) (by simp [results, Try.results27, go_sem]) rfl HA.out
    · rw [hBs how]
      have HE := toHid (AnsD.err HH.out 10 ((Below.refl w.heap.size w).alloc (Nat.le_refl _) (.cells (plA ⟨⟨fa, ow, lo, ca, ws⟩, a, d⟩) 65)))
      simp only [plA] at HE
      clear hBg hBs hti HSet
      go_enter Try.func27, Try.ntmps27
      go_wp2
      exact bodyPost_ret (v := .tuple #[.slice (some ⟨g, 0, none⟩) L.length c, .slice none 0 0, .int .i64 10]) (by simp [results, Try.results27, go_sem]) rfl HE.out
  · rw [back_arg hbad]
    have hbad2 : pg < 0 ∨ (¬ pg < 0 ∧ (L.length : Int) ≤ pg) ∨ (¬ pg < 0 ∧ ¬ (L.length : Int) ≤ pg ∧ k < 1) ∨ (¬ pg < 0 ∧ ¬ (L.length : Int) ≤ pg ∧ ¬ k < 1 ∧ 8 < k) := by
      rw [page_iff, inst_iff, pls_len] at hbad
      omega
    have HE := toHid (AnsD.err h 1 (Below.refl _ _))
    subst hv
    clear h hok hbad
    rcases hbad2 with h1 | ⟨h1, h2⟩ | ⟨h1, h2, h3⟩ | ⟨h1, h2, h3, h4⟩
    all_goals
      go_enter Try.func27, Try.ntmps27
      go_wp2
      exact bodyPost_ret (v := .tuple #[.slice a0 L.length c00, .slice none 0 0, .int .i64 1]) (by simp [results, Try.results27, go_sem]) rfl HE.out
theorem mend_any_d {w : World} {v : Value} {L : List Pl} (h : Dl w v L) (hok : BkOk (pls L)) (hl : L.length ≤ 16) (pg : Int) :
    Calls Try.prog 29 #[v, .int .i64 pg] w fun e w' => AnsD w (mendL (pls L) pg) e w' := by
  obtain ⟨a0, c00, hv⟩ := own_shape h.own
  by_cases hp : pageB (pls L) pg = true
  · rw [page_iff, pls_len] at hp
    obtain ⟨i, rfl⟩ := Int.eq_ofNat_of_zero_le hp.1
    have hi : i < L.length := by omega
    have hi' : i < (pls L).length := by rw [pls_len]; exact hi
    have hlf := hok.at hi'
    rw [pls_at hi] at hlf
    obtain ⟨g, c, rfl, hg, hc, ho, c0, c1, c2, c3, c4⟩ := h.at hi
    have hBg := fun e => mend_good hi' e
    have hBs := fun e => mend_state hi' e
    rw [pls_at hi] at hBg hBs
    have hset := fun (t : Pl) (ht : PlOk w t) => with40 (h.below ((Below.refl w.heap.size w).alloc (Nat.le_refl _) (.cells (plA t) 65))) hi t (ht.below ((Below.refl _ _).alloc (Nat.le_refl _) _)) hl
    have HH := toHid h
    have HSet := toHid hset
    have HLf := toHid hlf
    have HO := toHid ho
    have HHi := toHid hi
    generalize hti : L[i] = t at *
    obtain ⟨x, a, d⟩ := t
    obtain ⟨fa, ow, lo, ca, ws⟩ := x
    dsimp only at c0 c1 c2 c3 c4 hBg hBs ⊢
    clear h hlf ho hset hv
    cases lo
    case true =>
      obtain rfl : ow = 0 := HLf.out.lost rfl
      obtain rfl : ca = false := by cases ca with | false => rfl | true => exact absurd rfl (HLf.out.called rfl)
      rw [hBg rfl]
      have HPre := toHid (leave_pre HLf.out false)
      have HC := toHid (HSet.out ⟨⟨fa, 0, false, false, ws⟩, a, d⟩ ⟨HO.out.row, HO.out.cap, HO.out.zero⟩)
      simp only [plA] at HC
      clear hBg hBs hti HSet
      go_enter Try.func29, Try.ntmps29
      go_wp2_with fail
      refine Calls.mono HC.out ?_
      rintro e w3 ⟨v3, rfl, hd3, hb3⟩
      have hlow : Below w.heap.size w w3 := ((Below.refl w.heap.size w).alloc (Nat.le_refl _) _).trans (hb3.mono (by simp))
      have HS := toHid (serve39 hd3 (i := i) (by simpa using hi) (by rw [List.getElem_set_self]; exact HPre.out) (by simpa using hl))
      have HL3 := toHid hlow
      clear hd3 hb3 hlow HC
      go_wp2_with fail
      refine Calls.mono HS.out ?_
      rintro e w4 ⟨v', vo, L', rfl, hd, e1, hoo, hb⟩
      have HA := toHid (AnsD.serve HHi.out e1 hd hoo HL3.out hb)
      clear hd e1 hoo hb HS
      go_wp2
      exact bodyPost_ret (v := .tuple #[v', vo, .int .i64 0]) (by simp [results, Try.results29, go_sem]) rfl HA.out
    case false =>
      rw [hBs rfl]
      have HE := toHid (AnsD.err HH.out 10 ((Below.refl w.heap.size w).alloc (Nat.le_refl _) (.cells (plA ⟨⟨fa, ow, false, ca, ws⟩, a, d⟩) 65)))
      simp only [plA] at HE
      clear hBg hBs hti HSet
      go_enter Try.func29, Try.ntmps29
      go_wp2
      exact bodyPost_ret (v := .tuple #[.slice (some ⟨g, 0, none⟩) L.length c, .slice none 0 0, .int .i64 10]) (by simp [results, Try.results29, go_sem]) rfl HE.out
  · rw [mend_arg hp]
    have hbad2 : pg < 0 ∨ (¬ pg < 0 ∧ (L.length : Int) ≤ pg) := by
      rw [page_iff, pls_len] at hp
      omega
    have HE := toHid (AnsD.err h 1 (Below.refl _ _))
    subst hv
    clear h hok hp
    rcases hbad2 with h1 | ⟨h1, h2⟩
    all_goals
      go_enter Try.func29, Try.ntmps29
      go_wp2
      exact bodyPost_ret (v := .tuple #[.slice a0 L.length c00, .slice none 0 0, .int .i64 1]) (by simp [results, Try.results29, go_sem]) rfl HE.out
end Go.Proofs.Ytdlanenbbmnbhaa
