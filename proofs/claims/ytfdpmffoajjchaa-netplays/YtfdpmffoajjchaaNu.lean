/-
  What turns in memory while a net is used; a row's first message; all of a row taken; Cut; Sum.
-/
import Derived.Test.YtfdpmffoajjchaaNw
namespace Go.Proofs.Ytfdpmffoajjchaa
open Go.RowKit Go.Conc

/-- Nothing that was there has turned but the net's channels. -/
structure Tn (s n : Nat) (w w' : World) : Prop where
  os : w'.os = w.os
  tape : w'.tape = w.tape
  output : w'.output = w.output
  size : w.heap.size ≤ w'.heap.size
  keep : ∀ k, k < w.heap.size → (∀ j, j < 2 * n → k ≠ chb s n j) → w'.heap[k]? = w.heap[k]?

theorem chb_ge {s n k : Nat} : s < chb s n k := by unfold chb; split <;> omega
theorem chb_le {s n k : Nat} (h : k < 2 * n) : chb s n k < s + 2 * n + 2 := by unfold chb; split <;> omega
theorem chb_inj {s n k j : Nat} (h : chb s n k = chb s n j) : k = j := by unfold chb at h; split at h <;> split at h <;> omega
theorem chb_mid {s n k : Nat} : chb s n k ≠ s + n + 1 := by unfold chb; split <;> omega

theorem Tn.refl (s n : Nat) (w : World) : Tn s n w w := ⟨rfl, rfl, rfl, Nat.le_refl _, fun _ _ _ => rfl⟩
theorem Tn.trans {s n : Nat} {w w1 w2 : World} (h : Tn s n w w1) (k : Tn s n w1 w2) : Tn s n w w2 :=
  ⟨k.os.trans h.os, k.tape.trans h.tape, k.output.trans h.output, Nat.le_trans h.size k.size, fun i hi hn => (k.keep i (Nat.lt_of_lt_of_le hi h.size) hn).trans (h.keep i hi hn)⟩
theorem Tn.below {s n : Nat} {w w' : World} (h : Below w.heap.size w w') : Tn s n w w' := ⟨h.os, h.tape, h.output, h.size, fun k hk _ => h.block k hk⟩
theorem Tn.to {s n B : Nat} {w0 w w' : World} (h : Tn s n w w') (hb : Below B w0 w) (hs : B ≤ s) (hB : B ≤ w.heap.size) : Below B w0 w' :=
  hb.trans ⟨h.os, h.tape, h.output, h.size, fun k hk => h.keep k (by omega) (fun j _ e => by have := chb_ge (s := s) (n := n) (k := j); omega)⟩
theorem Tn.low {s n : Nat} {w w1 w2 : World} (h : Tn s n w w1) (hb : Below w.heap.size w1 w2) : Tn s n w w2 :=
  ⟨hb.os.trans h.os, hb.tape.trans h.tape, hb.output.trans h.output, Nat.le_trans h.size hb.size, fun i hi hn => (hb.block i hi).trans (h.keep i hi hn)⟩
theorem Tn.drew {s n : Nat} {w w' : World} (h : Tn s n w w') (m : Nat) : Tn s n w (w'.drewN m) := ⟨h.os, h.tape, h.output, h.size, h.keep⟩
theorem Tn.setChan {s n k : Nat} (w : World) (hk : k < 2 * n) (cap : Nat) (buf : Array Value) (cl : Bool) (a b : Nat) (tm : Bool) : Tn s n w (w.setChan (chb s n k) cap buf cl a b tm) :=
  ⟨rfl, rfl, rfl, by simp [World.setChan], fun i _ hn => setChan_other _ _ _ _ _ _ _ _ _ (fun e => hn k hk e.symm)⟩

def upd (R : Nat → List Nat) (k : Nat) (l : List Nat) : Nat → List Nat := fun j => if j = k then l else R j
theorem upd_same (R : Nat → List Nat) (k : Nat) (l : List Nat) : upd R k l k = l := by simp [upd]
theorem upd_other (R : Nat → List Nat) (k j : Nat) (l : List Nat) (h : j ≠ k) : upd R k l j = R j := by simp [upd, h]
theorem upd_upd (R : Nat → List Nat) (k : Nat) (l m : List Nat) : upd (upd R k l) k m = upd R k m := by funext j; simp only [upd]; split <;> rfl
theorem upd_self (R : Nat → List Nat) (k : Nat) : upd R k (R k) = R := by funext j; simp only [upd]; split <;> simp_all

section
variable {w w' : World} {s n : Nat} {R : Nat → List Nat}
theorem NetOk.lt (h : NetOk w s n R) : s + 2 * n + 2 < w.heap.size := (Array.getElem?_eq_some_iff.1 h.net).1
theorem NetOk.keep (h : NetOk w s n R) (hk : ∀ k, s ≤ k → k ≤ s + 2 * n + 2 → w'.heap[k]? = w.heap[k]?) : NetOk w' s n R :=
  ⟨h.n1, h.n8, by rw [hk _ (by omega) (by omega)]; exact h.up, by rw [hk _ (by omega) (by omega)]; exact h.down, by rw [hk _ (by omega) (by omega)]; exact h.net,
    fun k hk' => by
      rw [hk _ (by have := chb_ge (s := s) (n := n) (k := k); omega) (by have := chb_le (s := s) hk'; omega)]
      exact h.ch k hk', h.len⟩
theorem NetOk.below (h : NetOk w s n R) (hb : Below w.heap.size w w') : NetOk w' s n R := h.keep fun k _ h2 => hb.block k (by have := h.lt; omega)
theorem NetOk.drew (h : NetOk w s n R) (m : Nat) : NetOk (w.drewN m) s n R := ⟨h.n1, h.n8, h.up, h.down, h.net, h.ch, h.len⟩
theorem NetOk.set (h : NetOk w s n R) {k : Nat} (hk : k < 2 * n) (l : List Nat) (hl : l.length ≤ 256) (a b : Nat) : NetOk (w.setChan (chb s n k) 256 (ptrs l).toArray false a b false) s n (upd R k l) := by
  have hlt := h.lt
  have hle := chb_le (s := s) hk
  have hge := chb_ge (s := s) (n := n) (k := k)
  refine ⟨h.n1, h.n8, ?_, ?_, ?_, fun j hj => ?_, fun j hj => ?_⟩
  · rw [setChan_other _ _ _ _ _ _ _ _ _ (by omega)]; exact h.up
  · rw [setChan_other _ _ _ _ _ _ _ _ _ chb_mid]; exact h.down
  · rw [setChan_other _ _ _ _ _ _ _ _ _ (by omega)]; exact h.net
  · by_cases e : j = k
    · subst e
      rw [upd_same]
      exact ⟨a, b, heap_setChan _ _ _ _ _ _ _ _ (by omega)⟩
    · rw [upd_other _ _ _ _ e, setChan_other _ _ _ _ _ _ _ _ _ (fun e' => e (chb_inj e').symm)]
      exact h.ch j hj
  · by_cases e : j = k
    · subst e
      rw [upd_same]
      exact hl
    · rw [upd_other _ _ _ _ e]
      exact h.len j hj
/-- A block of cells is no channel of the net's. -/
theorem NetOk.cells (h : NetOk w s n R) {k t : Nat} {c : Array Value} (hc : w.heap[k]? = some (.cells c t)) : ∀ j, j < 2 * n → k ≠ chb s n j := by
  intro j hj e
  obtain ⟨a, b, hb⟩ := h.ch j hj
  rw [← e, hc] at hb
  cases hb
theorem NetOk.cells' (h : NetOk w s n R) {k t : Nat} {c : Array Value} {f : Nat × Nat} (hc : w.heap[k]? = some (.cells c t f)) : ∀ j, j < 2 * n → k ≠ chb s n j := by
  intro j hj e
  obtain ⟨a, b, hb⟩ := h.ch j hj
  rw [← e, hc] at hb
  cases hb
theorem Tn.cells (h : Tn s n w w') (hn : NetOk w s n R) {k t : Nat} {c : Array Value} (hc : w.heap[k]? = some (.cells c t)) : w'.heap[k]? = some (.cells c t) := by
  rw [h.keep k (Array.getElem?_eq_some_iff.1 hc).1 (hn.cells hc)]; exact hc
end

theorem first_e {w : World} {s n k : Nat} {R : Nat → List Nat} (h : NetOk w s n R) (hk : k < 2 * n) (he : R k = []) : Calls Try.prog 27 #[.chan (some (chb s n k))] w fun e w' => e = .returned (.pointer none) ∧ w' = w := by
  obtain ⟨a, b, hc⟩ := h.ch k hk
  rw [he] at hc
  exact first_empty w _ a b hc
theorem first_c {w : World} {s n k b : Nat} {l : List Nat} {R : Nat → List Nat} (h : NetOk w s n R) (hk : k < 2 * n) (he : R k = b :: l) : Calls Try.prog 27 #[.chan (some (chb s n k))] w fun e w' => e = .returned (.pointer (some ⟨b, 0, none⟩)) ∧ NetOk w' s n (upd R k l) ∧ Tn s n w w' ∧ w'.heap.size = w.heap.size := by
  obtain ⟨a, d, hc⟩ := h.ch k hk
  have hl := h.len k hk
  rw [he] at hc hl
  refine Calls.mono (first_some w _ a d (ptr b) (ptrs l) hc) ?_
  rintro e w' ⟨rfl, rfl⟩
  exact ⟨rfl, h.set hk l (by simp at hl; omega) _ _, Tn.setChan w hk _ _ _ _ _ _, by simp [World.setChan]⟩

theorem drain_nil (w : World) : Calls Try.prog 29 #[.chan none] w fun e w' => e = .returned (.int .i64 0) ∧ w' = w := by
  have HF := toHid (first_nil w)
  go_enter Try.func29, Try.ntmps29
  go_wp2_with fail
  go_loopw [3] (fun k W => k = .int .i64 0 ∧ W = w) (fun _ _ => 0)
  case atStart => exact ⟨rfl, rfl⟩
  case round =>
    obtain ⟨rfl, rfl⟩ := hrel
    go_wp2_with (go_at_call 27; refine Calls.mono HF.out ?_; rintro e w' ⟨rfl, hw⟩; obtain rfl := hw.symm)
    go_ret
    exact ⟨rfl, rfl⟩

theorem drain_any {w : World} {s n k : Nat} {R : Nat → List Nat} (h : NetOk w s n R) (hk : k < 2 * n) :
    Calls Try.prog 29 #[.chan (some (chb s n k))] w fun e w' => e = .returned (.int .i64 ((R k).length : Nat)) ∧ NetOk w' s n (upd R k []) ∧ Tn s n w w' := by
  have hl := h.len k hk
  have HN := toHid h
  clear h
  go_enter Try.func29, Try.ntmps29
  go_wp2_with fail
  go_loopw [3] (fun q W => ∃ i : Nat, i ≤ (R k).length ∧ q = .int .i64 i ∧ NetOk W s n (upd R k ((R k).drop i)) ∧ Tn s n w W) (fun q _ => (R k).length - (intOf q).toNat)
  case atStart => exact ⟨0, Nat.zero_le _, rfl, by rw [List.drop_zero, upd_self]; exact HN.out, Tn.refl _ _ _⟩
  case round =>
    obtain ⟨i, hi, rfl, hN, hT⟩ := hrel
    have HT := toHid hT
    by_cases hlt : i < (R k).length
    · have he : upd R k ((R k).drop i) k = (R k)[i] :: (R k).drop (i + 1) := by rw [upd_same, List.drop_eq_getElem_cons hlt]
      have HF := toHid (first_c hN hk he)
      clear he hN hT
      generalize (R k)[i] = b at HF
      go_wp2_with (go_at_call 27; refine Calls.mono HF.out ?_; rintro e w' ⟨rfl, hN', hT', _⟩; have HN' := toHid hN'; have HT' := toHid hT'; clear hN' hT')
      go_roundw
      case rel => exact ⟨i + 1, by omega, by go_num, by rw [← upd_upd R k ((R k).drop i)]; exact HN'.out, HT.out.trans HT'.out⟩
      case measure => simp [intOf]; omega
    · have hd : (R k).drop i = [] := List.drop_eq_nil_of_le (by omega)
      have e : i = (R k).length := by omega
      rw [hd] at hN
      have HF := toHid (first_e hN hk (upd_same _ _ _))
      have HN' := toHid hN
      have HE := toHid e
      clear hN hT hd e
      go_wp2_with (go_at_call 27; refine Calls.mono HF.out ?_; rintro e w' ⟨rfl, hw⟩; obtain rfl := hw.symm)
      go_ret
      exact ⟨by rw [← HE.out]; rfl, HN'.out, HT.out⟩

end Go.Proofs.Ytfdpmffoajjchaa
