/-
  The walk of pushLog; the plain mathematics of Merge.
-/
import Derived.Test.YtnejcjebepidcaaMe
namespace Go.Proofs.Ytnejcjebepidcaa
open Go.RowKit

theorem flat_new {live : List Nat} {b : Nat} (hb : b ∉ live) (l : List Rc) (sf : Nat → List Rc) : (b :: live).flatMap (fun q => if q = b then l else sf q) = l ++ live.flatMap sf := by
  have hlt : ∀ q, q ∈ live → q ≠ b := fun q hq e => hb (e ▸ hq)
  rw [List.flatMap_cons, if_pos rfl, List.flatMap_def, List.flatMap_def, List.map_congr_left fun q hq => if_neg (hlt q hq)]

set_option maxRecDepth 100000 in
set_option maxHeartbeats 4000000 in
theorem pushLog37 (w0 : World) (h : Nat) (th : Nat → Value) (key : Nat → Int) (live : List Nat) (N : Nd) (tv : Value) (tops : List Nat) (sf : Nat → List Rc) (W : World) (H : Mg w0 h th key live N tv tops sf W) (a : Option Addr) (c : Nat) (s : List Rc) (hs : SlR w0 a s) (hc : s.length ≤ c) (hr : risB s = true) (hfew : live.length < 500000) :
    Calls Try.prog 37 #[.pointer (some ⟨h, 0, none⟩), .slice a s.length c] W fun e W' => e = .returned (.tuple #[]) ∧ ∃ (th' : Nat → Value) (key' : Nat → Int) (live' : List Nat) (N' : Nd) (tv' : Value) (tops' : List Nat) (sf' : Nat → List Rc),
      Mg w0 h th' key' live' N' tv' tops' sf' W' ∧ (live'.flatMap sf').Perm (s ++ live.flatMap sf) ∧ live'.length ≤ live.length + 1 ∧ Moved (Foot h live N tv) (Foot h live' N' tv') W W' := by
  cases s with
  | nil =>
    have HH := toHid H
    clear H hs hc hr
    simp only [List.length_nil]
    go_enter Try.func37, Try.ntmps37
    go_wp2
    go_end0
    exact ⟨rfl, th, key, live, N, tv, tops, sf, HH.out, List.Perm.refl _, by omega, Moved.refl _ _⟩
  | cons r s =>
    obtain ⟨b, o, rfl, hb⟩ := hs.there (by simp)
    have hlg : Lg w0 w0.heap.size (.slice (some ⟨b, o, none⟩) (s.length + 1) c) (r.lsn : Int) (r :: s) := ⟨b, o, c, r, s, rfl, rfl, by simpa using hc, hb, hs, rfl, hr⟩
    have HP := toHid (pushR w0.heap.size h th key live N tv tops (.slice (some ⟨b, o, none⟩) (s.length + 1) c) (r.lsn : Int) W H.heap (hlg.rd H.low) hfew)
    have HL := toHid hlg
    have HH := toHid H
    clear H hs hc hr hlg
    simp only [List.length_cons]
    have p1 : (0 : Int) < (s.length : Int) + 1 := by omega
    go_enter Try.func37, Try.ntmps37
    go_wp2_with fail
    refine Calls.mono HP.out ?_
    rintro e W1 ⟨rfl, N', tv', hnl, hH, hM⟩
    have HHH := toHid hH
    have HMM := toHid hM
    have HNL := toHid hnl
    clear hH hM hnl HP
    go_wp2
    go_end0
    refine ⟨rfl, _, _, _, N', tv', _, fun q => if q = W.heap.size then r :: s else sf q, ⟨HHH.out, fun q hq => ?_, HH.out.low.trans (HMM.out.low HH.out.heap.foot HH.out.heap.base)⟩, ?_, by simp, HMM.out⟩
    · rcases List.mem_cons.1 hq with rfl | hq
      · simp only [if_true]
        exact HL.out
      · have : q ≠ W.heap.size := fun e => HNL.out (e ▸ hq)
        simp only [if_neg this]
        exact HH.out.logs q hq
    · rw [flat_new HNL.out (r :: s) sf]
      exact List.Perm.refl _

/-- All of a log that rises are at least its first one. -/
theorem ris_head {r : Rc} {s : List Rc} (h : risB (r :: s) = true) : ∀ y, y ∈ r :: s → r.lsn ≤ y.lsn := by
  induction s generalizing r with
  | nil => intro y hy; simp at hy; subst hy; exact Nat.le_refl _
  | cons b s ih =>
    rw [risB, Bool.and_eq_true] at h
    simp only [decide_eq_true_eq] at h
    intro y hy
    rcases List.mem_cons.1 hy with rfl | hy
    · exact Nat.le_refl _
    · have := ih h.2 y hy; omega
theorem ris_tail {r : Rc} {s : List Rc} (h : risB (r :: s) = true) : risB s = true := by
  cases s with
  | nil => rfl
  | cons b s => rw [risB, Bool.and_eq_true] at h; exact h.2
theorem ris_snoc {l : List Rc} {r : Rc} (h : risB l = true) (hl : ∀ x, l.getLast? = some x → x.lsn < r.lsn) : risB (l ++ [r]) = true := by
  induction l with
  | nil => rfl
  | cons a l ih =>
    cases l with
    | nil =>
      have := hl a rfl
      simp [risB, this]
    | cons b l =>
      rw [risB, Bool.and_eq_true] at h
      simp only [List.cons_append]
      rw [risB, Bool.and_eq_true]
      exact ⟨h.1, ih h.2 (fun x hx => hl x (by rw [List.getLast?_cons_cons]; exact hx))⟩

/-- Where Merge stands: told, the log that came off, and those on the heap. -/
structure MS (logs : List (List Rc)) (out cur rest : List Rc) : Prop where
  perm : (out ++ (cur ++ rest)).Perm logs.flatten
  ris : risB out = true
  rcur : risB cur = true
  le : ∀ x, x ∈ out → ∀ y, y ∈ cur ++ rest → x.lsn ≤ y.lsn
  min : ∀ r s, cur = r :: s → ∀ y, y ∈ cur ++ rest → r.lsn ≤ y.lsn

theorem MS.twice {logs : List (List Rc)} {out cur rest : List Rc} (h : MS logs out cur rest) {x r : Rc} {s : List Rc} (hx : out.getLast? = some x) (hc : cur = r :: s) (he : x.lsn = r.lsn) : ¬ (logs.flatten.map Rc.lsn).Nodup := by
  intro hn
  have h1 : ((out ++ (cur ++ rest)).map Rc.lsn).Nodup := ((h.perm.map Rc.lsn).nodup_iff).2 hn
  rw [List.map_append] at h1
  have h2 := (List.nodup_append.1 h1).2.2
  exact h2 x.lsn (List.mem_map.2 ⟨x, List.mem_of_getLast? hx, rfl⟩) r.lsn (by subst hc; simp) he
theorem MS.step {logs : List (List Rc)} {out rest : List Rc} {r : Rc} {s : List Rc} (h : MS logs out (r :: s) rest) (hx : ∀ x, out.getLast? = some x → x.lsn ≠ r.lsn) :
    ((out ++ [r]) ++ (s ++ rest)).Perm logs.flatten ∧ risB (out ++ [r]) = true ∧ risB s = true ∧ ∀ x, x ∈ out ++ [r] → ∀ y, y ∈ s ++ rest → x.lsn ≤ y.lsn := by
  refine ⟨?_, ris_snoc h.ris (fun x hx' => ?_), ris_tail h.rcur, fun x hx' y hy => ?_⟩
  · have := h.perm
    simpa using this
  · have h1 := h.le x (List.mem_of_getLast? hx') r (by simp)
    have h2 := hx x hx'
    omega
  · rcases List.mem_append.1 hx' with hx' | hx'
    · exact h.le x hx' y (List.mem_cons_of_mem _ hy)
    · rw [List.mem_singleton.1 hx']
      exact h.min r s rfl y (List.mem_cons_of_mem _ hy)

/-- What comes off the heap next. -/
theorem popLog (logs : List (List Rc)) (w0 : World) (h : Nat) (th : Nat → Value) (key : Nat → Int) (live : List Nat) (N : Nd) (tv : Value) (tops : List Nat) (sf : Nat → List Rc) (W : World) (H : Mg w0 h th key live N tv tops sf W) (out : List Rc)
    (hp : (out ++ live.flatMap sf).Perm logs.flatten) (hr : risB out = true) (hle : ∀ x, x ∈ out → ∀ y, y ∈ live.flatMap sf → x.lsn ≤ y.lsn) :
    Calls Try.prog 38 #[.pointer (some ⟨h, 0, none⟩)] W fun e W' => ∃ (s : Value) (k : Bool) (cur : List Rc) (live' : List Nat) (N' : Nd) (tv' : Value) (tops' : List Nat), e = .returned (.tuple #[s, .bool k]) ∧ Mg w0 h th key live' N' tv' tops' sf W' ∧ MS logs out cur (live'.flatMap sf) ∧ live'.length + k.toNat ≤ live.length ∧
      ((cur = [] ∧ live' = [] ∧ k = false) ∨ (k = true ∧ ∃ kk, Lg w0 w0.heap.size s kk cur)) ∧ Moved (Foot h live N tv) (Foot h live' N' tv') W W' := by
  by_cases hne : live = []
  · subst hne
    refine (popNoR w0.heap.size h th key N tv tops W H.heap).mono ?_
    rintro e W' ⟨rfl, hw⟩
    obtain rfl := hw.symm
    exact ⟨_, false, [], [], N, tv, tops, rfl, H, ⟨by simpa using hp, hr, rfl, fun x _ y hy => by simp at hy, fun r s e => by simp at e⟩, Nat.le_refl _, .inl ⟨rfl, rfl, rfl⟩, Moved.refl _ _⟩
  · refine (popR w0.heap.size h th key live N tv tops W H.heap hne).mono ?_
    rintro e W' ⟨m, N', tv', tops', rfl, hm, hmin, hH, hM⟩
    have hlg := H.logs m hm
    have hpe : (live.flatMap sf).Perm (sf m ++ (live.erase m).flatMap sf) := by
      have := (List.perm_cons_erase hm).flatMap_right sf
      rwa [List.flatMap_cons] at this
    refine ⟨th m, true, sf m, live.erase m, N', tv', tops', rfl, ⟨hH, fun b hb => H.logs b (List.mem_of_mem_erase hb), H.low.trans (hM.low H.heap.foot H.heap.base)⟩, ⟨?_, hr, ?_, fun x hx y hy => hle x hx y (hpe.mem_iff.2 hy), ?_⟩, ?_, .inr ⟨rfl, _, hlg⟩, hM⟩
    · exact ((hpe.symm.append_left _)).trans hp
    · obtain ⟨_, _, _, r, s, e, _, _, _, _, _, h7⟩ := hlg
      rw [e]
      exact h7
    · intro r s e y hy
      have hy' := hpe.mem_iff.2 hy
      obtain ⟨b, hb, hyb⟩ := List.mem_flatMap.1 hy'
      obtain ⟨_, _, _, r', s', e', _, _, _, _, hk, _⟩ := hlg
      rw [e] at e'
      injection e' with e1 e2
      subst e1
      obtain ⟨_, _, _, r2, s2, e2', _, _, _, _, hk2, h72⟩ := H.logs b hb
      have h1 := hmin b hb
      rw [e2'] at hyb
      have h2 := ris_head h72 y hyb
      omega
    · have := List.length_erase_of_mem hm
      have := List.length_pos_of_mem hm
      simp only [Bool.toNat_true]
      omega

theorem below_drewN (B : Nat) (w : World) (n : Nat) : Below B w (w.drewN n) := ⟨rfl, rfl, rfl, Nat.le_refl _, fun _ _ => rfl⟩
theorem len_flat {l : List (List Rc)} {i : Nat} (h : i < l.length) : l[i].length ≤ l.flatten.length := by
  have : l[i].Sublist l.flatten := List.sublist_flatten_of_mem (List.getElem_mem h)
  exact this.length_le

end Go.Proofs.Ytnejcjebepidcaa
