/-
  A record that may be is made of its bytes again: of no program.
-/
import Derived.Test.YticnkppnpfgceaaMa
namespace Go.Proofs.Yticnkppnpfgceaa

theorem lsnB_iff (n : Nat) : lsnB n = true ↔ 16 ≤ n ∧ n ≤ 1152921504606846991 := by simp [lsnB]
theorem idB_iff (n : Int) : idB n = true ↔ 1 ≤ n ∧ n ≤ 1073741824 := by simp [idB]
theorem pageB_iff (n : Int) : pageB n = true ↔ 0 ≤ n ∧ n < 16 := by simp [pageB]
theorem chgB_iff (n : Int) : chgB n = true ↔ n = 1 ∨ n = 2 := by simp [chgB]

theorem toNat_back {n : Int} (h : 0 ≤ n) : ((n.toNat : Nat) : Int) = n := by omega

theorem tx_back (t : Tx) (h : txB t = true) (l : List UInt8) : txR (txE t ++ l, 0) = t ∧ txS (txE t ++ l, 0) = (l, 0) := by
  simp only [txB, Bool.and_eq_true, idB_iff, lsnB_iff, decide_eq_true_eq] at h
  obtain ⟨⟨h1, h2⟩, ⟨h3, h4⟩, h5, h6⟩ := h
  have b1 : t.id.toNat < 256 ^ 4 := by omega
  have b2 : t.st.toNat < 256 ^ 1 := by omega
  have b3 : t.last < 256 ^ 8 := by omega
  simp only [txE, List.append_assoc, txR, txS, rN_back _ _ _ b1, sN_back _ _ _ b1, rN_back _ _ _ b2, sN_back _ _ _ b2, rN_back _ _ _ b3, sN_back _ _ _ b3, and_true]
  rw [toNat_back (by omega), toNat_back (by omega)]

theorem di_back (t : Di) (h : diB t = true) (l : List UInt8) : diR (diE t ++ l, 0) = t ∧ diS (diE t ++ l, 0) = (l, 0) := by
  simp only [diB, Bool.and_eq_true, pageB_iff, lsnB_iff] at h
  obtain ⟨⟨h1, h2⟩, h5, h6⟩ := h
  have b1 : t.page.toNat < 256 ^ 2 := by omega
  have b3 : t.lsn < 256 ^ 8 := by omega
  simp only [diE, List.append_assoc, diR, diS, rN_back _ _ _ b1, sN_back _ _ _ b1, rN_back _ _ _ b3, sN_back _ _ _ b3, and_true]
  rw [toNat_back (by omega)]

theorem txs_back (l : List Tx) (h : ∀ t ∈ l, txB t = true) (rest : List UInt8) : txsR l.length (txsE l ++ rest, 0) = l ∧ txsS l.length (txsE l ++ rest, 0) = (rest, 0) := by
  induction l with
  | nil => exact ⟨rfl, rfl⟩
  | cons t r ih =>
    obtain ⟨h1, h2⟩ := tx_back t (h t (by simp)) (txsE r ++ rest)
    obtain ⟨i1, i2⟩ := ih (fun u hu => h u (by simp [hu]))
    simp only [List.length_cons, txsE, List.append_assoc]
    rw [txsR_cons, txsS_cons, h1, h2, i1, i2]
    exact ⟨rfl, rfl⟩
theorem dis_back (l : List Di) (h : ∀ t ∈ l, diB t = true) (rest : List UInt8) : disR l.length (disE l ++ rest, 0) = l ∧ disS l.length (disE l ++ rest, 0) = (rest, 0) := by
  induction l with
  | nil => exact ⟨rfl, rfl⟩
  | cons t r ih =>
    obtain ⟨h1, h2⟩ := di_back t (h t (by simp)) (disE r ++ rest)
    obtain ⟨i1, i2⟩ := ih (fun u hu => h u (by simp [hu]))
    simp only [List.length_cons, disE, List.append_assoc]
    rw [disR_cons, disS_cons, h1, h2, i1, i2]
    exact ⟨rfl, rfl⟩

theorem txUpto_all (l : List Tx) (k : Nat) (h : txUpto l k = true) : ∀ i, i < k → txAt l i = true := by
  induction k with
  | zero => intro i hi; omega
  | succ k ih =>
    simp only [txUpto, Bool.and_eq_true] at h
    intro i hi
    by_cases e : i = k
    · subst e; exact h.2
    · exact ih h.1 i (by omega)
theorem diUpto_all (l : List Di) (k : Nat) (h : diUpto l k = true) : ∀ i, i < k → diAt l i = true := by
  induction k with
  | zero => intro i hi; omega
  | succ k ih =>
    simp only [diUpto, Bool.and_eq_true] at h
    intro i hi
    by_cases e : i = k
    · subst e; exact h.2
    · exact ih h.1 i (by omega)
theorem txUpto_of (l : List Tx) (k : Nat) (h : ∀ i, i < k → txAt l i = true) : txUpto l k = true := by
  induction k with
  | zero => rfl
  | succ k ih => simp only [txUpto, Bool.and_eq_true]; exact ⟨ih fun i hi => h i (by omega), h k (by omega)⟩
theorem diUpto_of (l : List Di) (k : Nat) (h : ∀ i, i < k → diAt l i = true) : diUpto l k = true := by
  induction k with
  | zero => rfl
  | succ k ih => simp only [diUpto, Bool.and_eq_true]; exact ⟨ih fun i hi => h i (by omega), h k (by omega)⟩
theorem txUpto_no (l : List Tx) (k i : Nat) (hi : i < k) (h : txAt l i = false) : txUpto l k = false := by
  cases e : txUpto l k with
  | false => rfl
  | true => rw [txUpto_all l k e i hi] at h; cases h
theorem diUpto_no (l : List Di) (k i : Nat) (hi : i < k) (h : diAt l i = false) : diUpto l k = false := by
  cases e : diUpto l k with
  | false => rfl
  | true => rw [diUpto_all l k e i hi] at h; cases h

theorem txnsB_all (l : List Tx) (h : txnsB l = true) : l.length ≤ 64 ∧ ∀ t ∈ l, txB t = true := by
  simp only [txnsB, Bool.and_eq_true, decide_eq_true_eq] at h
  refine ⟨h.1, fun t ht => ?_⟩
  obtain ⟨i, hi, rfl⟩ := List.mem_iff_getElem.1 ht
  have := txUpto_all _ _ h.2 i hi
  simp only [txAt, List.getElem?_eq_getElem hi, Bool.and_eq_true] at this
  exact this.2
theorem dirtyB_all (l : List Di) (h : dirtyB l = true) : l.length ≤ 16 ∧ ∀ t ∈ l, diB t = true := by
  simp only [dirtyB, Bool.and_eq_true, decide_eq_true_eq] at h
  refine ⟨h.1, fun t ht => ?_⟩
  obtain ⟨i, hi, rfl⟩ := List.mem_iff_getElem.1 ht
  have := diUpto_all _ _ h.2 i hi
  simp only [diAt, List.getElem?_eq_getElem hi, Bool.and_eq_true] at this
  exact this.2

theorem mTxn_bd (r : Rc) (h : mTxn r = true) : 0 ≤ r.txn ∧ r.txn ≤ 1073741824 := by
  unfold mTxn at h
  split at h
  · simp at h; omega
  · rw [idB_iff] at h; omega

structure MayP (r : Rc) : Prop where
  kind : 0 < r.kind ∧ r.kind < 9
  lsn : r.lsn ≤ 1152921504606846991
  prev : r.prev < r.lsn
  undo : r.undo < r.lsn
  txn : 0 ≤ r.txn ∧ r.txn ≤ 1073741824
  chg : r.kind = 1 ∨ r.kind = 2 → (0 ≤ r.page ∧ r.page < 16) ∧ (0 < r.ak ∧ r.ak < 4) ∧ r.key.length ≤ 16 ∧ r.old.length ≤ 32 ∧ r.new.length ≤ 32
  nochg : ¬ (r.kind = 1 ∨ r.kind = 2) → r.page = 0 ∧ r.ak = 0 ∧ r.key = [] ∧ r.old = [] ∧ r.new = []
  noundo : r.kind ≠ 2 → r.undo = 0
  tab : r.kind = 8 → (r.txns.length ≤ 64 ∧ ∀ t ∈ r.txns, txB t = true) ∧ (r.dirty.length ≤ 16 ∧ ∀ t ∈ r.dirty, diB t = true)
  notab : r.kind ≠ 8 → r.txns = [] ∧ r.dirty = []

theorem mayP (r : Rc) (h : mayB r = true) : MayP r := by
  simp only [mayB, Bool.and_eq_true, decide_eq_true_eq, lsnB_iff] at h
  obtain ⟨h1, h2, ⟨h3, h4⟩, h5, h6, h7, h8⟩ := h
  refine ⟨h1, h2.2, h3, h4, mTxn_bd r h6, fun hk => ?_, fun hk => ?_, fun hk => by omega, fun hk => ?_, fun hk => ?_⟩
  · unfold mChg at h7
    rw [if_pos ((chgB_iff _).2 hk)] at h7
    simp only [Bool.and_eq_true, pageB_iff, actB, decide_eq_true_eq] at h7
    obtain ⟨a1, a2, _, _, a5, a6⟩ := h7
    exact ⟨a1, a2, a5.2, a6.1, a6.2⟩
  · unfold mChg at h7
    rw [if_neg (fun e => hk ((chgB_iff _).1 e))] at h7
    simpa using h7
  · unfold mTab at h8
    rw [if_pos hk] at h8
    simp only [Bool.and_eq_true] at h8
    exact ⟨txnsB_all _ h8.1, dirtyB_all _ h8.2⟩
  · unfold mTab at h8
    rw [if_neg hk] at h8
    simpa using h8

theorem head_back (r : Rc) (h : MayP r) (l : List UInt8) : headS (headE r ++ l, 0) = (l, 0) ∧ headR (headE r ++ l, 0) = ⟨r.kind, r.lsn, r.txn, r.prev, 0, 0, 0, [], [], [], [], []⟩ := by
  have b1 : r.kind.toNat < 256 ^ 1 := by have := h.kind; omega
  have b2 : r.lsn < 256 ^ 8 := by have := h.lsn; omega
  have b3 : r.txn.toNat < 256 ^ 4 := by have := h.txn; omega
  have b4 : r.prev < 256 ^ 8 := by have := h.prev; omega
  simp only [headE, List.append_assoc, headS, headR, rN_back _ _ _ b1, sN_back _ _ _ b1, rN_back _ _ _ b2, sN_back _ _ _ b2, rN_back _ _ _ b3, sN_back _ _ _ b3, rN_back _ _ _ b4, sN_back _ _ _ b4, true_and]
  rw [toNat_back (by have := h.kind; omega), toNat_back h.txn.1]

theorem chg_back (r x : Rc) (h : MayP r) (hk : r.kind = 1 ∨ r.kind = 2) (l : List UInt8) : chgS (chgE r ++ l, 0) = (undoE r ++ l, 0) ∧ chgR (chgE r ++ l, 0) x = { x with page := r.page, ak := r.ak, key := r.key, old := r.old, new := r.new } := by
  obtain ⟨c1, c2, c3, c4, c5⟩ := h.chg hk
  have b1 : r.page.toNat < 256 ^ 2 := by omega
  have b2 : r.ak.toNat < 256 ^ 1 := by omega
  have k1 := fun l => rT_back 16 r.key l c3 (by omega)
  have k2 := fun l => sT_back 16 r.key l c3 (by omega)
  have o1 := fun l => rT_back 32 r.old l c4 (by omega)
  have o2 := fun l => sT_back 32 r.old l c4 (by omega)
  have n1 := fun l => rT_back 32 r.new l c5 (by omega)
  have n2 := fun l => sT_back 32 r.new l c5 (by omega)
  simp only [chgE, List.append_assoc, chgS, chgR, rN_back _ _ _ b1, sN_back _ _ _ b1, rN_back _ _ _ b2, sN_back _ _ _ b2]
  simp only [Int.cast_ofNat_Int] at k1 k2 o1 o2 n1 n2
  rw [k1, k2, o1, o2, n1, n2, toNat_back c1.1, toNat_back (by omega)]
  exact ⟨rfl, rfl⟩

theorem raw_back (r : Rc) (hm : mayB r = true) : rawR (encB r) = (([], 0), r) := by
  have h := mayP r hm
  unfold rawR encB
  obtain ⟨s1, s2⟩ := head_back r h ((if chgB r.kind = true then chgE r else []) ++ (if r.kind = 8 then tabE r else []))
  rw [s1, s2]
  by_cases hk : r.kind = 1 ∨ r.kind = 2
  · have hk8 : ¬ r.kind = 8 := by omega
    have hc := (chgB_iff r.kind).2 hk
    obtain ⟨t1, t2⟩ := h.notab hk8
    rw [if_pos hc, if_neg hk8, List.append_nil]
    have e1 : onChg ((chgE r, 0), (⟨r.kind, r.lsn, r.txn, r.prev, 0, 0, 0, [], [], [], [], []⟩ : Rc)) = ((undoE r, 0), ⟨r.kind, r.lsn, r.txn, r.prev, 0, r.page, r.ak, r.key, r.old, r.new, [], []⟩) := by
      have := chg_back r ⟨r.kind, r.lsn, r.txn, r.prev, 0, 0, 0, [], [], [], [], []⟩ h hk []
      simp only [List.append_nil] at this
      unfold onChg
      rw [if_pos hc]
      simp only [this]
    rw [e1]
    by_cases h2 : r.kind = 2
    · have b1 : r.undo < 256 ^ 8 := by have := h.undo; have := h.lsn; omega
      have e2 : onUnd ((undoE r, 0), (⟨r.kind, r.lsn, r.txn, r.prev, 0, r.page, r.ak, r.key, r.old, r.new, [], []⟩ : Rc)) = (([], 0), ⟨r.kind, r.lsn, r.txn, r.prev, r.undo, r.page, r.ak, r.key, r.old, r.new, [], []⟩) := by
        have x1 := rN_back r.undo 8 [] b1
        have x2 := sN_back r.undo 8 [] b1
        rw [List.append_nil] at x1 x2
        unfold onUnd undoE
        rw [if_pos h2]
        simp only [if_pos h2, undR, x1, x2]
      rw [e2]
      unfold onTab
      rw [if_neg hk8, ← t1, ← t2]
    · have e2 : onUnd ((undoE r, 0), (⟨r.kind, r.lsn, r.txn, r.prev, 0, r.page, r.ak, r.key, r.old, r.new, [], []⟩ : Rc)) = (([], 0), ⟨r.kind, r.lsn, r.txn, r.prev, r.undo, r.page, r.ak, r.key, r.old, r.new, [], []⟩) := by
        unfold onUnd undoE
        rw [if_neg h2, if_neg h2, h.noundo h2]
      rw [e2]
      unfold onTab
      rw [if_neg hk8, ← t1, ← t2]
  · have hc : ¬ chgB r.kind = true := fun e => hk ((chgB_iff _).1 e)
    have h2 : ¬ r.kind = 2 := by omega
    obtain ⟨n1, n2, n3, n4, n5⟩ := h.nochg hk
    have nu := h.noundo h2
    rw [if_neg hc, List.nil_append]
    have e1 : ∀ s, onUnd (onChg (s, (⟨r.kind, r.lsn, r.txn, r.prev, 0, 0, 0, [], [], [], [], []⟩ : Rc))) = (s, ⟨r.kind, r.lsn, r.txn, r.prev, 0, 0, 0, [], [], [], [], []⟩) := by
      intro s
      unfold onChg
      rw [if_neg hc]
      unfold onUnd
      rw [if_neg h2]
    rw [e1]
    by_cases hk8 : r.kind = 8
    · rw [if_pos hk8]
      unfold onTab
      rw [if_pos hk8]
      obtain ⟨⟨t1, t2⟩, t3, t4⟩ := h.tab hk8
      have b1 : r.txns.length < 256 ^ 1 := by omega
      have b2 : r.dirty.length < 256 ^ 1 := by omega
      obtain ⟨x1, x2⟩ := txs_back r.txns t2 (leB r.dirty.length 1 ++ disE r.dirty)
      obtain ⟨y1, y2⟩ := dis_back r.dirty t4 []
      rw [List.append_nil] at y1 y2
      simp only [tabE, tabS, tabR, rN_back _ _ _ b1, sN_back _ _ _ b1, x1, x2, rN_back _ _ _ b2, sN_back _ _ _ b2, y1, y2, List.nil_append]
      obtain ⟨a, b, c, d, e, f, g, i, j, k, l, m⟩ := r
      simp_all
    · obtain ⟨t1, t2⟩ := h.notab hk8
      rw [if_neg hk8]
      unfold onTab
      rw [if_neg hk8]
      obtain ⟨a, b, c, d, e, f, g, i, j, k, l, m⟩ := r
      simp_all

theorem dec_back (r : Rc) (hm : mayB r = true) : decB (encB r) = some r := by
  have := raw_back r hm
  unfold decB
  rw [this, if_pos ⟨by simp [endOf], hm⟩]

theorem textB_length (s : List UInt8) (h : s.length ≤ 65535) : (textB (txt s)).length = s.length + 2 := by
  rw [textB_of _ (by rw [txt_size]; exact h), List.length_append, leB_length, txt_list]
  omega

theorem encB_length (r : Rc) (hm : mayB r = true) : 21 ≤ (encB r).length ∧ (encB r).length ≤ 1200 := by
  have h := mayP r hm
  have hh : (headE r).length = 21 := by simp [headE, leB_length]
  unfold encB
  rw [List.length_append, hh]
  refine ⟨by omega, ?_⟩
  rw [List.length_append]
  have h1 : (if chgB r.kind = true then chgE r else []).length ≤ 130 := by
    by_cases hk : r.kind = 1 ∨ r.kind = 2
    · obtain ⟨c1, c2, c3, c4, c5⟩ := h.chg hk
      rw [if_pos ((chgB_iff _).2 hk)]
      unfold chgE undoE
      simp only [List.length_append, leB_length, textB_length r.key (by omega), textB_length r.old (by omega), textB_length r.new (by omega)]
      split <;> simp [leB_length] <;> omega
    · rw [if_neg (fun e => hk ((chgB_iff _).1 e))]; simp
  have h2 : (if r.kind = 8 then tabE r else []).length ≤ 1000 := by
    by_cases hk : r.kind = 8
    · obtain ⟨⟨t1, t2⟩, t3, t4⟩ := h.tab hk
      rw [if_pos hk]
      unfold tabE
      simp only [List.length_append, leB_length, txsE_length, disE_length]
      omega
    · rw [if_neg hk]; simp
  omega

theorem encB_inj (a b : Rc) (ha : mayB a = true) (hb : mayB b = true) : encB a = encB b ↔ a = b :=
  ⟨fun h => by have := dec_back a ha; rw [h, dec_back b hb] at this; exact (Option.some.inj this).symm, fun h => by rw [h]⟩

end Go.Proofs.Yticnkppnpfgceaa
