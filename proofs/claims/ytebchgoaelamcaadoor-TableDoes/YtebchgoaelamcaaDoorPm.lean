/-
  Pages as plain data: slots, steps on them, bytes: of no program.
-/
import Derived.Test.YtebchgoaelamcaaDoorLe
namespace Go.Proofs.YtebchgoaelamcaaDoor

/-- A slot. -/
structure Cl where
  used : Bool
  key : List UInt8
  val : List UInt8
deriving DecidableEq

/-- A free slot. -/
def Cl.none : Cl := ⟨false, [], []⟩

/-- A slot's bytes. -/
def cellB (c : Cl) : List UInt8 := if c.used then UInt8.ofNat c.key.length :: (c.key ++ c.val) else []
def sizeC (c : Cl) : Nat := if c.used then 1 + c.key.length + c.val.length else 0
theorem cellB_length (c : Cl) : (cellB c).length = sizeC c := by
  unfold cellB sizeC
  split <;> simp <;> omega

/-- How many bytes slots have. -/
def sumC : List Cl → Nat
  | [] => 0
  | c :: r => sizeC c + sumC r
theorem sumC_append (l m : List Cl) : sumC (l ++ m) = sumC l + sumC m := by
  induction l with
  | nil => simp [sumC]
  | cons c r ih => simp [sumC, ih]; omega
theorem sumC_set (l : List Cl) (i : Nat) (c : Cl) (h : i < l.length) : sumC (l.set i c) + sizeC l[i] = sumC l + sizeC c := by
  induction l generalizing i with
  | nil => simp at h
  | cons d r ih =>
    cases i with
    | zero => simp [sumC]; omega
    | succ i =>
      have := ih i (by simpa using h)
      simp [sumC]
      omega

/-- Free bytes. -/
def freeL (l : List Cl) : Int := 496 - 4 * (l.length : Int) - (sumC l : Int)

def mayK (k v : List UInt8) : Bool := decide (1 ≤ k.length) && (decide (k.length ≤ 16) && decide (v.length ≤ 32))

def isKey (k : List UInt8) (c : Cl) : Bool := c.used && (c.key == k)
def isFree (c : Cl) : Bool := !c.used

/-- An index, or -1. -/
def ixI (o : Option Nat) : Int := match o with
  | some i => (i : Int)
  | none => -1

def cellOfKV (k v : List UInt8) : Cl := ⟨true, k, v⟩

/-- Slots without the free ones behind all others. -/
def trimR : List Cl → List Cl
  | [] => []
  | c :: r => if c.used then c :: r else trimR r
def trimL (l : List Cl) : List Cl := (trimR l.reverse).reverse

def fillL (l : List Cl) (i : Nat) (c : Cl) : List Cl × Int :=
  if (sizeC c : Int) - (sizeC (l[i]?.getD Cl.none) : Int) > freeL l then (l, 7) else (l.set i c, 0)
def addL (l : List Cl) (c : Cl) : List Cl × Int :=
  if l.length = 64 ∨ 4 + (sizeC c : Int) > freeL l then (l, 7) else (l ++ [c], 0)
def insL (l : List Cl) (k v : List UInt8) : List Cl × Int :=
  if mayK k v = true then
    match l.findIdx? (isKey k) with
    | some _ => (l, 9)
    | none => match l.findIdx? isFree with
      | some i => fillL l i (cellOfKV k v)
      | none => addL l (cellOfKV k v)
  else (l, 1)
def updL (l : List Cl) (k v : List UInt8) : List Cl × Int :=
  if mayK k v = true then
    match l.findIdx? (isKey k) with
    | some i => fillL l i (cellOfKV k v)
    | none => (l, 8)
  else (l, 1)
def delL (l : List Cl) (k : List UInt8) : List Cl × Int :=
  match l.findIdx? (isKey k) with
  | some i => (trimL (l.set i Cl.none), 0)
  | none => (l, 8)

/-- A slot that may be. -/
def goodC (c : Cl) : Prop := if c.used then 1 ≤ c.key.length ∧ c.key.length ≤ 16 ∧ c.val.length ≤ 32 else c.key = [] ∧ c.val = []

/-- Slots that a page may have. -/
structure GoodL (l : List Cl) : Prop where
  cells : ∀ c ∈ l, goodC c
  room : 0 ≤ freeL l
  few : l.length ≤ 64
  last : trimL l = l
  once : ∀ i j (hi : i < l.length) (hj : j < l.length), l[i].used = true → l[j].used = true → l[i].key = l[j].key → i = j

theorem goodL_nil : GoodL [] := ⟨by simp, by simp [freeL, sumC], by simp, by rfl, by simp⟩

theorem goodC_none : goodC Cl.none := by simp [goodC, Cl.none]
theorem sizeC_none : sizeC Cl.none = 0 := rfl
theorem goodC_kv (k v : List UInt8) (h : mayK k v = true) : goodC (cellOfKV k v) := by
  simp [mayK] at h
  simp [goodC, cellOfKV]
  omega

theorem trimR_used (l : List Cl) (c : Cl) (hc : c.used = true) : trimR (c :: l) = c :: l := by simp [trimR, hc]
theorem trimL_snoc_used (l : List Cl) (c : Cl) (hc : c.used = true) : trimL (l ++ [c]) = l ++ [c] := by simp [trimL, trimR, hc]
theorem trimL_snoc_free (l : List Cl) (c : Cl) (hc : c.used = false) : trimL (l ++ [c]) = trimL l := by simp [trimL, trimR, hc]

theorem trimR_suffix (l : List Cl) : ∃ p, l = p ++ trimR l ∧ ∀ c ∈ p, c.used = false := by
  induction l with
  | nil => exact ⟨[], rfl, by simp⟩
  | cons c r ih =>
    by_cases hc : c.used = true
    · exact ⟨[], by simp [trimR, hc], by simp⟩
    · obtain ⟨p, hp, hu⟩ := ih
      refine ⟨c :: p, ?_, ?_⟩
      · simp [trimR, hc]; exact hp
      · intro d hd
        simp at hd
        rcases hd with rfl | hd
        · simpa using hc
        · exact hu d hd
theorem trimL_prefix (l : List Cl) : ∃ p, l = trimL l ++ p ∧ ∀ c ∈ p, c.used = false := by
  obtain ⟨p, hp, hu⟩ := trimR_suffix l.reverse
  refine ⟨p.reverse, ?_, by simpa using hu⟩
  have := congrArg List.reverse hp
  simp at this
  simpa [trimL] using this

theorem trimR_trimR (l : List Cl) : trimR (trimR l) = trimR l := by
  induction l with
  | nil => rfl
  | cons c r ih =>
    by_cases hc : c.used = true
    · simp [trimR, hc]
    · simp [trimR, hc, ih]
theorem trimL_trimL (l : List Cl) : trimL (trimL l) = trimL l := by simp [trimL, trimR_trimR]

theorem sumC_free (p : List Cl) (h : ∀ c ∈ p, c.used = false) : sumC p = 0 := by
  induction p with
  | nil => rfl
  | cons c r ih =>
    simp at h
    simp [sumC, ih h.2, sizeC, h.1]

theorem trimL_free (l : List Cl) : freeL l ≤ freeL (trimL l) ∧ (trimL l).length ≤ l.length := by
  obtain ⟨p, hp, hu⟩ := trimL_prefix l
  have h1 : sumC l = sumC (trimL l) + sumC p := by rw [← sumC_append, ← hp]
  have h2 : l.length = (trimL l).length + p.length := by rw [← List.length_append, ← hp]
  have h3 := sumC_free p hu
  unfold freeL
  omega

theorem GoodL.trim {l : List Cl} (h1 : ∀ c ∈ l, goodC c) (h2 : 0 ≤ freeL l) (h3 : l.length ≤ 64)
    (h5 : ∀ i j (hi : i < l.length) (hj : j < l.length), l[i].used = true → l[j].used = true → l[i].key = l[j].key → i = j) : GoodL (trimL l) := by
  obtain ⟨p, hp, hu⟩ := trimL_prefix l
  have ht := trimL_free l
  refine ⟨fun c hc => h1 c ?_, by omega, by omega, trimL_trimL l, fun i j hi hj => ?_⟩
  · rw [hp]; exact List.mem_append_left _ hc
  · have hi' : i < l.length := by omega
    have hj' : j < l.length := by omega
    have ei : (trimL l)[i] = l[i] := by
      have : l[i] = (trimL l ++ p)[i]'(by rw [← hp]; exact hi') := by congr 1
      rw [this, List.getElem_append_left hi]
    have ej : (trimL l)[j] = l[j] := by
      have : l[j] = (trimL l ++ p)[j]'(by rw [← hp]; exact hj') := by congr 1
      rw [this, List.getElem_append_left hj]
    rw [ei, ej]
    exact h5 i j hi' hj'

theorem find_some {l : List Cl} {p : Cl → Bool} {i : Nat} (h : l.findIdx? p = some i) : ∃ hi : i < l.length, p l[i] = true := by
  rw [List.findIdx?_eq_some_iff_getElem] at h
  obtain ⟨hi, h1, _⟩ := h
  exact ⟨hi, h1⟩
theorem find_none {l : List Cl} {p : Cl → Bool} (h : l.findIdx? p = none) : ∀ i (hi : i < l.length), p l[i] = false := by
  intro i hi
  rw [List.findIdx?_eq_none_iff] at h
  exact h l[i] (List.getElem_mem hi)

theorem set_once {l : List Cl} {i : Nat} {c : Cl}
    (h : ∀ i j (hi : i < l.length) (hj : j < l.length), l[i].used = true → l[j].used = true → l[i].key = l[j].key → i = j)
    (hc : c.used = true → ∀ j (hj : j < l.length), j ≠ i → l[j].used = true → l[j].key ≠ c.key) :
    ∀ a b (ha : a < (l.set i c).length) (hb : b < (l.set i c).length), (l.set i c)[a].used = true → (l.set i c)[b].used = true → (l.set i c)[a].key = (l.set i c)[b].key → a = b := by
  intro a b ha hb ua ub hk
  simp only [List.length_set] at ha hb
  rw [List.getElem_set] at ua ub
  rw [List.getElem_set, List.getElem_set] at hk
  by_cases ea : i = a
  · by_cases eb : i = b
    · omega
    · rw [if_pos ea] at ua hk
      rw [if_neg eb] at ub hk
      exact absurd hk.symm (hc ua b hb (Ne.symm eb) ub)
  · by_cases eb : i = b
    · rw [if_pos eb] at ub hk
      rw [if_neg ea] at ua hk
      exact absurd hk (hc ub a ha (Ne.symm ea) ua)
    · rw [if_neg ea] at ua hk
      rw [if_neg eb] at ub hk
      exact h a b ha hb ua ub hk

theorem set_trim {l : List Cl} {i : Nat} {c : Cl} (hi : i < l.length) (hc : c.used = true) (h : trimL l = l) : trimL (l.set i c) = l.set i c := by
  rcases List.eq_nil_or_concat l with rfl | ⟨m, d, rfl⟩
  · simp at hi
  · simp only [List.concat_eq_append] at *
    by_cases e : i < m.length
    · rw [List.set_append_left _ _ e]
      refine trimL_snoc_used _ _ ?_
      cases hd : d.used
      · rw [trimL_snoc_free _ _ hd] at h
        have := (trimL_free m).2
        have := congrArg List.length h
        simp at this
        omega
      · rfl
    · have : i = m.length := by simp at hi; omega
      subst this
      simp
      exact trimL_snoc_used _ _ hc

theorem fill_good {l : List Cl} {i : Nat} {c : Cl} (h : GoodL l) (hi : i < l.length) (hc : c.used = true) (hg : goodC c)
    (ho : ∀ j (hj : j < l.length), j ≠ i → l[j].used = true → l[j].key ≠ c.key) : GoodL (fillL l i c).1 := by
  unfold fillL
  split
  · exact h
  · rename_i hf
    have hs := sumC_set l i c hi
    refine ⟨fun d hd => ?_, ?_, by simpa using h.few, set_trim hi hc h.last, set_once h.once fun _ => ho⟩
    · rcases List.mem_or_eq_of_mem_set hd with hd | rfl
      · exact h.cells d hd
      · exact hg
    · simp only [List.getElem?_eq_getElem hi, Option.getD_some] at hf
      unfold freeL at hf ⊢
      simp only [List.length_set]
      omega

theorem add_good {l : List Cl} {c : Cl} (h : GoodL l) (hc : c.used = true) (hg : goodC c)
    (ho : ∀ j (hj : j < l.length), l[j].used = true → l[j].key ≠ c.key) : GoodL (addL l c).1 := by
  unfold addL
  split
  · exact h
  · rename_i hf
    have h64 := h.few
    refine ⟨fun d hd => ?_, ?_, ?_, trimL_snoc_used _ _ hc, ?_⟩
    · simp at hd
      rcases hd with hd | rfl
      · exact h.cells d hd
      · exact hg
    · unfold freeL at hf ⊢
      simp [sumC_append, sumC]
      omega
    · simp
      omega
    · intro i j hi hj ui uj hk
      simp at hi hj
      rw [List.getElem_append] at ui uj
      rw [List.getElem_append, List.getElem_append] at hk
      by_cases ei : i < l.length
      · rw [dif_pos ei] at ui hk
        by_cases ej : j < l.length
        · rw [dif_pos ej] at uj hk
          exact h.once i j ei ej ui uj hk
        · rw [dif_neg ej] at hk
          simp at hk
          exact absurd hk (ho i ei ui)
      · rw [dif_neg ei] at hk
        by_cases ej : j < l.length
        · rw [dif_pos ej] at uj hk
          simp at hk
          exact absurd hk.symm (ho j ej uj)
        · omega

theorem ins_good {l : List Cl} (h : GoodL l) (k v : List UInt8) : GoodL (insL l k v).1 := by
  unfold insL
  split
  · rename_i hm
    split
    · exact h
    · rename_i hn
      have hno := find_none hn
      have ho : ∀ j (hj : j < l.length), l[j].used = true → l[j].key ≠ k := fun j hj hu hk => by
        have := hno j hj
        simp [isKey, hu, hk] at this
      split
      · rename_i i hi
        obtain ⟨hi, _⟩ := find_some hi
        exact fill_good h hi rfl (goodC_kv k v hm) fun j hj _ hu => ho j hj hu
      · exact add_good h rfl (goodC_kv k v hm) ho
  · exact h

theorem upd_good {l : List Cl} (h : GoodL l) (k v : List UInt8) : GoodL (updL l k v).1 := by
  unfold updL
  split
  · rename_i hm
    split
    · rename_i i hi
      obtain ⟨hi, hk⟩ := find_some hi
      simp [isKey] at hk
      refine fill_good h hi rfl (goodC_kv k v hm) fun j hj hne hu he => hne (h.once j i hj hi hu hk.1 ?_)
      rw [hk.2]
      exact he
    · exact h
  · exact h

theorem del_good {l : List Cl} (h : GoodL l) (k : List UInt8) : GoodL (delL l k).1 := by
  unfold delL
  split
  · rename_i i hi
    obtain ⟨hi, hk⟩ := find_some hi
    have hs := sumC_set l i Cl.none hi
    refine GoodL.trim (fun d hd => ?_) ?_ (by simpa using h.few) (set_once h.once fun hc => by simp [Cl.none] at hc)
    · rcases List.mem_or_eq_of_mem_set hd with hd | rfl
      · exact h.cells d hd
      · exact goodC_none
    · have := h.room
      unfold freeL at this ⊢
      simp only [List.length_set]
      rw [sizeC_none] at hs
      omega
  · exact h

/-- The slots' bytes. -/
def layS : Nat → List Cl → List UInt8
  | _, [] => []
  | e, c :: r => (if c.used then leB (e - sizeC c) 2 ++ leB (sizeC c) 2 else leB 0 4) ++ layS (e - sizeC c) r
/-- The cells' bytes. -/
def layC : List Cl → List UInt8
  | [] => []
  | c :: r => layC r ++ cellB c
theorem layS_length (e : Nat) (l : List Cl) : (layS e l).length = 4 * l.length := by
  induction l generalizing e with
  | nil => rfl
  | cons c r ih =>
    simp only [layS, List.length_append, ih, List.length_cons]
    split <;> simp [leB_length] <;> omega
theorem layC_length (l : List Cl) : (layC l).length = sumC l := by
  induction l with
  | nil => rfl
  | cons c r ih => simp [layC, sumC, ih, cellB_length]; omega
theorem layS_append (e : Nat) (l m : List Cl) : layS e (l ++ m) = layS e l ++ layS (e - sumC l) m := by
  induction l generalizing e with
  | nil => simp [layS, sumC]
  | cons c r ih => simp [layS, sumC, ih, Nat.sub_sub]
theorem layC_append (l m : List Cl) : layC (l ++ m) = layC m ++ layC l := by
  induction l with
  | nil => simp [layC]
  | cons c r ih => simp [layC, ih]

/-- What stands behind the sum. -/
def bodyP (id lsn : Nat) (l : List Cl) : List UInt8 :=
  leB lsn 8 ++ (leB id 2 ++ (leB l.length 2 ++ (layS 512 l ++ (List.replicate (496 - 4 * l.length - sumC l) 0 ++ layC l))))
/-- A page's bytes. -/
def pageB (id lsn : Nat) (l : List Cl) : List UInt8 := leB (more 0 (bodyP id lsn l)) 4 ++ bodyP id lsn l

theorem bodyP_length (id lsn : Nat) (l : List Cl) (h : 0 ≤ freeL l) : (bodyP id lsn l).length = 508 := by
  unfold freeL at h
  simp [bodyP, leB_length, layS_length, layC_length]
  omega
theorem pageB_length (id lsn : Nat) (l : List Cl) (h : 0 ≤ freeL l) : (pageB id lsn l).length = 512 := by
  simp [pageB, leB_length, bodyP_length id lsn l h]

/-- Laid and taken away again. -/
theorem ins_del {l : List Cl} (h : GoodL l) (k v : List UInt8) (ho : (insL l k v).2 = 0) : (delL (insL l k v).1 k) = (l, 0) := by
  unfold insL at ho ⊢
  split at ho
  · rename_i hm
    rw [if_pos hm]
    split at ho
    · simp at ho
    · rename_i hn
      have hno := find_none hn
      split at ho
      · rename_i i hi
        obtain ⟨hl, hu⟩ := find_some hi
        unfold fillL at ho ⊢
        split at ho
        · simp at ho
        · rename_i hf
          rw [if_neg hf]
          have hfd : (l.set i (cellOfKV k v)).findIdx? (isKey k) = some i := by
            rw [List.findIdx?_eq_some_iff_getElem]
            refine ⟨by simpa using hl, by simp [isKey, cellOfKV], fun j hj => ?_⟩
            have := hno j (by omega)
            rw [List.getElem_set, if_neg (by omega)]
            simp [this]
          unfold delL
          simp only [hfd, List.set_set]
          have hg := h.cells _ (List.getElem_mem hl)
          have hz : l[i] = Cl.none := by
            simp [isFree] at hu
            simp [goodC, hu] at hg
            rcases he : l[i] with ⟨u, a, b⟩
            rw [he] at hu hg
            simp at hu hg
            simp [Cl.none, hu, hg]
          rw [← hz, List.set_getElem_self, h.last]
      · rename_i hi
        unfold addL at ho ⊢
        split at ho
        · simp at ho
        · rename_i hf
          rw [if_neg hf]
          have hfd : (l ++ [cellOfKV k v]).findIdx? (isKey k) = some l.length := by
            rw [List.findIdx?_eq_some_iff_getElem]
            refine ⟨by simp, by simp [isKey, cellOfKV], fun j hj => ?_⟩
            have := hno j (by omega)
            rw [List.getElem_append_left (by omega)]
            simp [this]
          unfold delL
          simp only [hfd]
          rw [List.set_append_right _ _ (by omega)]
          simp [trimL_snoc_free _ _ (show Cl.none.used = false from rfl), h.last]
  · simp at ho

end Go.Proofs.YtebchgoaelamcaaDoor
