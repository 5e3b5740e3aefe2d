/-
  The stable sort: insertion.
-/
import Derived.Test.YtebchgoaelamcaaDoorTc
import Derived.Shelf.SlSortCmp.PdqK
namespace Go.Proofs.YtebchgoaelamcaaDoor
open Go.Shelf Go.RowKit Go.Lib Go.Sort
set_option maxRecDepth 1000000

shelf_lay_g SlLaysF0.n20 Slsf 20 at Tryd 85 as insPr

theorem list_at2 (L : List Pq) (j : Nat) (h : j + 1 < L.length) : L = L.take j ++ L[j] :: L[j + 1] :: L.drop (j + 2) := by
  have h1 : L.drop j = L[j] :: L.drop (j + 1) := List.drop_eq_getElem_cons (by omega)
  have h2 : L.drop (j + 1) = L[j + 1] :: L.drop (j + 2) := List.drop_eq_getElem_cons h
  rw [← h2, ← h1, List.take_append_drop]
theorem stb_swp (d : Array Pq) (j : Nat) (h : j + 1 < d.size) (hl : ltOf cfP d[j + 1]! d[j]! = true) : Stb d.toList (swp d (j + 1) j).toList := by
  have hlen : j + 1 < d.toList.length := by simpa using h
  rw [ltP] at hl
  have hl' := of_decide_eq_true hl
  have e1 : d[j + 1]! = d.toList[j + 1] := by rw [getElem!_pos d (j + 1) h]; simp
  have e2 : d[j]! = d.toList[j] := by rw [getElem!_pos d j (by omega)]; simp
  rw [e1, e2] at hl'
  have hL := list_at2 d.toList j hlen
  generalize hx : d.toList[j] = x at *
  generalize hy : d.toList[j + 1] = y at *
  have hlen2 : (d.toList.take j).length = j := by rw [List.length_take]; omega
  generalize d.toList.take j = Q at *
  generalize d.toList.drop (j + 2) = T at *
  have hd : d = (Q ++ x :: y :: T).toArray := by rw [← hL]
  have hsw : swp d (j + 1) j = (Q ++ y :: x :: T).toArray := by
    have := swp_list Q [] T x y
    rw [hd, ← hlen2]
    have e : swp (Q ++ x :: y :: T).toArray (Q.length + 1) Q.length = swp (Q ++ x :: y :: T).toArray Q.length (Q.length + 1) := by
      unfold swp
      exact Array.setIfInBounds_comm _ _ (by omega)
    rw [e]
    simpa using this
  rw [hsw, hL]
  have s := stb_swap (X := [x]) (Y := [y]) (fun a ha b hb => by
    obtain rfl : a = x := by simpa using ha
    obtain rfl : b = y := by simpa using hb
    exact hl')
  have := ((Stb.refl Q).append s).append (Stb.refl T)
  simpa using this
theorem stb_inner (a : Nat) : ∀ (j : Nat) (d : Array Pq), j < d.size → Stb d.toList (insInner (ltOf cfP) a j d).toList ∧ (insInner (ltOf cfP) a j d).size = d.size
  | 0, d, _ => by rw [insInner]; exact ⟨Stb.refl _, rfl⟩
  | j + 1, d, h => by
    rw [insInner]
    split
    · rename_i hc
      rw [Bool.and_eq_true] at hc
      have hs := size_swp d (j + 1) j
      obtain ⟨h1, h2⟩ := stb_inner a j (swp d (j + 1) j) (by omega)
      exact ⟨(stb_swp d j h hc.2).trans h1, by omega⟩
    · exact ⟨Stb.refl _, rfl⟩
theorem stb_outer (a b : Nat) : ∀ (n i : Nat) (d : Array Pq), b - i ≤ n → b ≤ d.size → Stb d.toList (insOuter (ltOf cfP) a b i d).toList := by
  intro n
  induction n with
  | zero => intro i d h _; rw [insOuter, if_neg (by omega)]; exact Stb.refl _
  | succ n ih =>
    intro i d h hb
    rw [insOuter]
    split
    · rename_i hi
      obtain ⟨h1, h2⟩ := stb_inner a i d (by omega)
      exact h1.trans (ih (i + 1) _ (by omega) (by omega))
    · exact Stb.refl _
theorem fk_cancel {P A R S : List Pq} (h : Stb (P ++ A ++ S) (P ++ R ++ S)) : Stb A R := fun k => by
  have := h k
  simp only [fk_append] at this
  exact List.append_cancel_left (List.append_cancel_right this)

/-- Insertion sorts a part of the row, and keeps the order of one key's pairs. -/
theorem ins_list (P A S : List Pq) (a b : Nat) (ha : P.length = a) (hb : a + A.length = b) : ∃ R, insertionSort (ltOf cfP) (P ++ A ++ S).toArray a b = (P ++ R ++ S).toArray ∧ Rise R ∧ Stb A R := by
  have hsz : b ≤ (P ++ A ++ S).toArray.size := by simp; omega
  obtain ⟨⟨p1, p2, p3⟩, hs⟩ := insertionSort_holds (lt := ltOf cfP) swoP (P ++ A ++ S).toArray a b (by omega) hsz
  have hst := stb_outer a b (b - (a + 1)) (a + 1) (P ++ A ++ S).toArray (Nat.le_refl _) hsz
  change Stb _ (insertionSort (ltOf cfP) (P ++ A ++ S).toArray a b).toList at hst
  generalize insertionSort (ltOf cfP) (P ++ A ++ S).toArray a b = d at *
  have hdl : d.toList.length = (P ++ A ++ S).length := by simpa using p1
  have hat : ∀ i (h : i < d.toList.length), d[i]! = d.toList[i] := fun i h => by rw [getElem!_pos d i (by simpa using h)]; simp
  have hat0 : ∀ i (h : i < (P ++ A ++ S).length), (P ++ A ++ S).toArray[i]! = (P ++ A ++ S)[i] := fun i h => by rw [getElem!_pos _ i (by simpa using h)]; simp
  have hl3 : (P ++ A ++ S).length = b + S.length := by simp; omega
  have e1 : d.toList.take a = P := by
    apply List.ext_getElem
    · rw [List.length_take]; omega
    · intro i h1 h2
      rw [List.getElem_take]
      have := p2 i (.inl (by omega))
      rw [hat i (by omega), hat0 i (by omega)] at this
      rw [this, List.getElem_append_left (by simp; omega), List.getElem_append_left h2]
  have e2 : d.toList.drop b = S := by
    apply List.ext_getElem
    · rw [List.length_drop]; omega
    · intro i h1 h2
      rw [List.getElem_drop]
      have := p2 (b + i) (.inr (by omega))
      rw [hat (b + i) (by omega), hat0 (b + i) (by omega)] at this
      rw [this, List.getElem_append_right (by simp; omega)]
      congr 1
      simp
      omega
  have hd : d.toList = P ++ (d.toList.drop a).take (b - a) ++ S := by
    have h1 : P ++ d.toList.drop a = d.toList := by
      have := List.take_append_drop a d.toList
      rw [e1] at this
      exact this
    have h2 : (d.toList.drop a).take (b - a) ++ S = d.toList.drop a := by
      have := List.take_append_drop (b - a) (d.toList.drop a)
      rw [List.drop_drop, show a + (b - a) = b by omega, e2] at this
      exact this
    rw [List.append_assoc, h2, h1]
  refine ⟨(d.toList.drop a).take (b - a), ?_, ?_, ?_⟩
  · apply Array.ext'
    rw [← hd]
  · rw [Rise, List.pairwise_iff_getElem]
    intro i j hi hj hij
    rw [List.length_take, List.length_drop] at hi hj
    rw [List.getElem_take, List.getElem_take, List.getElem_drop, List.getElem_drop]
    have := hs (a + i) (a + j) (by omega) (by omega) (by omega)
    rw [ltP, hat (a + j) (by omega), hat (a + i) (by omega)] at this
    exact of_decide_eq_false this
  · have h := hst
    rw [hd] at h
    exact fk_cancel h

theorem eg54 : ∀ args w, (callFunc 54 args).run Tryd.prog w = .ok (.enter 54 args) w := enters_of Tryd.func54 (by kernel_rfl) rfl
theorem insert_part {blk N cap : Nat} {w0 w : World} (hC : ∀ size, CmpLays Tryd.prog 54 #[] encP 2 cfP blk 0 size w0) (F : Fam blk N w0) (P A S : List Pq) (a b : Nat) (ha : P.length = a) (hb : a + A.length = b) (za zb : Int) (ea : za = a) (eb : zb = b) (h : Rw blk N w0 (P ++ A ++ S) w) :
    Calls Tryd.prog 85 #[.slice (some ⟨blk, 0, none⟩) N cap, .int .i64 za, .int .i64 zb, .func (.func 54) #[] #[]] w fun e w' => e = .returned (.tuple #[]) ∧ ∃ R, Rise R ∧ Stb A R ∧ Rw blk N w0 (P ++ R ++ S) w' := by
  subst ea eb
  have hfew := F.few
  obtain ⟨d0, rfl, R⟩ := F.row
  have hl : (P ++ A ++ S).toArray.size = d0.size := by have := h.1; simpa using this
  have hc := AnyQ.insertionSortCmpFunc_w insPr 2 Tryd.isAgg74 Tryd.sizeOf74 encP cfP 54 #[] blk 0 cap a b d0 (P ++ A ++ S).toArray w0 w eg54 (hC _) R hl.symm h.2 swoP (by omega) (by simp; omega) (by omega)
  rw [hl] at hc
  change Calls Tryd.prog 85 _ _ _ at hc
  refine Calls.mono hc ?_
  rintro e w' ⟨rfl, hs⟩
  obtain ⟨R', e', hr, hst⟩ := ins_list P A S a b ha hb
  rw [e'] at hs
  refine ⟨rfl, R', hr, hst, ?_, hs⟩
  have h1 := congrArg Array.size e'
  have h2 := (insertionSort_holds (lt := ltOf cfP) swoP (P ++ A ++ S).toArray a b (by omega) (by simp; omega)).1.1
  rw [h2] at h1
  have := h.1
  simp at h1 this ⊢
  omega
end Go.Proofs.YtebchgoaelamcaaDoor
