/-
  The document's May, Find, and slots with one of them put.
-/
import Derived.Test.YtebchgoaelamcaaDoorRw
import Derived.Test.YtebchgoaelamcaaDoorX7
namespace Go.Proofs.YtebchgoaelamcaaDoor
open Go.RowKit
set_option maxRecDepth 100000

theorem refmay_any (k v : List UInt8) (w : World) : Calls Tryd.prog 47 #[.string (txt k), .string (txt v)] w fun e w' => e = .returned (.bool (mayK k v)) ∧ w' = w := by
  have e1 := txt_size k
  have e2 := txt_size v
  unfold mayK
  by_cases h1 : 1 ≤ k.length
  · by_cases h2 : k.length ≤ 16
    · go_enter Tryd.func47, Tryd.ntmps47
      go_wp2
      go_ret
      simp [h1, h2]
      omega
    · go_enter Tryd.func47, Tryd.ntmps47
      go_wp2
      go_ret
      simp
  · go_enter Tryd.func47, Tryd.ntmps47
    go_wp2
    go_ret
    simp

theorem ixI_take_none {l : List Cl} {p : Cl → Bool} (k : Nat) (hk : k < l.length) (h : ∀ j (hj : j < l.length), j < k → p l[j] = false) (hp : p l[k] = true) : l.findIdx? p = some k := by
  rw [List.findIdx?_eq_some_iff_getElem]
  exact ⟨hk, hp, fun j hj => by simp [h j (by omega) hj]⟩
theorem ixI_all_none {l : List Cl} {p : Cl → Bool} (h : ∀ j (hj : j < l.length), p l[j] = false) : l.findIdx? p = none := by
  rw [List.findIdx?_eq_none_iff]
  intro x hx
  obtain ⟨j, hj, rfl⟩ := List.getElem_of_mem hx
  exact h j hj

set_option maxHeartbeats 1000000 in
theorem reffind_any (id : Int) (lsn : Nat) (a : Option Addr) (c : Nat) (l : List Cl) (q : List UInt8) (w : World) (h : SlC w a l) (hl : l.length ≤ 1000) :
    Calls Tryd.prog 23 #[.agg (refP id lsn a l.length c), .string (txt q)] w fun e w' => e = .returned (.int .i64 (ixI (l.findIdx? (isKey q)))) ∧ Below w.heap.size w w' := by
  have hB0 : Below w.heap.size w (w.alloc (.cells (refP id lsn a l.length c) 39)) := (Below.refl _ _).alloc (Nat.le_refl _) _
  have HB0 := (show Hid _ from hB0)
  obtain ⟨q0, q1, q2, g0, g1, g2, hz⟩ := cell3 (heap_alloc_new w (.cells (refP id lsn a l.length c) 39))
  have HS := (show Hid _ from h.below hB0)
  clear hB0 h
  simp only [refP] at *
  go_enter Tryd.func23, Tryd.ntmps23
  go_wp2_with fail
  go_loop [5] (fun i => ∃ k : Nat, k ≤ l.length ∧ i = .int .i64 k ∧ ∀ j (hj : j < l.length), j < k → isKey q l[j] = false) (fun i => l.length - (intOf i).toNat)
  case atStart => exact ⟨0, Nat.zero_le _, rfl, fun j hj h0 => by omega⟩
  case round =>
    obtain ⟨k, hk, rfl, hn⟩ := hrel
    have HN := (show Hid _ from hn)
    clear hn
    by_cases hlt : k < l.length
    · obtain ⟨b, o, rfl, hbl, c0, c1, c2⟩ := HS.out.at k hlt
      cases hu : l[k].used
      · have hik : isKey q l[k] = false := by simp [isKey, hu]
        rw [hu] at c0
        go_wp2_with fail
        go_round
        case rel => exact ⟨k + 1, by omega, by simp, fun j hj h1 => by
          by_cases e : j = k
          · subst e; exact hik
          · exact HN.out j hj (by omega)⟩
        case measure => first | omega | (simp only [intOf]; omega)
      · rw [hu] at c0
        by_cases hq : l[k].key = q
        · have HF : Hid (l.findIdx? (isKey q) = some k) := ixI_take_none k hlt (fun j hj h1 => HN.out j hj h1) (by simp [isKey, hu, hq])
          have hq' : ((txt l[k].key).toList == (txt q).toList) = true := by simp [txt_toList, hq]
          go_wp2
          go_ret
          rw [HF.out]
          exact ⟨rfl, HB0.out⟩
        · have hik : isKey q l[k] = false := by simp [isKey, hu, hq]
          have hq' : ((txt l[k].key).toList == (txt q).toList) = false := by simp [txt_toList, hq]
          go_wp2_with fail
          go_round
          case rel => exact ⟨k + 1, by omega, by simp, fun j hj h1 => by
            by_cases e : j = k
            · subst e; exact hik
            · exact HN.out j hj (by omega)⟩
          case measure => first | omega | (simp only [intOf]; omega)
    · have HF : Hid (l.findIdx? (isKey q) = none) := ixI_all_none fun j hj => HN.out j hj (by omega)
      have hk' : k = l.length := by omega
      subst hk'
      go_wp2
      go_ret
      rw [HF.out]
      exact ⟨rfl, HB0.out⟩

/-- What stands in the three blocks. -/
theorem three_kept {w w' : World} {A B C : Obj} (hb : Below (w.heap.size + 3) (((w.alloc A).alloc B).alloc C) w') : w'.heap[w.heap.size]? = some A ∧ w'.heap[w.heap.size + 1]? = some B ∧ w'.heap[w.heap.size + 2]? = some C := by
  refine ⟨?_, ?_, ?_⟩
  · rw [hb.block _ (by omega), Below.heap_alloc _ _ _ (by simp; omega), Below.heap_alloc _ _ _ (by simp)]
    exact heap_alloc_new w A
  · rw [hb.block _ (by omega), Below.heap_alloc _ _ _ (by simp)]
    have := heap_alloc_new (w.alloc A) B
    simpa using this
  · rw [hb.block _ (by omega)]
    have := heap_alloc_new ((w.alloc A).alloc B) C
    simpa using this

theorem three_cells (w : World) (a b c : Value) (t : TypeId) : ∀ j u, [a, b, c][j]? = some u → (w.alloc (.cells #[a, b, c] t)).cell? ((⟨w.heap.size, 0, none⟩ : Addr).add j) = some u := by
  intro j u hu
  rw [addr_add]
  obtain ⟨q0, q1, q2, _⟩ := cell3 (heap_alloc_new w (.cells #[a, b, c] t))
  match j, hu with
  | 0, hu => simp at hu; rw [← hu]; exact q0
  | 1, hu => simp at hu; rw [← hu]; exact q1
  | 2, hu => simp at hu; rw [← hu]; exact q2
  | j + 3, hu => simp at hu

theorem take_put (l : List Cl) (i : Nat) (c : Cl) (k : Nat) (hk : k < l.length) : (l.set i c).take (k + 1) = (l.set i c).take k ++ [if k = i then c else l[k]] := by
  rw [List.take_add_one, List.getElem?_eq_getElem (by simpa using hk), List.getElem_set]
  by_cases e : i = k
  · simp [e]
  · simp [e, Ne.symm e]

end Go.Proofs.YtebchgoaelamcaaDoor
