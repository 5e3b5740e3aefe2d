/-
  The keys of a map of numbers, sorted.
-/
import Derived.Test.YticnkppnpfgceaaFTa
import Derived.Shelf.SlIterI.Nil
import Derived.Ground.GgzProg
import Derived.Shelf.SortM.Plain
import Derived.Shelf.SortM.SortNone
import Derived.Shelf.Lay
import Derived.Ground.SlgmProg
namespace Go.Proofs.Yticnkppnpfgceaa.Mg
open Go.RowKit Go.Maps Go.Shelf Go.Sort

shelf_lay_g SlLaysM.n5 Slgm 5 at Try 57 as laySI
shelf_lay_g SlLaysZI.n7 Ggz 7 at Try 47 as layKI
shelf_lay_g SlLaysZI.n6 Ggz 6 at Try 46 as laySoI

section
variable {α : Type} [Inhabited α] (enc : α → Value)
theorem holds_blk {w : World} {g : Nat} {cur : Array Value} {e : TypeId} {ss : List α} (hb : w.heap[g]? = some (.cells cur e (0, 0))) (ht : cur.toList.take ss.length = ss.map enc) : Holds enc w g 0 ss.toArray := by
  intro j hj
  have hj' : j < ss.length := by simpa using hj
  refine ⟨?_, by simp [World.frozen?, hb]⟩
  have h1 : (cur.toList.take ss.length)[j]? = (ss.map enc)[j]? := by rw [ht]
  rw [List.getElem?_take_of_lt hj'] at h1
  simp only [World.cell?, hb, Nat.zero_add]
  simp only [Option.isSome_none, Bool.false_eq_true, if_false]
  rw [← Array.getElem?_toList, h1]
  simp [hj']
theorem heap_srt {w : World} {g n : Nat} {os : Array Obj} {cur : Array Value} {e : TypeId} {fr : Nat × Nat} (d : Array α) (hb : w.heap[g]? = some (.cells cur e fr)) :
    (grow (putRow enc (Sort.ahead w n) g 0 d) os).heap[g]? = some (.cells (putCells enc 0 d cur) e fr) := by
  have hg : g < w.heap.size := (Array.getElem?_eq_some_iff.1 hb).1
  rw [heap_grow_old _ _ (by simpa using hg)]
  simp [putRow, mapBlock, Sort.ahead, Array.getElem?_modify, hb, onCells]
theorem grown_srt {w : World} {g n : Nat} {os : Array Obj} (d : Array α) : w.grownBy (grow (putRow enc (Sort.ahead w n) g 0 d) os) (some g) := by
  refine ⟨rfl, rfl, rfl, by simp, fun k hk hne => ?_⟩
  rw [heap_grow_old _ _ (by simpa using hk)]
  have : g ≠ k := fun e => hne (by rw [e])
  simp [putRow, mapBlock, Sort.ahead, Array.getElem?_modify, this]
theorem take_put (cur : Array Value) (ts : List α) (h : ts.length ≤ cur.size) : (putCells enc 0 ts.toArray cur).toList.take ts.length = ts.map enc := by
  apply List.ext_getElem?
  intro j
  by_cases hj : j < ts.length
  · rw [List.getElem?_take_of_lt hj, Array.getElem?_toList]
    simp [putCells, hj, show j < cur.size by omega]
  · rw [List.getElem?_take_eq_none (by omega), List.getElem?_eq_none (by simp; omega)]
end

theorem sort_go {α : Type} [Inhabited α] {enc : α → Value} {F : Nat} {w : World} {B e c : Nat} {va : Option Addr} {zs ts : List α} (hl : ts.length = zs.length) (h : w.ownsRow B e 1 (.slice va zs.length c) zs.length (zs.map enc))
    (h0 : zs = [] → ts = [] ∧ Calls Try.prog F #[.slice va 0 c] w fun e w' => e = .returned (.tuple #[]) ∧ w' = w)
    (h1 : ∀ blk, Holds enc w blk 0 zs.toArray → blk < w.heap.size → Calls Try.prog F #[.slice (some ⟨blk, 0, none⟩) zs.length c] w fun e w' => e = .returned (.tuple #[]) ∧ ∃ n os, w' = grow (putRow enc (Sort.ahead w n) blk 0 ts.toArray) os) :
    Calls Try.prog F #[.slice va zs.length c] w fun e' w' => e' = .returned (.tuple #[]) ∧ w'.ownsRow B e 1 (.slice va zs.length c) zs.length (ts.map enc) ∧ w.grownBy w' (Value.slice va zs.length c).ownBlock := by
  rcases h.2 with ⟨h2, h3⟩ | ⟨g, cap, cur, hv, h2, h3, h4, h5, h6, h7⟩
  · have hz : zs = [] := List.eq_nil_of_length_eq_zero h3
    obtain ⟨ht, hc⟩ := h0 hz
    subst hz
    refine hc.mono ?_
    rintro e' w' ⟨rfl, rfl⟩
    exact ⟨rfl, by rw [ht]; exact h, ⟨rfl, rfl, rfl, Nat.le_refl _, fun _ _ _ => rfl⟩⟩
  · cases hv
    have hg : g < w.heap.size := (Array.getElem?_eq_some_iff.1 h3).1
    refine (h1 g (holds_blk enc h3 (by simpa using h7)) hg).mono ?_
    rintro e' w' ⟨rfl, n, os, rfl⟩
    refine ⟨rfl, ⟨by simp [hl], .inr ⟨g, c, _, rfl, h2, heap_srt enc _ h3, h4, h5, by simp [putCells, h6], ?_⟩⟩, grown_srt enc _⟩
    rw [Nat.mul_one, ← hl]
    exact take_put enc cur ts (by omega)

def srtI (l : List Int) : List Int := l.mergeSort fun x y => decide (x ≤ y)

theorem sortI {w : World} {B c : Nat} {va : Option Addr} {zs : List Int} (h : w.ownsRow B 3 1 (.slice va zs.length c) zs.length (zs.map (Value.int .i64))) (hl : zs.length ≤ 1000000) :
    Calls Try.prog 57 #[.slice va zs.length c] w fun e' w' => e' = .returned (.tuple #[]) ∧ w'.ownsRow B 3 1 (.slice va zs.length c) zs.length ((srtI zs).map (Value.int .i64)) ∧ w.grownBy w' (Value.slice va zs.length c).ownBlock :=
  sort_go (by simp [srtI]) h (fun e => ⟨by rw [e]; simp [srtI], AnyM.slices_Sort_int_none laySI va c w⟩) (fun blk hh hb => AnyM.slices_Sort_int laySI blk 0 c zs w hh hb (by omega))
theorem srtI_perm (l : List Int) : (srtI l).Perm l := List.mergeSort_perm _ _
theorem srtI_le (l : List Int) : (srtI l).Pairwise (· ≤ ·) := by
  have := List.pairwise_mergeSort (le := fun x y : Int => decide (x ≤ y)) (fun a b c h1 h2 => by simp at *; exact Int.le_trans h1 h2) (fun a b => by simp; exact Int.le_total a b) l
  exact this.imp fun h => by simpa using h
theorem ownsRow_base {w : World} {B B' : Nat} {e : TypeId} {size : Nat} {v : Value} {n : Nat} {xs : List Value} (h : w.ownsRow B e size v n xs) (hb : B' ≤ B) : w.ownsRow B' e size v n xs := by
  refine ⟨h.1, ?_⟩
  rcases h.2 with h2 | ⟨g, cap, cur, hv, hg, r⟩
  · exact .inl h2
  · exact .inr ⟨g, cap, cur, hv, by omega, r⟩
theorem bnext {a b c : World} (h : Below a.heap.size a b) (k : Below b.heap.size b c) : Below a.heap.size a c := h.trans (k.mono h.size)
theorem intKeys_spec {w : World} {A : Nat} {K : List Lit} {f : Lit → Option Value} (h : MapV Try.prog 3 w A K f) : ∃ D, w.ownsMap Try.prog 3 vEl A K.length D ∧ (intKeys D).Nodup ∧ (∀ x, x ∈ intKeys D ↔ f (.int .i64 x) ≠ none) ∧ Maps.size D ≤ K.length := by
  obtain ⟨D, ho, hD⟩ := h
  refine ⟨D, ho, ?_, fun x => ?_, ho.size_le⟩
  all_goals
    obtain ⟨es, hE, hpw, _⟩ := ho.entries lawI
    obtain ⟨es', hE', hko⟩ := ho.keysOf
    obtain rfl : es = es' := by rw [hE] at hE'; simpa using hE'
    have hk : ∀ p ∈ es, ∃ x, p.1 = .int .i64 x := fun p hp => by obtain ⟨v, hv⟩ := hko p hp; obtain ⟨x, _, hx, _⟩ := Maps.keyOf_int_inv Try.underlying3 hv; exact ⟨x, hx⟩
  · rw [hE]
    show (es.map fun p => _).Nodup
    refine List.pairwise_map.2 (hpw.imp_of_mem fun {p q} hp' hq' hne e => hne ?_)
    obtain ⟨a, ha⟩ := hk p hp'
    obtain ⟨b, hb⟩ := hk q hq'
    rw [ha, hb] at e ⊢
    exact congrArg _ e
  · have h1 := hD.has (.int .i64 x)
    rw [hE, has_eq] at h1
    have h2 : (es.any fun p => p.1.sameKey (.int .i64 x)) = true ↔ x ∈ intKeys D := by
      rw [hE, List.any_eq_true]
      show _ ↔ x ∈ es.map fun p => _
      rw [List.mem_map]
      constructor
      · rintro ⟨p, hp', hs⟩
        obtain ⟨a, ha⟩ := hk p hp'
        have hs := WideAt.sameKey_eq hs
        exact ⟨p, hp', by rw [hs]; rfl⟩
      · rintro ⟨p, hp', he⟩
        obtain ⟨a, ha⟩ := hk p hp'
        refine ⟨p, hp', ?_⟩
        rw [ha] at he ⊢
        have he : a = x := he
        rw [he]
        simp [Lit.sameKey]
    rw [← h2, h1]
    cases f (.int .i64 x) <;> simp

theorem sortsI (m : Nat) : AnyZI.SortsIn Try.prog laySoI_ren Fence.wide m :=
  ⟨fun blk off cap ss W hH hblk hsz => callsIn_wide.2 (AnyM.slices_Sort_int laySI blk off cap ss W hH hblk hsz),
   fun p cap W => callsIn_wide.2 (AnyM.slices_Sort_int_none laySI p cap W)⟩
theorem keys47 (mb : Option Nat) (W : World) : Calls Try.prog 47 #[.map mb] W fun e w' => e = .returned (.func (.func 58) #[] #[.pointer (some ⟨W.heap.size, 0, none⟩)]) ∧ w' = W.alloc (.cells #[.map mb] 62) :=
  (callsIn_wide (n := 5)).1 (AnyZI.keys_in layKI Fence.wide 5 trivial rfl mb W)
set_option maxHeartbeats 1000000 in
theorem sorted46 {H : Type} (b nn : Nat) (D0 : DataW H) (R : Value → Option (DataW H × List MemPlace)) (w : World) (hown : w.ownsMap Try.prog 3 R b nn D0) (hmax : Maps.size D0 ≤ maxLen) (hbytes : Maps.size D0 * 8 ≤ 140737488355328) :
    Calls Try.prog 46 #[.func (.func 58) #[] #[.pointer (some ⟨w.heap.size, 0, none⟩)]] (w.alloc (.cells #[.map (some b)] 62)) fun e w' => ∃ (v : Value) (ss : List Int), e = .returned v ∧ ss.Perm (intKeys D0) ∧
      w'.ownsRow (w.alloc (.cells #[.map (some b)] 62)).heap.size 3 1 v ss.length ((srtI ss).map (Value.int .i64)) ∧ (v = .slice none 0 0 ↔ ss = []) ∧ Below (w.alloc (.cells #[.map (some b)] 62)).heap.size (w.alloc (.cells #[.map (some b)] 62)) w' := by
  have hbl := hown.lt
  have hseq : SeqGives Fence.wide 2 Try.prog 58 #[.pointer (some ⟨w.heap.size, 0, none⟩)] encZ (fun ss => ss.Perm (intKeys D0)) (Maps.size D0) (w.alloc (.cells #[.map (some b)] 62)) :=
    AnyZI.keys_gives (ρ := layKI_ren) { layKI with } Fence.wide _ trivial rfl (by omega) w.heap.size b nn D0 _ (by simp) (by simp) (by
      obtain ⟨es, clock, hb, Ft, hs, hD⟩ := hown
      exact ⟨es, clock, (Below.heap_alloc _ _ b hbl).trans hb, Ft, hs, hD⟩)
  exact (callsIn_wide (n := 5)).1 (AnyZI.sorted_in laySoI Fence.wide 5 trivial trivial trivial trivial rfl (by omega) (sortsI _) (enters_of Try.func57 (by kernel_rfl) rfl) 58 #[.pointer (some ⟨w.heap.size, 0, none⟩)] trivial (enters_of Try.func58 (by kernel_rfl) rfl) _ _ hmax hbytes _ hseq)
shelf_lay_g SlLaysZI.n7 Ggz 7 at Try 48 as layKD
theorem keys48 (mb : Option Nat) (W : World) : Calls Try.prog 48 #[.map mb] W fun e w' => e = .returned (.func (.func 59) #[] #[.pointer (some ⟨W.heap.size, 0, none⟩)]) ∧ w' = W.alloc (.cells #[.map mb] 63) :=
  (callsIn_wide (n := 5)).1 (AnyZI.keys_in layKD Fence.wide 5 trivial rfl mb W)
set_option maxHeartbeats 1000000 in
theorem sortedD46 {H : Type} (b nn : Nat) (D0 : DataW H) (R : Value → Option (DataW H × List MemPlace)) (w : World) (hown : w.ownsMap Try.prog 3 R b nn D0) (hmax : Maps.size D0 ≤ maxLen) (hbytes : Maps.size D0 * 8 ≤ 140737488355328) :
    Calls Try.prog 46 #[.func (.func 59) #[] #[.pointer (some ⟨w.heap.size, 0, none⟩)]] (w.alloc (.cells #[.map (some b)] 63)) fun e w' => ∃ (v : Value) (ss : List Int), e = .returned v ∧ ss.Perm (intKeys D0) ∧
      w'.ownsRow (w.alloc (.cells #[.map (some b)] 63)).heap.size 3 1 v ss.length ((srtI ss).map (Value.int .i64)) ∧ (v = .slice none 0 0 ↔ ss = []) ∧ Below (w.alloc (.cells #[.map (some b)] 63)).heap.size (w.alloc (.cells #[.map (some b)] 63)) w' := by
  have hbl := hown.lt
  have hseq : SeqGives Fence.wide 2 Try.prog 59 #[.pointer (some ⟨w.heap.size, 0, none⟩)] encZ (fun ss => ss.Perm (intKeys D0)) (Maps.size D0) (w.alloc (.cells #[.map (some b)] 63)) :=
    AnyZI.keys_gives (ρ := layKD_ren) { layKD with } Fence.wide _ trivial rfl (by omega) w.heap.size b nn D0 _ (by simp) (by simp) (by
      obtain ⟨es, clock, hb, Ft, hs, hD⟩ := hown
      exact ⟨es, clock, (Below.heap_alloc _ _ b hbl).trans hb, Ft, hs, hD⟩)
  exact (callsIn_wide (n := 5)).1 (AnyZI.sorted_in laySoI Fence.wide 5 trivial trivial trivial trivial rfl (by omega) (sortsI _) (enters_of Try.func57 (by kernel_rfl) rfl) 59 #[.pointer (some ⟨w.heap.size, 0, none⟩)] trivial (enters_of Try.func59 (by kernel_rfl) rfl) _ _ hmax hbytes _ hseq)
theorem riseI_of {l : List Int} (h : l.Pairwise (· ≤ ·)) (hn : l.Nodup) : l.Pairwise (· < ·) := (List.pairwise_and_iff.2 ⟨h, hn⟩).imp fun ⟨h1, h2⟩ => by omega

end Go.Proofs.Yticnkppnpfgceaa.Mg
