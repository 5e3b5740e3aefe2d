/-
  The first slot of which something holds; a text copied.
-/
import Derived.Test.YtebchgoaelamcaaDoorPa
namespace Go.Proofs.YtebchgoaelamcaaDoor
open Go.RowKit
set_option maxRecDepth 100000

theorem below_on {w W W' : World} (h : Below w.heap.size w W) (h' : Below W.heap.size W W') : Below w.heap.size w W' := h.trans (h'.mono h.size)

set_option maxHeartbeats 1000000 in
theorem idx_free (a : Option Addr) (c : Nat) (l : List Cl) (w : World) (h : SlC w a l) (hl : l.length ≤ 1000000) :
    Calls Tryd.prog 76 #[.slice a l.length c, .func (.func 79) #[] #[]] w fun e w' => e = .returned (.int .i64 (ixI (l.findIdx? isFree))) ∧ Below w.heap.size w w' := by
  go_enter Tryd.func76, Tryd.ntmps76
  go_wp2_with fail
  go_loopw [8] (fun i wr => ∃ k : Nat, k ≤ l.length ∧ i = .int .i64 k ∧ (∀ j (hj : j < l.length), j < k → isFree l[j] = false) ∧ Below w.heap.size w wr) (fun i _ => l.length - (intOf i).toNat)
  case atStart => exact ⟨0, Nat.zero_le _, rfl, fun j _ hj => absurd hj (by omega), Below.refl _ _⟩
  case round =>
    obtain ⟨k, hk, rfl, hup, hB⟩ := hrel
    have HU := (show Hid _ from hup)
    clear hup
    have hsl := h.below hB
    by_cases hlt : k < l.length
    · obtain ⟨b, o, rfl, hbl, c0, c1, c2⟩ := hsl.at k hlt
      go_wp2_with fail
      refine (pred75 l[k] _).mono ?_
      rintro e w' ⟨rfl, hb'⟩
      have hB' := below_on hB hb'
      cases hp : isFree l[k]
      · go_wp2_with fail
        go_roundw
        case rel =>
          refine ⟨k + 1, by omega, by simp, fun j hj hjk => ?_, hB'⟩
          by_cases e : j = k
          · subst e; exact hp
          · exact HU.out j hj (by omega)
        case measure => first | omega | (simp only [intOf]; omega)
      · go_wp2
        go_ret
        refine ⟨?_, hB'⟩
        have : l.findIdx? isFree = some k := by
          rw [List.findIdx?_eq_some_iff_getElem]
          exact ⟨hlt, hp, fun j hj => by rw [HU.out j (by omega) hj]; simp⟩
        rw [this]
        rfl
    · have : k = l.length := by omega
      subst this
      go_wp2
      go_ret
      refine ⟨?_, hB⟩
      have : l.findIdx? isFree = none := by
        rw [List.findIdx?_eq_none_iff]
        intro x hx
        obtain ⟨j, hj, rfl⟩ := List.getElem_of_mem hx
        exact HU.out j hj hj
      rw [this]
      rfl


set_option maxHeartbeats 1000000 in
theorem idx_key (q : List UInt8) (g : Nat) (a : Option Addr) (c : Nat) (l : List Cl) (w : World) (h : SlC w a l) (hl : l.length ≤ 1000000) (hg : g < w.heap.size) (hc : w.cell? ⟨g, 0, none⟩ = some (.string (txt q))) :
    Calls Tryd.prog 76 #[.slice a l.length c, .func (.func 77) #[] #[.pointer (some ⟨g, 0, none⟩)]] w fun e w' => e = .returned (.int .i64 (ixI (l.findIdx? (isKey q)))) ∧ Below w.heap.size w w' := by
  go_enter Tryd.func76, Tryd.ntmps76
  go_wp2_with fail
  go_loopw [8] (fun i wr => ∃ k : Nat, k ≤ l.length ∧ i = .int .i64 k ∧ (∀ j (hj : j < l.length), j < k → (isKey q) l[j] = false) ∧ Below w.heap.size w wr) (fun i _ => l.length - (intOf i).toNat)
  case atStart => exact ⟨0, Nat.zero_le _, rfl, fun j _ hj => absurd hj (by omega), Below.refl _ _⟩
  case round =>
    obtain ⟨k, hk, rfl, hup, hB⟩ := hrel
    have HU := (show Hid _ from hup)
    clear hup
    have hsl := h.below hB
    by_cases hlt : k < l.length
    · obtain ⟨b, o, rfl, hbl, c0, c1, c2⟩ := hsl.at k hlt
      go_wp2_with fail
      refine (pred73 q g l[k] _ (Nat.lt_of_lt_of_le hg hB.size) ((hB.cell (p := ⟨g, 0, none⟩) hg).trans hc)).mono ?_
      rintro e w' ⟨rfl, hb'⟩
      have hB' := below_on hB hb'
      cases hp : (isKey q) l[k]
      · go_wp2_with fail
        go_roundw
        case rel =>
          refine ⟨k + 1, by omega, by simp, fun j hj hjk => ?_, hB'⟩
          by_cases e : j = k
          · subst e; exact hp
          · exact HU.out j hj (by omega)
        case measure => first | omega | (simp only [intOf]; omega)
      · go_wp2
        go_ret
        refine ⟨?_, hB'⟩
        have : l.findIdx? (isKey q) = some k := by
          rw [List.findIdx?_eq_some_iff_getElem]
          exact ⟨hlt, hp, fun j hj => by rw [HU.out j (by omega) hj]; simp⟩
        rw [this]
        rfl
    · have : k = l.length := by omega
      subst this
      go_wp2
      go_ret
      refine ⟨?_, hB⟩
      have : l.findIdx? (isKey q) = none := by
        rw [List.findIdx?_eq_none_iff]
        intro x hx
        obtain ⟨j, hj, rfl⟩ := List.getElem_of_mem hx
        exact HU.out j hj hj
      rw [this]
      rfl


end Go.Proofs.YtebchgoaelamcaaDoor
