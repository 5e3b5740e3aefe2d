/-
  The walks of modes, of Group and Allowed, the program's and the document's.
-/
import Derived.Test.YticgonloglkooaaAr
import Derived.Laws.AppendOwnNone
namespace Go.Proofs.Yticgonloglkooaa
open Go.RowKit

theorem Try.info22 : (Try.prog.info? 22).map (fun i => (i.zero, i.size, i.bytes)) = some (some (.int .i64 0), 1, 8) := by kernel_rfl

theorem ownsRow_shape {w : World} {B : Nat} {e : TypeId} {size : Nat} {v : Value} {n : Nat} {xs : List Value} (h : w.ownsRow B e size v n xs) : ∃ a c, v = .slice a n c := by
  rcases h.2 with ⟨rfl, rfl⟩ | ⟨g, cap, cur, rfl, _⟩
  · exact ⟨_, _, rfl⟩
  · exact ⟨_, _, rfl⟩

theorem slV_of_own {w : World} {B : Nat} {e : TypeId} {a : Option Addr} {n c : Nat} {xs : List Value} (h : w.ownsRow B e 1 (.slice a n c) xs.length xs) : SlV w a xs := by
  rcases h.2 with ⟨h1, h2⟩ | ⟨g, cap, cur, h1, hB, hh, hc, hm, _⟩
  · have : xs = [] := List.eq_nil_of_length_eq_zero h2
    subst this
    exact SlV.empty
  · simp at h1
    obtain ⟨rfl, rfl, rfl⟩ := h1
    refine ⟨fun h => by simp at h, fun x hx j u hu => ?_⟩
    simp at hx
    subst hx
    exact h.cells (g := g) rfl j u hu

theorem cell_one_new (w : World) (v : Value) (t : TypeId) : ∀ j u, [v][j]? = some u → (w.alloc (.cells #[v] t)).cell? ((⟨w.heap.size, 0, none⟩ : Addr).add j) = some u := by
  intro j u hu
  match j, hu with
  | 0, hu =>
    simp at hu
    subst hu
    simp [Addr.add]

set_option maxHeartbeats 2000000 in
theorem modes_any (a : Option Addr) (c : Nat) (l : List Int) (w : World) (hsl : SlV w a (i64s l)) (hll : l.length ≤ maxLen) :
    Calls Try.prog 19 #[.slice a l.length c] w fun e w' => ∃ ax cx, e = .returned (.slice ax (l.take 60).length cx) ∧ SlV w' ax (i64s (l.take 60)) ∧ Below w.heap.size w w' := by
  unfold maxLen at hll
  obtain ⟨i0, hi, hz0, hz1, hz2⟩ := info_parts Try.info22
  go_enter Try.func19, Try.ntmps19
  go_wp2_with fail
  have hown0 : (w.alloc (.cells #[] 22)).ownsRow w.heap.size 22 1 (.slice (some ⟨w.heap.size, 0, none⟩) 0 0) 0 (i64s []) := World.ownsRow_made w #[] 0 (Nat.le_refl _) (by decide) rfl
  have hB0 : Below w.heap.size w (w.alloc (.cells #[] 22)) := (Below.refl _ _).alloc (Nat.le_refl _) _
  go_loopw [3, 4] (fun v j wr => ∃ (k : Nat), k ≤ l.length ∧ k ≤ 60 ∧ j = .int .i64 k ∧ wr.ownsRow w.heap.size 22 1 v k (i64s (l.take k)) ∧ Below w.heap.size w wr) (fun _ j _ => 60 - (intOf j).toNat)
  case atStart => exact ⟨0, by omega, by omega, rfl, hown0, hB0⟩
  case round =>
    obtain ⟨k, hk, hk60, rfl, hown, hB⟩ := hrel
    clear hown0 hB0
    by_cases hlt : k < l.length ∧ k < 60
    · obtain ⟨hlt1, hlt2⟩ := hlt
      obtain ⟨g, o, rfl, hcell, hg⟩ := (hsl.below hB).at k _ (i64s_at l k hlt1)
      have HT : Hid (i64s (l.take (k + 1)) = i64s (l.take k) ++ [.int .i64 (l[k])]) := by
        show _ = _
        rw [List.take_succ_eq_append_getElem hlt1, i64s_append]
        rfl
      generalize l[k] = x at *
      have hsz := hB.size
      go_wp2_with (at_builtin; refine wpList_append_own _ rfl _ _ 30 rfl w.heap.size 22 i0 (.int .i64 0) 1 8 Try.underlying30 hi hz0 hz1 hz2 rfl (by decide) _ _ _ rfl (hown.alloc _) ⟨wr.heap.size, 0, none⟩ 1 1 [_] rfl rfl (cell_one_new _ _ _) (by intro u hu; simp at hu; subst hu; rfl) (by unfold maxLen; omega) (by omega) (by simp; omega) ?_; intro v' w1 hown' hgrow _)
      have R : w1.ownsRow w.heap.size 22 1 v' (k + 1) (i64s (l.take (k + 1))) := by rw [HT.out]; exact hown'
      have R2 : Below w.heap.size w w1 := (hB.alloc hsz _).grown hgrow (by simp; omega) (fun j hj => (hown.lt j hj).1)
      go_roundw
      case rel => exact ⟨k + 1, by omega, by omega, by go_num, R, R2⟩
      case measure => simp [intOf]; omega
    · have hcs : ¬ (k < l.length) ∨ (k < l.length ∧ ¬ (k < 60)) := by omega
      have ht : l.take 60 = l.take k := by
        rcases Nat.lt_or_ge k 60 with h | h
        · rw [List.take_of_length_le (by omega), List.take_of_length_le (by omega)]
        · rw [show k = 60 by omega]
      clear hlt
      obtain ⟨ax, cx, rfl⟩ := ownsRow_shape hown
      have hlen : (l.take k).length = k := by simp; omega
      have hsl2 : SlV wr ax (i64s (l.take k)) := slV_of_own (e := 22) (B := w.heap.size) (n := k) (c := cx) (by rw [i64s_length, hlen]; exact hown)
      have HR : Hid (∃ ax' cx', Ending.returned (Value.slice ax k cx) = .returned (.slice ax' (l.take 60).length cx') ∧ SlV wr ax' (i64s (l.take 60)) ∧ Below w.heap.size w wr) := by
        show ∃ _, _
        rw [ht, hlen]
        exact ⟨_, _, rfl, hsl2, hB⟩
      clear hown hlen hsl2 ht
      rcases hcs with hc4 | ⟨hc4, hc5⟩
      all_goals
        go_wp2
        go_ret
        exact HR.out

/-- The join of some. -/
def groupN (l : List Int) : Nat := l.foldl (fun g m => joinN g (cnt m)) 0
theorem groupN_snoc (l : List Int) (m : Int) : groupN (l ++ [m]) = joinN (groupN l) (cnt m) := by simp [groupN]
theorem groupN_lt (l : List Int) : groupN l < 6 := by
  unfold groupN
  suffices h : ∀ (l : List Int) (g : Nat), g < 6 → l.foldl (fun g m => joinN g (cnt m)) g < 6 from h l 0 (by omega)
  intro l
  induction l with
  | nil => intro g hg; simpa using hg
  | cons x r ih => intro g hg; exact ih _ (joinN_lt _ _ hg (cnt_lt x))

/-- Does m go beside each of some? -/
def allB (l : List Int) (m : Int) : Bool := l.all fun h => besB (cnt h) (cnt m)
theorem allB_snoc (l : List Int) (x m : Int) : allB (l ++ [x]) m = (allB l m && besB (cnt x) (cnt m)) := by simp [allB]
theorem allB_no {l : List Int} {m : Int} {k : Nat} (hk : k < l.length) (h : besB (cnt (l[k])) (cnt m) = false) : allB l m = false := by
  unfold allB
  rw [List.all_eq_false]
  exact ⟨l[k], List.getElem_mem hk, by simp [h]⟩

theorem group_any (a : Option Addr) (c : Nat) (l : List Int) (w : World) (hsl : SlV w a (i64s l)) (hll : l.length ≤ maxLen) :
    Calls Try.prog 20 #[.slice a l.length c] w fun e w' => e = .returned (.int .i64 ((groupN l : Nat) : Int)) ∧ Below w.heap.size w w' := by
  unfold maxLen at hll
  go_enter Try.func20, Try.ntmps20
  go_wp2_with fail
  go_loopw [3, 8] (fun v j wr => ∃ (k : Nat), k ≤ l.length ∧ v = .int .i64 ((groupN (l.take k) : Nat) : Int) ∧ j = .int .i64 k ∧ Below w.heap.size w wr) (fun _ j _ => l.length - (intOf j).toNat)
  case atStart => exact ⟨0, by omega, rfl, rfl, Below.refl _ _⟩
  case round =>
    obtain ⟨k, hk, rfl, rfl, hB⟩ := hrel
    by_cases hlt : k < l.length
    · obtain ⟨g, o, rfl, hcell, hg⟩ := (hsl.below hB).at k _ (i64s_at l k hlt)
      have h1 := join_any ((groupN (l.take k) : Nat) : Int) (l[k])
      rw [cnt_nat _ (groupN_lt _)] at h1
      have HG : Hid (groupN (l.take (k + 1)) = joinN (groupN (l.take k)) (cnt l[k])) := by
        show _ = _
        rw [List.take_succ_eq_append_getElem hlt, groupN_snoc]
      rw [← HG.out] at h1
      clear HG
      generalize groupN (l.take k) = q at *
      obtain ⟨q', Hq⟩ : ∃ q', Hid (q' = groupN (l.take (k + 1))) := ⟨_, rfl⟩
      rw [← Hq.out] at h1
      generalize l[k] = x at *
      go_wp2_with fail
      refine (h1 _).mono ?_
      rintro e w1 ⟨rfl, hb1⟩
      go_wp2
      go_roundw
      case rel => exact ⟨k + 1, by omega, by rw [Hq.out], by go_num, below_next hB hb1⟩
      case measure => simp [intOf]; omega
    · have e : l.take k = l := List.take_of_length_le (by omega)
      rw [e]
      go_wp2
      go_ret
      exact ⟨rfl, hB⟩

theorem refgroup_any (a : Option Addr) (c : Nat) (l : List Int) (w : World) (hsl : SlV w a (i64s l)) (hll : l.length ≤ maxLen) :
    Calls Try.prog 21 #[.slice a l.length c] w fun e w' => e = .returned (.int .i64 ((groupN l : Nat) : Int)) ∧ w' = w := by
  unfold maxLen at hll
  go_enter Try.func21, Try.ntmps21
  go_wp2_with fail
  go_loop [3, 4] (fun v j => ∃ (k : Nat), k ≤ l.length ∧ v = .int .i64 ((groupN (l.take k) : Nat) : Int) ∧ j = .int .i64 k) (fun _ j => l.length - (intOf j).toNat)
  case atStart => exact ⟨0, by omega, rfl, rfl⟩
  case round =>
    obtain ⟨k, hk, rfl, rfl⟩ := hrel
    by_cases hlt : k < l.length
    · obtain ⟨g, o, rfl, hcell, hg⟩ := hsl.at k _ (i64s_at l k hlt)
      have h1 := refjoin_any ((groupN (l.take k) : Nat) : Int) (l[k])
      rw [cnt_nat _ (groupN_lt _)] at h1
      have HG : Hid (groupN (l.take (k + 1)) = joinN (groupN (l.take k)) (cnt l[k])) := by
        show _ = _
        rw [List.take_succ_eq_append_getElem hlt, groupN_snoc]
      rw [← HG.out] at h1
      clear HG
      generalize groupN (l.take k) = q at *
      obtain ⟨q', Hq⟩ : ∃ q', Hid (q' = groupN (l.take (k + 1))) := ⟨_, rfl⟩
      rw [← Hq.out] at h1
      generalize l[k] = x at *
      go_wp2_with fail
      refine (h1 _).mono ?_
      rintro e w1 ⟨rfl, hw⟩
      obtain rfl := hw.symm
      go_wp2
      go_round
      case rel => exact ⟨k + 1, by omega, by rw [Hq.out], by go_num⟩
      case measure => simp [intOf]; omega
    · have e : l.take k = l := List.take_of_length_le (by omega)
      rw [e]
      go_wp2
      go_ret
      exact ⟨rfl, rfl⟩

theorem allowed_any (a : Option Addr) (c : Nat) (l : List Int) (m : Int) (w : World) (hsl : SlV w a (i64s l)) (hll : l.length ≤ maxLen) :
    Calls Try.prog 22 #[.slice a l.length c, .int .i64 m] w fun e w' => e = .returned (.bool (allB l m)) ∧ Below w.heap.size w w' := by
  unfold maxLen at hll
  go_enter Try.func22, Try.ntmps22
  go_wp2_with fail
  go_loopw [9] (fun j wr => ∃ (k : Nat), k ≤ l.length ∧ allB (l.take k) m = true ∧ j = .int .i64 k ∧ Below w.heap.size w wr) (fun j _ => l.length - (intOf j).toNat)
  case atStart => exact ⟨0, by omega, rfl, rfl, Below.refl _ _⟩
  case round =>
    obtain ⟨k, hk, hall, rfl, hB⟩ := hrel
    replace hall : Hid _ := hall
    by_cases hlt : k < l.length
    · obtain ⟨g, o, rfl, hcell, hg⟩ := (hsl.below hB).at k _ (i64s_at l k hlt)
      have h1 := beside_any (l[k]) m
      cases hv : besB (cnt l[k]) (cnt m) with
      | true =>
        rw [hv] at h1
        have HG : Hid (allB (l.take (k + 1)) m = true) := by
          show _ = _
          rw [List.take_succ_eq_append_getElem hlt, allB_snoc, hall.out, hv]
          rfl
        clear hv
        generalize l[k] = x at *
        go_wp2_with fail
        refine (h1 _).mono ?_
        rintro e w1 ⟨rfl, hb1⟩
        go_wp2
        go_roundw
        case rel => exact ⟨k + 1, by omega, HG.out, by go_num, below_next hB hb1⟩
        case measure => simp [intOf]; omega
      | false =>
        have HN : Hid (allB l m = false) := allB_no hlt hv
        rw [hv] at h1
        clear hv
        generalize l[k] = x at *
        go_wp2_with fail
        refine (h1 _).mono ?_
        rintro e w1 ⟨rfl, hb1⟩
        go_wp2
        go_ret
        exact ⟨by rw [HN.out]; rfl, below_next hB hb1⟩
    · have e : l.take k = l := List.take_of_length_le (by omega)
      rw [e] at hall
      go_wp2
      go_ret
      exact ⟨by rw [hall.out]; rfl, hB⟩

theorem refallowed_any (a : Option Addr) (c : Nat) (l : List Int) (m : Int) (w : World) (hsl : SlV w a (i64s l)) (hll : l.length ≤ maxLen) :
    Calls Try.prog 23 #[.slice a l.length c, .int .i64 m] w fun e w' => e = .returned (.bool (allB l m)) ∧ w' = w := by
  unfold maxLen at hll
  go_enter Try.func23, Try.ntmps23
  go_wp2_with fail
  go_loop [5] (fun j => ∃ (k : Nat), k ≤ l.length ∧ allB (l.take k) m = true ∧ j = .int .i64 k) (fun j => l.length - (intOf j).toNat)
  case atStart => exact ⟨0, by omega, rfl, rfl⟩
  case round =>
    obtain ⟨k, hk, hall, rfl⟩ := hrel
    replace hall : Hid _ := hall
    by_cases hlt : k < l.length
    · obtain ⟨g, o, rfl, hcell, hg⟩ := hsl.at k _ (i64s_at l k hlt)
      have h1 := refbeside_any (l[k]) m
      cases hv : besB (cnt l[k]) (cnt m) with
      | true =>
        rw [hv] at h1
        have HG : Hid (allB (l.take (k + 1)) m = true) := by
          show _ = _
          rw [List.take_succ_eq_append_getElem hlt, allB_snoc, hall.out, hv]
          rfl
        clear hv
        generalize l[k] = x at *
        go_wp2_with fail
        refine (h1 _).mono ?_
        rintro e w1 ⟨rfl, hw⟩
        obtain rfl := hw.symm
        go_wp2
        go_round
        case rel => exact ⟨k + 1, by omega, HG.out, by go_num⟩
        case measure => simp [intOf]; omega
      | false =>
        have HN : Hid (allB l m = false) := allB_no hlt hv
        rw [hv] at h1
        clear hv
        generalize l[k] = x at *
        go_wp2_with fail
        refine (h1 _).mono ?_
        rintro e w1 ⟨rfl, hw⟩
        obtain rfl := hw.symm
        go_wp2
        go_ret
        exact ⟨by rw [HN.out]; rfl, rfl⟩
    · have e : l.take k = l := List.take_of_length_le (by omega)
      rw [e] at hall
      go_wp2
      go_ret
      exact ⟨by rw [hall.out]; rfl, rfl⟩
end Go.Proofs.Yticgonloglkooaa
