/-
  The walks of the document's reader.
-/
import Derived.Test.YtjhjicokbdloiaaNu
namespace Go.Proofs.Ytjhjicokbdloiaa
open Go.RowKit

theorem rleft_ref (s : ByteArray) (k : Nat) (err : Int) (w : World) (hs : s.size ≤ maxLen) (hk : k ≤ s.size) :
    Calls Try.prog 73 #[.agg #[.string s, .int .i64 k, .int .i64 err]] w fun e w' => e = .returned (.int .i64 ((s.size : Int) - k)) ∧ w' = w.alloc (.cells #[.string s, .int .i64 k, .int .i64 err] 78) := by
  unfold maxLen at hs
  go_enter Try.func73, Try.ntmps73
  go_wp2
  go_ret
  exact ⟨rfl, rfl⟩

theorem rend_ref (s : ByteArray) (k : Nat) (err : Int) (w : World) (hs : s.size ≤ maxLen) (hk : k ≤ s.size) :
    Calls Try.prog 50 #[.agg #[.string s, .int .i64 k, .int .i64 err]] w fun e w' => e = .returned (.int .i64 (endOf (s.data.toList.drop k) err)) ∧ Below w.heap.size w w' := by
  have h1 := rleft_ref s k err (w.alloc (.cells #[.string s, .int .i64 k, .int .i64 err] 78)) hs hk
  have hl : (s.data.toList.drop k).length = s.size - k := by simp
  unfold maxLen at hs
  by_cases he : err = 0
  · subst he
    by_cases hk2 : k < s.size
    · have e1 : endOf (s.data.toList.drop k) 0 = 5 := by unfold endOf; rw [hl, if_neg (by simp), if_neg (by omega)]
      rw [e1]
      have hpos : 0 < (s.size : Int) - k := by omega
      go_enter Try.func50, Try.ntmps50
      go_wp2_with (go_at_call 73; go_must (refine h1.mono ?_); rintro e w1 ⟨rfl, rfl⟩)
      go_ret
      exact ⟨rfl, ((Below.refl _ _).alloc (Nat.le_refl _) _).alloc (by simp) _⟩
    · have e1 : endOf (s.data.toList.drop k) 0 = 0 := by unfold endOf; rw [hl, if_neg (by simp), if_pos (by omega)]
      rw [e1]
      have hpos : (s.size : Int) - k ≤ 0 := by omega
      go_enter Try.func50, Try.ntmps50
      go_wp2_with (go_at_call 73; go_must (refine h1.mono ?_); rintro e w1 ⟨rfl, rfl⟩)
      go_ret
      exact ⟨rfl, ((Below.refl _ _).alloc (Nat.le_refl _) _).alloc (by simp) _⟩
  · have e1 : endOf (s.data.toList.drop k) err = err := by simp [endOf, he]
    rw [e1]
    have hb : (err == 0) = false := by simp [he]
    clear he h1
    go_enter Try.func50, Try.ntmps50
    go_wp2
    go_ret
    exact ⟨rfl, (Below.refl _ _).alloc (Nat.le_refl _) _⟩

theorem leV_step (l : List UInt8) (j : Nat) (b : UInt8) (h : l[j]? = some b) : leV (l.drop j) = b.toNat + 256 * leV (l.drop (j + 1)) := by
  obtain ⟨h1, h2⟩ := List.getElem?_eq_some_iff.1 h
  rw [List.drop_eq_getElem_cons h1, h2]
  rfl

set_option maxHeartbeats 400000 in
theorem take_ref_no (s : ByteArray) (k m : Nat) (err : Int) (w : World) (hs : s.size ≤ maxLen) (hk : k ≤ s.size) (hno : err ≠ 0 ∨ s.size - k < m) :
    Calls Try.prog 47 #[.agg #[.string s, .int .i64 k, .int .i64 err], .int .i64 m] w fun e w' => e = .returned (.tuple #[.agg #[.string s, .int .i64 k, .int .i64 (if err = 0 then 4 else err)], .int .u64 0]) ∧ Below w.heap.size w w' := by
  unfold maxLen at hs
  by_cases he : err = 0
  · subst he
    rw [if_pos rfl]
    have hlt : s.size - k < m := by omega
    go_enter Try.func47, Try.ntmps47
    go_wp2_with (go_at_call 73; go_must (refine (rleft_ref s k 0 _ (by unfold maxLen; omega) hk).mono ?_); rintro e w1 ⟨rfl, rfl⟩)
    refine bodyPost_ret (v := .tuple #[.agg #[.string s, .int .i64 k, .int .i64 4], .int .u64 0]) (by simp [results, Try.results47, go_sem]) rfl ⟨rfl, ?_⟩
    repeat (first | exact Below.refl _ _ | refine Below.alloc ?_ (by simp; try omega) _)
  · rw [if_neg he]
    have hb : (err != 0) = true := by simp [he]
    clear he hno
    go_enter Try.func47, Try.ntmps47
    go_wp2
    refine bodyPost_ret (v := .tuple #[.agg #[.string s, .int .i64 k, .int .i64 err], .int .u64 0]) (by simp [results, Try.results47, go_sem]) rfl ⟨rfl, ?_⟩
    repeat (first | exact Below.refl _ _ | refine Below.alloc ?_ (by simp; try omega) _)

set_option maxRecDepth 100000 in
set_option maxHeartbeats 400000 in
theorem take_ref_yes (s : ByteArray) (k m : Nat) (w : World) (hs : s.size ≤ maxLen) (hk : k + m ≤ s.size) (hm8 : m ≤ 8) (hm0 : 0 < m) :
    Calls Try.prog 47 #[.agg #[.string s, .int .i64 k, .int .i64 0], .int .i64 m] w fun e w' => e = .returned (.tuple #[.agg #[.string s, .int .i64 ((k + m : Nat) : Int), .int .i64 0], .int .u64 (leV ((s.data.toList.drop k).take m) : Nat)]) ∧ Below w.heap.size w w' := by
  unfold maxLen at hs
  obtain ⟨L, hL⟩ : ∃ L, L = (s.data.toList.drop k).take m := ⟨_, rfl⟩
  have HLl : Hid (L.length = m) := by subst hL; unfold Hid; simp; omega
  have HLg : Hid (∀ j (hj : j < m), L[j]? = some (s[k + j]'(Nat.lt_of_lt_of_le (Nat.add_lt_add_left hj k) hk))) := by
    subst hL
    intro j hj
    rw [List.getElem?_take_of_lt hj, List.getElem?_drop]
    rw [List.getElem?_eq_getElem (by simp; omega)]
    rfl
  rw [← hL]
  clear hL
  go_enter Try.func47, Try.ntmps47
  go_wp2_with (go_at_call 73; go_must (refine (rleft_ref s k 0 _ (by unfold maxLen; omega) (by omega)).mono ?_); rintro e w1 ⟨rfl, rfl⟩)
  go_loop [6, 7] (fun n i => ∃ j : Nat, j ≤ m ∧ i = .int .i64 ((j : Int) - 1) ∧ n = .int .u64 (leV (L.drop j) : Nat)) (fun _ i => (intOf i + 1).toNat)
  case atStart => exact ⟨m, Nat.le_refl _, rfl, by rw [List.drop_of_length_le (by rw [HLl.out]; exact Nat.le_refl _)]; rfl⟩
  case round =>
    obtain ⟨j, hj, rfl, rfl⟩ := hrel
    by_cases hj0 : 0 < j
    · obtain ⟨j, rfl⟩ : ∃ i, j = i + 1 := ⟨j - 1, by omega⟩
      have hst := leV_step L j _ (HLg.out j (by omega))
      have hlt := leV_lt (L.drop (j + 1))
      have hpw : 256 ^ (L.drop (j + 1)).length ≤ 256 ^ 7 := Nat.pow_le_pow_right (by decide) (by simp; rw [HLl.out]; omega)
      have Hst : Hid (leV (L.drop j) = s[k + j].toNat + 256 * leV (L.drop (j + 1))) := hst
      have hv : (leV (L.drop (j + 1)) : Int) < 72057594037927936 := by omega
      clear hst hlt hpw
      have hb : (s[k + j].toNat : Int) < 256 := by have := s[k + j].toNat_lt; omega
      rw [show (((j + 1 : Nat) : Int) - 1) = (j : Int) by omega]
      generalize leV (L.drop (j + 1)) = X at *
      have hix : 0 ≤ (k : Int) + (j : Int) ∧ (k : Int) + (j : Int) < (s.size : Int) := by omega
      go_wp2
      go_round
      case rel => exact ⟨j, by omega, rfl, by rw [Hst.out]; congr 1; try omega⟩
      case measure => simp [intOf]; try omega
    · obtain rfl : j = 0 := by omega
      go_wp2
      refine bodyPost_ret (v := .tuple #[.agg #[.string s, .int .i64 ((k : Int) + m), .int .i64 0], .int .u64 (leV L : Nat)]) (by simp [results, Try.results47, go_sem]) rfl ⟨rfl, ?_⟩
      repeat (first | exact Below.refl _ _ | refine Below.alloc ?_ (by simp; try omega) _)

theorem take_ref_any (s : ByteArray) (k m : Nat) (err : Int) (w : World) (hs : s.size ≤ maxLen) (hk : k ≤ s.size) (hm8 : m ≤ 8) (hm0 : 0 < m) :
    Calls Try.prog 47 #[.agg #[.string s, .int .i64 k, .int .i64 err], .int .i64 m] w fun e w' => ∃ k' : Nat, k' ≤ s.size ∧ (takeN m (s.data.toList.drop k) err).1 = s.data.toList.drop k' ∧
      e = .returned (.tuple #[.agg #[.string s, .int .i64 k', .int .i64 (takeN m (s.data.toList.drop k) err).2.1], .int .u64 ((takeN m (s.data.toList.drop k) err).2.2 : Nat)]) ∧ Below w.heap.size w w' := by
  have hl : (s.data.toList.drop k).length = s.size - k := by simp
  by_cases hno : err ≠ 0 ∨ s.size - k < m
  · have e1 : takeN m (s.data.toList.drop k) err = (s.data.toList.drop k, if err = 0 then 4 else err, 0) := by
      unfold takeN
      rw [hl]
      by_cases he : err = 0
      · rw [if_neg (by omega), if_pos (by omega), if_pos he]
      · rw [if_pos he, if_neg he]
    rw [e1]
    refine (take_ref_no s k m err w hs hk hno).mono ?_
    rintro e w' ⟨rfl, hb⟩
    exact ⟨k, hk, rfl, rfl, hb⟩
  · obtain rfl : err = 0 := by omega
    have e1 : takeN m (s.data.toList.drop k) 0 = (s.data.toList.drop (k + m), 0, leV ((s.data.toList.drop k).take m)) := by
      unfold takeN
      rw [hl, if_neg (by omega), if_neg (by omega), List.drop_drop]
    rw [e1]
    refine (take_ref_yes s k m w hs (by omega) hm8 hm0).mono ?_
    rintro e w' ⟨rfl, hb⟩
    exact ⟨k + m, by omega, rfl, rfl, hb⟩

theorem bcell {W w1 : World} (hb : Below W.heap.size W w1) : (∀ b o, b < W.heap.size → w1.cell? ⟨b, o, none⟩ = W.cell? ⟨b, o, none⟩) ∧ (∀ b o, b < W.heap.size → w1.frozen? ⟨b, o, none⟩ = W.frozen? ⟨b, o, none⟩) :=
  ⟨fun b o h => hb.cell (p := ⟨b, o, none⟩) h, fun b o h => hb.frozen (p := ⟨b, o, none⟩) h⟩

theorem cells3 {w : World} {b : Nat} {v0 v1 v2 : Value} {t : TypeId} (h : w.heap[b]? = some (.cells #[v0, v1, v2] t (0, 0))) : (w.cell? ⟨b, 0, none⟩ = some v0 ∧ w.cell? ⟨b, 1, none⟩ = some v1 ∧ w.cell? ⟨b, 2, none⟩ = some v2) ∧ w.frozen? ⟨b, 0, none⟩ = false ∧ w.frozen? ⟨b, 1, none⟩ = false ∧ w.frozen? ⟨b, 2, none⟩ = false := by
  simp [World.cell?, World.frozen?, h]

theorem two_blocks {w w1 : World} {A B : Obj} (hb : Below ((w.alloc A).alloc B).heap.size ((w.alloc A).alloc B) w1) : w1.heap[w.heap.size]? = some A ∧ w1.heap[w.heap.size + 1]? = some B := by
  refine ⟨?_, ?_⟩
  · rw [hb.block _ (by simp; omega), Below.heap_alloc _ _ _ (by simp)]
    exact heap_alloc_new w A
  · rw [hb.block _ (by simp)]
    have := heap_alloc_new (w.alloc A) B
    simpa using this

set_option maxHeartbeats 1000000 in
theorem takeText_ref (s : ByteArray) (k : Nat) (most err : Int) (w : World) (hs : s.size ≤ maxLen) (hk : k ≤ s.size) :
    Calls Try.prog 74 #[.agg #[.string s, .int .i64 k, .int .i64 err], .int .i64 most] w fun e w' => ∃ k' : Nat, k' ≤ s.size ∧ (takeT most (s.data.toList.drop k) err).1 = s.data.toList.drop k' ∧
      e = .returned (.tuple #[.agg #[.string s, .int .i64 k', .int .i64 (takeT most (s.data.toList.drop k) err).2.1], .string ⟨(takeT most (s.data.toList.drop k) err).2.2.toArray⟩]) ∧ Below w.heap.size w w' := by
  have hl : (s.data.toList.drop k).length = s.size - k := by simp
  by_cases hno : err ≠ 0 ∨ s.size - k < 2
  · have e1 : takeT most (s.data.toList.drop k) err = (s.data.toList.drop k, if err = 0 then 4 else err, []) := by
      unfold takeT
      rw [hl]
      by_cases he : err = 0
      · rw [if_neg (by omega), if_pos (by omega), if_pos he]
      · rw [if_pos he, if_neg he]
    rw [e1]
    have hne : ((if err = 0 then 4 else err) != 0) = true := by
      by_cases he : err = 0 <;> simp [he]
    have ht := take_ref_no s k 2 err ((w.alloc (.cells #[.string s, .int .i64 k, .int .i64 err] 78)).alloc (.cells #[.string ⟨#[]⟩, .int .i64 0, .int .i64 0] 78)) hs hk hno
    generalize (if err = 0 then 4 else err) = er at *
    unfold maxLen at hs
    clear hno hl e1
    go_enter Try.func74, Try.ntmps74
    go_wp2_with fail
    refine ht.mono ?_
    rintro e w1 ⟨rfl, hb⟩
    obtain ⟨hbA, hbB⟩ := two_blocks hb
    obtain ⟨⟨a0, a1, a2⟩, g0, g1, g2⟩ := cells3 hbA
    obtain ⟨⟨r0, r1, r2⟩, u0, u1, u2⟩ := cells3 hbB
    clear hbA hbB
    have hz : w.heap.size + 1 < w1.heap.size := by have := hb.size; simp at this; omega
    go_wp2_with fail
    refine bodyPost_ret (v := .tuple #[.agg #[.string s, .int .i64 k, .int .i64 er], .string ⟨#[]⟩]) (by simp [results, Try.results74, go_sem, r0, r1, r2, hz]) rfl ⟨k, hk, rfl, rfl, ?_⟩
    have hb0 : Below w.heap.size w w1 := (((Below.refl _ _).alloc (Nat.le_refl _) _).alloc (by simp) _).trans (hb.mono (by simp; omega))
    repeat (first | exact hb0 | refine Below.setCell ?_ (by simp) _ | refine Below.alloc ?_ (by simp [World.setCell]; try omega) _)
  · obtain rfl : err = 0 := by omega
    have hk2 : k + 2 ≤ s.size := by omega
    have hv : leV ((s.data.toList.drop k).take 2) < 65536 := leV_two _
    have ht := take_ref_yes s k 2 ((w.alloc (.cells #[.string s, .int .i64 k, .int .i64 0] 78)).alloc (.cells #[.string ⟨#[]⟩, .int .i64 0, .int .i64 0] 78)) hs hk2 (by decide) (by decide)
    have e0 : ∀ R : List UInt8 × Int × List UInt8, (if max most 0 < (leV ((s.data.toList.drop k).take 2) : Int) then (s.data.toList.drop k, (3 : Int), ([] : List UInt8)) else if s.size - k < 2 + leV ((s.data.toList.drop k).take 2) then (s.data.toList.drop k, 4, []) else ((s.data.toList.drop k).drop (2 + leV ((s.data.toList.drop k).take 2)), 0, ((s.data.toList.drop k).drop 2).take (leV ((s.data.toList.drop k).take 2)))) = R → takeT most (s.data.toList.drop k) 0 = R := by
      intro R hR
      unfold takeT
      rw [hl, if_neg (by omega), if_neg (by omega)]
      exact hR
    rw [e0 _ rfl]
    clear e0 hno hl
    generalize leV ((s.data.toList.drop k).take 2) = n at *
    unfold maxLen at hs
    have hb0 : ∀ w1, Below ((w.alloc (.cells #[.string s, .int .i64 k, .int .i64 0] 78)).alloc (.cells #[.string ⟨#[]⟩, .int .i64 0, .int .i64 0] 78)).heap.size ((w.alloc (.cells #[.string s, .int .i64 k, .int .i64 0] 78)).alloc (.cells #[.string ⟨#[]⟩, .int .i64 0, .int .i64 0] 78)) w1 → Below w.heap.size w w1 := fun w1 hb => (((Below.refl _ _).alloc (Nat.le_refl _) _).alloc (by simp) _).trans (hb.mono (by simp; omega))
    have Hb0 := (show Hid _ from hb0)
    clear hb0
    have hcs : (max most 0 < (n : Int) ∧ ((most < 0 ∧ 0 < (n : Int)) ∨ (0 ≤ most ∧ most < (n : Int)))) ∨ (¬ max most 0 < (n : Int) ∧ ((most < 0 ∧ (n : Int) ≤ 0) ∨ (0 ≤ most ∧ (n : Int) ≤ most))) := by omega
    rcases hcs with ⟨hlong, hcs⟩ | ⟨hlong, hcs⟩
    · rw [if_pos hlong]
      clear hlong
      rcases hcs with ⟨hm0, hn0⟩ | ⟨hm0, hn0⟩
      all_goals
        go_enter Try.func74, Try.ntmps74
        go_wp2_with fail
        refine ht.mono ?_
        rintro e w1 ⟨rfl, hb⟩
        obtain ⟨hbA, hbB⟩ := two_blocks hb
        obtain ⟨⟨a0, a1, a2⟩, g0, g1, g2⟩ := cells3 hbA
        obtain ⟨⟨r0, r1, r2⟩, u0, u1, u2⟩ := cells3 hbB
        clear hbA hbB
        have hz : w.heap.size + 1 < w1.heap.size := by have := hb.size; simp at this; omega
        have hz0 : w.heap.size < w1.heap.size := by omega
        go_wp2_with fail
        refine bodyPost_ret (v := .tuple #[.agg #[.string s, .int .i64 k, .int .i64 3], .string ⟨#[]⟩]) (by simp [results, Try.results74, go_sem, r0, r1, r2, hz]) rfl ⟨k, hk, rfl, rfl, ?_⟩
        have hb0 := Hb0.out w1 hb
        repeat (first | exact hb0 | refine Below.setCell ?_ (by simp) _ | refine Below.alloc ?_ (by simp [World.setCell]; try omega) _)
    · rw [if_neg hlong]
      clear hlong
      by_cases hshort : s.size - k < 2 + n
      · rw [if_pos hshort]
        rcases hcs with ⟨hm0, hn0⟩ | ⟨hm0, hn0⟩
        · omega
        · go_enter Try.func74, Try.ntmps74
          go_wp2_with fail
          refine ht.mono ?_
          rintro e w1 ⟨rfl, hb⟩
          obtain ⟨hbA, hbB⟩ := two_blocks hb
          obtain ⟨⟨a0, a1, a2⟩, g0, g1, g2⟩ := cells3 hbA
          obtain ⟨⟨r0, r1, r2⟩, u0, u1, u2⟩ := cells3 hbB
          clear hbA hbB
          have hz : w.heap.size + 1 < w1.heap.size := by have := hb.size; simp at this; omega
          have hz0 : w.heap.size < w1.heap.size := by omega
          go_wp2_with fail
          refine (rleft_ref s (k + 2) 0 _ (by unfold maxLen; omega) hk2).mono ?_
          rintro e w2 ⟨rfl, rfl⟩
          go_wp2_with fail
          refine bodyPost_ret (v := .tuple #[.agg #[.string s, .int .i64 k, .int .i64 4], .string ⟨#[]⟩]) (by simp [results, Try.results74, go_sem, r0, r1, r2, hz, hz0]) rfl ⟨k, hk, rfl, rfl, ?_⟩
          have hb0 := Hb0.out w1 hb
          repeat (first | exact hb0 | refine Below.setCell ?_ (by simp) _ | refine Below.alloc ?_ (by simp [World.setCell]; try omega) _)
      · rw [if_neg hshort, List.drop_drop, List.drop_drop]
        have hex : Hid (s.extract (k + 2) (k + 2 + n) = ⟨((s.data.toList.drop (k + 2)).take n).toArray⟩) := by
          unfold Hid
          apply ByteArray.ext
          apply Array.toList_inj.1
          rw [Lib.extract_data, show k + 2 + n - (k + 2) = n by omega]
        rcases hcs with ⟨hm0, hn0⟩ | ⟨hm0, hn0⟩
        all_goals
          go_enter Try.func74, Try.ntmps74
          go_wp2_with fail
          refine ht.mono ?_
          rintro e w1 ⟨rfl, hb⟩
          obtain ⟨hbA, hbB⟩ := two_blocks hb
          obtain ⟨⟨a0, a1, a2⟩, g0, g1, g2⟩ := cells3 hbA
          obtain ⟨⟨r0, r1, r2⟩, u0, u1, u2⟩ := cells3 hbB
          clear hbA hbB
          have hz : w.heap.size + 1 < w1.heap.size := by have := hb.size; simp at this; omega
          have hz0 : w.heap.size < w1.heap.size := by omega
          go_wp2_with fail
          refine (rleft_ref s (k + 2) 0 _ (by unfold maxLen; omega) hk2).mono ?_
          rintro e w2 ⟨rfl, rfl⟩
          go_wp2_with fail
          go_region
          all_goals
            go_wp2
            refine bodyPost_ret (v := .tuple #[.agg #[.string s, .int .i64 ((k : Int) + 2 + n), .int .i64 0], .string (s.extract (k + 2) (k + 2 + n))]) (by simp [results, Try.results74, go_sem, r0, r1, r2, hz, hz0]) rfl ⟨k + 2 + n, by omega, by rw [Nat.add_assoc], by rw [hex.out]; rfl, ?_⟩
            have hb0 := Hb0.out w1 hb
            repeat (first | exact hb0 | refine Below.setCell ?_ (by simp) _ | refine Below.alloc ?_ (by simp [World.setCell]; try omega) _ | refine Below.drew ?_)

end Go.Proofs.Ytjhjicokbdloiaa
