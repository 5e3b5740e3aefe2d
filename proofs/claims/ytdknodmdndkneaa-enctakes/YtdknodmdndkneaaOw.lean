/-
  The walk of EncOwn.
-/
import Derived.Test.YtdknodmdndkneaaLv
namespace Go.Proofs.Ytdknodmdndkneaa
open Go.RowKit

theorem ROk.setLow {w : World} {B p : Nat} {a : Option Addr} {c : Nat} {l : List UInt8} {err : Int} (h : ROk w B p a c l err) {q j : Nat} (hq : q < B) (u : Value) : ROk (w.setCell ⟨q, j, none⟩ u) B p a c l err :=
  ⟨h.base, by rw [Below.heap_setCell _ _ _ _ (by have := h.base; simp; omega)]; exact h.blk, h.sl.setCell (fun x hx => by have := h.row x hx; omega) _, fun x hx => by have := h.row x hx; simpa [World.setCell] using this, h.len, h.cap, h.nil⟩

theorem ROk.drew {w : World} {B p : Nat} {a : Option Addr} {c : Nat} {l : List UInt8} {err : Int} (h : ROk w B p a c l err) : ROk w.drew B p a c l err := h.below ((Below.refl _ _).drew) (Nat.le_refl _)

theorem takeN_one (l : List UInt8) (k : Nat) (h : k < l.length) : takeN 1 (l.drop k) 0 = (l.drop (k + 1), 0, (l[k]'h).toNat) := by
  unfold takeN
  have e : l.drop k = l[k] :: l.drop (k + 1) := List.drop_eq_getElem_cons h
  have e1 : (l.drop k).take 1 = [l[k]] := by rw [e]; rfl
  have e2 : leV [l[k]] = l[k].toNat := by simp [leV]
  rw [e1, e2]
  simp
  omega

/-- A row of n bytes that may be written. -/
structure Row8 (w : World) (m n : Nat) : Prop where
  cell : ∀ j, j < n → ∃ z, w.cell? ⟨m, j, none⟩ = some (.int .u8 z)
  free : ∀ j, j < n → w.frozen? ⟨m, j, none⟩ = false

theorem Row8.set {w : World} {m n : Nat} (h : Row8 w m n) (k : Nat) (z : Int) : Row8 (w.setCell ⟨m, k, none⟩ (.int .u8 z)) m n :=
  ⟨fun j hj => by
    obtain ⟨y, hy⟩ := h.cell j hj
    by_cases e : k = j
    · subst e
      exact ⟨z, World.cell?_setCell_same _ _ _ hy⟩
    · exact ⟨y, by rw [World.cell?_setCell_other (h := by simp; try omega)]; exact hy⟩,
   fun j hj => by rw [World.frozen?_setCell]; exact h.free j hj⟩

theorem Row8.below {w w' : World} {m n D : Nat} (h : Row8 w m n) (hb : Below D w w') (hm : m < D) : Row8 w' m n :=
  ⟨fun j hj => by rw [hb.cell (p := ⟨m, j, none⟩) hm]; exact h.cell j hj, fun j hj => by rw [hb.frozen (p := ⟨m, j, none⟩) hm]; exact h.free j hj⟩

/-- What a conversion of a string to bytes lays. -/
theorem bytes_made (w : World) (l : List UInt8) : ∃ cap1 W1, (convert 9 30 (.string ⟨l.toArray⟩)).run Try.prog w = .ok (.slice (some ⟨w.heap.size, 0, none⟩) l.length cap1) W1 ∧
    SlB W1 (some ⟨w.heap.size, 0, none⟩) l ∧ Row8 W1 w.heap.size l.length ∧ W1.heap.size = w.heap.size + 1 ∧ Below w.heap.size w W1 := by
  have h := run_bytes_of_string (P := Try.prog) w 9 30 5 ⟨l.toArray⟩ Try.underlying9 Try.underlying30 Try.underlying5
  have hsz : (ByteArray.mk l.toArray).size = l.length := by simp [ByteArray.size]
  rw [hsz] at h
  generalize grownCap w l.length 0 5 = cap1 at *
  have hrow : ∀ j (hj : j < l.length), (bytesRow ⟨l.toArray⟩ cap1)[j]? = some (.int .u8 (l[j].toNat : Int)) := by
    intro j hj
    simp [bytesRow, Array.getElem?_append, hj]
  have hrs : l.length ≤ (bytesRow ⟨l.toArray⟩ cap1).size := by simp [bytesRow]
  generalize bytesRow ⟨l.toArray⟩ cap1 = C at *
  have hblk : (w.drew.alloc (.cells C 5 (C.size, C.size + 1))).heap[w.heap.size]? = some (.cells C 5 (C.size, C.size + 1)) := heap_alloc_new w.drew _
  refine ⟨cap1, _, h, ⟨fun h => by simp at h, fun x hx j u hu => ?_⟩, ⟨fun j hj => ?_, fun j hj => ?_⟩, by simp, (Below.refl _ _).drew.alloc (Nat.le_refl _) _⟩
  · simp at hx
    subst hx
    have hj : j < l.length := by have := (List.getElem?_eq_some_iff.1 hu).1; simpa [bcells] using this
    have e : (⟨w.heap.size, 0, none⟩ : Addr).add j = ⟨w.heap.size, j, none⟩ := by unfold Addr.add; split <;> simp_all
    rw [e]
    simp [bcells, List.getElem?_eq_getElem hj] at hu
    subst hu
    simp only [World.cell?, hblk]
    rw [hrow j hj]
    rfl
  · refine ⟨(l[j].toNat : Int), ?_⟩
    simp only [World.cell?, hblk]
    rw [hrow j hj]
    rfl
  · simp only [World.frozen?, hblk]
    simp
    omega

theorem own_some {w : World} {B : Nat} {v : Value} {n : Nat} {xs : List Value} (h : w.ownsRow B 5 1 v n xs) (hn : 0 < n) : ∃ g cap, v = .slice (some ⟨g, 0, none⟩) n cap ∧ B ≤ g ∧ g < w.heap.size ∧ n ≤ cap ∧ cap ≤ maxLen := by
  rcases h.2 with ⟨rfl, rfl⟩ | ⟨g, cap, cur, rfl, hB, hh, hc, hm, _⟩
  · omega
  · exact ⟨g, cap, rfl, hB, lt_of_block hh, hc, hm⟩

theorem row8_of_own {w : World} {B g cap : Nat} {l : List UInt8} {n : Nat} (h : w.ownsRow B 5 1 (.slice (some ⟨g, 0, none⟩) n cap) n (bcells l)) (hn : n = l.length) : Row8 w g n := by
  subst hn
  have h1 := h.cells (g := g) rfl
  refine ⟨fun j hj => ⟨(l[j].toNat : Int), ?_⟩, fun j hj => ?_⟩
  · have := h1 j (.int .u8 (l[j].toNat : Int)) (by simp [bcells, List.getElem?_eq_getElem hj])
    have e : (⟨g, 0, none⟩ : Addr).add j = ⟨g, j, none⟩ := by unfold Addr.add; split <;> simp_all
    rwa [e] at this
  · rcases h.2 with ⟨h, _⟩ | ⟨g', cap', cur, h, hB, hh, _⟩
    · simp at h
    · simp at h
      obtain ⟨rfl, _⟩ := h
      simp [World.frozen?, hh]

theorem textB_short (s : ByteArray) (h : s.size ≤ 65535) : textB s = leB s.size 2 ++ s.data.toList := by
  have : s.data.toList.take 65535 = s.data.toList := List.take_of_length_le (by simp; omega)
  unfold textB
  rw [this]
  simp

theorem textB_len (s : ByteArray) (h : s.size ≤ 65535) : (textB s).length = s.size + 2 := by
  rw [textB_short s h]
  simp [leB_length]
  omega

/-- A text's own bytes, behind the two of its length. -/
theorem conv_text {w : World} {B g cap : Nat} {s : ByteArray} (hs : s.size ≤ 65535) (h : w.ownsRow B 5 1 (.slice (some ⟨g, 0, none⟩) (s.size + 2) cap) (s.size + 2) (bcells (textB s))) :
    (convert 30 9 (.slice (some ⟨g, 2, none⟩) s.size (cap - 2))).run Try.prog w = .ok (.string s) w := by
  have h1 := h.cells (g := g) rfl
  have := run_convert_bytes_back (P := Try.prog) w 30 9 5 ⟨g, 2, none⟩ (cap - 2) s.data.toList Try.underlying30 Try.underlying5 Try.underlying9 (fun j hj => by
    have h2 := h1 (2 + j) (.int .u8 (s.data.toList[j].toNat : Int)) (by
      rw [textB_short s hs]
      simp only [bcells, List.getElem?_map]
      rw [List.getElem?_append_right (by rw [leB_length]; omega), leB_length, show 2 + j - 2 = j by omega, List.getElem?_eq_getElem hj]
      rfl)
    rw [← h2]
    congr 1
    unfold Addr.add
    split <;> simp_all)
  simpa using this

theorem conv_empty (w : World) (g c : Nat) (s : ByteArray) (hs : s.size ≤ 0) : (convert 30 9 (.slice (some ⟨g, 0, none⟩) 0 c)).run Try.prog w = .ok (.string s) w := by
  have e : s.data.toList.length = s.size := by simp
  have hl : s.data.toList = [] := List.eq_nil_of_length_eq_zero (by omega)
  have := run_convert_bytes_back (P := Try.prog) w 30 9 5 ⟨g, 0, none⟩ c s.data.toList Try.underlying30 Try.underlying5 Try.underlying9 (fun j hj => by rw [hl] at hj; simp at hj)
  rw [e, show s.size = 0 by omega] at this
  simpa using this

set_option maxHeartbeats 1000000 in
theorem own_walk (a : Option Addr) (c : Nat) (l : List UInt8) (s : ByteArray) (w : World) (hl : l.length ≤ 140737488355328) (hs : s.size ≤ maxLen)
    (hcv0 : (convert 30 9 (.slice a l.length c)).run Try.prog w = .ok (.string ⟨l.toArray⟩) w) :
    Calls Try.prog 7 #[.slice a l.length c, .string s] w fun e w' => e = .returned (.bool true) ∧ Below w.heap.size w w' := by
  unfold maxLen at hs
  obtain ⟨cap1, W1, hcv1, hsl1, hrow1, hsz1, hb1⟩ := bytes_made w l
  go_enter Try.func7, Try.ntmps7
  go_wp2_with fail
  refine (read_any _ _ l _ hsl1 hl (by simp)).mono ?_
  rintro e W2 ⟨p, ar, cr, rfl, hr2, hb2⟩
  have hrow2 := hrow1.below hb2 (by omega)
  have hB2 : Below w.heap.size w W2 := hb1.trans (hb2.mono (by omega))
  clear hcv0 hcv1 hsl1 hrow1
  go_wp2_with fail
  go_loopw [8] (fun i wr => ∃ k : Nat, k ≤ l.length ∧ i = .int .i64 k ∧ ROk wr W1.heap.size p ar cr l 0 ∧ Row8 wr w.heap.size l.length ∧ Below w.heap.size w wr) (fun i _ => l.length - (intOf i).toNat)
  case atStart => exact ⟨0, Nat.zero_le _, rfl, hr2, hrow2, hB2⟩
  case round =>
    obtain ⟨k, hk, rfl, hr3, hrow3, hB3⟩ := hrel
    by_cases hlt : k < l.length
    · obtain ⟨z, hz⟩ := hrow3.cell k hlt
      have hfz := hrow3.free k hlt
      go_wp2
      go_roundw
      case rel => exact ⟨k + 1, by omega, by go_num, hr3.setLow (by omega) _, hrow3.set k _, hB3.setCell (Nat.le_refl _) _⟩
      case measure => simp [intOf]; omega
    · clear hr2 hrow2 hB2 hb2 hrow3
      go_wp2_with fail
      go_loopw [9] (fun i ws => ∃ k : Nat, k ≤ l.length ∧ k ≤ 3 ∧ i = .int .i64 k ∧ (∃ a c, ROk ws W1.heap.size p a c (l.drop k) 0) ∧ Below w.heap.size w ws) (fun i _ => 3 - (intOf i).toNat)
      case atStart => exact ⟨0, by omega, by omega, rfl, ⟨_, _, hr3⟩, hB3⟩
      case round =>
        obtain ⟨k2, hk2, hk3, rfl, ⟨a4, c4, hr4⟩, hB4⟩ := hrel
        clear hr3 hB3 hlt hk
        by_cases hlt : k2 < l.length ∧ k2 < 3
        · obtain ⟨hlt1, hlt2⟩ := hlt
          have hby := rbyte_any _ _ _ _ _ _ _ hr4.drew
          rw [takeN_one l k2 hlt1] at hby
          have hix : ((l[k2].toNat : Int) != (((ByteArray.mk l.toArray)[k2]'(by simpa [ByteArray.size] using hlt1)).toNat : Int)) = false := by
            have e : (ByteArray.mk l.toArray)[k2]'(by simpa [ByteArray.size] using hlt1) = l[k2] := rfl
            rw [e]; simp
          go_wp2
          go_region_with (go_at_call 16; refine hby.mono ?_; rintro e w5 ⟨rfl, ⟨a5, c5, hr5⟩, hb5⟩)
          all_goals
            go_wp2
            go_roundw
            case rel => exact ⟨k2 + 1, by omega, by omega, by go_num, ⟨_, _, hr5⟩, hB4.drew.trans ((hr4.drew.toBelow hb5).mono (by omega))⟩
            case measure => simp [intOf]; omega
        · have hcs : ¬ (k2 < l.length) ∨ (k2 < l.length ∧ ¬ (k2 < 3)) := by omega
          have hsz4 := hB4.size
          clear hlt hr4
          rcases hcs with hc4 | ⟨hc4, hc5⟩
          all_goals
            by_cases hlong : 60000 < s.size
            · go_wp2_with (go_at_call 12; go_must (refine (lives_any _).mono ?_); rintro e w' ⟨rfl, hb⟩)
              go_ret
              exact ⟨rfl, hB4.trans (hb.mono hsz4)⟩
            · go_wp2_with fail
              refine (new_any _).mono ?_
              rintro e w' ⟨rfl, rfl⟩
              go_wp2_with fail
              refine (wtext_any wr.heap.size wr.heap.size _ [] s _ (WOk.new wr wr.heap.size (Nat.le_refl _)) (by unfold maxLen; omega) (by decide)).mono ?_
              rintro e w5 ⟨rfl, ⟨v5, hw5⟩, hb5⟩
              rw [List.nil_append] at hw5
              have hTl := textB_len s (by omega)
              have hB5 : Below w.heap.size w w5 := (hB4.alloc hsz4 _).trans (hb5.mono hsz4)
              have hsz5 : w.heap.size ≤ w5.heap.size := hB5.size
              clear hb5
              go_wp2_with fail
              refine (wdone_any _ _ _ _ _ hw5 (by omega)).mono ?_
              rintro e w6 ⟨r6, rfl, ho6, hb6⟩
              rw [hTl] at ho6
              obtain ⟨g, cx, rfl, hg5, hg6, hcx1, hcx2⟩ := own_some ho6 (by omega)
              have hrow6 := row8_of_own ho6 hTl.symm
              have HTl : Hid ((textB s).length = s.size + 2) := hTl
              clear hTl ho6
              unfold maxLen at hcx2
              go_wp2_with fail
              go_loopw [12] (fun i wt => ∃ k : Nat, k ≤ s.size + 2 ∧ i = .int .i64 k ∧ Row8 wt g (s.size + 2) ∧ Below w5.heap.size w5 wt) (fun i _ => s.size + 2 - (intOf i).toNat)
              case atStart => exact ⟨0, by omega, rfl, hrow6, hb6⟩
              case round =>
                obtain ⟨k7, hk7, rfl, hrow7, hb7⟩ := hrel
                by_cases hlt7 : k7 < s.size + 2
                · obtain ⟨z, hz⟩ := hrow7.cell k7 hlt7
                  have hfz := hrow7.free k7 hlt7
                  go_wp2
                  go_roundw
                  case rel => exact ⟨k7 + 1, by omega, by go_num, hrow7.set k7 _, hb7.setCell hg5 _⟩
                  case measure => simp [intOf]; omega
                · have hw7 := hw5.below hb7 (Nat.le_refl _)
                  have hB7 := hB5.trans (hb7.mono hsz5)
                  have hsz7 := hB7.size
                  clear hrow6 hb6 hrow7
                  go_wp2_with fail
                  refine (wdone_any _ _ _ _ _ hw7 (by have := HTl.out; omega)).mono ?_
                  rintro e w8 ⟨r8, rfl, ho8, hb8⟩
                  rw [HTl.out] at ho8
                  obtain ⟨g8, c8, rfl, hg8, hg9, hc81, hc82⟩ := own_some ho8 (by omega)
                  unfold maxLen at hc82
                  have hcv8 := conv_text (by omega) ho8
                  clear ho8
                  by_cases hc8 : c8 = 2
                  · subst hc8
                    have hcv9 := conv_empty w8 g8 0 s (by omega)
                    clear hcv8
                    go_wp2_with (go_at_call 12; go_must (refine (lives_any _).mono ?_); rintro e w' ⟨rfl, hb⟩)
                    go_ret
                    exact ⟨rfl, (hB7.trans (hb8.mono hsz7)).trans (hb.mono (by have := hb8.size; omega))⟩
                  · go_wp2_with (go_at_call 12; go_must (refine (lives_any _).mono ?_); rintro e w' ⟨rfl, hb⟩)
                    go_ret
                    exact ⟨rfl, (hB7.trans (hb8.mono hsz7)).trans (hb.mono (by have := hb8.size; omega))⟩
end Go.Proofs.Ytdknodmdndkneaa
