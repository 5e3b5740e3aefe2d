/-
  The walk of EncCut.
-/
import Derived.Test.YtdknodmdndkneaaTf
namespace Go.Proofs.Ytdknodmdndkneaa
open Go.RowKit

theorem SlB.take {w : World} {a : Option Addr} {l : List UInt8} (h : SlB w a l) (m : Nat) : SlB w a (l.take m) :=
  ⟨fun e => by rw [h.nonil e]; simp, fun x hx j u hu => h.cells x hx j u (by
    simp only [bcells, List.map_take] at hu
    rw [List.getElem?_take] at hu
    split at hu
    · exact hu
    · simp at hu)⟩

theorem takeN_err (k : Nat) (l : List UInt8) (err : Int) (h : err ≠ 0) : takeN k l err = (l, err, 0) := by simp [takeN, h]

/-- What is left of a cut row ahead of the j-th thing: all of that thing, and more; or a part of it. -/
theorem rem_full (t r : List UInt8) (q : Nat) (h : t.length ≤ q) : (t ++ r).take q = t ++ r.take (q - t.length) := by
  rw [List.take_append, List.take_of_length_le h]

theorem rem_cut (t r : List UInt8) (q : Nat) (h : q < t.length) : (t ++ r).take q = t.take q := by
  rw [List.take_append, show q - t.length = 0 by omega]
  simp

set_option maxHeartbeats 1000000 in
theorem cut_walk (a : Option Addr) (n c : Nat) (cut : Int) (K N : Nat → Int) (S : Nat → ByteArray) (w : World) (hT : Things w a n K N S) (hn : n ≤ maxLen) :
    Calls Try.prog 6 #[.slice a n c, .int .i64 cut] w fun e w' => e = .returned (.bool true) ∧ Below w.heap.size w w' := by
  unfold maxLen at hn
  go_enter Try.func6, Try.ntmps6
  go_wp2_with fail
  refine (new_any _).mono ?_
  rintro e w' ⟨rfl, rfl⟩
  go_wp2_with fail
  go_loopw [6] (fun i wr => ∃ k : Nat, k ≤ n ∧ k ≤ 60 ∧ i = .int .i64 k ∧ (∀ j, j < k → (S j).size ≤ 65535) ∧ (∃ v, WOk wr w.heap.size w.heap.size v (encT K N S k)) ∧ Below w.heap.size w wr) (fun i _ => 60 - (intOf i).toNat)
  case atStart => exact ⟨0, by omega, by omega, rfl, fun j hj => by omega, ⟨_, WOk.new w w.heap.size (Nat.le_refl _)⟩, (Below.refl _ _).alloc (Nat.le_refl _) _⟩
  case round =>
    obtain ⟨k, hk, hk60, rfl, hsh, ⟨v, hW⟩, hbel⟩ := hrel
    have hlen := encT_le K N S k
    have Hsh : Hid (∀ j, j < k → (S j).size ≤ 65535) := hsh
    clear hsh
    by_cases hlt : k < n ∧ k < 60
    · obtain ⟨hlt1, hlt2⟩ := hlt
      obtain ⟨b, o, rfl, hb, hc0, hc1, hc2⟩ := hT.at hbel k hlt1
      obtain ⟨hN0, hN1, hS⟩ := hT.ok k hlt1
      by_cases hlong : 65535 < (S k).size
      · unfold maxLen at hS
        go_wp2_with (go_at_call 12; go_must (refine (lives_any _).mono ?_); rintro e w2 ⟨rfl, hb2⟩)
        go_ret
        exact ⟨rfl, hbel.trans (hb2.mono hbel.size)⟩
      · have hlay := lay_any _ _ _ _ (K k) (N k) (S k) _ hW hN0 hS (by omega)
        unfold maxLen at hS
        go_wp2_with (go_at_call 9; go_must (refine hlay.mono ?_); rintro e w1 ⟨rfl, hW1, hb1⟩)
        go_roundw
        case rel => exact ⟨k + 1, by omega, by omega, by go_num, fun j hj => by
          by_cases e : j = k
          · subst e; omega
          · exact Hsh.out j (by omega), hW1, hbel.trans hb1⟩
        case measure => simp [intOf]; omega
    · obtain ⟨hbel0, hsz0⟩ : Below w.heap.size w wr ∧ w.heap.size ≤ wr.heap.size := ⟨hbel, hbel.size⟩
      have hcs : ¬ (k < n) ∨ (k < n ∧ ¬ (k < 60)) := by omega
      clear hlt
      rcases hcs with hc4 | ⟨hc4, hc5⟩
      all_goals
        go_wp2_with fail
        refine (wdone_any _ _ _ _ _ hW (by omega)).mono ?_
        rintro e w1 ⟨r1, rfl, ho1, hb1⟩
        obtain ⟨ax, cx, rfl⟩ := ownsRow_shape ho1
        obtain ⟨hsl1, _, _⟩ := slB_of_own ho1
        have hbel1 := hbel0.trans (hb1.mono hsz0)
        have hsz1 := hbel1.size
        by_cases hz : (encT K N S k).length = 0
        · have hz' : (((encT K N S k).length : Int) == 0) = true := by simp [hz]
          rw [hz]
          clear hW ho1 hb1 hsl1 hbel hbel0 hsz0 hz hz'
          go_wp2_with (go_at_call 12; go_must (refine (lives_any _).mono ?_); rintro e w2 ⟨rfl, hb2⟩)
          go_ret
          exact ⟨rfl, hbel1.trans (hb2.mono hsz1)⟩
        · obtain ⟨g, hgv, hnc, hcm⟩ : ∃ g, ax = some ⟨g, 0, none⟩ ∧ (encT K N S k).length ≤ cx ∧ cx ≤ maxLen := by
            rcases ho1.2 with ⟨_, h⟩ | ⟨g, cap, _, h, _, _, h1, h2, _⟩
            · omega
            · simp at h
              obtain ⟨rfl, rfl⟩ := h
              exact ⟨g, rfl, h1, h2⟩
          subst hgv
          unfold maxLen at hcm
          have hlpos : 0 < (encT K N S k).length := by omega
          have hge0 : 0 ≤ IntKind.u64.wrap cut := by rw [IntKind.wrap_u64]; omega
          have hge1 : 0 ≤ IntKind.u64.wrap cut % ((encT K N S k).length : Int) := Int.emod_nonneg _ (by omega)
          have hle1 : IntKind.u64.wrap cut % ((encT K N S k).length : Int) < ((encT K N S k).length : Int) := Int.emod_lt_of_pos _ (by omega)
          clear hW ho1 hb1 hbel hbel0 hsz0 hz
          go_wp2_with fail
          have hmlt : (IntKind.u64.wrap cut % ((encT K N S k).length : Int)).toNat < (encT K N S k).length := by omega
          generalize (IntKind.u64.wrap cut % ((encT K N S k).length : Int)).toNat = m at *
          have hlm : ((encT K N S k).take m).length = m := by rw [List.length_take]; omega
          have hrd := read_any (some ⟨g, 0, none⟩) cx ((encT K N S k).take m) w1 (hsl1.take m) (by omega) (by simp)
          rw [hlm] at hrd
          refine hrd.mono ?_
          rintro e w2 ⟨p, ar, cr, rfl, hr2, hb2⟩
          have hbel2 := hbel1.trans (hb2.mono hsz1)
          have he := encT_encR K N S k 0
          rw [show encT K N S 0 = [] from rfl, List.nil_append, Nat.zero_add] at he
          rw [← he] at hr2
          clear he hrd hb2 hlm hge0 hge1 hle1 hsl1
          go_wp2_with fail
          go_loopw [9] (fun i ws => ∃ j : Nat, j ≤ k ∧ i = .int .i64 j ∧ (encT K N S j).length ≤ m ∧ (∃ a c, ROk ws w1.heap.size p a c ((encR K N S j (k - j)).take (m - (encT K N S j).length)) 0) ∧ Below w.heap.size w ws) (fun i _ => 60 - (intOf i).toNat)
          case atStart => exact ⟨0, by omega, rfl, by simp [encT], ⟨_, _, hr2⟩, hbel2⟩
          case round =>
            obtain ⟨j, hj, rfl, hjm, ⟨a3, c3, hr3⟩, hbel3⟩ := hrel
            clear hr2 hbel2
            have hsz3 := hbel3.size
            by_cases hjk : j < k
            · obtain ⟨b, o, rfl, hb, hc0, hc1, hc2⟩ := hT.at hbel3 j (by omega)
              obtain ⟨hN0, hN1, hS⟩ := hT.ok j (by omega)
              rw [show k - j = (k - (j + 1)) + 1 by omega, encR] at hr3
              by_cases hfull : (thingB (K j) (N j) (S j)).length ≤ m - (encT K N S j).length
              · rw [rem_full _ _ _ hfull] at hr3
                have htk := taken_full _ _ _ _ _ (K j) (N j) (S j) _ hr3 hN0 hN1 (Hsh.out j hjk)
                have hlj : (encT K N S (j + 1)).length = (encT K N S j).length + (thingB (K j) (N j) (S j)).length := by simp [encT]
                rw [show m - (encT K N S j).length - (thingB (K j) (N j) (S j)).length = m - (encT K N S (j + 1)).length by omega] at htk
                have hjm' : (encT K N S (j + 1)).length ≤ m := by omega
                clear hr3 hlj hfull hjm
                go_wp2_with fail
                refine htk.mono ?_
                rintro e w4 ⟨rfl, ⟨a4, c4, hr4⟩, hb4⟩
                have her := rerr_any _ _ _ _ _ _ _ hr4
                go_wp2_with (go_at_call 24; go_must (refine her.mono ?_); rintro e w5 ⟨rfl, rfl⟩)
                go_roundw
                case rel => exact ⟨j + 1, by omega, by go_num, hjm', ⟨_, _, hr4⟩, hbel3.trans (hb4.mono hsz1)⟩
                case measure => simp [intOf]; omega
              · rw [rem_cut _ _ _ (by omega)] at hr3
                have htk := taken_cut _ _ _ _ _ (K j) (N j) (S j) _ hr3 (by omega) (Hsh.out j hjk)
                clear hr3 hfull hjm
                generalize (thingB (K j) (N j) (S j)).take (m - (encT K N S j).length) = L at *
                go_wp2_with fail
                refine htk.mono ?_
                rintro e w4 ⟨⟨bb, rfl⟩, ⟨a4, c4, hr4⟩, hb4⟩
                have her := rerr_any _ _ _ _ _ _ _ hr4
                have hen := rend_any _ _ _ _ _ _ _ hr4
                rw [show endOf L 4 = 4 by simp [endOf]] at hen
                have hby := rbyte_any _ _ _ _ _ _ _ hr4
                rw [takeN_err 1 L 4 (by decide)] at hby
                have hbel4 := hbel3.trans (hb4.mono hsz1)
                have hsz4 := hbel4.size
                go_wp2_with (first | (go_at_call 24; go_must (refine her.mono ?_); rintro e w5 ⟨rfl, rfl⟩) | (go_at_call 25; go_must (refine hen.mono ?_); rintro e w5 ⟨rfl, rfl⟩) | (go_at_call 16; go_must (refine hby.mono ?_); rintro e w6 ⟨rfl, _, hg6⟩) | (go_at_call 12; go_must (refine (lives_any _).mono ?_); rintro e w7 ⟨rfl, hb7⟩))
                go_ret
                have hbel6 := hbel4.trans ((hr4.toBelow hg6).mono hsz1)
                exact ⟨rfl, hbel6.trans (hb7.mono hbel6.size)⟩
            · obtain rfl : j = k := by omega
              omega

end Go.Proofs.Ytdknodmdndkneaa
