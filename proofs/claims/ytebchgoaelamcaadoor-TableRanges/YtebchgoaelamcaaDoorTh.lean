/-
  The stable sort, whole.
-/
import Derived.Test.YtebchgoaelamcaaDoorTf
import Derived.Test.YtebchgoaelamcaaDoorTg
namespace Go.Proofs.YtebchgoaelamcaaDoor
open Go.Shelf Go.RowKit Go.Lib Go.Sort
set_option maxRecDepth 1000000

theorem sym_all {blk N cap : Nat} {w0 : World} (F : Fam blk N w0) : ∀ n, Sym blk N cap w0 n
  | 0 => fun P A B S a m b w _ _ _ _ _ h1 h2 h3 => by omega
  | n + 1 => fun P A B S a m b w hA hB ha hm hb h1 h2 h3 za zm zb ea em eb h => by
    by_cases e1 : m = a + 1
    · match A, hm with
      | [x], _ => exact sym_left F P B S x hB a m b ha (by omega) hb h2 za zm zb ea em eb h
      | [], hm => simp at hm; omega
      | _ :: _ :: _, hm => simp at hm; omega
    · by_cases e2 : b = m + 1
      · match B, hb with
        | [y], _ => exact sym_right F P A S y hA a m b ha hm (by omega) (by omega) za zm zb ea em eb h
        | [], hb => simp at hb; omega
        | _ :: _ :: _, hb => simp at hb; omega
      · exact sym_main F (sym_all F n) P A B S hA hB a m b ha hm hb (by omega) (by omega) h3 za zm zb ea em eb h

/-- Where the first loop stands: D sorted by blocks of k, E as it was. -/
def Part (L : List Pq) (k a : Nat) (D E : List Pq) : Prop := (∃ q, D.length = q * k) ∧ D.length = a ∧ Blk k D ∧ Stb L (D ++ E)

theorem blk_head {k : Nat} {E : List Pq} (h : Blk k E) : Rise (E.take k) := by
  have := h 0
  rwa [Nat.zero_mul, List.drop_zero] at this
theorem blk_next {k : Nat} {E : List Pq} (h : Blk k E) : Rise ((E.drop k).take k) := by
  have := h 1
  rwa [Nat.one_mul] at this
theorem part_add {L D E R E' : List Pq} {k a : Nat} (h : Part L k a D E) (hR : Rise R) (hl : R.length = k) (hs : Stb E (R ++ E')) : Part L k (a + k) (D ++ R) E' := by
  obtain ⟨⟨q, hq⟩, ha, hb, hst⟩ := h
  refine ⟨⟨q + 1, by rw [List.length_append, hq, hl, Nat.add_mul, Nat.one_mul]⟩, by rw [List.length_append]; omega, blk_append q hq hb hR (by omega), ?_⟩
  rw [List.append_assoc]
  exact hst.trans ((Stb.refl D).append hs)
theorem part_end {L D E R : List Pq} {k a : Nat} (h : Part L k a D E) (hR : Rise R) (hl : R.length ≤ k) (hs : Stb E R) : Blk k (D ++ R) ∧ Stb L (D ++ R) := by
  obtain ⟨⟨q, hq⟩, ha, hb, hst⟩ := h
  exact ⟨blk_append q hq hb hR hl, hst.trans ((Stb.refl D).append hs)⟩
theorem stb_len {L M : List Pq} (h : Stb L M) : L.length = M.length := by
  have hp : L.Perm M := by
    rw [List.perm_iff_count]
    intro x
    have e := h x.1
    have c1 : L.count x = (fk x.1 L).count x := by rw [fk, List.count_filter (by simp)]
    have c2 : M.count x = (fk x.1 M).count x := by rw [fk, List.count_filter (by simp)]
    rw [c1, c2, e]
  exact hp.length_eq
theorem blk_tail2 {k : Nat} {E : List Pq} (h : Blk k E) : Blk k (E.drop (2 * k)) := blk_drop h 2

set_option maxHeartbeats 4000000 in
theorem stable_any {blk N cap : Nat} {w0 w : World} (hC : ∀ size, CmpLays Tryd.prog 54 #[] encP 2 cfP blk 0 size w0) (F : Fam blk N w0) (L : List Pq) (h : Rw blk N w0 L w) :
    Calls Tryd.prog 75 #[.slice (some ⟨blk, 0, none⟩) N cap, .int .i64 N, .func (.func 54) #[] #[]] w fun e w' => e = .returned (.tuple #[]) ∧ ∃ M, Rise M ∧ Stb L M ∧ Rw blk N w0 M w' := by
  have hfew := F.few
  have HN := toHid' h.1
  have HI : Hid (∀ (P A S : List Pq) (a b : Nat) (W : World), P.length = a → a + A.length = b → ∀ za zb : Int, za = a → zb = b → Rw blk N w0 (P ++ A ++ S) W → Calls Tryd.prog 85 #[.slice (some ⟨blk, 0, none⟩) N cap, .int .i64 za, .int .i64 zb, .func (.func 54) #[] #[]] W fun e w' => e = .returned (.tuple #[]) ∧ ∃ R, Rise R ∧ Stb A R ∧ Rw blk N w0 (P ++ R ++ S) w') := fun P A S a b W h1 h2 za zb e1 e2 hr => insert_part hC F P A S a b h1 h2 za zb e1 e2 hr
  have HS : Hid (∀ (P A B S : List Pq) (a m b : Nat) (W : World), Rise A → Rise B → P.length = a → a + A.length = m → m + B.length = b → a < m → m < b → ∀ za zm zb : Int, za = a → zm = m → zb = b → Rw blk N w0 (P ++ A ++ B ++ S) W → Calls Tryd.prog 98 #[.slice (some ⟨blk, 0, none⟩) N cap, .int .i64 za, .int .i64 zm, .int .i64 zb, .func (.func 54) #[] #[]] W fun e w' => e = .returned (.tuple #[]) ∧ ∃ R, Mrg A B R ∧ Rw blk N w0 (P ++ (R ++ S)) w') := fun P A B S a m b W hA hB h1 h2 h3 h4 h5 za zm zb e1 e2 e3 hr => sym_all F (b - a) P A B S a m b W hA hB h1 h2 h3 h4 h5 (Nat.le_refl _) za zm zb e1 e2 e3 hr
  have H0 : Hid (∃ D E : List Pq, Part L 20 0 D E ∧ Rw blk N w0 (D ++ E) w) := ⟨[], L, ⟨⟨0, rfl⟩, rfl, blk_nil _, Stb.refl _⟩, h⟩
  clear h F hC
  go_enter Tryd.func75, Tryd.ntmps75
  go_wp2_with fail
  go_loopw [7, 8] (fun va vb wr => ∃ a : Nat, a ≤ N ∧ va = .int .i64 a ∧ vb = .int .i64 ((a : Int) + 20) ∧ Hid (∃ D E : List Pq, Part L 20 a D E ∧ Rw blk N w0 (D ++ E) wr)) (fun va _ _ => N - (intOf va).toNat)
  case atStart => exact ⟨0, Nat.zero_le _, rfl, rfl, H0⟩
  case round =>
    clear H0
    obtain ⟨a, haN, rfl, rfl, HP⟩ := hrel
    by_cases hle : a + 20 ≤ N
    · have z1 : (a : Int) + 20 ≤ (N : Int) := by omega
      have HC : Hid (∀ za zb : Int, za = a → zb = ((a + 20 : Nat) : Int) → Calls Tryd.prog 85 #[.slice (some ⟨blk, 0, none⟩) N cap, .int .i64 za, .int .i64 zb, .func (.func 54) #[] #[]] wr fun e w' => e = .returned (.tuple #[]) ∧ ∃ D E : List Pq, Part L 20 (a + 20) D E ∧ Rw blk N w0 (D ++ E) w') := fun za zb e1 e2 => by
        obtain ⟨D, E, hp, hr⟩ := HP.out
        have hl : D.length + E.length = N := by have := hr.1; rwa [List.length_append] at this
        have hda := hp.2.1
        have ht : (E.take 20).length = 20 := by rw [List.length_take]; omega
        refine Calls.mono (HI.out D (E.take 20) (E.drop 20) a (a + 20) wr hda (by omega) za zb e1 e2 (by rw [List.append_assoc, List.take_append_drop]; exact hr)) ?_
        rintro e w' ⟨rfl, R, hR, hs, hw⟩
        have hRl : R.length = 20 := by have := stb_len hs; omega
        refine ⟨rfl, D ++ R, E.drop 20, part_add hp hR hRl ?_, hw⟩
        have := hs.append (Stb.refl (E.drop 20))
        rwa [List.take_append_drop] at this
      clear HP
      go_wp2_with fail
      refine Calls.mono (HC.out _ _ rfl (by omega)) ?_
      rintro e w2 ⟨rfl, hw2⟩
      have H2 := toHid' hw2
      clear hw2 HC
      go_wp2_with fail
      go_roundw
      case rel => exact ⟨a + 20, by omega, by simp, by simp, H2⟩
      case measure => simp only [intOf]; omega
    · have z1 : ¬ ((a : Int) + 20 ≤ (N : Int)) := by omega
      have HC : Hid (∀ za zb : Int, za = a → zb = (N : Int) → Calls Tryd.prog 85 #[.slice (some ⟨blk, 0, none⟩) N cap, .int .i64 za, .int .i64 zb, .func (.func 54) #[] #[]] wr fun e w' => e = .returned (.tuple #[]) ∧ ∃ M, Blk 20 M ∧ Stb L M ∧ Rw blk N w0 M w') := fun za zb e1 e2 => by
        obtain ⟨D, E, hp, hr⟩ := HP.out
        have hl : D.length + E.length = N := by have := hr.1; rwa [List.length_append] at this
        have hda := hp.2.1
        refine Calls.mono (HI.out D E [] a N wr hda (by omega) za zb e1 e2 (by rw [List.append_nil]; exact hr)) ?_
        rintro e w' ⟨rfl, R, hR, hs, hw⟩
        have hRl : R.length ≤ 20 := by have := stb_len hs; omega
        obtain ⟨h1, h2⟩ := part_end hp hR hRl hs
        exact ⟨rfl, D ++ R, h1, h2, by rwa [List.append_nil] at hw⟩
      clear HP
      go_wp2_with fail
      refine Calls.mono (HC.out _ _ rfl rfl) ?_
      rintro e w2 ⟨rfl, hw2⟩
      have H2 := toHid' hw2
      clear hw2 HC
      go_wp2_with fail
      go_loopw [6] (fun vk wk => ∃ k : Nat, 0 < k ∧ k ≤ 2 * N + 20 ∧ vk = .int .i64 k ∧ Hid (∃ M, Blk k M ∧ Stb L M ∧ Rw blk N w0 M wk)) (fun vk _ => N - (intOf vk).toNat)
      case atStart => exact ⟨20, by omega, by omega, rfl, H2⟩
      case round =>
        clear H2
        obtain ⟨k, hk0, hkN, rfl, HK⟩ := hrel
        by_cases hlk : k < N
        · have H3 : Hid (∃ D E : List Pq, Part L (2 * k) 0 D E ∧ Blk k E ∧ Rw blk N w0 (D ++ E) wr) := by
            obtain ⟨M, h1, h2, h3⟩ := HK.out
            exact ⟨[], M, ⟨⟨0, by simp⟩, rfl, blk_nil _, h2⟩, h1, h3⟩
          clear HK
          go_wp2_with fail
          go_loopw [7, 8] (fun va vb wr => ∃ a : Nat, a ≤ N ∧ va = .int .i64 a ∧ vb = .int .i64 ((a : Int) + 2 * (k : Int)) ∧ Hid (∃ D E : List Pq, Part L (2 * k) a D E ∧ Blk k E ∧ Rw blk N w0 (D ++ E) wr)) (fun va _ _ => N - (intOf va).toNat)
          case atStart => exact ⟨0, Nat.zero_le _, rfl, by simp, H3⟩
          case round =>
            clear H3
            obtain ⟨a, haN, rfl, rfl, HP⟩ := hrel
            by_cases hle : a + 2 * k ≤ N
            · have z1 : (a : Int) + 2 * (k : Int) ≤ (N : Int) := by omega
              have HC : Hid (∀ za zm zb : Int, za = a → zm = ((a + k : Nat) : Int) → zb = ((a + k + k : Nat) : Int) → Calls Tryd.prog 98 #[.slice (some ⟨blk, 0, none⟩) N cap, .int .i64 za, .int .i64 zm, .int .i64 zb, .func (.func 54) #[] #[]] wr fun e w' => e = .returned (.tuple #[]) ∧ ∃ D E : List Pq, Part L (2 * k) (a + 2 * k) D E ∧ Blk k E ∧ Rw blk N w0 (D ++ E) w') := fun za zm zb e1 e2 e3 => by
                obtain ⟨D, E, hp, hbk, hr⟩ := HP.out
                have hl : D.length + E.length = N := by have := hr.1; rwa [List.length_append] at this
                have hda := hp.2.1
                have t1 : (E.take k).length = k := by rw [List.length_take]; omega
                have t2 : ((E.drop k).take k).length = k := by rw [List.length_take, List.length_drop]; omega
                have hE : E = E.take k ++ (E.drop k).take k ++ E.drop (2 * k) := by
                  have h1 := List.take_append_drop k (E.drop k)
                  rw [List.drop_drop, show k + k = 2 * k by omega] at h1
                  rw [List.append_assoc, h1, List.take_append_drop]
                have hr' : Rw blk N w0 (D ++ E.take k ++ (E.drop k).take k ++ E.drop (2 * k)) wr := by
                  have := hr
                  rw [hE] at this
                  simpa only [List.append_assoc] using this
                refine Calls.mono (HS.out D (E.take k) ((E.drop k).take k) (E.drop (2 * k)) a (a + k) (a + k + k) wr (blk_head hbk) (blk_next hbk) hda (by omega) (by omega) (by omega) (by omega) za zm zb e1 e2 e3 hr') ?_
                rintro e w' ⟨rfl, R, hM, hw⟩
                have hRl : R.length = 2 * k := by have := hM.length; omega
                refine ⟨rfl, D ++ R, E.drop (2 * k), part_add hp hM.1 hRl ?_, blk_tail2 hbk, by rw [List.append_assoc]; exact hw⟩
                have := hM.2.append (Stb.refl (E.drop (2 * k)))
                rwa [← hE] at this
              clear HP
              go_wp2_with fail
              refine Calls.mono (HC.out _ _ _ rfl (by omega) (by omega)) ?_
              rintro e w2 ⟨rfl, hw2⟩
              have H2 := toHid' hw2
              clear hw2 HC
              go_wp2_with fail
              go_roundw
              case rel => exact ⟨a + 2 * k, by omega, by simp; try omega, by simp; try omega, H2⟩
              case measure => simp only [intOf]; omega
            · have z1 : ¬ ((a : Int) + 2 * (k : Int) ≤ (N : Int)) := by omega
              by_cases hmn : a + k < N
              · have z2 : (a : Int) + (k : Int) < (N : Int) := by omega
                have HC : Hid (∀ za zm zb : Int, za = a → zm = ((a + k : Nat) : Int) → zb = (N : Int) → Calls Tryd.prog 98 #[.slice (some ⟨blk, 0, none⟩) N cap, .int .i64 za, .int .i64 zm, .int .i64 zb, .func (.func 54) #[] #[]] wr fun e w' => e = .returned (.tuple #[]) ∧ ∃ M, Blk (2 * k) M ∧ Stb L M ∧ Rw blk N w0 M w') := fun za zm zb e1 e2 e3 => by
                  obtain ⟨D, E, hp, hbk, hr⟩ := HP.out
                  have hl : D.length + E.length = N := by have := hr.1; rwa [List.length_append] at this
                  have hda := hp.2.1
                  have t1 : (E.take k).length = k := by rw [List.length_take]; omega
                  have t2 : (E.drop k).length = N - a - k := by rw [List.length_drop]; omega
                  have hB2 : Rise (E.drop k) := by
                    have := blk_next hbk
                    rwa [List.take_of_length_le (by omega)] at this
                  refine Calls.mono (HS.out D (E.take k) (E.drop k) [] a (a + k) N wr (blk_head hbk) hB2 hda (by omega) (by omega) (by omega) (by omega) za zm zb e1 e2 e3 (by rw [List.append_nil, List.append_assoc, List.take_append_drop]; exact hr)) ?_
                  rintro e w' ⟨rfl, R, hM, hw⟩
                  have hRl : R.length ≤ 2 * k := by have := hM.length; omega
                  have hs := hM.2
                  rw [List.take_append_drop] at hs
                  obtain ⟨h1, h2⟩ := part_end hp hM.1 hRl hs
                  exact ⟨rfl, D ++ R, h1, h2, by rwa [List.append_nil] at hw⟩
                clear HP
                go_wp2_with fail
                refine Calls.mono (HC.out _ _ _ rfl (by omega) rfl) ?_
                rintro e w2 ⟨rfl, hw2⟩
                have H2 := toHid' hw2
                clear hw2 HC
                go_wp2_with fail
                go_roundw
                case rel => exact ⟨2 * k, by omega, by omega, by simp; try omega, H2⟩
                case measure => simp only [intOf]; omega
              · have z2 : ¬ ((a : Int) + (k : Int) < (N : Int)) := by omega
                have H2 : Hid (∃ M, Blk (2 * k) M ∧ Stb L M ∧ Rw blk N w0 M wr) := by
                  obtain ⟨D, E, hp, hbk, hr⟩ := HP.out
                  have hl : D.length + E.length = N := by have := hr.1; rwa [List.length_append] at this
                  have hda := hp.2.1
                  have hE : Rise E := by
                    have := blk_head hbk
                    rwa [List.take_of_length_le (by omega)] at this
                  obtain ⟨h1, h2⟩ := part_end hp hE (by omega) (Stb.refl _)
                  exact ⟨D ++ E, h1, h2, hr⟩
                clear HP
                go_wp2_with fail
                go_roundw
                case rel => exact ⟨2 * k, by omega, by omega, by simp; try omega, H2⟩
                case measure => simp only [intOf]; omega
        · have HE : Hid (∃ M, Rise M ∧ Stb L M ∧ Rw blk N w0 M wr) := by
            obtain ⟨M, h1, h2, h3⟩ := HK.out
            exact ⟨M, blk_whole h1 (by have := h3.1; omega), h2, h3⟩
          go_wp2_with fail
          go_end0
          exact ⟨rfl, HE.out⟩
end Go.Proofs.YtebchgoaelamcaaDoor
