/-
  The document's book: Serve (39).
-/
import Derived.Test.YtdlanenbbmnbhaaEb
import Derived.Test.YtdlanenbbmnbhaaCc
import Derived.Deep.DeepCutAuto
import Derived.Deep.RegionHeld3
namespace Go.Proofs.Ytdlanenbbmnbhaa
open Go.RowKit

theorem mixedO : Try.prog.follows .mixedOrders = true := by kernel_rfl
/-- Orders that are told. -/
def OrdA (w : World) (v : Value) (os : List Od) : Prop := w.ownsRow 0 51 5 v os.length (odVs os)
theorem OrdA.own {w : World} {B n : Nat} {v : Value} {os : List Od} (h : w.ownsRow B 51 5 v n (odVs os)) (hn : n = os.length) : OrdA w v os := by
  subst hn
  exact own_base h (Nat.zero_le _)
theorem OrdA.nil (w : World) : OrdA w (.slice none 0 0) [] := World.ownsRow_nil _ _ _ _
theorem OrdA.below {w w' : World} {v : Value} {os : List Od} (h : OrdA w v os) (hb : Below w.heap.size w w') : OrdA w' v os := own_below h hb
theorem OrdA.sl {w : World} {v : Value} {os : List Od} (h : OrdA w v os) : ∃ a c, v = .slice a os.length c ∧ SlD w a os := by
  obtain ⟨a, c, rfl⟩ := own_shape h
  exact ⟨a, c, rfl, SlD.own h rfl⟩
theorem OrdA.one {w w' : World} {v : Value} {os : List Od} {q : Nat} {M : Array Value} {e : TypeId} (h : OrdA w v os) (ho : One q w w') (hq : w.heap[q]? = some (.cells M e)) (h1 : e ≠ 51) : OrdA w' v os :=
  own_stay h fun k c _ hc => ho.block k (some_lt hc) (fun e2 => by
    subst e2
    rw [hq] at hc
    injection hc with hc
    injection hc with h3 h4
    exact h1 h4)
theorem run_od1 (W : World) (ty : TypeId) (base : Nat) (v : Value) (os : List Od) (n : Nat) (hn : n = os.length) (hown : W.ownsRow base 51 5 v n (odVs os)) (hb : base ≤ W.heap.size) (o : Od) (hl : n ≤ 100) :
    ∃ v' w', (Builtin.append_ #[39, 39] ty #[v, .slice (some ⟨W.heap.size, 0, none⟩) 1 1]).run Try.prog (W.alloc (.cells (odC o) 51)) = .ok v' w' ∧ w'.ownsRow base 51 5 v' (n + 1) (odVs (os ++ [o])) ∧ Below base W w' := by
  obtain ⟨i, z, h2, h3, h4, h5, h6⟩ := info51
  have ho := own_below hown ((Below.refl W.heap.size W).alloc (Nat.le_refl _) (.cells (odC o) 51))
  obtain ⟨v', w', hr, r1, r2⟩ := run_src (P := Try.prog) (W.alloc (.cells (odC o) 51)) 39 ty 51 i z 5 40 Try.underlying39 h2 h3 h4 h5 h6 (by decide) base v n (odVs os) ho (by simp; omega) (some ⟨W.heap.size, 0, none⟩) 1 1 (odVs [o]) (fun e => by cases e) (by rw [odVs_len]; simp) (fun b hb j u hu => by cases hb; exact (cell_odC (w := W) o).news j u hu) (one_odVs _) (by unfold maxLen; omega) (by omega)
  rw [← odVs_append] at r1
  exact ⟨v', w', hr, r1, grown_low ((Below.refl base W).alloc hb _) (by simp; omega) ho r2⟩
theorem run_od2 (W : World) (ty : TypeId) (base : Nat) (v : Value) (os : List Od) (n : Nat) (hn : n = os.length) (hown : W.ownsRow base 51 5 v n (odVs os)) (hb : base ≤ W.heap.size) (o : Od) (hl : n ≤ 100) :
    ∃ v' w', (Builtin.append_ #[39, 39] ty #[v, .slice (some ⟨W.heap.size, 0, none⟩) 1 1]).run Try.prog (W.alloc (.cells (odC o) 51)).drew = .ok v' w' ∧ w'.ownsRow base 51 5 v' (n + 1) (odVs (os ++ [o])) ∧ Below base W w' := by
  obtain ⟨v', w', h1, h2, h3⟩ := run_od1 W.drew ty base v os n hn (own_below hown (Below.refl _ _).drew) hb o hl
  exact ⟨v', w', h1, h2, (Below.refl _ _).drew.trans h3⟩
theorem sl_rest {w : World} {b o : Nat} {l : List Int} (h : SlI w (some ⟨b, o, none⟩) l) : SlI w (some ⟨b, o + 1, none⟩) l.tail := by
  have := sl_drop h 1
  rwa [List.drop_one] at this
/-- A row of numbers, copied. -/
theorem run_in (W : World) (ty : TypeId) (so : Option Addr) (m c : Nat) (k : List Int) (hm : m = k.length) (hk : SlI W so k) (hso : so = none → c = 0) (b1 : m ≤ 1000) :
    ∃ a' d w', (Builtin.append_ #[42, 42] ty #[.slice none 0 0, .slice so m c]).run Try.prog W = .ok (.slice a' k.length d) w' ∧ SlI w' a' k ∧ k.length ≤ d ∧ (a' = none → d = 0) ∧ (∀ x, a' = some x → W.heap.size ≤ x.block) ∧ Below W.heap.size W w' := by
  obtain ⟨i, z, h2, h3, h4, h5, h6⟩ := info3
  obtain ⟨v', w', hr, r1, r2⟩ := run_src (P := Try.prog) W 42 ty 3 i z 1 8 Try.underlying42 h2 h3 h4 h5 h6 (by decide) W.heap.size (.slice none 0 0) 0 [] (World.ownsRow_nil _ _ _ _) (Nat.le_refl _) so m c (inVs k) (fun e => ⟨by rw [hm, hk.nonil e]; rfl, hso e⟩) (by simp [inVs, hm]) (sl_cells hk) (one_inVs k) (by unfold maxLen; omega) (by omega)
  rw [Nat.zero_add, List.nil_append, hm] at r1
  obtain ⟨a, d, rfl⟩ := own_shape r1
  refine ⟨a, d, w', hr, SlI.own r1 rfl, ?_, ?_, ?_, (Below.refl _ _).grown r2 (Nat.le_refl _) (fun k e => by simp [Value.ownBlock] at e)⟩
  · rcases own_addr r1 with ⟨_, h1, _⟩ | ⟨g, cur, _, _, _, h1, _⟩ <;> omega
  · intro e
    rcases own_addr r1 with ⟨_, _, h1⟩ | ⟨g, cur, h1, _⟩
    · exact h1
    · rw [e] at h1; cases h1
  · intro x e
    rcases own_addr r1 with ⟨h1, _⟩ | ⟨g, cur, h1, h2, _⟩
    · rw [e] at h1; cases h1
    · rw [e] at h1; cases h1; exact h2
theorem serve_call (i : Int) (fa lo : Bool) (ow k : Int) (r : List Int) (h : ow ≠ 0) : serveF i ⟨fa, ow, lo, false, k :: r⟩ = (⟨fa, ow, lo, true, k :: r⟩, [⟨2, i, ow, k, fa⟩]) := by simp [serveF, giveF, callF, h]
theorem serve_one (i : Int) (fa : Bool) (k : Int) (h : k ≠ 0) : serveF i ⟨fa, 0, false, false, [k]⟩ = (⟨fa, k, false, false, []⟩, [⟨1, i, 0, k, fa⟩]) := by simp [serveF, giveF, callF, h]
theorem serve_two (i : Int) (fa : Bool) (k k2 : Int) (r : List Int) (h : k ≠ 0) : serveF i ⟨fa, 0, false, false, k :: k2 :: r⟩ = (⟨fa, k, false, true, k2 :: r⟩, [⟨1, i, 0, k, fa⟩, ⟨2, i, k, k2, fa⟩]) := by simp [serveF, giveF, callF, h]
theorem sl_at_low {w w' : World} {B : Nat} {a : Option Addr} {l : List Int} (h : SlI w a l) (hb : Below B w w') (hn : ∀ x, a = some x → x.block < B ∨ w'.heap[x.block]? = w.heap[x.block]?) : SlI w' a l :=
  ⟨h.nonil, fun x hx i t ht => by
    obtain ⟨h0, h1⟩ := h.cells x hx i t ht
    refine ⟨h0, ?_⟩
    rcases hn x hx with e | e
    · rw [hb.cell (by exact e)]; exact h1
    · simp only [World.cell?] at h1 ⊢; rw [e]; exact h1, fun x hx hne => by
    obtain ⟨M, hM⟩ := h.typ x hx hne
    rcases hn x hx with e | e
    · exact ⟨M, by rw [hb.block _ e]; exact hM⟩
    · exact ⟨M, by rw [e]; exact hM⟩⟩
theorem map_set_x (L : List Pl) (i : Nat) (t : Pl) : (L.set i t).map (·.x) = (L.map (·.x)).set i t.x := by rw [List.map_set]

set_option maxHeartbeats 6000000 in
theorem serve39 {w : World} {v : Value} {L : List Pl} (h : Dl w v L) {i : Nat} (hi : i < L.length) (hp : LfPre L[i].x) (hl : L.length ≤ 16) :
    Calls Try.prog 39 #[v, .int .i64 (i : Int)] w fun e w' => ∃ v' vo L', e = .returned (.tuple #[v', vo]) ∧ Dl w' v' L' ∧ L'.map (·.x) = (L.map (·.x)).set i (serveF (i : Int) L[i].x).1 ∧ OrdA w' vo (serveF (i : Int) L[i].x).2 ∧ Below w.heap.size w w' := by
  obtain ⟨g, c, rfl, hg, hc, ho, c0, c1, c2, c3, c4⟩ := h.at hi
  have HH := toHid h
  have HP := toHid hp
  have HO := toHid ho
  have hlen := hp.len
  generalize hti : L[i] = t at *
  obtain ⟨x, a, d⟩ := t
  obtain ⟨fa, ow, lo, ca, ws⟩ := x
  dsimp only at c0 c1 c2 c3 c4 hlen ho ⊢
  obtain ⟨W0, hW0⟩ : ∃ W0, W0 = w.alloc (.cells (plA ⟨⟨fa, ow, lo, ca, ws⟩, a, d⟩) 65) := ⟨_, rfl⟩
  have hb0 : Below w.heap.size w W0 := hW0 ▸ (Below.refl _ _).alloc (Nat.le_refl _) _
  have hk0 : W0.heap[w.heap.size]? = some (.cells (plA ⟨⟨fa, ow, lo, ca, ws⟩, a, d⟩) 65) := hW0 ▸ heap_alloc_new w _
  have hz0 : W0.heap.size = w.heap.size + 1 := by rw [hW0]; simp
  have HB0 := toHid hb0
  have HK0 := toHid hk0
  have HZ0 := toHid hz0
  simp only [plA] at hW0
  have HW0 := toHid hW0
  clear h hp ho hti hb0 hk0 hz0 hW0
  by_cases h1 : ow = 0
  · subst h1
    cases lo
    · cases ws with
      | nil =>
        as_aux_lemma =>
        have HC := toHid (with40 (HH.out.below HB0.out) hi _ (HO.out.below HB0.out) hl)
        simp only [plA] at HC
        try simp only [List.length_nil] at HC HW0
        try simp only [List.length_cons] at HC HW0
        go_enter Try.func39, Try.ntmps39
        go_wp2_with fail
        rw [← HW0.out]
        refine Calls.mono HC.out ?_
        rintro e w2 ⟨v', rfl, hd, hb⟩
        have HD := toHid hd
        have HB := toHid (HB0.out.trans (hb.mono HB0.out.size))
        clear hd hb HC
        go_wp2
        refine bodyPost_ret (v := .tuple #[v', .slice none 0 0]) (by simp [results, Try.results39, go_sem]) rfl ⟨_, _, _, rfl, HD.out, ?_, ?_, HB.out⟩
        · rw [map_set_x]; simp [serveF, giveF, callF, *]
        · have hn := OrdA.nil w2; simp [serveF, giveF, callF, *]
      | cons k r =>
        obtain rfl : ca = false := by cases ca with | false => rfl | true => exact absurd rfl (HP.out.called rfl)
        have hk1 := HP.out.inst k (by simp)
        have hk : k ≠ 0 := by omega
        have hrl : r.length ≤ 8 := by simp at hlen; omega
        cases r with
        | nil =>
          obtain ⟨b, o, rfl, hb, e0⟩ := HO.out.row.at 0 (by simp)
          simp only [List.getElem_cons_zero, Nat.add_zero] at e0
          by_cases hd : d = 1
          · subst hd
            obtain ⟨W1, hW1⟩ : ∃ W1, W1 = w.alloc (.cells (plA ⟨⟨fa, k, false, false, k :: []⟩, some ⟨b, o, none⟩, 1⟩) 65) := ⟨_, rfl⟩
            have hb1 : Below w.heap.size w W1 := hW1 ▸ (Below.refl _ _).alloc (Nat.le_refl _) _
            have hk1 : W1.heap[w.heap.size]? = some (.cells (plA ⟨⟨fa, k, false, false, k :: []⟩, some ⟨b, o, none⟩, 1⟩) 65) := by rw [hW1]; exact heap_alloc_new w _
            have hz1 : W1.heap.size = w.heap.size + 1 := by rw [hW1]; simp
            simp only [plA] at hW1
            have HB1 := toHid hb1
            have HK1 := toHid hk1
            have HZ1 := toHid hz1
            have HW1 := toHid hW1
            clear hb1 hk1 hz1 hW1
            simp only [List.length_cons] at HW1 c4
            try simp only [List.length_nil] at HW1 c4
            have hd1 := HO.out.cap
            try simp only [List.length_cons] at hrl
            simp only [List.length_cons] at hd1
            go_enter Try.func39, Try.ntmps39
            go_wp2_with (at_builtin; go_must (first
              | (rw [← HW1.out]
                 obtain ⟨a2, d2, w2, hr, r1, r2', r3, hnb, r4⟩ := run_in W1 42 (some ⟨b, o, none⟩) 0 0 [] (by simp) (SlI.nil _ _) (fun e => by cases e) (by omega)
                 refine wpList_of_run rfl (.tmp 32) (.tmp 35) 42 rfl rfl rfl hr ?_
                 have HS2 := toHid r1
                 have HC2 := toHid r2'
                 have HN2 := toHid r3
                 have hlo2 := HB1.out.trans (r4.mono HB1.out.size)
                 have hk2 := (r4.block w.heap.size (by have := HZ1.out; omega)).trans HK1.out
                 have hz2 : w.heap.size + 1 ≤ w2.heap.size := by have := r4.size; have := HZ1.out; omega
                 obtain ⟨W3, hW3⟩ : ∃ W3, W3 = w2.setCell ⟨w.heap.size, 4, none⟩ (.slice a2 ([] : List Int).length d2) := ⟨_, rfl⟩
                 have hk3 : W3.heap[w.heap.size]? = some (.cells (plA ⟨⟨fa, k, false, false, []⟩, a2, d2⟩) 65) := by rw [hW3]; exact pl_waits hk2 a2 _ d2
                 have HZ3 := toHid (show w.heap.size + 1 ≤ W3.heap.size by rw [hW3]; simp only [World.setCell, Array.size_modify]; exact hz2)
                 have HE3 := toHid (show W3.heap.size = w2.heap.size by rw [hW3]; simp only [World.setCell, Array.size_modify])
                 have HL3 := toHid (show Below w.heap.size w W3 from hW3 ▸ hlo2.setCell (Nat.le_refl _) _)
                 have HS3 := toHid (show SlI W3 a2 ([]) from hW3 ▸ HS2.out.one ((One.refl _ _).set 4 _) (fun x hx e => by
                   have := hnb x hx; have := HZ1.out; omega))
                 obtain ⟨y0, y1, y2, y3, hp4⟩ := cells5 hk2
                 dsimp only at y0 y1 y2 y3 hp4
                 have hfz : w2.frozen? ⟨w.heap.size, 4, none⟩ = false := by simp [World.frozen?, hk2]
                 have HK3 := toHid hk3
                 have HNb := toHid hnb
                 simp only [List.length_cons] at HC2 hW3 hp4
                 try simp only [List.length_nil] at HC2 hW3 hp4
                 have HW3 := toHid hW3
                 clear hnb r1 r2' r3 r4 hr hlo2 hk2 hk3 e0 c0 c1 c2 c3 c4 hW3 HS2)
              | (rw [← HW3.out]
                 obtain ⟨v4, w4, hr, r1, r2'⟩ := run_od1 W3 39 W3.heap.size (.slice none 0 0) [] 0 rfl (World.ownsRow_nil _ _ _ _) (Nat.le_refl _) ⟨1, (i : Int), 0, k, fa⟩ (by omega)
                 simp only [odC, HE3.out] at hr
                 refine wpList_of_run rfl (.tmp 39) (.tmp 46) 39 rfl rfl rfl hr ?_
                 have HR4 := toHid r1
                 have HB4 := toHid r2'
                 have hk4 := (r2'.block w.heap.size (by have := HZ3.out; omega)).trans HK3.out
                 have HK4 := toHid hk4
                 have HL4 := toHid (HL3.out.trans (r2'.mono (by have := HZ3.out; omega)))
                 have HS4 := toHid (HS3.out.below r2')
                 have hz4 := toHid (Nat.le_trans HZ3.out r2'.size)
                 clear y0 y1 y2 y3 hp4
                 obtain ⟨y0, y1, y2, y3, y4⟩ := cells5 hk4
                 dsimp only at y0 y1 y2 y3 y4
                 try simp only [List.length_cons] at y4
                 try simp only [List.length_nil] at y4
                 clear r1 r2' hr hk4
                 have HC := toHid (with40 (HH.out.below HL4.out) hi ⟨⟨fa, k, false, false, []⟩, a2, d2⟩ ⟨HS4.out, HC2.out, HN2.out⟩ hl)
                 simp only [plA] at HC
                 try simp only [List.length_nil] at HC)))
            refine Calls.mono HC.out ?_
            rintro e w5 ⟨v', rfl, hd, hb⟩
            have HD := toHid hd
            have HB := toHid (HL4.out.trans (hb.mono HL4.out.size))
            have HOd := toHid ((OrdA.own HR4.out rfl).below hb)
            clear hd hb HC
            go_wp2
            refine bodyPost_ret (v := .tuple #[v', v4]) (by simp [results, Try.results39, go_sem]) rfl ⟨_, _, _, rfl, HD.out, ?_, ?_, HB.out⟩
            · rw [map_set_x, serve_one _ _ _ hk]
            · rw [serve_one _ _ _ hk]; exact HOd.out
          · obtain ⟨W1, hW1⟩ : ∃ W1, W1 = w.alloc (.cells (plA ⟨⟨fa, k, false, false, k :: []⟩, some ⟨b, o, none⟩, d⟩) 65) := ⟨_, rfl⟩
            have hb1 : Below w.heap.size w W1 := hW1 ▸ (Below.refl _ _).alloc (Nat.le_refl _) _
            have hk1 : W1.heap[w.heap.size]? = some (.cells (plA ⟨⟨fa, k, false, false, k :: []⟩, some ⟨b, o, none⟩, d⟩) 65) := by rw [hW1]; exact heap_alloc_new w _
            have hz1 : W1.heap.size = w.heap.size + 1 := by rw [hW1]; simp
            simp only [plA] at hW1
            have HB1 := toHid hb1
            have HK1 := toHid hk1
            have HZ1 := toHid hz1
            have HW1 := toHid hW1
            clear hb1 hk1 hz1 hW1
            simp only [List.length_cons] at HW1 c4
            try simp only [List.length_nil] at HW1 c4
            have hd1 := HO.out.cap
            try simp only [List.length_cons] at hrl
            simp only [List.length_cons] at hd1
            go_enter Try.func39, Try.ntmps39
            go_wp2_with (at_builtin; go_must (first
              | (rw [← HW1.out]
                 obtain ⟨a2, d2, w2, hr, r1, r2', r3, hnb, r4⟩ := run_in W1 42 (some ⟨b, o + 1, none⟩) 0 (d - 1) [] (by simp) (by simpa using sl_rest (HO.out.row.below HB1.out)) (fun e => by cases e) (by omega)
                 refine wpList_of_run rfl (.tmp 32) (.tmp 35) 42 rfl rfl rfl hr ?_
                 have HS2 := toHid r1
                 have HC2 := toHid r2'
                 have HN2 := toHid r3
                 have hlo2 := HB1.out.trans (r4.mono HB1.out.size)
                 have hk2 := (r4.block w.heap.size (by have := HZ1.out; omega)).trans HK1.out
                 have hz2 : w.heap.size + 1 ≤ w2.heap.size := by have := r4.size; have := HZ1.out; omega
                 obtain ⟨W3, hW3⟩ : ∃ W3, W3 = w2.setCell ⟨w.heap.size, 4, none⟩ (.slice a2 ([] : List Int).length d2) := ⟨_, rfl⟩
                 have hk3 : W3.heap[w.heap.size]? = some (.cells (plA ⟨⟨fa, k, false, false, []⟩, a2, d2⟩) 65) := by rw [hW3]; exact pl_waits hk2 a2 _ d2
                 have HZ3 := toHid (show w.heap.size + 1 ≤ W3.heap.size by rw [hW3]; simp only [World.setCell, Array.size_modify]; exact hz2)
                 have HE3 := toHid (show W3.heap.size = w2.heap.size by rw [hW3]; simp only [World.setCell, Array.size_modify])
                 have HL3 := toHid (show Below w.heap.size w W3 from hW3 ▸ hlo2.setCell (Nat.le_refl _) _)
                 have HS3 := toHid (show SlI W3 a2 ([]) from hW3 ▸ HS2.out.one ((One.refl _ _).set 4 _) (fun x hx e => by
                   have := hnb x hx; have := HZ1.out; omega))
                 obtain ⟨y0, y1, y2, y3, hp4⟩ := cells5 hk2
                 dsimp only at y0 y1 y2 y3 hp4
                 have hfz : w2.frozen? ⟨w.heap.size, 4, none⟩ = false := by simp [World.frozen?, hk2]
                 have HK3 := toHid hk3
                 have HNb := toHid hnb
                 simp only [List.length_cons] at HC2 hW3 hp4
                 try simp only [List.length_nil] at HC2 hW3 hp4
                 have HW3 := toHid hW3
                 clear hnb r1 r2' r3 r4 hr hlo2 hk2 hk3 e0 c0 c1 c2 c3 c4 hW3 HS2)
              | (rw [← HW3.out]
                 obtain ⟨v4, w4, hr, r1, r2'⟩ := run_od1 W3 39 W3.heap.size (.slice none 0 0) [] 0 rfl (World.ownsRow_nil _ _ _ _) (Nat.le_refl _) ⟨1, (i : Int), 0, k, fa⟩ (by omega)
                 simp only [odC, HE3.out] at hr
                 refine wpList_of_run rfl (.tmp 39) (.tmp 46) 39 rfl rfl rfl hr ?_
                 have HR4 := toHid r1
                 have HB4 := toHid r2'
                 have hk4 := (r2'.block w.heap.size (by have := HZ3.out; omega)).trans HK3.out
                 have HK4 := toHid hk4
                 have HL4 := toHid (HL3.out.trans (r2'.mono (by have := HZ3.out; omega)))
                 have HS4 := toHid (HS3.out.below r2')
                 have hz4 := toHid (Nat.le_trans HZ3.out r2'.size)
                 clear y0 y1 y2 y3 hp4
                 obtain ⟨y0, y1, y2, y3, y4⟩ := cells5 hk4
                 dsimp only at y0 y1 y2 y3 y4
                 try simp only [List.length_cons] at y4
                 try simp only [List.length_nil] at y4
                 clear r1 r2' hr hk4
                 have HC := toHid (with40 (HH.out.below HL4.out) hi ⟨⟨fa, k, false, false, []⟩, a2, d2⟩ ⟨HS4.out, HC2.out, HN2.out⟩ hl)
                 simp only [plA] at HC
                 try simp only [List.length_nil] at HC)))
            refine Calls.mono HC.out ?_
            rintro e w5 ⟨v', rfl, hd, hb⟩
            have HD := toHid hd
            have HB := toHid (HL4.out.trans (hb.mono HL4.out.size))
            have HOd := toHid ((OrdA.own HR4.out rfl).below hb)
            clear hd hb HC
            go_wp2
            refine bodyPost_ret (v := .tuple #[v', v4]) (by simp [results, Try.results39, go_sem]) rfl ⟨_, _, _, rfl, HD.out, ?_, ?_, HB.out⟩
            · rw [map_set_x, serve_one _ _ _ hk]
            · rw [serve_one _ _ _ hk]; exact HOd.out
        | cons k2 r2 =>
          obtain ⟨b, o, rfl, hb, e0⟩ := HO.out.row.at 0 (by simp)
          simp only [List.getElem_cons_zero, Nat.add_zero] at e0
          have hd : d ≠ 1 := by have := HO.out.cap; simp at this; omega
          obtain ⟨W1, hW1⟩ : ∃ W1, W1 = w.alloc (.cells (plA ⟨⟨fa, k, false, false, k :: k2 :: r2⟩, some ⟨b, o, none⟩, d⟩) 65) := ⟨_, rfl⟩
          have hb1 : Below w.heap.size w W1 := hW1 ▸ (Below.refl _ _).alloc (Nat.le_refl _) _
          have hk1 : W1.heap[w.heap.size]? = some (.cells (plA ⟨⟨fa, k, false, false, k :: k2 :: r2⟩, some ⟨b, o, none⟩, d⟩) 65) := by rw [hW1]; exact heap_alloc_new w _
          have hz1 : W1.heap.size = w.heap.size + 1 := by rw [hW1]; simp
          simp only [plA] at hW1
          have HB1 := toHid hb1
          have HK1 := toHid hk1
          have HZ1 := toHid hz1
          have HW1 := toHid hW1
          clear hb1 hk1 hz1 hW1
          simp only [List.length_cons] at HW1 c4
          try simp only [List.length_nil] at HW1 c4
          have hd1 := HO.out.cap
          try simp only [List.length_cons] at hrl
          simp only [List.length_cons] at hd1
          go_enter Try.func39, Try.ntmps39
          go_upto_region 11 with (at_builtin; go_must (first
            | (rw [← HW1.out]
               obtain ⟨a2, d2, w2, hr, r1, r2', r3, hnb, r4⟩ := run_in W1 42 (some ⟨b, o + 1, none⟩) (r2.length + 1) (d - 1) (k2 :: r2) (by simp) (by simpa using sl_rest (HO.out.row.below HB1.out)) (fun e => by cases e) (by omega)
               refine wpList_of_run rfl (.tmp 32) (.tmp 35) 42 rfl rfl rfl hr ?_
               have HS2 := toHid r1
               have HC2 := toHid r2'
               have HN2 := toHid r3
               have hlo2 := HB1.out.trans (r4.mono HB1.out.size)
               have hk2 := (r4.block w.heap.size (by have := HZ1.out; omega)).trans HK1.out
               have hz2 : w.heap.size + 1 ≤ w2.heap.size := by have := r4.size; have := HZ1.out; omega
               obtain ⟨W3, hW3⟩ : ∃ W3, W3 = w2.setCell ⟨w.heap.size, 4, none⟩ (.slice a2 (k2 :: r2 : List Int).length d2) := ⟨_, rfl⟩
               have hk3 : W3.heap[w.heap.size]? = some (.cells (plA ⟨⟨fa, k, false, false, k2 :: r2⟩, a2, d2⟩) 65) := by rw [hW3]; exact pl_waits hk2 a2 _ d2
               have HZ3 := toHid (show w.heap.size + 1 ≤ W3.heap.size by rw [hW3]; simp only [World.setCell, Array.size_modify]; exact hz2)
               have HE3 := toHid (show W3.heap.size = w2.heap.size by rw [hW3]; simp only [World.setCell, Array.size_modify])
               have HL3 := toHid (show Below w.heap.size w W3 from hW3 ▸ hlo2.setCell (Nat.le_refl _) _)
               have HS3 := toHid (show SlI W3 a2 (k2 :: r2) from hW3 ▸ HS2.out.one ((One.refl _ _).set 4 _) (fun x hx e => by
                 have := hnb x hx; have := HZ1.out; omega))
               obtain ⟨y0, y1, y2, y3, hp4⟩ := cells5 hk2
               dsimp only at y0 y1 y2 y3 hp4
               have hfz : w2.frozen? ⟨w.heap.size, 4, none⟩ = false := by simp [World.frozen?, hk2]
               have HK3 := toHid hk3
               have HNb := toHid hnb
               simp only [List.length_cons] at HC2 hW3 hp4
               try simp only [List.length_nil] at HC2 hW3 hp4
               have HW3 := toHid hW3
               clear hnb r1 r2' r3 r4 hr hlo2 hk2 hk3 e0 c0 c1 c2 c3 c4 hW3 HS2)
            | (rw [← HW3.out]
               obtain ⟨v4, w4, hr, r1, r2'⟩ := run_od1 W3 39 W3.heap.size (.slice none 0 0) [] 0 rfl (World.ownsRow_nil _ _ _ _) (Nat.le_refl _) ⟨1, (i : Int), 0, k, fa⟩ (by omega)
               simp only [odC, HE3.out] at hr
               refine wpList_of_run rfl (.tmp 39) (.tmp 46) 39 rfl rfl rfl hr ?_
               have HR4 := toHid r1
               have HB4 := toHid r2'
               have hk4 := (r2'.block w.heap.size (by have := HZ3.out; omega)).trans HK3.out
               have HK4 := toHid hk4
               have HL4 := toHid (HL3.out.trans (r2'.mono (by have := HZ3.out; omega)))
               have HS4 := toHid (HS3.out.below r2')
               have hz4 := toHid (Nat.le_trans HZ3.out r2'.size)
               clear y0 y1 y2 y3 hp4
               obtain ⟨y0, y1, y2, y3, y4⟩ := cells5 hk4
               dsimp only at y0 y1 y2 y3 y4
               try simp only [List.length_cons] at y4
               try simp only [List.length_nil] at y4
               clear r1 r2' hr hk4
               obtain ⟨bb, oo, ha2, hbb, e4⟩ := HS3.out.at 0 (by simp)
               simp only [List.getElem_cons_zero, Nat.add_zero] at e4
               subst ha2
               have hfz4 : w4.frozen? ⟨w.heap.size, 2, none⟩ = false := by simp [World.frozen?, HK4.out])))
          obtain ⟨W5, hW5⟩ : ∃ W5, W5 = w4.setCell ⟨w.heap.size, 2, none⟩ (.bool true) := ⟨_, rfl⟩
          have hk5 : W5.heap[w.heap.size]? = some (.cells (plA ⟨⟨fa, k, false, true, k2 :: r2⟩, some ⟨bb, oo, none⟩, d2⟩) 65) := by rw [hW5]; exact pl_called HK4.out true
          have hz5 : W5.heap.size = w4.heap.size := by rw [hW5]; simp only [World.setCell, Array.size_modify]
          have hl5 : Below w.heap.size w W5 := hW5 ▸ HL4.out.setCell (Nat.le_refl _) _
          have hb5 : Below W3.heap.size W3 W3 := Below.refl _ _
          have ho5 : W5.ownsRow W3.heap.size 51 5 v4 1 (odVs [⟨1, (i : Int), 0, k, fa⟩]) := by
            rw [hW5]
            exact own_stay HR4.out fun q c2 hq hc2 => heap_setCell_other _ _ _ _ (show q ≠ w.heap.size from fun e2 => by
              have h1 := (own_low HR4.out hq).1
              have := HZ3.out
              omega)
          have hs5 : SlI W5 (some ⟨bb, oo, none⟩) (k2 :: r2) := by
            rw [hW5]
            exact HS4.out.one ((One.refl w.heap.size w4).set 2 (.bool true)) (fun x hx e => by
              have := HNb.out x hx
              have := HZ1.out
              omega)
          obtain ⟨bb', oo', e5, hbb5, e6⟩ := hs5.at 0 (by simp)
          cases e5
          simp only [List.getElem_cons_zero, Nat.add_zero] at e6
          have HK5 := toHid hk5
          have HZ5 := toHid hz5
          have HL5 := toHid hl5
          have HO5 := toHid ho5
          have HS5 := toHid hs5
          have hz53 : W3.heap.size ≤ W5.heap.size := by rw [hz5]; exact HB4.out.size
          have HZ53 := toHid hz53
          have hbl : bb < W3.heap.size ∨ True := .inr trivial
          obtain ⟨x0, x1, x2, x3, x4⟩ := cells5 hk5
          dsimp only at x0 x1 x2 x3 x4
          simp only [List.length_cons] at x4
          rw [← hW5]
          clear hk5 hz5 hl5 hb5 ho5 hs5 hz53 hbl hW5 y0 y1 y2 y3 y4 e4
          have HT := toHid (show ∀ W, Below W3.heap.size W5 W → (W.cell? ⟨w.heap.size, 0, none⟩ = some (.int .i64 k) ∧ W.cell? ⟨w.heap.size, 3, none⟩ = some (.bool fa) ∧ W.cell? ⟨w.heap.size, 4, none⟩ = some (.slice (some ⟨bb, oo, none⟩) (r2.length + 1) d2) ∧ W.cell? ⟨bb, oo, none⟩ = some (.int .i64 k2) ∧ Below W3.heap.size W5 W) from fun W hb => ⟨by rw [hb.cell (show w.heap.size < W3.heap.size from HZ3.out)]; exact x0, by rw [hb.cell (show w.heap.size < W3.heap.size from HZ3.out)]; exact x3, by rw [hb.cell (show w.heap.size < W3.heap.size from HZ3.out)]; exact x4, by rw [hb.cell (show bb < W3.heap.size from hbb)]; exact e6, hb⟩)
          have hbd : Below W3.heap.size W5 W5.drew := (Below.refl _ _).drew
          have hba : Below W3.heap.size W5 (W5.alloc (.cells #[.int .i64 2, .int .i64 (i : Int), .int .i64 k, .int .i64 k2, .bool fa] 51)).drew := ((Below.refl _ _).alloc HZ53.out _).drew
          go_region_held3 (fun W => W.cell? ⟨w.heap.size, 0, none⟩ = some (.int .i64 k) ∧ W.cell? ⟨w.heap.size, 3, none⟩ = some (.bool fa) ∧ W.cell? ⟨w.heap.size, 4, none⟩ = some (.slice (some ⟨bb, oo, none⟩) (r2.length + 1) d2) ∧ W.cell? ⟨bb, oo, none⟩ = some (.int .i64 k2) ∧ Below W3.heap.size W5 W) (first | with_reducible assumption | (with_reducible refine HT.out _ ?_; with_reducible assumption)) (first
            | (obtain ⟨v6, w6, hr, r1, r2'⟩ := run_od2 W5 39 W3.heap.size v4 [⟨1, (i : Int), 0, k, fa⟩] 1 rfl HO5.out HZ53.out ⟨2, (i : Int), k, k2, fa⟩ (by omega); simp only [odC] at hr; refine step_of_run rfl (.tmp 63) (.tmp 74) 39 rfl rfl rfl hr ?_; have HR6 := toHid r1; have HB6 := toHid r2'; have hb6 := HB6.out; clear r1 r2' hr))
          have hlo : Below w.heap.size w w6 := HL5.out.trans (HB6.out.mono (by have := HZ3.out; omega))
          have hk6 : w6.heap[w.heap.size]? = some (.cells (plA ⟨⟨fa, k, false, true, k2 :: r2⟩, some ⟨bb, oo, none⟩, d2⟩) 65) := (HB6.out.block w.heap.size HZ3.out).trans HK5.out
          have HLo := toHid hlo
          have hs6 : SlI w6 (some ⟨bb, oo, none⟩) (k2 :: r2) := sl_at_low HS5.out HB6.out (fun x hx => .inl (by cases hx; exact hbb))
          have HC := toHid (with40 (HH.out.below hlo) hi ⟨⟨fa, k, false, true, k2 :: r2⟩, some ⟨bb, oo, none⟩, d2⟩ ⟨hs6, HC2.out, HN2.out⟩ hl)
          simp only [plA, List.length_cons] at HC
          obtain ⟨z0, z1, z2, z3, z4⟩ := cells5 hk6
          simp only [List.length_cons] at z4
          clear x0 x1 x2 x3 x4 hlo hk6 hs6 e6 hbd hba hb6
          go_wp2_with fail
          refine Calls.mono HC.out ?_
          rintro e w7 ⟨v', rfl, hd, hb⟩
          have HD := toHid hd
          have HB := toHid (HLo.out.trans (hb.mono HLo.out.size))
          have HOd := toHid ((OrdA.own HR6.out rfl).below hb)
          clear hd hb HC
          go_wp2
          refine bodyPost_ret (v := .tuple #[v', v6]) (by simp [results, Try.results39, go_sem]) rfl ⟨_, _, _, rfl, HD.out, ?_, ?_, HB.out⟩
          · rw [map_set_x, serve_two _ _ _ _ _ hk]
          · rw [serve_two _ _ _ _ _ hk]; exact HOd.out
    · as_aux_lemma =>
      have HC := toHid (with40 (HH.out.below HB0.out) hi _ (HO.out.below HB0.out) hl)
      simp only [plA] at HC
      try simp only [List.length_nil] at HC HW0
      try simp only [List.length_cons] at HC HW0
      go_enter Try.func39, Try.ntmps39
      go_wp2_with fail
      rw [← HW0.out]
      refine Calls.mono HC.out ?_
      rintro e w2 ⟨v', rfl, hd, hb⟩
      have HD := toHid hd
      have HB := toHid (HB0.out.trans (hb.mono HB0.out.size))
      clear hd hb HC
      go_wp2
      refine bodyPost_ret (v := .tuple #[v', .slice none 0 0]) (by simp [results, Try.results39, go_sem]) rfl ⟨_, _, _, rfl, HD.out, ?_, ?_, HB.out⟩
      · rw [map_set_x]; simp [serveF, giveF, callF, *]
      · have hn := OrdA.nil w2; simp [serveF, giveF, callF, *]
  · cases ca
    · cases ws with
      | nil =>
        as_aux_lemma =>
        have HC := toHid (with40 (HH.out.below HB0.out) hi _ (HO.out.below HB0.out) hl)
        simp only [plA] at HC
        try simp only [List.length_nil] at HC HW0
        try simp only [List.length_cons] at HC HW0
        go_enter Try.func39, Try.ntmps39
        go_wp2_with fail
        rw [← HW0.out]
        refine Calls.mono HC.out ?_
        rintro e w2 ⟨v', rfl, hd, hb⟩
        have HD := toHid hd
        have HB := toHid (HB0.out.trans (hb.mono HB0.out.size))
        clear hd hb HC
        go_wp2
        refine bodyPost_ret (v := .tuple #[v', .slice none 0 0]) (by simp [results, Try.results39, go_sem]) rfl ⟨_, _, _, rfl, HD.out, ?_, ?_, HB.out⟩
        · rw [map_set_x]; simp [serveF, giveF, callF, *]
        · have hn := OrdA.nil w2; simp [serveF, giveF, callF, *]
      | cons k r =>
        obtain ⟨b, o, rfl, hb, e0⟩ := HO.out.row.at 0 (by simp)
        simp only [List.getElem_cons_zero, Nat.add_zero] at e0
        obtain ⟨W1, hW1⟩ : ∃ W1, W1 = w.alloc (.cells (plA ⟨⟨fa, ow, lo, true, k :: r⟩, some ⟨b, o, none⟩, d⟩) 65) := ⟨_, rfl⟩
        have hb1 : Below w.heap.size w W1 := hW1 ▸ (Below.refl _ _).alloc (Nat.le_refl _) _
        have hk1 : W1.heap[w.heap.size]? = some (.cells (plA ⟨⟨fa, ow, lo, true, k :: r⟩, some ⟨b, o, none⟩, d⟩) 65) := by rw [hW1]; exact heap_alloc_new w _
        have hz1 : W1.heap.size = w.heap.size + 1 := by rw [hW1]; simp
        simp only [plA] at hW1
        have e1 : W1.cell? ⟨b, o, none⟩ = some (.int .i64 k) := by rw [hb1.cell hb]; exact e0
        have HB1 := toHid hb1
        have HK1 := toHid hk1
        have HZ1 := toHid hz1
        have HW1 := toHid hW1
        obtain ⟨x0, x1, x2, x3, x4⟩ := cells5 hk1
        clear hb1 hk1 hz1 hW1
        simp only [List.length_cons] at HW1 x4
        go_enter Try.func39, Try.ntmps39
        go_upto_region 11 with fail
        rw [← HW1.out]
        have HT := toHid (show ∀ W, Below (w.heap.size + 1) W1 W → (W.cell? ⟨w.heap.size, 0, none⟩ = some (.int .i64 ow) ∧ W.cell? ⟨w.heap.size, 3, none⟩ = some (.bool fa) ∧ W.cell? ⟨w.heap.size, 4, none⟩ = some (.slice (some ⟨b, o, none⟩) (r.length + 1) d) ∧ W.cell? ⟨b, o, none⟩ = some (.int .i64 k) ∧ Below (w.heap.size + 1) W1 W) from fun W hb => ⟨by rw [hb.cell (show w.heap.size < w.heap.size + 1 by omega)]; exact x0, by rw [hb.cell (show w.heap.size < w.heap.size + 1 by omega)]; exact x3, by rw [hb.cell (show w.heap.size < w.heap.size + 1 by omega)]; exact x4, by rw [hb.cell (show b < w.heap.size + 1 by omega)]; exact e1, hb⟩)
        have hbd : Below (w.heap.size + 1) W1 W1.drew := (Below.refl _ _).drew
        have hba : Below (w.heap.size + 1) W1 (W1.alloc (.cells #[.int .i64 2, .int .i64 (i : Int), .int .i64 ow, .int .i64 k, .bool fa] 51)).drew := ((Below.refl _ _).alloc (Nat.le_of_eq HZ1.out.symm) _).drew
        go_region_held3 (fun W => W.cell? ⟨w.heap.size, 0, none⟩ = some (.int .i64 ow) ∧ W.cell? ⟨w.heap.size, 3, none⟩ = some (.bool fa) ∧ W.cell? ⟨w.heap.size, 4, none⟩ = some (.slice (some ⟨b, o, none⟩) (r.length + 1) d) ∧ W.cell? ⟨b, o, none⟩ = some (.int .i64 k) ∧ Below (w.heap.size + 1) W1 W) (first | with_reducible assumption | (with_reducible refine HT.out _ ?_; with_reducible assumption)) (first
          | (obtain ⟨v3, w3, hr, r1, r2⟩ := run_od2 W1 39 (w.heap.size + 1) (.slice none 0 0) [] 0 rfl (World.ownsRow_nil _ _ _ _) (Nat.le_of_eq HZ1.out.symm) ⟨2, (i : Int), ow, k, fa⟩ (by omega); simp only [odC] at hr; refine step_of_run rfl (.tmp 63) (.tmp 74) 39 rfl rfl rfl hr ?_; have HR3 := toHid r1; have HB3 := toHid r2; have hb3 := HB3.out; clear r1 r2 hr))
        have hlo : Below w.heap.size w w3 := HB1.out.trans (HB3.out.mono (by omega))
        have hk3 : w3.heap[w.heap.size]? = some (.cells (plA ⟨⟨fa, ow, lo, true, k :: r⟩, some ⟨b, o, none⟩, d⟩) 65) := (HB3.out.block w.heap.size (by omega)).trans HK1.out
        have HLo := toHid hlo
        have HC := toHid (with40 (HH.out.below hlo) hi ⟨⟨fa, ow, lo, true, k :: r⟩, some ⟨b, o, none⟩, d⟩ ⟨HO.out.row.below hlo, HO.out.cap, HO.out.zero⟩ hl)
        simp only [plA, List.length_cons] at HC
        obtain ⟨y0, y1, y2, y3, y4⟩ := cells5 hk3
        simp only [List.length_cons] at y4
        clear x0 x1 x2 x3 x4 hlo hk3 e0 e1 c0 c1 c2 c3 c4
        go_wp2_with fail
        refine Calls.mono HC.out ?_
        rintro e w4 ⟨v', rfl, hd, hb⟩
        have HD := toHid hd
        have HB := toHid (HLo.out.trans (hb.mono HLo.out.size))
        have HOd := toHid ((OrdA.own HR3.out rfl).below hb)
        clear hd hb HC
        go_wp2
        refine bodyPost_ret (v := .tuple #[v', v3]) (by simp [results, Try.results39, go_sem]) rfl ⟨_, _, _, rfl, HD.out, ?_, ?_, HB.out⟩
        · rw [map_set_x, serve_call _ _ _ _ _ _ h1]
        · rw [serve_call _ _ _ _ _ _ h1]; exact HOd.out
    · as_aux_lemma =>
      have HC := toHid (with40 (HH.out.below HB0.out) hi _ (HO.out.below HB0.out) hl)
      simp only [plA] at HC
      try simp only [List.length_nil] at HC HW0
      try simp only [List.length_cons] at HC HW0
      go_enter Try.func39, Try.ntmps39
      go_wp2_with fail
      rw [← HW0.out]
      refine Calls.mono HC.out ?_
      rintro e w2 ⟨v', rfl, hd, hb⟩
      have HD := toHid hd
      have HB := toHid (HB0.out.trans (hb.mono HB0.out.size))
      clear hd hb HC
      go_wp2
      refine bodyPost_ret (v := .tuple #[v', .slice none 0 0]) (by simp [results, Try.results39, go_sem]) rfl ⟨_, _, _, rfl, HD.out, ?_, ?_, HB.out⟩
      · rw [map_set_x]; simp [serveF, giveF, callF, *]
      · have hn := OrdA.nil w2; simp [serveF, giveF, callF, *]
end Go.Proofs.Ytdlanenbbmnbhaa
