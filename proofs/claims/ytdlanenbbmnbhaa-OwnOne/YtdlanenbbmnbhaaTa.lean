/-
  told: who has a page, as far as the orders tell it.
-/
import Derived.Test.YtdlanenbbmnbhaaMb
import Derived.Test.YtdlanenbbmnbhaaBc
import Derived.Laws.Tables
import Derived.Laws.Rows
namespace Go.Proofs.Ytdlanenbbmnbhaa
open Go.RowKit

/-- Sixteen numbers. -/
def AI (f : Nat → Int) : Array Value := ((List.range 16).map fun j => Value.int .i64 (f j)).toArray
theorem AI_size (f : Nat → Int) : (AI f).size = 16 := by simp [AI]
theorem AI_at (f : Nat → Int) (j : Nat) (hj : j < 16) : (AI f)[j]? = some (.int .i64 (f j)) := by simp [AI, hj]
theorem AI_one (f : Nat → Int) : (AI f).all (·.oneCell') = true := by
  rw [Array.all_eq_true_iff_forall_mem]
  intro v hv
  simp only [AI, List.mem_toArray, List.mem_map] at hv
  obtain ⟨j, -, rfl⟩ := hv
  rfl
theorem AI_set (f : Nat → Int) (j : Nat) (hj : j < 16) (v : Int) : (AI f).setIfInBounds j (.int .i64 v) = AI (upd f j v) := by
  refine Array.ext_getElem? fun i => ?_
  rw [Array.getElem?_setIfInBounds]
  by_cases e : j = i
  · subst e
    rw [if_pos rfl, if_pos (by rw [AI_size]; exact hj), AI_at _ _ hj, upd_self]
  · rw [if_neg e]
    by_cases hi : i < 16
    · rw [AI_at _ _ hi, AI_at _ _ hi, upd_ne _ _ (fun x => e x.symm)]
    · rw [Array.getElem?_eq_none (by rw [AI_size]; omega), Array.getElem?_eq_none (by rw [AI_size]; omega)]
theorem AI_zero : AI (fun _ => 0) = #[.int .i64 0, .int .i64 0, .int .i64 0, .int .i64 0, .int .i64 0, .int .i64 0, .int .i64 0, .int .i64 0, .int .i64 0, .int .i64 0, .int .i64 0, .int .i64 0, .int .i64 0, .int .i64 0, .int .i64 0, .int .i64 0] := rfl
theorem AI_cell {w : World} {g T : Nat} {f : Nat → Int} (h : w.heap[g]? = some (.cells (AI f) T)) (j : Nat) (hj : j < 16) : w.cell? ⟨g, j, none⟩ = some (.int .i64 (f j)) ∧ w.frozen? ⟨g, j, none⟩ = false := by
  have := AI_at f j hj
  exact ⟨by simp [World.cell?, h, this], by simp [World.frozen?, h]⟩

/-- An order that may be told. -/
def okO (f : Nat → Int) (o : Od) : Prop := ∃ p : Nat, o.page = (p : Int) ∧ p < 16 ∧ ((o.kind = 1 ∧ f p = 0 ∧ 1 ≤ o.to ∧ o.frm = 0) ∨ (o.kind = 2 ∧ f p = o.frm ∧ o.frm ≠ 0 ∧ o.to ≠ o.frm))
def nextF (f : Nat → Int) (o : Od) : Nat → Int := if o.kind = 1 then upd f o.page.toNat o.to else f
def OkL (f : Nat → Int) : List Od → Prop
  | [] => True
  | o :: r => okO f o ∧ OkL (nextF f o) r
def foldF (f : Nat → Int) : List Od → (Nat → Int)
  | [] => f
  | o :: r => foldF (nextF f o) r

theorem below_setRow {B : Nat} {w w' : World} (h : Below B w w') (g : Nat) (cs : Array Value) (hg : B ≤ g) : Below B w (w'.setRow g cs) :=
  ⟨h.os, h.tape, h.output, by rw [setRow_size]; exact h.size, fun k hk => by rw [setRow_other _ _ _ _ (by omega)]; exact h.block k hk⟩

theorem results_cell_tmp {P : Program} {fn : Func} {p q : Tmp} {ty : TypeId} (h : fn.results = #[.cell p ty, .tmp q]) (tmps : Array Value) (w : World) (g : Nat) (c v : Value)
    (hp : tmps.getD p undef = .pointer (some ⟨g, 0, none⟩)) (hq : tmps.getD q undef = v) (hl : (loadVar ty ⟨g, 0, none⟩).run P w = .ok c w) :
    (results fn tmps).run P w = .ok (.tuple #[c, v]) w := by
  have hp' : tmps[p]?.getD undef = .pointer (some ⟨g, 0, none⟩) := by simpa using hp
  have hq' : tmps[q]?.getD undef = v := by simpa using hq
  simp [results, h, hp', hq', asAddr, hl]

set_option maxRecDepth 20000 in
set_option maxHeartbeats 2000000 in
theorem told_any (f : Nat → Int) (a : Option Addr) (c : Nat) (os : List Od) (w : World) (hs : SlD w a os) (hl : os.length ≤ 2) (hok : OkL f os) :
    Calls Try.prog 18 #[.agg (AI f), .slice a os.length c] w fun e w' => e = .returned (.tuple #[.agg (AI (foldF f os)), .bool true]) ∧ Below w.heap.size w w' := by
  have HS := toHid hs
  have HOk := toHid hok
  have j1 := heap_alloc_new w (.cells (AI f) 37)
  have b1 := (Below.refl w.heap.size w).alloc (Nat.le_refl _) (.cells (AI f) 37)
  have z1 : (w.alloc (.cells (AI f) 37)).heap.size = w.heap.size + 1 := by simp
  have j2 := heap_alloc_new (w.alloc (.cells (AI f) 37)) (.cells (AI fun _ => 0) 37)
  rw [z1] at j2
  have b2 := b1.alloc (by omega) (.cells (AI fun _ => 0) 37)
  have j3 : ((w.alloc (.cells (AI f) 37)).alloc (.cells (AI fun _ => 0) 37)).heap[w.heap.size]? = some (.cells (AI f) 37) := by
    rw [((Below.refl (w.alloc (.cells (AI f) 37)).heap.size _).alloc (Nat.le_refl _) _).block _ (by omega)]
    exact j1
  rw [AI_zero] at j2 b2 j3
  have HA := toHid j3
  have HR := toHid j2
  have HB := toHid b2
  have hcell : (Value.agg (AI f)).cells = AI f := rfl
  clear hs hok j1 b1 z1 j2 b2 j3
  go_enter Try.func18, Try.ntmps18
  go_wp2_with fail
  generalize World.alloc (World.alloc _ _) _ = W0 at HA HR HB ⊢
  obtain ⟨g, hg⟩ : ∃ g, g = w.heap.size := ⟨_, rfl⟩
  obtain ⟨r, hr⟩ : ∃ r, r = w.heap.size + 1 := ⟨_, rfl⟩
  have hgr : g ≠ r := by omega
  have hgw : w.heap.size ≤ g := by omega
  have hrw : w.heap.size ≤ r := by omega
  rw [← hr] at HR ⊢
  rw [← hg] at HA ⊢
  clear hg hr
  go_loopw [6] (fun i wr => ∃ (k : Nat) (f' : Nat → Int), k ≤ os.length ∧ i = .int .i64 k ∧ OkL f' (os.drop k) ∧ foldF f' (os.drop k) = foldF f os ∧ wr.heap[g]? = some (.cells (AI f') 37) ∧ wr.heap[r]? = some (.cells #[.int .i64 0, .int .i64 0, .int .i64 0, .int .i64 0, .int .i64 0, .int .i64 0, .int .i64 0, .int .i64 0, .int .i64 0, .int .i64 0, .int .i64 0, .int .i64 0, .int .i64 0, .int .i64 0, .int .i64 0, .int .i64 0] 37) ∧ Below w.heap.size w wr) (fun i _ => os.length - (intOf i).toNat)
  case atStart => exact ⟨0, f, Nat.zero_le _, rfl, HOk.out, rfl, HA.out, HR.out, HB.out⟩
  case round =>
    clear HA HR HB HOk
    obtain ⟨k, f', hk, rfl, hok, hfo, hg, hr, hbe⟩ := hrel
    have hsd := HS.out.below hbe
    have HBe := toHid hbe
    have HG := toHid hg
    have HR := toHid hr
    have hsz := hbe.size
    have hlg := blk_lt hg
    have hlr := blk_lt hr
    by_cases hlt : k < os.length
    · obtain ⟨o, ho⟩ : ∃ o, os[k] = o := ⟨_, rfl⟩
      have hdr : os.drop k = o :: os.drop (k + 1) := by rw [List.drop_eq_getElem_cons hlt, ho]
      rw [hdr] at hok hfo
      obtain ⟨⟨p, hp, hp16, hcase⟩, hok2⟩ := hok
      obtain ⟨b, of_, rfl, hbl, x0, x1, x2, x3, x4⟩ := hsd.at k hlt
      rw [ho] at x0 x1 x2 x3 x4
      obtain ⟨kd, pg, fr, to, fa⟩ := o
      simp only at hp hcase x0 x1 x2 x3 x4
      subst hp
      obtain ⟨y0, y1⟩ := AI_cell hg p hp16
      have hpi : (p : Int) ≤ 15 := by omega
      have hp0 : 0 ≤ (p : Int) := by omega
      have HO2 := toHid hok2
      have HF2 := toHid hfo
      clear hg hr hbe hsd hok2 hfo hdr ho
      rcases hcase with ⟨rfl, h0, h1, rfl⟩ | ⟨rfl, h0, h1, h2⟩
      · have HN : Hid (nextF f' ⟨1, (p : Int), 0, to, fa⟩ = upd f' p to) := toHid (by unfold nextF; simp)
        have H0 := toHid h0
        rw [h0] at y0
        clear h0
        have kg : (wr.setCell ⟨g, p, none⟩ (.int .i64 to)).heap[g]? = some (.cells (AI (upd f' p to)) 37) := by
          rw [← AI_set f' p hp16 to]
          exact heap_setCell_same wr g p _ 37 _ HG.out
        have kr : (wr.setCell ⟨g, p, none⟩ (.int .i64 to)).heap[r]? = some (.cells #[.int .i64 0, .int .i64 0, .int .i64 0, .int .i64 0, .int .i64 0, .int .i64 0, .int .i64 0, .int .i64 0, .int .i64 0, .int .i64 0, .int .i64 0, .int .i64 0, .int .i64 0, .int .i64 0, .int .i64 0, .int .i64 0] 37) := by
          rw [heap_setCell_other _ _ _ _ (fun e => hgr e.symm)]; exact HR.out
        have kb := HBe.out.setCell (p := ⟨g, p, none⟩) hgw (.int .i64 to)
        have HXg : Hid (((wr.setCell ⟨g, p, none⟩ (.int .i64 to)).alloc (.cells #[.int .i64 1, .int .i64 (p : Int), .int .i64 0, .int .i64 to, .bool fa] 51)).heap[g]? = some (.cells (AI (upd f' p to)) 37)) := toHid (by rw [((Below.refl _ _).alloc (Nat.le_refl _) _).block g (blk_lt kg)]; exact kg)
        have HXr : Hid (((wr.setCell ⟨g, p, none⟩ (.int .i64 to)).alloc (.cells #[.int .i64 1, .int .i64 (p : Int), .int .i64 0, .int .i64 to, .bool fa] 51)).heap[r]? = some (.cells #[.int .i64 0, .int .i64 0, .int .i64 0, .int .i64 0, .int .i64 0, .int .i64 0, .int .i64 0, .int .i64 0, .int .i64 0, .int .i64 0, .int .i64 0, .int .i64 0, .int .i64 0, .int .i64 0, .int .i64 0, .int .i64 0] 37)) := toHid (by rw [((Below.refl _ _).alloc (Nat.le_refl _) _).block r (blk_lt kr)]; exact kr)
        have HXb := toHid (kb.alloc kb.size (.cells #[.int .i64 1, .int .i64 (p : Int), .int .i64 0, .int .i64 to, .bool fa] 51))
        clear kg kr kb HG HR HBe
        go_wp2_with fail
        go_roundw
        case rel => exact ⟨k + 1, upd f' p to, by omega, by simp, by rw [← HN.out]; exact HO2.out, by rw [← HN.out]; exact HF2.out, HXg.out, HXr.out, HXb.out⟩
        case measure => first | omega | (simp only [intOf]; omega)
      · have HN : Hid (nextF f' ⟨2, (p : Int), fr, to, fa⟩ = f') := toHid (by unfold nextF; simp)
        rw [h0] at y0
        have hb2 := HBe.out.alloc hsz (.cells #[.int .i64 2, .int .i64 (p : Int), .int .i64 fr, .int .i64 to, .bool fa] 51)
        have kg : (wr.alloc (.cells #[.int .i64 2, .int .i64 (p : Int), .int .i64 fr, .int .i64 to, .bool fa] 51)).heap[g]? = some (.cells (AI f') 37) := by
          rw [((Below.refl wr.heap.size wr).alloc (Nat.le_refl _) _).block g hlg]; exact HG.out
        have kr := ((Below.refl wr.heap.size wr).alloc (Nat.le_refl _) (.cells #[.int .i64 2, .int .i64 (p : Int), .int .i64 fr, .int .i64 to, .bool fa] 51)).block r hlr
        have HXg := toHid kg
        have HXr := toHid (kr.trans HR.out)
        have HXb := toHid hb2
        clear hb2 kg kr HG HR HBe
        have g5 := heap_alloc_new wr (.cells #[.int .i64 2, .int .i64 (p : Int), .int .i64 fr, .int .i64 to, .bool fa] 51)
        have hlg2 : g ≠ wr.heap.size := by omega
        have hb1 : (fr == 0) = false := by simpa using h1
        have hb2 : (to == fr) = false := by simpa using h2
        go_wp2_with fail
        go_quiet (fail)
        go_wp2_with fail
        go_roundw
        case rel => exact ⟨k + 1, f', by omega, by simp, by have := HO2.out; rwa [HN.out] at this, by have := HF2.out; rwa [show foldF f' (⟨2, (p : Int), fr, to, fa⟩ :: os.drop (k + 1)) = foldF (nextF f' ⟨2, (p : Int), fr, to, fa⟩) (os.drop (k + 1)) from rfl, HN.out] at this, HXg.out, HXr.out, below_drewN HXb.out _⟩
        case measure => first | omega | (simp only [intOf]; omega)
    · obtain rfl : k = os.length := by omega
      rw [List.drop_length] at hfo
      have hfe : f' = foldF f os := hfo
      subst hfe
      clear hok hfo
      go_wp2_with (first
        | (refine wpList_load_row rfl 37 (.tmp 2) rfl g rfl 37 _ (0, 0) _ HG.out rfl rfl (by rw [AI_size]; rfl) ?_)
        | (refine wpList_store_row rfl 37 (.tmp 4) (.tmp 76) rfl r (AI (foldF f os)) rfl rfl 37 _ HR.out (by rw [AI_size]; rfl) (by rw [AI_size]; rfl) (AI_one _) ?_))
      have hsr := setRow_heap wr r _ (AI (foldF f os)) 37 (0, 0) HR.out
      have hld := run_loadVar_row (P := Try.prog) (wr.setRow r (AI (foldF f os))) r 37 37 (AI (foldF f os)) (0, 0) _ hsr rfl rfl (by rw [AI_size]; rfl)
      refine bodyPost_ret (v := .tuple #[.agg (AI (foldF f os)), .bool true]) (results_cell_tmp Try.results18 _ _ r _ _ rfl rfl hld) rfl ⟨rfl, ?_⟩
      exact below_setRow HBe.out r _ hrw
end Go.Proofs.Ytdlanenbbmnbhaa
