/-
  A change that is done: the map of what each kind does, and Do.
-/
import Derived.Test.YtebchgoaelamcaaDoorAb
import Derived.MapKept
import Derived.Carry
namespace Go.Proofs.YtebchgoaelamcaaDoor
open Go.RowKit
set_option maxRecDepth 100000

def ent (k : Int) (f : Nat) (b : Nat) : MapEntry := ⟨.int .i64 k, .func (.func f) #[] #[], b⟩

theorem run_put (w : World) (r clock : Nat) (es : Array MapEntry) (k : Int) (val : Value) (hb : w.heap[r]? = some (.map es clock)) (hf : Instr.findNow (.int .i64) (.int .i64 k) es.toList 0 = some none) :
    (Instr.mapUpdate 104 (.map (some r)) (.int .i64 k) val).run Tryd.prog w = .ok () { w with heap := w.heap.setIfInBounds r (.map (es.push ⟨.int .i64 k, val, clock⟩) (clock + 1)) } := by
  have hc : (Instr.checkKey false 10000 44 (.int .i64 k)).run Tryd.prog w = .ok () w := MapKept.run_checkKey (k := .int .i64 k) Tryd.underlying44 (by simp [MapKept.IsKey]) false 9999
  simp [Instr.mapUpdate, run_underlying Tryd.underlying104, MapKept.run_getObj_map hb, hc, MapKept.run_findKey Tryd.underlying44 hf, MapKept.run_setObj_map _ hb, Result.andThen]

theorem run_look (w : World) (r clock : Nat) (es : Array MapEntry) (k : Int) (i : Nat) (val : Value) (hb : w.heap[r]? = some (.map es clock)) (hf : Instr.findNow (.int .i64) (.int .i64 k) es.toList 0 = some (some (i, val))) :
    (Instr.lookup 104 (.map (some r)) (.int .i64 k) false).run Tryd.prog w = .ok val w := by
  have hc : ∀ b, (Instr.checkKey b 10000 44 (.int .i64 k)).run Tryd.prog w = .ok () w := fun b => MapKept.run_checkKey (k := .int .i64 k) Tryd.underlying44 (by simp [MapKept.IsKey]) b 9999
  simp [Instr.lookup, run_underlying Tryd.underlying104, MapKept.run_getObj_map hb, hc, MapKept.run_findKey Tryd.underlying44 hf, Result.andThen]

theorem below_obj {w w' : World} {D r : Nat} (h : Below D w w') (hr : D ≤ r) (o : Obj) : Below D w { w' with heap := w'.heap.setIfInBounds r o } :=
  ⟨h.os, h.tape, h.output, by simpa using h.size, fun k hk => by
    show (w'.heap.setIfInBounds r o)[k]? = _
    rw [Array.getElem?_setIfInBounds_ne (by omega)]
    exact h.block k hk⟩

/-- What each kind does. -/
def deedsO : Obj := .map #[ent 1 72 0, ent 2 73 1, ent 3 74 2] 3

theorem put_ex {w0 w : World} {D r clock : Nat} {es : Array MapEntry} (k : Int) (val : Value) (hb : w.heap[r]? = some (.map es clock)) (hf : Instr.findNow (.int .i64) (.int .i64 k) es.toList 0 = some none) (hB : Below D w0 w) (hr : D ≤ r) :
    ∃ w', (Instr.mapUpdate 104 (.map (some r)) (.int .i64 k) val).run Tryd.prog w = .ok () w' ∧ Below D w0 w' ∧ w'.heap[r]? = some (.map (es.push ⟨.int .i64 k, val, clock⟩) (clock + 1)) :=
  ⟨_, run_put w r clock es k val hb hf, below_obj hB hr _, (MapKept.heap_set hb).1⟩

theorem deeds_any (w : World) : Calls Tryd.prog 52 #[] w fun e w' => e = .returned (.map (some w.heap.size)) ∧ Below w.heap.size w w' ∧ w'.heap[w.heap.size]? = some deedsO := by
  have h0 : (Instr.makeMap 104 none).run Tryd.prog w = .ok (.map (some w.heap.size)) (w.alloc (.map #[] 0)) := run_makeMap 104 w
  have b0 : Below w.heap.size w (w.alloc (.map #[] 0)) := (Below.refl _ _).alloc (Nat.le_refl _) _
  have k0 : (w.alloc (.map #[] 0)).heap[w.heap.size]? = some (.map #[] 0) := heap_alloc_new _ _
  obtain ⟨w1, h1, b1, k1⟩ := put_ex 1 (.func (.func 72) #[] #[]) k0 rfl b0 (Nat.le_refl _)
  obtain ⟨w2, h2, b2, k2⟩ := put_ex 2 (.func (.func 73) #[] #[]) k1 rfl b1 (Nat.le_refl _)
  obtain ⟨w3, h3, b3, k3⟩ := put_ex 3 (.func (.func 74) #[] #[]) k2 rfl b2 (Nat.le_refl _)
  have HB := (show Hid _ from b3)
  have HK : Hid (w3.heap[w.heap.size]? = some deedsO) := k3
  clear b0 b1 b2 b3 k0 k1 k2 k3
  go_enter Tryd.func52, Tryd.ntmps52
  go_wp2
  go_ret
  exact ⟨rfl, HB.out, HK.out⟩

/-- Why a value can't be taken away from a key. -/
def whyL (l : List Cl) (k x : List UInt8) : Int := match getL l k with
  | none => 8
  | some v => if v = x then 0 else 10

/-- What a change makes of slots. -/
def doL (l : List Cl) (a : Ac) : List Cl × Int :=
  if mayA a = false then (l, 1) else if a.kind = 1 then insL l a.key a.new else if whyL l a.key a.old ≠ 0 then (l, whyL l a.key a.old) else if a.kind = 2 then updL l a.key a.new else delL l a.key

theorem do_good {l : List Cl} (h : GoodL l) (a : Ac) : GoodL (doL l a).1 := by
  unfold doL
  split
  · exact h
  · split
    · exact ins_good h _ _
    · split
      · exact h
      · split
        · exact upd_good h _ _
        · exact del_good h _

set_option maxHeartbeats 1000000 in
theorem whynot_any (B p : Nat) (id : Int) (lsn : Nat) (v : Value) (l : List Cl) (k x : List UInt8) (w : World) (h : PgOk w B p id lsn v l) (hg : GoodL l) :
    Calls Tryd.prog 95 #[.pointer (some ⟨p, 0, none⟩), .string (txt k), .string (txt x)] w fun e w' => e = .returned (.int .i64 (whyL l k x)) ∧ Below w.heap.size w w' := by
  have h64 := hg.few
  have HG := (show Hid _ from get_any B p id lsn v l k w h (by omega))
  clear h hg
  go_enter Tryd.func95, Tryd.ntmps95
  go_wp2_with fail
  refine Calls.mono HG.out ?_
  rintro e w1 ⟨rfl, hb⟩
  cases hgl : getL l k with
  | none =>
    simp only [Option.getD_none, Option.isSome_none]
    go_wp2
    go_ret
    exact ⟨by simp [whyL, hgl], hb⟩
  | some y =>
    simp only [Option.getD_some, Option.isSome_some]
    by_cases hy : y = x
    · have hy' : ((txt y).toList == (txt x).toList) = true := by simp [txt_toList, hy]
      go_wp2
      go_ret
      exact ⟨by simp [whyL, hgl, hy], hb⟩
    · have hy' : ((txt y).toList == (txt x).toList) = false := by simp [txt_toList, hy]
      go_wp2
      go_ret
      exact ⟨by simp [whyL, hgl, hy], hb⟩

end Go.Proofs.YtebchgoaelamcaaDoor
