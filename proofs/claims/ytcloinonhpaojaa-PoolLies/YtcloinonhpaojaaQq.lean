/-
  What a law's round holds: its step in a box, the pair, the pool, the store and the pages.
-/
import Derived.Test.YtcloinonhpaojaaQp
import Derived.Test.YtcloinonhpaojaaSo
namespace Go.Proofs.Ytcloinonhpaojaa
open Go.RowKit

theorem cell6 {w : World} {g : Nat} {v0 v1 v2 v3 v4 v5 : Value} {t : TypeId} (h : w.heap[g]? = some (.cells #[v0, v1, v2, v3, v4, v5] t)) : w.cell? ⟨g, 0, none⟩ = some v0 ∧ w.cell? ⟨g, 1, none⟩ = some v1 ∧ w.cell? ⟨g, 2, none⟩ = some v2 ∧ w.cell? ⟨g, 3, none⟩ = some v3 ∧ w.cell? ⟨g, 4, none⟩ = some v4 ∧ w.cell? ⟨g, 5, none⟩ = some v5 ∧ g < w.heap.size := by
  refine ⟨?_, ?_, ?_, ?_, ?_, ?_, blk_lt h⟩ <;> simp [World.cell?, h]

/-- A round under way. -/
structure Rd (w W : World) (b z p d : Nat) (s : Po) (k : Dk) (h : Nat → Pg) (o : Ov) : Prop where
  box : W.heap[b]? = some (.cells o.cells 30)
  pr : PrIn W z p d
  mem : Mem W w.heap.size p d s k h
  below : Below w.heap.size w W
theorem Rd.cells {w W : World} {b z p d : Nat} {s : Po} {k : Dk} {h : Nat → Pg} {o : Ov} (r : Rd w W b z p d s k h o) : W.cell? ⟨b, 0, none⟩ = some (.int .i64 o.kind) ∧ W.cell? ⟨b, 1, none⟩ = some (.int .i64 o.page) ∧ W.cell? ⟨b, 2, none⟩ = some (.int .u64 (o.tm : Int)) ∧ W.cell? ⟨b, 3, none⟩ = some (.int .u64 (o.rec_ : Int)) ∧ W.cell? ⟨b, 4, none⟩ = some (.string (txt o.key)) ∧ W.cell? ⟨b, 5, none⟩ = some (.string (txt o.val)) ∧ b < W.heap.size := cell6 r.box
theorem Rd.go {w W W' : World} {b z p d : Nat} {s s' : Po} {k k' : Dk} {h h' : Nat → Pg} {o : Ov} (r : Rd w W b z p d s k h o) (hs : Stp w.heap.size W W') (hm : Mem W' w.heap.size p d s' k' h') : Rd w W' b z p d s' k' h' o :=
  ⟨hs.keep _ _ _ r.box (by decide), r.pr.stp hs, hm, r.below.trans hs.below⟩
theorem Rd.on {w W W' : World} {b z p d : Nat} {s : Po} {k : Dk} {h : Nat → Pg} {o : Ov} (r : Rd w W b z p d s k h o) (hb : Below W.heap.size W W') : Rd w W' b z p d s k h o :=
  r.go (Stp.of hb r.mem.B_le) (r.mem.below hb)
theorem Rd.drew {w W : World} {b z p d : Nat} {s : Po} {k : Dk} {h : Nat → Pg} {o : Ov} (r : Rd w W b z p d s k h o) : Rd w W.drew b z p d s k h o := r.on (Below.refl _ _).drew

/-- A load of any id. -/
def RetL (w : World) (b z p d : Nat) (s : Po) (k : Dk) (h : Nat → Pg) (o : Ov) (id : Int) (w' : World) (e : Ending) : Prop :=
  ∃ n s' h', e = .returned (.int .i64 n) ∧ Rd w w' b z p d s' k h' o ∧ ((s' = s ∧ h' = h) ∨ ∃ i : Nat, id = (i : Int) ∧ i < 16 ∧ s'.D = upd s.D i false ∧ s'.R = upd s.R i 0 ∧ (∃ q v, h' = upd h i ⟨q, k.lsn i, v, k.l i⟩) ∧ ∀ j : Int, 0 ≤ j → (here s'.r j ↔ j = i ∨ here s.r j))
theorem load_rd {w W : World} {b z p d : Nat} {s : Po} {k : Dk} {h : Nat → Pg} {o : Ov} (r : Rd w W b z p d s k h o) (id : Int) : Calls Try.prog 9 #[.pointer (some ⟨p, 0, none⟩), .int .i64 id] W fun e w' => RetL w b z p d s k h o id w' e := by
  by_cases h0 : (Ck.putR s.r id).2 = 0
  · obtain ⟨q0, q1, -⟩ := put_ok r.mem.po.may r.mem.po.np h0
    obtain ⟨i, rfl⟩ : ∃ i : Nat, id = (i : Int) := ⟨id.toNat, by omega⟩
    refine (load_ok w.heap.size p d i s k h W r.mem (by omega) h0).mono ?_
    rintro e w' ⟨rfl, rr, a, c, q, v, hm, hs, -, hh, -⟩
    exact ⟨0, _, _, rfl, r.go hs hm, .inr ⟨i, rfl, by omega, rfl, rfl, ⟨q, v, rfl⟩, hh⟩⟩
  · refine (load_err p (stV d) s id W r.mem.po _ rfl h0).mono ?_
    rintro e w' ⟨rfl, hb⟩
    exact ⟨_, _, _, rfl, r.on hb, .inl ⟨rfl, rfl⟩⟩

/-- Clean of any id. -/
def RetC (w : World) (b z p d : Nat) (s : Po) (k : Dk) (h : Nat → Pg) (o : Ov) (id : Int) (w' : World) (e : Ending) : Prop :=
  ∃ n s' k', e = .returned (.int .i64 n) ∧ Rd w w' b z p d s' k' h o ∧ ((s' = s ∧ k' = k) ∨ ∃ i : Nat, id = (i : Int) ∧ i < 16 ∧ (h i).lsn ≤ k.stable ∧ s' = { s with D := upd s.D i false, R := upd s.R i 0 } ∧ k' = laid k i (h i).lsn (h i).l)
open Classical in
theorem clean_rd {w W : World} {b z p d : Nat} {s : Po} {k : Dk} {h : Nat → Pg} {o : Ov} (r : Rd w W b z p d s k h o) (id : Int) : Calls Try.prog 14 #[.pointer (some ⟨p, 0, none⟩), .int .i64 id] W fun e w' => RetC w b z p d s k h o id w' e := by
  by_cases hh : 0 ≤ id ∧ id < 16 ∧ here s.r id
  · obtain ⟨q0, q1, q2⟩ := hh
    obtain ⟨i, rfl⟩ : ∃ i : Nat, id = (i : Int) := ⟨id.toNat, by omega⟩
    cases hD : s.D i
    · refine (clean_idle p (stV d) s i W r.mem.po (by omega) q2 hD).mono ?_
      rintro e w' ⟨rfl, hb⟩
      exact ⟨_, _, _, rfl, r.on hb, .inl ⟨rfl, rfl⟩⟩
    · by_cases hk : k.stable < (h i).lsn
      · refine (clean_wait w.heap.size p d i s k h W r.mem (by omega) q2 hD hk).mono ?_
        rintro e w' ⟨rfl, hb⟩
        exact ⟨_, _, _, rfl, r.on hb, .inl ⟨rfl, rfl⟩⟩
      · refine (clean_go w.heap.size p d i s k h W r.mem (by omega) q2 hD (by omega)).mono ?_
        rintro e w' ⟨rfl, hm, hs⟩
        exact ⟨_, _, _, rfl, r.go hs hm, .inr ⟨i, rfl, by omega, by omega, rfl, rfl⟩⟩
  · refine (clean_no p (stV d) s id W r.mem.po hh).mono ?_
    rintro e w' ⟨rfl, hb⟩
    exact ⟨_, _, _, rfl, r.on hb, .inl ⟨rfl, rfl⟩⟩

/-- Take of any id. -/
def RetT (w : World) (b z p d : Nat) (k : Dk) (h : Nat → Pg) (o : Ov) (w' : World) (e : Ending) : Prop := ∃ v s', e = .returned v ∧ Rd w w' b z p d s' k h o
open Classical in
theorem take_rd {w W : World} {b z p d : Nat} {s : Po} {k : Dk} {h : Nat → Pg} {o : Ov} (r : Rd w W b z p d s k h o) (id : Int) : Calls Try.prog 15 #[.pointer (some ⟨p, 0, none⟩), .int .i64 id] W fun e w' => RetT w b z p d k h o w' e := by
  by_cases hh : 0 ≤ id ∧ id < 16 ∧ here s.r id
  · obtain ⟨q0, q1, q2⟩ := hh
    obtain ⟨i, rfl⟩ : ∃ i : Nat, id = (i : Int) := ⟨id.toNat, by omega⟩
    refine (take_yes p (stV d) s i W r.mem.po (by omega) q2).mono ?_
    rintro e w' ⟨rfl, ho, rr, a, c, hpo, -, hh, hn⟩
    exact ⟨_, _, rfl, r.go (r.mem.stp ho) (r.mem.turn ho hpo (fun i _ h => ((hh i (by omega)).1 h).2) (fun j _ h => by
      have := ((hh j (by omega)).1 h).1
      simp only
      rw [upd_ne _ _ (by omega)]) (fun x hx => .inl (hn x hx)))⟩
  · refine (take_no p (stV d) s id W r.mem.po hh).mono ?_
    rintro e w' ⟨rfl, hb⟩
    exact ⟨_, _, rfl, r.on hb⟩

/-- Get of any id. -/
def RetG (w : World) (b z p d : Nat) (s : Po) (k : Dk) (h : Nat → Pg) (o : Ov) (id : Int) (w' : World) (e : Ending) : Prop :=
  (e = .returned (.pointer none) ∧ Rd w w' b z p d s k h o) ∨ ∃ (i : Nat) (s' : Po), id = (i : Int) ∧ i < 16 ∧ here s'.r (i : Int) ∧ e = .returned (.pointer (some ⟨(h i).b, 0, none⟩)) ∧ Rd w w' b z p d s' k h o ∧ s'.D = s.D ∧ s'.R = s.R ∧ ∀ j : Int, here s'.r j ↔ here s.r j
open Classical in
theorem get_rd {w W : World} {b z p d : Nat} {s : Po} {k : Dk} {h : Nat → Pg} {o : Ov} (r : Rd w W b z p d s k h o) (id : Int) : Calls Try.prog 10 #[.pointer (some ⟨p, 0, none⟩), .int .i64 id] W fun e w' => RetG w b z p d s k h o id w' e := by
  by_cases hh : 0 ≤ id ∧ id < 16 ∧ here s.r id
  · obtain ⟨q0, q1, q2⟩ := hh
    obtain ⟨i, rfl⟩ : ∃ i : Nat, id = (i : Int) := ⟨id.toNat, by omega⟩
    have hP := (r.mem.pg i (by omega) q2).1
    refine (get_yes p (stV d) s i W r.mem.po (by omega) q2).mono ?_
    rintro e w' ⟨rfl, ho, rr, a, c, hpo, hh, hn⟩
    refine .inr ⟨i, _, rfl, by omega, (hh _).2 q2, by rw [hP], r.go (r.mem.stp ho) (r.mem.turn ho hpo (fun i _ h => (hh _).1 h) (fun _ _ _ => rfl) (fun x hx => .inl (hn x hx))), rfl, rfl, hh⟩
  · refine (get_no p (stV d) s id W r.mem.po hh).mono ?_
    rintro e w' ⟨rfl, hb⟩
    exact .inl ⟨rfl, r.on hb⟩

/-- A page's key gets a value, its LSN, and it is soiled. -/
theorem insert_rd {w W : World} {b z p d : Nat} {s : Po} {k : Dk} {h : Nat → Pg} {o : Ov} (r : Rd w W b z p d s k h o) (hw : o.Wf) (i : Nat) (hi : i < 16) (hh : here s.r (i : Int)) :
    Calls Try.prog 11 #[.pointer (some ⟨(h i).b, 0, none⟩), .string (txt o.key), .string (txt o.val)] W fun e w' => ∃ n v l, e = .returned (.int .i64 n) ∧ Rd w w' b z p d s k (upd h i ⟨(h i).b, (h i).lsn, v, l⟩) o := by
  obtain ⟨-, g2, g3, g4⟩ := r.mem.pg i hi hh
  refine (insert_any w.heap.size (h i).b (i : Int) (h i).lsn (h i).v (h i).l o.key o.val W g2 g3 hw.key hw.val).mono ?_
  rintro e w' ⟨rfl, v', hp, ht, hf⟩
  obtain ⟨m, hs⟩ := r.mem.page i hi hh ht hp (ins_good g3 _ _) g4 hf
  exact ⟨_, _, _, rfl, r.go hs m⟩
theorem stamp_rd {w W : World} {b z p d : Nat} {s : Po} {k : Dk} {h : Nat → Pg} {o : Ov} (r : Rd w W b z p d s k h o) (hw : o.Wf) (i : Nat) (hi : i < 16) (hh : here s.r (i : Int)) :
    Calls Try.prog 12 #[.pointer (some ⟨(h i).b, 0, none⟩), .int .u64 (o.tm : Int)] W fun e w' => e = .returned (.tuple #[]) ∧ Rd w w' b z p d s k (upd h i ⟨(h i).b, o.tm, (h i).v, (h i).l⟩) o := by
  obtain ⟨-, g2, g3, g4⟩ := r.mem.pg i hi hh
  refine (stamp_any w.heap.size (h i).b (i : Int) (h i).lsn (h i).v (h i).l o.tm W g2).mono ?_
  rintro e w' ⟨rfl, hp, ht⟩
  obtain ⟨m, hs⟩ := r.mem.page i hi hh ht hp g3 hw.tm (Fresh.refl _ _)
  exact ⟨rfl, r.go hs m⟩
theorem soil_rd {w W : World} {b z p d : Nat} {s : Po} {k : Dk} {h : Nat → Pg} {o : Ov} (r : Rd w W b z p d s k h o) (i l : Nat) (hi : i < 16) (hh : here s.r (i : Int)) :
    Calls Try.prog 13 #[.pointer (some ⟨p, 0, none⟩), .int .i64 (i : Int), .int .u64 (l : Int)] W fun e w' => ∃ m, e = .returned (.int .i64 0) ∧ Rd w w' b z p d { s with D := upd s.D i true, R := upd s.R i m } k h o := by
  refine (soil_yes p (stV d) s i l W r.mem.po hi hh r.mem.rp).mono ?_
  rintro e w' ⟨rfl, ho, m, hpo⟩
  exact ⟨m, rfl, r.go (r.mem.stp ho) (r.mem.turn ho hpo (fun _ _ h => h) (fun _ _ _ => rfl) (fun x hx => .inr hx))⟩
/-- Records up to somewhere are stable. -/
theorem Rd.stable {w W : World} {b z p d : Nat} {s : Po} {k : Dk} {h : Nat → Pg} {o : Ov} (r : Rd w W b z p d s k h o) (n : Nat) : Rd w (W.setCell ⟨d, 32, none⟩ (.int .u64 (n : Int))) b z p d s { k with stable := n } h o := by
  have ho : One d W (W.setCell ⟨d, 32, none⟩ (.int .u64 (n : Int))) := (One.of (Below.refl _ _)).set _ _
  exact r.go (r.mem.stpD ho) (r.mem.disk ho (r.mem.dk.setStable n))
end Go.Proofs.Ytcloinonhpaojaa
