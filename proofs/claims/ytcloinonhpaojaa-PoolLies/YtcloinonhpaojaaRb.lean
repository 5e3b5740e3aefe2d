/-
  What PoolLies' rounds hold: a page that is clean lies in the store as it is.
-/
import Derived.Test.YtcloinonhpaojaaQq
import Derived.Test.YtcloinonhpaojaaQr
namespace Go.Proofs.Ytcloinonhpaojaa
open Go.RowKit

/-- A page that is clean lies in the store as it is. -/
def Inv (s : Po) (k : Dk) (h : Nat → Pg) : Prop := ∀ i : Nat, i < 16 → here s.r (i : Int) → s.D i = false → s.R i = 0 ∧ (h i).lsn = k.lsn i ∧ (h i).l = k.l i

theorem Inv.load {s s' : Po} {k : Dk} {h h' : Nat → Pg} {id : Int} (hI : Inv s k h) (hc : (s' = s ∧ h' = h) ∨ ∃ i : Nat, id = (i : Int) ∧ i < 16 ∧ s'.D = upd s.D i false ∧ s'.R = upd s.R i 0 ∧ (∃ q v, h' = upd h i ⟨q, k.lsn i, v, k.l i⟩) ∧ ∀ j : Int, 0 ≤ j → (here s'.r j ↔ j = i ∨ here s.r j)) : Inv s' k h' := by
  rcases hc with ⟨rfl, rfl⟩ | ⟨i, -, hi, hD, hR, ⟨q, v, rfl⟩, hh⟩
  · exact hI
  · intro j hj hx hd
    by_cases e : j = i
    · subst e
      rw [hR]
      simp only [upd_self]
      exact ⟨trivial, trivial, trivial⟩
    · rw [hD, upd_ne _ _ e] at hd
      rw [hR]
      simp only [upd_ne _ _ e]
      refine hI j hj ?_ hd
      rcases (hh j (by omega)).1 hx with e1 | e1
      · omega
      · exact e1
theorem Inv.clean {s s' : Po} {k k' : Dk} {h : Nat → Pg} {id : Int} (hI : Inv s k h) (hc : (s' = s ∧ k' = k) ∨ ∃ i : Nat, id = (i : Int) ∧ i < 16 ∧ (h i).lsn ≤ k.stable ∧ s' = { s with D := upd s.D i false, R := upd s.R i 0 } ∧ k' = laid k i (h i).lsn (h i).l) : Inv s' k' h := by
  rcases hc with ⟨rfl, rfl⟩ | ⟨i, -, hi, -, rfl, rfl⟩
  · exact hI
  · intro j hj hx hd
    by_cases e : j = i
    · subst e
      simp only [laid, upd_self]
      exact ⟨trivial, trivial, trivial⟩
    · simp only [upd_ne _ _ e] at hd
      simp only [laid, upd_ne _ _ e]
      exact hI j hj hx hd
theorem Inv.get {s s' : Po} {k : Dk} {h : Nat → Pg} (hI : Inv s k h) (hD : s'.D = s.D) (hR : s'.R = s.R) (hh : ∀ j : Int, here s'.r j ↔ here s.r j) : Inv s' k h := by
  intro j hj hx hd
  rw [hD] at hd
  rw [hR]
  exact hI j hj ((hh _).1 hx) hd
theorem Inv.soil {s : Po} {k : Dk} {h h' : Nat → Pg} (hI : Inv s k h) (i m : Nat) (hh : ∀ j, j ≠ i → h' j = h j) : Inv { s with D := upd s.D i true, R := upd s.R i m } k h' := by
  intro j hj hx hd
  by_cases e : j = i
  · subst e
    simp [upd_self] at hd
  · simp only [upd_ne _ _ e] at hd
    simp only [upd_ne _ _ e, hh j e]
    exact hI j hj hx hd

/-- What the first loop of PoolLies holds. -/
structure LiL (w wr : World) (z p d : Nat) (s : Po) (k : Dk) (h : Nat → Pg) : Prop where
  pr : PrIn wr z p d
  mem : Mem wr w.heap.size p d s k h
  below : Below w.heap.size w wr
  inv : Inv s k h
theorem Rd.li {w W : World} {b z p d : Nat} {s : Po} {k : Dk} {h : Nat → Pg} {o : Ov} (r : Rd w W b z p d s k h o) (hI : Inv s k h) : LiL w W z p d s k h := ⟨r.pr, r.mem, r.below, hI⟩
theorem li_new {w wr : World} {z p d : Nat} {s : Po} {k : Dk} {h : Nat → Pg} (L : LiL w wr z p d s k h) (o : Ov) : Rd w (wr.alloc (.cells o.cells 30)) wr.heap.size z p d s k h o := by
  have hb : Below wr.heap.size wr (wr.alloc (.cells o.cells 30)) := (Below.refl _ _).alloc (Nat.le_refl _) _
  exact ⟨heap_alloc_new _ _, L.pr.stp (Stp.of hb L.mem.B_le), L.mem.below hb, L.below.trans (hb.mono L.below.size)⟩
theorem li_rel {w W : World} {b z p d : Nat} {s : Po} {k : Dk} {h : Nat → Pg} {o : Ov} {l : List Ov} {i : Nat} (r : Rd w W b z p d s k h o) (hI : Inv s k h) (hi : i < l.length) (h80 : i < 80) :
    ∃ (i' : Nat), (Value.int .i64 ((i : Int) + 1)) = .int .i64 (i' : Int) ∧ i' ≤ l.length ∧ i' ≤ 80 ∧ ∃ s k h, LiL w W z p d s k h :=
  ⟨i + 1, by simp, by omega, by omega, s, k, h, r.li hI⟩
theorem inv0 (m : Nat) (a : Option Addr) (c : Nat) : Inv (po0 m a c) dk0 pg0 := fun i _ hx => absurd hx (bare m _ (by omega))

/-- What the second loop holds: the rows that were told, and of each page that was told whether it is dirty. -/
structure Q2 (w W : World) (z p d : Nat) (s : Po) (k : Dk) (h : Nat → Pg) (xs : List Nat) (ys : List (Nat × Nat)) (xa : Option Addr) (xc : Nat) (ya : Option Addr) (yc : Nat) : Prop where
  pr : PrIn W z p d
  mem : Mem W w.heap.size p d s k h
  inv : Inv s k h
  xr : W.ownsRow w.heap.size 3 1 (.slice xa xs.length xc) xs.length (ints xs)
  yr : W.ownsRow w.heap.size 66 2 (.slice ya ys.length yc) ys.length (drs ys)
  below : Below w.heap.size w W
  hx : ∀ j ∈ xs, j < 16 ∧ here s.r (j : Int)
  hy : ∀ j ∈ xs, (∃ r, (j, r) ∈ ys) ↔ s.D j = true
theorem own_stp {B B' e k n : Nat} {w w' : World} {v : Value} {xs : List Value} (h : w.ownsRow B e k v n xs) (hs : Stp B' w w') (he : e ≠ 91 ∧ e ≠ 59 ∧ e ≠ 96 ∧ e ≠ 98) : w'.ownsRow B e k v n xs := by
  rcases h.2 with ⟨e1, e2⟩ | ⟨g, cap, cur, e1, h2, h3, h4⟩
  · exact ⟨h.1, .inl ⟨e1, e2⟩⟩
  · exact ⟨h.1, .inr ⟨g, cap, cur, e1, h2, hs.keep g cur e h3 he, h4⟩⟩
theorem Q2.go {w W W' : World} {z p d : Nat} {s s' : Po} {k : Dk} {h h' : Nat → Pg} {xs : List Nat} {ys : List (Nat × Nat)} {xa : Option Addr} {xc : Nat} {ya : Option Addr} {yc : Nat} (q : Q2 w W z p d s k h xs ys xa xc ya yc) (hs : Stp w.heap.size W W') (hm : Mem W' w.heap.size p d s' k h') (hI : Inv s' k h')
    (h1 : ∀ j : Nat, j < 16 → here s.r (j : Int) → here s'.r (j : Int)) (h2 : ∀ j : Nat, s'.D j = s.D j) : Q2 w W' z p d s' k h' xs ys xa xc ya yc :=
  ⟨q.pr.stp hs, hm, hI, own_stp q.xr hs (by decide), own_stp q.yr hs (by decide), q.below.trans hs.below, fun j hj => ⟨(q.hx j hj).1, h1 j (q.hx j hj).1 (q.hx j hj).2⟩, fun j hj => by rw [h2]; exact q.hy j hj⟩
theorem Q2.on {w W W' : World} {z p d : Nat} {s : Po} {k : Dk} {h : Nat → Pg} {xs : List Nat} {ys : List (Nat × Nat)} {xa : Option Addr} {xc : Nat} {ya : Option Addr} {yc : Nat} (q : Q2 w W z p d s k h xs ys xa xc ya yc) (hb : Below W.heap.size W W') : Q2 w W' z p d s k h xs ys xa xc ya yc :=
  q.go (Stp.of hb q.mem.B_le) (q.mem.below hb) q.inv (fun _ _ h => h) (fun _ => rfl)
theorem q2_new {w W1 W2 W3 : World} {z p d : Nat} {s : Po} {k : Dk} {h : Nat → Pg} {xs xs' : List Nat} {ys : List (Nat × Nat)} {xa : Option Addr} {xc : Nat} {ya : Option Addr} {yc : Nat} (L : LiL w W1 z p d s k h)
    (hy : W2.ownsRow W1.heap.size 66 2 (.slice ya ys.length yc) ys.length (drs ys)) (hp' : Pgs s 16 xs') (hd : Drs s xs' ys) (hb1 : Below W1.heap.size W1 W2)
    (hx : W3.ownsRow W2.heap.size 3 1 (.slice xa xs.length xc) xs.length (ints xs)) (hp : Pgs s 16 xs) (hb2 : Below W2.heap.size W2 W3) : Q2 w W3 z p d s k h xs ys xa xc ya yc := by
  have hb := below_on hb1 hb2
  have h1 := L.below.size
  refine ⟨L.pr.stp (Stp.of hb L.mem.B_le), L.mem.below hb, L.inv, hx.mono (Nat.le_trans h1 hb1.size), own_up (hy.mono h1) hb2, L.below.trans (hb.mono h1), fun j hj => (hp.mem j).1 hj, fun j hj => ?_⟩
  rw [hd.mem, hp'.mem, ← hp.mem]
  exact ⟨fun x => x.2, fun x => ⟨hj, x⟩⟩

/-- The page that was taken out, beside the rest. -/
structure Z5 (w W : World) (z p d : Nat) (s : Po) (k : Dk) (h : Nat → Pg) (xs : List Nat) (ys : List (Nat × Nat)) (xa : Option Addr) (xc : Nat) (ya : Option Addr) (yc : Nat) (j bx lx : Nat) (vx : Value) (ll : List Cl) : Prop where
  pr : PrIn W z p d
  mem : Mem W w.heap.size p d s k h
  xr : W.ownsRow w.heap.size 3 1 (.slice xa xs.length xc) xs.length (ints xs)
  yr : W.ownsRow w.heap.size 66 2 (.slice ya ys.length yc) ys.length (drs ys)
  below : Below w.heap.size w W
  px : PgOk W w.heap.size bx (j : Int) lx vx ll
theorem Q2.take {w W W' : World} {z p d : Nat} {s s' : Po} {k : Dk} {h : Nat → Pg} {xs : List Nat} {ys : List (Nat × Nat)} {xa : Option Addr} {xc : Nat} {ya : Option Addr} {yc j : Nat} (q : Q2 w W z p d s k h xs ys xa xc ya yc) (hj : j < 16) (hh : here s.r (j : Int)) (hD : s.D j = false) (ho : One p W W') (hm : Mem W' w.heap.size p d s' k h) :
    Z5 w W' z p d s' k h xs ys xa xc ya yc j (h j).b (k.lsn j) (h j).v (k.l j) := by
  have hs := q.mem.stp ho
  obtain ⟨M, hM, -⟩ := q.mem.po.blk
  obtain ⟨-, i1, i2⟩ := q.inv j hj hh hD
  have px := (q.mem.pg j hj hh).2.1
  rw [i1, i2] at px
  exact ⟨q.pr.stp hs, hm, own_stp q.xr hs (by decide), own_stp q.yr hs (by decide), q.below.trans hs.below, px.one ho hM (by decide) (by decide)⟩
theorem Z5.drew {w W : World} {z p d : Nat} {s : Po} {k : Dk} {h : Nat → Pg} {xs : List Nat} {ys : List (Nat × Nat)} {xa : Option Addr} {xc : Nat} {ya : Option Addr} {yc j bx lx : Nat} {vx : Value} {ll : List Cl} (q : Z5 w W z p d s k h xs ys xa xc ya yc j bx lx vx ll) : Z5 w W.drew z p d s k h xs ys xa xc ya yc j bx lx vx ll :=
  have hb : Below W.heap.size W W.drew := (Below.refl _ _).drew
  have hs := Stp.of hb q.mem.B_le
  ⟨q.pr.stp hs, q.mem.below hb, own_stp q.xr hs (by decide), own_stp q.yr hs (by decide), q.below.trans hs.below, q.px.below hb (Nat.le_refl _)⟩

theorem Z5.cells {w W : World} {z p d : Nat} {s : Po} {k : Dk} {h : Nat → Pg} {xs : List Nat} {ys : List (Nat × Nat)} {gx : Nat} {xc : Nat} {ya : Option Addr} {yc j bx lx : Nat} {vx : Value} {ll : List Cl} (q : Z5 w W z p d s k h xs ys (some ⟨gx, 0, none⟩) xc ya yc j bx lx vx ll) {i : Nat} (hi : i < xs.length) (hj : xs[i] = j) :
    W.cell? ⟨z, 0, none⟩ = some (.pointer (some ⟨p, 0, none⟩)) ∧ W.cell? ⟨gx, i, none⟩ = some (.int .i64 (j : Int)) := by
  obtain ⟨g, e, -, hc⟩ := own_int q.xr i hi
  simp at e
  subst e
  rw [hj] at hc
  exact ⟨q.pr.cells.1, hc⟩
/-- A page is taken out. -/
theorem q2_take {w W W' : World} {z p d : Nat} {s : Po} {k : Dk} {h : Nat → Pg} {xs : List Nat} {ys : List (Nat × Nat)} {xa : Option Addr} {xc : Nat} {ya : Option Addr} {yc j : Nat} (q : Q2 w W z p d s k h xs ys xa xc ya yc) (hj : j < 16) (hh : here s.r (j : Int)) (hD : s.D j = false) (ho : One p W.drew W')
    {r4 : Ck.Rg} {a4 : Option Addr} {c4 : Nat} (hpo : PoIn W' p (stV d) ⟨r4, a4, c4, upd s.P j none, upd s.D j false, upd s.R j 0⟩) (hh4 : ∀ x : Int, 0 ≤ x → (here r4 x ↔ x ≠ j ∧ here s.r x)) (hn4 : ∀ x, a4 = some x → W.drew.heap.size ≤ x.block) :
    Z5 w W' z p d ⟨r4, a4, c4, upd s.P j none, upd s.D j false, upd s.R j 0⟩ k h xs ys xa xc ya yc j (h j).b (k.lsn j) (h j).v (k.l j) :=
  have qd := q.on (Below.refl _ _).drew
  qd.take hj hh hD ho (qd.mem.turn ho hpo (fun x _ hx => ((hh4 x (by omega)).1 hx).2) (fun x _ hx => by
    have := ((hh4 x (by omega)).1 hx).1
    simp only
    rw [upd_ne _ _ (by omega)]) (fun x hx => .inl (hn4 x hx)))

/-- The page that was taken out, and the one that was fetched, beside the rest. -/
structure Z6 (w W : World) (z p d : Nat) (s : Po) (k : Dk) (h : Nat → Pg) (xs : List Nat) (ys : List (Nat × Nat)) (xa : Option Addr) (xc : Nat) (ya : Option Addr) (yc : Nat) (j bx lx : Nat) (vx : Value) (ll : List Cl) (b2 : Nat) (v2 : Value) : Prop where
  pr : PrIn W z p d
  mem : Mem W w.heap.size p d s k h
  xr : W.ownsRow w.heap.size 3 1 (.slice xa xs.length xc) xs.length (ints xs)
  yr : W.ownsRow w.heap.size 66 2 (.slice ya ys.length yc) ys.length (drs ys)
  below : Below w.heap.size w W
  px : PgOk W w.heap.size bx (j : Int) lx vx ll
  py : PgOk W w.heap.size b2 (j : Int) lx v2 ll
theorem Z6.on {w W W' : World} {z p d : Nat} {s : Po} {k : Dk} {h : Nat → Pg} {xs : List Nat} {ys : List (Nat × Nat)} {xa : Option Addr} {xc : Nat} {ya : Option Addr} {yc j bx lx : Nat} {vx : Value} {ll : List Cl} {b2 : Nat} {v2 : Value} (q : Z6 w W z p d s k h xs ys xa xc ya yc j bx lx vx ll b2 v2) (hb : Below W.heap.size W W') : Z6 w W' z p d s k h xs ys xa xc ya yc j bx lx vx ll b2 v2 :=
  have hs := Stp.of hb q.mem.B_le
  ⟨q.pr.stp hs, q.mem.below hb, own_stp q.xr hs (by decide), own_stp q.yr hs (by decide), q.below.trans hs.below, q.px.below hb (Nat.le_refl _), q.py.below hb (Nat.le_refl _)⟩
theorem Z6.one {w W W' : World} {z p d : Nat} {s s' : Po} {k : Dk} {h h' : Nat → Pg} {xs : List Nat} {ys : List (Nat × Nat)} {xa : Option Addr} {xc : Nat} {ya : Option Addr} {yc j bx lx : Nat} {vx : Value} {ll : List Cl} {b2 : Nat} {v2 : Value} (q : Z6 w W z p d s k h xs ys xa xc ya yc j bx lx vx ll b2 v2) (ho : One p W W') (hm : Mem W' w.heap.size p d s' k h') : Z6 w W' z p d s' k h' xs ys xa xc ya yc j bx lx vx ll b2 v2 := by
  have hs := q.mem.stp ho
  obtain ⟨M, hM, -⟩ := q.mem.po.blk
  exact ⟨q.pr.stp hs, hm, own_stp q.xr hs (by decide), own_stp q.yr hs (by decide), q.below.trans hs.below, q.px.one ho hM (by decide) (by decide), q.py.one ho hM (by decide) (by decide)⟩
theorem Z5.fetch {w W W' : World} {z p d : Nat} {s : Po} {k : Dk} {h : Nat → Pg} {xs : List Nat} {ys : List (Nat × Nat)} {xa : Option Addr} {xc : Nat} {ya : Option Addr} {yc j bx lx : Nat} {vx : Value} {ll : List Cl} (q : Z5 w W z p d s k h xs ys xa xc ya yc j bx lx vx ll) (hb : Below W.heap.size W W') {b2 : Nat} {v2 : Value} (py : PgOk W' W.heap.size b2 (j : Int) lx v2 ll) :
    Z6 w W' z p d s k h xs ys xa xc ya yc j bx lx vx ll b2 v2 :=
  have hs := Stp.of hb q.mem.B_le
  ⟨q.pr.stp hs, q.mem.below hb, own_stp q.xr hs (by decide), own_stp q.yr hs (by decide), q.below.trans hs.below, q.px.below hb (Nat.le_refl _), ⟨py.blk, py.own.mono q.mem.B_le, py.ne, Nat.le_trans q.mem.B_le py.base⟩⟩

/-- The cells that the long region reads. -/
theorem Z6.cells {w W : World} {z p d : Nat} {s : Po} {k : Dk} {h : Nat → Pg} {xs : List Nat} {ys : List (Nat × Nat)} {gx : Nat} {xc : Nat} {ya : Option Addr} {yc j bx lx : Nat} {vx : Value} {ll : List Cl} {b2 : Nat} {v2 : Value} (q : Z6 w W z p d s k h xs ys (some ⟨gx, 0, none⟩) xc ya yc j bx lx vx ll b2 v2) {i : Nat} (hi : i < xs.length) (hj : xs[i] = j) :
    W.cell? ⟨z, 0, none⟩ = some (.pointer (some ⟨p, 0, none⟩)) ∧ W.cell? ⟨gx, i, none⟩ = some (.int .i64 (j : Int)) := by
  obtain ⟨g, e, -, hc⟩ := own_int q.xr i hi
  simp at e
  subst e
  rw [hj] at hc
  exact ⟨q.pr.cells.1, hc⟩
/-- A page's bytes, in the midst. -/
theorem bytes_z {w : World} {z p d : Nat} {s : Po} {k : Dk} {h : Nat → Pg} {xs : List Nat} {ys : List (Nat × Nat)} {xa : Option Addr} {xc : Nat} {ya : Option Addr} {yc j bx lx : Nat} {vx : Value} {ll : List Cl} {b2 : Nat} {v2 : Value} (W : World) (q : Z6 w W z p d s k h xs ys xa xc ya yc j bx lx vx ll b2 v2) (b : Nat) (v : Value) (hp : PgOk W w.heap.size b (j : Int) lx v ll) (hg : GoodL ll) (hj : j < 16) :
    Calls Try.prog 19 #[.pointer (some ⟨b, 0, none⟩)] W fun e w' => ∃ G, e = .returned (.slice (some ⟨G, 0, none⟩) 512 512) ∧ Buf w' G (pageB j lx ll) ∧ Below W.heap.size W w' ∧ Z6 w w' z p d s k h xs ys xa xc ya yc j bx lx vx ll b2 v2 :=
  (bytes_any w.heap.size b j lx v ll W hp hg hj).mono fun _ _ ⟨G, h1, _, h3, h4⟩ => ⟨G, h1, h3, h4, q.on h4⟩

/-- What the end of a round leaves. -/
theorem q2_end {w W W9 : World} {z p d : Nat} {s : Po} {k : Dk} {h : Nat → Pg} {xs : List Nat} {ys : List (Nat × Nat)} {xa : Option Addr} {xc : Nat} {ya : Option Addr} {yc j bx lx : Nat} {vx : Value} {ll : List Cl} {b2 : Nat} {v2 : Value} {s7 : Po} {b7 : Nat} {v7 : Value}
    (q : Q2 w W z p d s k h xs ys xa xc ya yc) (hD : s.D j = false) (z6 : Z6 w W9 z p d s7 k (upd h j ⟨b7, k.lsn j, v7, k.l j⟩) xs ys xa xc ya yc j bx lx vx ll b2 v2)
    (hD7 : s7.D = upd (upd s.D j false) j false) (hR7 : s7.R = upd (upd s.R j 0) j 0) (hh : ∀ x : Int, 0 ≤ x → (here s7.r x ↔ x = j ∨ (x ≠ j ∧ here s.r x))) : Q2 w W9 z p d s7 k (upd h j ⟨b7, k.lsn j, v7, k.l j⟩) xs ys xa xc ya yc := by
  have hDD : ∀ x : Nat, s7.D x = s.D x := fun x => by
    rw [hD7]
    by_cases e : x = j
    · subst e; rw [upd_self, hD]
    · rw [upd_ne _ _ e, upd_ne _ _ e]
  refine ⟨z6.pr, z6.mem, fun x hx hhx hdx => ?_, z6.xr, z6.yr, z6.below, fun x hx => ⟨(q.hx x hx).1, (hh x (by omega)).2 ?_⟩, fun x hx => by rw [hDD]; exact q.hy x hx⟩
  · by_cases e : x = j
    · subst e
      rw [hR7]
      simp only [upd_self]
      exact ⟨trivial, trivial, trivial⟩
    · rw [hR7]
      simp only [upd_ne _ _ e]
      rw [hDD] at hdx
      refine q.inv x hx ?_ hdx
      rcases (hh x (by omega)).1 hhx with e1 | e1
      · omega
      · exact e1.2
  · by_cases e : x = j
    · exact .inl (by omega)
    · exact .inr ⟨by omega, (q.hx x hx).2⟩
theorem have_key {G : World → Nat → Nat → Prop} {H : World → Prop} {R : Prop} (branches : (∀ W a b, H W → G W a b) → R) (rest : ∀ W a b, H W → G W a b) : R := branches rest
end Go.Proofs.Ytcloinonhpaojaa
