/-
  Load and Clean of a pool.
-/
import Derived.Test.YtcloinonhpaojaaQi
namespace Go.Proofs.Ytcloinonhpaojaa
open Go.RowKit

theorem load_err (p : Nat) (st : Value) (s : Po) (id : Int) (w : World) (h : PoIn w p st s) (x : Int) (hx : (Ck.putR s.r id).2 = x) (h0 : x ≠ 0) :
    Calls Try.prog 9 #[.pointer (some ⟨p, 0, none⟩), .int .i64 id] w fun e w' => e = .returned (.int .i64 x) ∧ Below w.heap.size w w' := by
  obtain ⟨-, c1, c2, -, -, hlt⟩ := h.cells
  have HA := toHid (Ck.put_any s.a s.c s.r id w h.ring h.len)
  rw [show Ck.putR s.r id = ((Ck.putR s.r id).1, x) by rw [← hx]] at HA
  have hne : (x != 0) = true := by simpa using h0
  clear h hx
  generalize (Ck.putR s.r id).1 = r at HA
  go_enter Try.func9, Try.ntmps9
  go_wp2_with fail
  refine Calls.mono HA.out ?_
  rintro e w1 ⟨a, c, rfl, -, hb, -⟩
  clear HA
  have hb2 := hb.alloc hb.size (.cells #[.slice a r.fr.length c, .int .i64 r.hand] 36)
  clear hb
  go_wp2
  go_ret
  exact ⟨rfl, hb2⟩
theorem load_nil (id : Int) (w : World) : Calls Try.prog 9 #[.pointer none, .int .i64 id] w fun e w' => e = .returned (.int .i64 1) ∧ w' = w := by
  go_enter Try.func9, Try.ntmps9
  go_wp2
  go_ret
  exact ⟨rfl, rfl⟩

/-- A page was loaded. -/
def Loaded (w w' : World) (B p d : Nat) (s : Po) (k : Dk) (h : Nat → Pg) (i : Nat) : Prop :=
  ∃ r a c b v, Mem w' B p d ⟨r, a, c, upd s.P i (some ⟨b, 0, none⟩), upd s.D i false, upd s.R i 0⟩ k (upd h i ⟨b, k.lsn i, v, k.l i⟩) ∧ Stp B w w' ∧ r.fr.length = s.r.fr.length ∧ (∀ j : Int, 0 ≤ j → (here r j ↔ j = i ∨ here s.r j)) ∧ One p w w'

set_option maxRecDepth 20000 in
set_option maxHeartbeats 1000000 in
theorem load_ok (B p d i : Nat) (s : Po) (k : Dk) (h : Nat → Pg) (w : World) (m : Mem w B p d s k h) (hi : i < 16) (h0 : (Ck.putR s.r (i : Int)).2 = 0) :
    Calls Try.prog 9 #[.pointer (some ⟨p, 0, none⟩), .int .i64 (i : Int)] w fun e w' => e = .returned (.int .i64 0) ∧ Loaded w w' B p d s k h i := by
  obtain ⟨-, c1, c2, -, -, hlt⟩ := m.po.cells
  have HA := toHid (Ck.put_any s.a s.c s.r (i : Int) w m.po.ring m.po.len)
  rw [show Ck.putR s.r (i : Int) = ((Ck.putR s.r (i : Int)).1, 0) by rw [← h0]] at HA
  have HM := toHid m
  have H0 := toHid h0
  clear m h0
  generalize (Ck.putR s.r (i : Int)).1 = r0 at HA
  go_enter Try.func9, Try.ntmps9
  go_wp2_with fail
  refine Calls.mono HA.out ?_
  rintro e w1 ⟨a, c, rfl, -, hb, -⟩
  clear HA c1 c2
  have HB := toHid (hb.alloc hb.size (.cells #[.slice a r0.fr.length c, .int .i64 r0.hand] 36))
  clear hb
  go_wp2_with fail
  generalize World.alloc _ _ = W at HB ⊢
  have HM1 := toHid (HM.out.below HB.out)
  refine Calls.mono (fetch28 p d i s k W HM1.out.po HM1.out.dk hi) ?_
  rintro e w2 ⟨b, v, rfl, hpg, hb2⟩
  have HG := toHid hpg
  have HB2 := toHid hb2
  clear hpg hb2
  go_wp2_with fail
  refine Calls.mono (put_yes p (stV d) s i (some ⟨b, 0, none⟩) false 0 w2 (HM1.out.po.below HB2.out) hi H0.out) ?_
  rintro e w3 ⟨rfl, ho, r, a', c', hpo, hlen, hh, hn⟩
  have HLn := toHid hlen
  clear hlen
  have HO := toHid ho
  have HPo := toHid hpo
  clear ho hpo
  go_wp2
  go_ret
  refine ⟨rfl, r, a', c', b, v, ?_, ?_, HLn.out, hh, (One.of (below_on HB.out HB2.out)).trans HO.out⟩
  · exact HM1.out.load HB2.out i hi HG.out (HM.out.dk.good i) (HM.out.dk.low i) HO.out HPo.out rfl hh hn
  · have m2 := HM1.out.below HB2.out
    exact ((Stp.of HB.out HM.out.B_le).trans (Stp.of HB2.out HM1.out.B_le)).trans (m2.stp HO.out)

theorem clean_no (p : Nat) (st : Value) (s : Po) (id : Int) (w : World) (h : PoIn w p st s) (hh : ¬ (0 ≤ id ∧ id < 16 ∧ here s.r id)) :
    Calls Try.prog 14 #[.pointer (some ⟨p, 0, none⟩), .int .i64 id] w fun e w' => e = .returned (.int .i64 8) ∧ Below w.heap.size w w' := by
  have HA := toHid (at_no p st s id w h hh)
  clear h hh
  go_enter Try.func14, Try.ntmps14
  go_wp2_with fail
  refine Calls.mono HA.out ?_
  rintro e w1 ⟨rfl, hb⟩
  clear HA
  go_wp2
  go_ret
  exact ⟨rfl, hb⟩
theorem clean_nil (id : Int) (w : World) : Calls Try.prog 14 #[.pointer none, .int .i64 id] w fun e w' => e = .returned (.int .i64 1) ∧ w' = w := by
  have HA := toHid (at_nil id w)
  go_enter Try.func14, Try.ntmps14
  go_wp2_with fail
  refine Calls.mono HA.out ?_
  rintro e w1 ⟨rfl, hw⟩
  obtain rfl := hw.symm
  clear HA
  go_wp2
  go_ret
  exact ⟨rfl, rfl⟩
theorem clean_idle (p : Nat) (st : Value) (s : Po) (i : Nat) (w : World) (h : PoIn w p st s) (hi : i < 16) (hh : here s.r (i : Int)) (hD : s.D i = false) :
    Calls Try.prog 14 #[.pointer (some ⟨p, 0, none⟩), .int .i64 (i : Int)] w fun e w' => e = .returned (.int .i64 0) ∧ Below w.heap.size w w' := by
  have HA := toHid (at_yes p st s i w h hi hh)
  have HH := toHid h
  clear h hh
  go_enter Try.func14, Try.ntmps14
  go_wp2_with fail
  refine Calls.mono HA.out ?_
  rintro e w1 ⟨rfl, hb⟩
  clear HA
  have h1 := HH.out.below hb
  obtain ⟨d0, d1, d2, e0, e1, e2⟩ := h1.held i hi
  rw [hD] at d1
  have hlt := h1.lt
  clear h1
  go_wp2
  go_ret
  exact ⟨rfl, hb⟩

set_option maxRecDepth 20000 in
set_option maxHeartbeats 1000000 in
theorem clean_wait (B p d i : Nat) (s : Po) (k : Dk) (h : Nat → Pg) (w : World) (m : Mem w B p d s k h) (hi : i < 16) (hh : here s.r (i : Int)) (hD : s.D i = true) (hk : k.stable < (h i).lsn) :
    Calls Try.prog 14 #[.pointer (some ⟨p, 0, none⟩), .int .i64 (i : Int)] w fun e w' => e = .returned (.int .i64 13) ∧ Below w.heap.size w w' := by
  have HA := toHid (at_yes p (stV d) s i w m.po hi hh)
  have HM := toHid m
  clear m
  go_enter Try.func14, Try.ntmps14
  go_wp2_with fail
  refine Calls.mono HA.out ?_
  rintro e w1 ⟨rfl, hb⟩
  clear HA
  have HM1 := toHid (HM.out.below hb)
  obtain ⟨d0, d1, d2, e0, e1, e2⟩ := HM1.out.po.held i hi
  obtain ⟨p1, p2, p3, p4⟩ := HM1.out.pg i hi hh
  rw [hD] at d1
  rw [p1] at d0
  have hlt := HM1.out.po.lt
  have HG := toHid p2
  clear p1 p2 p3
  go_wp2_with fail
  refine Calls.mono (lay_wait p d B (h i).b i (h i).lsn (h i).v (h i).l s k w1 HM1.out.po HM1.out.dk HG.out hk) ?_
  rintro e w2 ⟨rfl, hb2⟩
  have hB := below_on hb hb2
  clear hb hb2 d0 d1 d2 e0 e1 e2
  go_wp2
  go_ret
  exact ⟨rfl, hB⟩

set_option maxRecDepth 20000 in
set_option maxHeartbeats 1000000 in
theorem clean_go (B p d i : Nat) (s : Po) (k : Dk) (h : Nat → Pg) (w : World) (m : Mem w B p d s k h) (hi : i < 16) (hh : here s.r (i : Int)) (hD : s.D i = true) (hk : (h i).lsn ≤ k.stable) :
    Calls Try.prog 14 #[.pointer (some ⟨p, 0, none⟩), .int .i64 (i : Int)] w fun e w' => e = .returned (.int .i64 0) ∧ Mem w' B p d { s with D := upd s.D i false, R := upd s.R i 0 } (laid k i (h i).lsn (h i).l) h ∧ Stp B w w' := by
  have HA := toHid (at_yes p (stV d) s i w m.po hi hh)
  have HM := toHid m
  clear m
  go_enter Try.func14, Try.ntmps14
  go_wp2_with fail
  refine Calls.mono HA.out ?_
  rintro e w1 ⟨rfl, hb⟩
  clear HA
  have HM1 := toHid (HM.out.below hb)
  obtain ⟨d0, d1, d2, e0, e1, e2⟩ := HM1.out.po.held i hi
  obtain ⟨p1, p2, p3, p4⟩ := HM1.out.pg i hi hh
  rw [hD] at d1
  rw [p1] at d0
  have hlt := HM1.out.po.lt
  have HG := toHid p2
  have HGo := toHid p3
  clear p1 p2 p3
  go_wp2_with fail
  refine Calls.mono (lay_go p d B (h i).b i (h i).lsn (h i).v (h i).l s k w1 HM1.out.po HM1.out.dk HG.out hk HGo.out hi p4) ?_
  rintro e w2 ⟨rfl, hdk, ho⟩
  have HM2 := toHid (HM1.out.disk ho hdk)
  have HS := toHid ((Stp.of hb HM.out.B_le).trans (HM1.out.stpD ho))
  clear hb hdk ho d0 d1 d2 e0 e1 e2 hlt
  obtain ⟨d0, d1, d2, e0, e1, e2⟩ := HM2.out.po.held i hi
  have hlt := HM2.out.po.lt
  go_wp2
  go_ret
  have ho : One p w2 ((w2.setCell ⟨p, 3 + i * 3 + 1, none⟩ (.bool false)).setCell ⟨p, 3 + i * 3 + 2, none⟩ (.int .u64 ((0 : Nat) : Int))) := ((One.of (Below.refl _ _)).set _ _).set _ _
  exact ⟨rfl, HM2.out.turn ho (HM2.out.po.setD HM2.out.rp i hi false 0) (fun _ _ h => h) (fun _ _ _ => rfl) (fun x hx => .inr hx), HS.out.trans (HM2.out.stp ho)⟩
end Go.Proofs.Ytcloinonhpaojaa
