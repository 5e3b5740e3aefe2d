/-
  The walk of MergeHeap.
-/
import Derived.Test.YtnejcjebepidcaaIa
namespace Go.Proofs.Ytnejcjebepidcaa
open Go.RowKit

/-- A heap of numbers J, and a row of numbers I. -/
structure Hp (w0 : World) (h : Nat) (I J : List Int) (a : Option Addr) (c : Nat) (th : Nat → Value) (key : Nat → Int) (live : List Nat) (N : Nd) (tv : Value) (tops : List Nat) (W : World) : Prop where
  heap : HeapI w0.heap.size h th key live N tv tops W
  row : W.ownsRow w0.heap.size 3 1 (.slice a I.length c) I.length (i64s I)
  perm : (live.map key).Perm J
  low : Below w0.heap.size w0 W

section
variable {w0 W W' : World} {h : Nat} {I J : List Int} {a : Option Addr} {c : Nat} {th : Nat → Value} {key : Nat → Int} {live : List Nat} {N : Nd} {tv : Value} {tops : List Nat}

theorem Hp.rowKept (H : Hp w0 h I J a c th key live N tv tops W) {F' : Nat → Prop} (hm : Moved (Foot h live N tv) F' W W') : W'.ownsRow w0.heap.size 3 1 (.slice a I.length c) I.length (i64s I) :=
  own_stay H.row (fun k c _ hc => hm.keep k (Array.getElem?_eq_some_iff.1 hc).1 (fun e => by
    obtain ⟨c', t', hc', ht'⟩ := H.heap.kind e
    rw [hc] at hc'
    injection hc' with hc'
    injection hc' with _ hc'
    subst hc'
    omega))
theorem Hp.pushed (H : Hp w0 h I J a c th key live N tv tops W) {x : Int} {N' : Nd} {tv' : Value} {tops' : List Nat} (hn : W.heap.size ∉ live)
    (hH : HeapI w0.heap.size h (fun q => if q = W.heap.size then .int .i64 x else th q) (fun q => if q = W.heap.size then x else key q) (W.heap.size :: live) N' tv' tops' W') (hM : Moved (Foot h live N tv) (Foot h (W.heap.size :: live) N' tv') W W') :
    Hp w0 h I (x :: J) a c (fun q => if q = W.heap.size then .int .i64 x else th q) (fun q => if q = W.heap.size then x else key q) (W.heap.size :: live) N' tv' tops' W' := by
  refine ⟨hH, H.rowKept hM, ?_, H.low.trans (hM.low H.heap.foot H.heap.base)⟩
  rw [List.map_cons, if_pos rfl]
  refine List.Perm.cons x ?_
  rw [List.map_congr_left fun q hq => if_neg (fun e : q = W.heap.size => hn (e ▸ hq))]
  exact H.perm
theorem Hp.popped (H : Hp w0 h I J a c th key live N tv tops W) {m : Nat} {N' : Nd} {tv' : Value} {tops' : List Nat} (_hm : m ∈ live) (hH : HeapI w0.heap.size h th key (live.erase m) N' tv' tops' W') (hM : Moved (Foot h live N tv) (Foot h (live.erase m) N' tv') W W') :
    Hp w0 h I ((live.erase m).map key) a c th key (live.erase m) N' tv' tops' W' :=
  ⟨hH, H.rowKept hM, List.Perm.refl _, H.low.trans (hM.low H.heap.foot H.heap.base)⟩
theorem Hp.below (H : Hp w0 h I J a c th key live N tv tops W) (hb : Below W.heap.size W W') : Hp w0 h I J a c th key live N tv tops W' :=
  ⟨H.heap.stay (fun k _ _ _ hc => hb.block k (Array.getElem?_eq_some_iff.1 hc).1) (hb.mono H.low.size), own_stay H.row (fun k _ _ hc => hb.block k (Array.getElem?_eq_some_iff.1 hc).1), H.perm, H.low.trans (hb.mono H.low.size)⟩
theorem Hp.rowed (H : Hp w0 h I J a c th key live N tv tops W) {I' : List Int} {a' : Option Addr} {c' : Nat} (hg : W.grownBy W' (Value.slice a I.length c).ownBlock) (hr : W'.ownsRow w0.heap.size 3 1 (.slice a' I'.length c') I'.length (i64s I')) : Hp w0 h I' J a' c' th key live N tv tops W' := by
  have hb : Below w0.heap.size W W' := (Below.refl _ _).grown hg H.low.size (fun k hk => (H.row.lt k hk).1)
  refine ⟨H.heap.stay (fun k c t ht hc => hg.block k (Array.getElem?_eq_some_iff.1 hc).1 (fun e => ?_)) hb, hr, H.perm, H.low.trans hb⟩
  obtain ⟨c', fz, hc'⟩ := Lib.ownsRow_kind H.row k e.symm
  rw [hc] at hc'
  injection hc' with hc'
  injection hc' with _ hc'
  subst hc'
  omega
theorem Hp.some (H : Hp w0 h I J a c th key live N tv tops W) (hp : I.Perm J) (hI : 0 < I.length) : live ≠ [] := by
  intro e
  subst e
  have := H.perm.length_eq
  have := hp.length_eq
  simp at *
  omega
theorem Hp.count (H : Hp w0 h I J a c th key live N tv tops W) (hp : I.Perm J) : live.length = I.length := by
  have h1 := H.perm.length_eq
  have h2 := hp.length_eq
  rw [List.length_map] at h1
  omega
end

theorem news_int (w : World) (x : Int) : ∀ j u, (i64s [x])[j]? = some u → (w.alloc (.cells #[.int .i64 x] 3)).cell? ((⟨w.heap.size, 0, none⟩ : Addr).add j) = some u := by
  intro j u hj
  rcases j with _ | j
  · simp [i64s] at hj
    subst hj
    rw [add_plain]
    unfold World.cell?
    simp only [heap_alloc_new]
    rfl
  · simp [i64s] at hj

theorem least_eq {live : List Nat} {key : Nat → Int} {I J : List Int} (hp : (live.map key).Perm J) (hi : I.Perm J) {k : Nat} (hk : k < I.length) (hkm : ∀ j, (hj : j < I.length) → I[k] ≤ I[j]) {m : Nat} (hm : m ∈ live) (hmin : ∀ x, x ∈ live → key m ≤ key x) : I[k] = key m := by
  have h1 : I[k] ∈ live.map key := (hp.trans hi.symm).mem_iff.2 (List.getElem_mem hk)
  obtain ⟨x, hx, hxk⟩ := List.mem_map.1 h1
  have h2 : key m ∈ I := (hi.trans hp.symm).mem_iff.2 (List.mem_map.2 ⟨m, hm, rfl⟩)
  obtain ⟨j, hj, hjk⟩ := List.getElem_of_mem h2
  have := hkm j hj
  have := hmin x hx
  omega
theorem erase_perm {live : List Nat} {key : Nat → Int} {I J : List Int} (hp : (live.map key).Perm J) (hi : I.Perm J) {k : Nat} (hk : k < I.length) {m : Nat} (hm : m ∈ live) (he : I[k] = key m) : (I.eraseIdx k).Perm ((live.erase m).map key) := by
  have h1 : (live.map key).Perm (key m :: (live.erase m).map key) := by
    have := (List.perm_cons_erase hm).map key
    simpa using this
  have h2 : I.Perm (I[k] :: I.eraseIdx k) := by
    rw [List.eraseIdx_eq_take_drop_succ]
    conv => lhs; rw [← List.take_append_drop k I, List.drop_eq_getElem_cons hk]
    exact List.perm_middle
  rw [he] at h2
  exact (h2.symm.trans ((hi.trans hp.symm).trans h1)).cons_inv

set_option maxRecDepth 100000 in
set_option maxHeartbeats 40000000 in
set_option linter.unusedSimpArgs false in
theorem heap_walk (a : Option Addr) (c : Nat) (l : List Int) (b : Option Addr) (d : Nat) (ts : List Bool) (w : World) (hl : SlV w a (i64s l)) (hll : l.length ≤ maxLen) (ht : SlV w b (boolsV ts)) :
    Calls Try.prog 7 #[.slice a l.length c, .slice b ts.length d] w fun e w' => e = .returned (.bool true) ∧ Below w.heap.size w w' := by
  obtain ⟨i0, hi0, hz0, hz1, hz2⟩ := info_parts Try.info3
  unfold maxLen at hll
  have HL := toHid hl
  have HT := toHid ht
  have HH0 := toHid (⟨HeapI.new w.heap.size (fun _ => .int .i64 0) (fun _ => 0) w (Nat.le_refl _), World.ownsRow_nil _ _ _ _, List.Perm.refl _, (Below.refl _ _).alloc (Nat.le_refl _) _⟩ : Hp w w.heap.size [] [] none 0 (fun _ => .int .i64 0) (fun _ => 0) [] ⟨fun _ => .slice none 0 0, fun _ => []⟩ (.slice none 0 0) [] (w.alloc (.cells #[.func (.func 24) #[] #[], .slice none 0 0, .int .i64 0] 82)))
  clear hl ht
  by_cases h300 : l.length ≤ 300
  rotate_left
  · have g1 : (300 : Int) < (l.length : Int) := by omega
    have g2 : decide ((300 : Int) < (l.length : Int)) = true := by simp; omega
    go_enter Try.func7, Try.ntmps7
    go_wp2_with fail
    refine Calls.mono (newI w) ?_
    rintro e w1 ⟨rfl, hw⟩
    obtain rfl := hw.symm
    go_wp2_with fail
    refine Calls.mono (lives10 _) ?_
    rintro e w2 ⟨rfl, hb⟩
    have HB := toHid (HH0.out.low.trans (hb.mono (by simp)))
    clear hb
    go_wp2
    go_ret
    exact ⟨rfl, HB.out⟩
  have g1 : ¬ (300 : Int) < (l.length : Int) := by omega
  have g2 : decide ((300 : Int) < (l.length : Int)) = false := by simp; omega
  go_enter Try.func7, Try.ntmps7
  go_wp2_with fail
  refine Calls.mono (newI w) ?_
  rintro e w1 ⟨rfl, hw⟩
  obtain rfl := hw.symm
  go_wp2_with fail
  clear g1 g2
  go_loopw [6, 7] (fun s k W => ∃ (i : Nat) (a2 : Option Addr) (c2 : Nat) (I J : List Int) (th : Nat → Value) (key : Nat → Int) (live : List Nat) (N : Nd) (tv : Value) (tops : List Nat), i ≤ l.length ∧ k = .int .i64 i ∧ s = .slice a2 I.length c2 ∧ I.Perm J ∧ I.length ≤ i ∧ Hp w w.heap.size I J a2 c2 th key live N tv tops W) (fun _ k _ => l.length - (intOf k).toNat)
  case atStart => exact ⟨0, none, 0, [], [], _, _, [], _, _, [], Nat.zero_le _, rfl, rfl, List.Perm.refl _, Nat.le_refl _, HH0.out⟩
  case round =>
    obtain ⟨i, a0, c0, I0, J0, th0, key0, live0, N0, tv0, tops0, hi, rfl, rfl, hij0, hIi0, hp0⟩ := hrel
    have HHp0 := toHid hp0
    have HIJ0 := toHid hij0
    clear hp0 hij0 HH0
    by_cases hlt : i < l.length
    · obtain ⟨bl, ol, rfl, cl, hbl⟩ := HL.out.at i _ (i64s_at l i hlt)
      have hi1 : (i : Int) < (l.length : Int) := by omega
      have clw := cl
      rw [← HHp0.out.low.cell (p := ⟨bl, ol + i, none⟩) hbl] at cl
      have HCl := toHid (fun (W : World) (hW : Below w.heap.size w W) => (hW.cell (p := ⟨bl, ol + i, none⟩) hbl).trans clw)
      have hcnt0 := HHp0.out.count HIJ0.out
      have HPu := toHid (pushI w.heap.size w.heap.size th0 key0 live0 N0 tv0 tops0 (.int .i64 l[i]) l[i] wr HHp0.out.heap rfl (by omega))
      clear clw hcnt0
      go_wp2_with fail
      refine Calls.mono HPu.out ?_
      rintro e w1 ⟨rfl, N1, tv1, hnl, hH1, hM1⟩
      have HP1 := toHid (HHp0.out.pushed hnl hH1 hM1)
      have cl1 := HCl.out w1 HP1.out.low
      have hsz1 := HP1.out.low.size
      have HRo := toHid (World.ownsRow.alloc HP1.out.row (.cells #[.int .i64 l[i]] 3))
      have HNw := toHid (news_int w1 l[i])
      clear hnl hH1 hM1 HPu cl
      by_cases htb : i < ts.length
      · obtain ⟨bt, ot, rfl, ct, hbt⟩ := HT.out.at i _ (boolsV_at ts i htb)
        have t1 : (i : Int) < (ts.length : Int) := by omega
        have t2 : decide ((i : Int) < (ts.length : Int)) = true := by simp; omega
        have HCb := toHid (fun (W : World) (hW : Below w.heap.size w W) => (hW.cell (p := ⟨bt, ot + i, none⟩) hbt).trans ct)
        clear ct
        cases htv : ts[i]
        · rw [htv] at HCb
          clear htv
          go_wp2_with (at_builtin; go_must (refine wpList_append_fresh _ rfl _ _ 48 rfl w.heap.size 3 i0 _ 1 8 Try.underlying48 hi0 hz0 hz1 hz2 rfl (by decide) (.slice a0 I0.length c0) I0.length (i64s I0) rfl HRo.out ⟨w1.heap.size, 0, none⟩ 1 1 (i64s [l[i]]) rfl rfl HNw.out (i64s_one _) (by unfold maxLen; omega) (by omega) (by simp; omega) ?_; intro v3 wq hown hgrow _; obtain ⟨a2, c2, rfl⟩ := ownsRow_shape hown; have HHp := toHid (HP1.out.rowed (I' := I0 ++ [l[i]]) (grownBy_step (World.grownBy_alloc w1 _ _) hgrow) (by rw [List.length_append, i64s_append]; exact hown)); have ctq := HCb.out wq HHp.out.low; clear hown hgrow))
          rw [show I0.length + 1 = (I0 ++ [l[i]]).length by simp]
          have hIp : 0 < (I0 ++ [l[i]]).length := by simp
          have hIf : (I0 ++ [l[i]]).length ≤ 1000000 := by simp; omega
          have hIi : (I0 ++ [l[i]]).length ≤ i + 1 := by simp; omega
          have HIJ := toHid (show (I0 ++ [l[i]]).Perm (l[i] :: J0) from (List.perm_append_singleton _ _).trans (List.Perm.cons _ HIJ0.out))
          clear HP1 HRo HNw HHp0 HIJ0 cl1 ctq HCb t1 t2
          generalize I0 ++ [l[i]] = I at *
          generalize (l[i] :: J0) = J at *
          generalize (fun q => if q = wr.heap.size then Value.int .i64 l[i] else th0 q) = th at *
          generalize (fun q => if q = wr.heap.size then l[i] else key0 q) = key at *
          generalize (wr.heap.size :: live0) = live at *
          generalize tops0 ++ [wr.heap.size] = tops at *
          generalize N1 = N at *
          generalize tv1 = tv at *
          have hcnt := HHp.out.count HIJ.out
          have HLn := toHid (lenIsI w.heap.size w.heap.size th key live N tv tops wq HHp.out.heap)
          rw [hcnt] at HLn
          have hnn : ((I.length : Int) != (I.length : Int)) = false := by simp
          clear hcnt
          refine Calls.mono HLn.out ?_
          rintro e w6 ⟨rfl, hw⟩
          obtain rfl := hw.symm
          clear HLn
          go_wp2_with fail
          go_roundw
          case rel => exact ⟨i + 1, _, _, I, J, _, _, _, _, _, _, by omega, by go_num, rfl, HIJ.out, hIi, HHp.out⟩
          case measure => simp [intOf]; omega
        · rw [htv] at HCb
          clear htv
          go_wp2_with (at_builtin; go_must (refine wpList_append_fresh _ rfl _ _ 48 rfl w.heap.size 3 i0 _ 1 8 Try.underlying48 hi0 hz0 hz1 hz2 rfl (by decide) (.slice a0 I0.length c0) I0.length (i64s I0) rfl HRo.out ⟨w1.heap.size, 0, none⟩ 1 1 (i64s [l[i]]) rfl rfl HNw.out (i64s_one _) (by unfold maxLen; omega) (by omega) (by simp; omega) ?_; intro v3 wq hown hgrow _; obtain ⟨a2, c2, rfl⟩ := ownsRow_shape hown; have HHp := toHid (HP1.out.rowed (I' := I0 ++ [l[i]]) (grownBy_step (World.grownBy_alloc w1 _ _) hgrow) (by rw [List.length_append, i64s_append]; exact hown)); have ctq := HCb.out wq HHp.out.low; clear hown hgrow))
          rw [show I0.length + 1 = (I0 ++ [l[i]]).length by simp]
          have hIp : 0 < (I0 ++ [l[i]]).length := by simp
          have hIf : (I0 ++ [l[i]]).length ≤ 1000000 := by simp; omega
          have hIi : (I0 ++ [l[i]]).length ≤ i + 1 := by simp; omega
          have HIJ := toHid (show (I0 ++ [l[i]]).Perm (l[i] :: J0) from (List.perm_append_singleton _ _).trans (List.Perm.cons _ HIJ0.out))
          clear HP1 HRo HNw HHp0 HIJ0 cl1 ctq HCb t1 t2
          generalize I0 ++ [l[i]] = I at *
          generalize (l[i] :: J0) = J at *
          generalize (fun q => if q = wr.heap.size then Value.int .i64 l[i] else th0 q) = th at *
          generalize (fun q => if q = wr.heap.size then l[i] else key0 q) = key at *
          generalize (wr.heap.size :: live0) = live at *
          generalize tops0 ++ [wr.heap.size] = tops at *
          generalize N1 = N at *
          generalize tv1 = tv at *
          obtain ⟨g, cu, rfl, -, -, hc2, -⟩ : ∃ g cu, a2 = some ⟨g, 0, none⟩ ∧ w.heap.size ≤ g ∧ wq.heap[g]? = some (.cells cu 3) ∧ I.length ≤ c2 ∧ cu.size = c2 * 1 := by
            rcases own_addr HHp.out.row with ⟨_, e, _⟩ | h
            · omega
            · exact h
          have HPo := toHid (popI w.heap.size w.heap.size th key live N tv tops wq HHp.out.heap (HHp.out.some HIJ.out hIp))
          go_wp2_with fail
          refine Calls.mono HPo.out ?_
          rintro e w2 ⟨m, N2, tv2, tops2, rfl, hm, hmin, hH2, hM2⟩
          rw [show th m = .int .i64 (key m) from HHp.out.heap.keys m hm]
          have HQ2 := toHid (HHp.out.popped hm hH2 hM2)
          have HMin := toHid hmin
          have HM := toHid hm
          clear hH2 hM2 hmin hm HPo
          go_wp2_with fail
          refine Calls.mono (least27 w.heap.size g c2 I w2 HQ2.out.row (by omega) hIp) ?_
          rintro e w4 ⟨k, hk, rfl, hkm, nn, rfl⟩
          have hke : I[k] = key m := least_eq HHp.out.perm HIJ.out hk hkm HM.out HMin.out
          have HPe := toHid (erase_perm HHp.out.perm HIJ.out hk HM.out hke)
          have hne : (key m != I[k]) = false := by simp [hke]
          obtain ⟨W3, hW3⟩ : ∃ W3, W3 = w2.drewN nn := ⟨_, rfl⟩
          have HQ3 := toHid (show Hp w w.heap.size I _ _ c2 th key (live.erase m) N2 tv2 tops2 W3 from hW3 ▸ HQ2.out.below (below_drewN _ _ _))
          rw [← hW3]
          have ck := int_cell HQ3.out.row k hk
          have HRD := toHid (show W3.drew.ownsRow w.heap.size 3 1 (.slice (some ⟨g, 0, none⟩) I.length c2) I.length (i64s I) from HQ3.out.row)
          have hB3 : w.heap.size ≤ W3.drew.heap.size := HQ3.out.low.size
          have n1 : (k : Int) ≤ (c2 : Int) := by omega
          have n2 : (k : Int) + 1 ≤ (I.length : Int) := by omega
          have n3 : 0 ≤ (k : Int) := by omega
          have n3' : (k : Int) < (I.length : Int) := by omega
          have n4 : k ≤ c2 := by omega
          have n5 : k + 1 ≤ I.length := by omega
          have hwr : IntKind.i64.wrap ((k : Int) + 1) = (k : Int) + 1 := by simp [IntKind.wrap, IntKind.bits, IntKind.signed]; omega
          have hb9 : 0 ≤ (k : Int) + 1 ∧ (k : Int) + 1 ≤ (I.length : Int) := by omega
          clear hW3 hkm hke HQ2 HMin
          by_cases hcc : c2 = k + 1
          · have hd0 : I.length - (k + 1) = 0 := by omega
            subst hcc
            have n9 : (k : Int) ≤ (k : Int) + 1 := by omega
            go_wp2_with fail
            refine wp_region_held_drew (S := (fun _ => True)) (by kernel_rfl) trivial (fun hHeld => ?_)
            refine wpAnyH_take (i := 0) (v := ?_) rfl (by kernel_rfl) (by kernel_rfl) (by kernel_rfl) (fun _ _ _ h => h) (Or.inl ⟨by rfl, ?_⟩) (by assumption) ?_
            rotate_left
            · (intro W hSw; (try dsimp only at hSw); go_simp; try with_reducible rfl)
            try simp only [Act.put, List.getElem_toArray, List.getElem_cons_zero, List.getElem_cons_succ, List.setIfInBounds_toArray, List.set_cons_zero, List.set_cons_succ]
            refine wpAnyH_take (i := 1) (v := ?_) rfl (by kernel_rfl) (by kernel_rfl) (by kernel_rfl) (fun _ _ _ h => h) (Or.inl ⟨by rfl, ?_⟩) (by assumption) ?_
            rotate_left
            · (intro W hSw; (try dsimp only at hSw); go_simp; try with_reducible rfl)
            try simp only [Act.put, List.getElem_toArray, List.getElem_cons_zero, List.getElem_cons_succ, List.setIfInBounds_toArray, List.set_cons_zero, List.set_cons_succ]
            refine wpAnyH_take (i := 2) (v := ?_) rfl (by kernel_rfl) (by kernel_rfl) (by kernel_rfl) (fun _ _ _ h => h) (Or.inl ⟨by rfl, ?_⟩) (by assumption) ?_
            rotate_left
            · (intro W hSw; (try dsimp only at hSw); go_simp; try with_reducible rfl)
            try simp only [Act.put, List.getElem_toArray, List.getElem_cons_zero, List.getElem_cons_succ, List.setIfInBounds_toArray, List.set_cons_zero, List.set_cons_succ]
            refine wpAnyH_take (i := 3) (v := ?_) rfl (by kernel_rfl) (by kernel_rfl) (by kernel_rfl) (fun _ _ _ h => h) (Or.inl ⟨by rfl, ?_⟩) (by assumption) ?_
            rotate_left
            · (intro W hSw; (try dsimp only at hSw); go_simp; try with_reducible rfl)
            try simp only [Act.put, List.getElem_toArray, List.getElem_cons_zero, List.getElem_cons_succ, List.setIfInBounds_toArray, List.set_cons_zero, List.set_cons_succ]
            refine wpAnyH_take (i := 4) (v := ?_) rfl (by kernel_rfl) (by kernel_rfl) (by kernel_rfl) (fun _ _ _ h => h) (Or.inl ⟨by rfl, ?_⟩) (by assumption) ?_
            rotate_left
            · (intro W hSw; (try dsimp only at hSw); go_simp; try with_reducible rfl)
            try simp only [Act.put, List.getElem_toArray, List.getElem_cons_zero, List.getElem_cons_succ, List.setIfInBounds_toArray, List.set_cons_zero, List.set_cons_succ]
            refine wpAnyH_take (i := 5) (v := ?_) rfl (by kernel_rfl) (by kernel_rfl) (by kernel_rfl) (fun _ _ _ h => h) (Or.inl ⟨by rfl, ?_⟩) (by assumption) ?_
            rotate_left
            · (intro W hSw; (try dsimp only at hSw); go_simp; try with_reducible rfl)
            try simp only [Act.put, List.getElem_toArray, List.getElem_cons_zero, List.getElem_cons_succ, List.setIfInBounds_toArray, List.set_cons_zero, List.set_cons_succ]
            refine wpAnyH_take (i := 6) (v := ?_) rfl (by kernel_rfl) (by kernel_rfl) (by kernel_rfl) (fun _ _ _ h => h) (Or.inl ⟨by rfl, ?_⟩) (by assumption) ?_
            rotate_left
            · (intro W hSw; (try dsimp only at hSw); go_simp; try with_reducible rfl)
            try simp only [Act.put, List.getElem_toArray, List.getElem_cons_zero, List.getElem_cons_succ, List.setIfInBounds_toArray, List.set_cons_zero, List.set_cons_succ]
            refine wpAnyH_ready (rs := [7]) (by kernel_rfl) (by simp) ?_
            refine AllReadyH.cons rfl (fun K hK => ?_) AllReadyH.nil
            obtain ⟨a4, c4, y4, hr4, hw4, hg4⟩ := run_erase W3.drew w.heap.size g (k + 1) I k ⟨g, 0, none⟩ (0) HRD.out hk hIf hB3 (.inl hd0)
            have HO4 := toHid hw4
            have HG4 := toHid hg4
            clear hw4 hg4
            rw [if_pos (by kernel_rfl)]
            refine operwp_append _ _ _ _ _ (.tmp 80) (.tmp 84) 48 rfl _ _ rfl rfl _ _ (show (Builtin.append_ #[48, 48] 48 #[.slice (some ⟨g, 0, none⟩) k (k + 1), .slice (some ⟨g, 0, none⟩) 0 0]).run Try.prog W3.drew = .ok (.slice a4 (I.length - 1) c4) y4 by rw [hd0] at hr4; exact hr4) ?_
            clear hr4
            refine hK.out _ _ trivial (fun hHeld => ?_)
            clear hK K
            try simp only [Act.put, List.getElem_toArray, List.getElem_cons_zero, List.getElem_cons_succ, List.setIfInBounds_toArray, List.set_cons_zero, List.set_cons_succ]
            refine wpAnyH_take (i := 8) (v := ?_) rfl (by kernel_rfl) (by kernel_rfl) (by kernel_rfl) (fun _ _ _ h => h) (Or.inl ⟨by rfl, ?_⟩) (by assumption) ?_
            rotate_left
            · (intro W hSw; (try dsimp only at hSw); go_simp; try with_reducible rfl)
            try simp only [Act.put, List.getElem_toArray, List.getElem_cons_zero, List.getElem_cons_succ, List.setIfInBounds_toArray, List.set_cons_zero, List.set_cons_succ]
            refine wpAnyH_done (by kernel_rfl) ?_ _
            clear hHeld
            have HQ5 := toHid (Hp.rowed (I' := I.eraseIdx k) (HQ3.out.below (W' := W3.drew) (Below.refl _ _).drew) HG4.out (by rw [List.length_eraseIdx_of_lt hk]; exact HO4.out))
            have hcnt : (live.erase m).length = I.length - 1 := by rw [HQ5.out.count HPe.out, List.length_eraseIdx_of_lt hk]
            have HLn := toHid (lenIsI w.heap.size w.heap.size th key (live.erase m) N2 tv2 tops2 y4 HQ5.out.heap)
            rw [hcnt] at HLn
            have hnn : (((I.length - 1 : Nat) : Int) != ((I.length - 1 : Nat) : Int)) = false := by simp
            have HIL := toHid (List.length_eraseIdx_of_lt hk)
            clear hcnt
            go_wp2_with fail
            refine Calls.mono HLn.out ?_
            rintro e w6 ⟨rfl, hw⟩
            obtain rfl := hw.symm
            clear HLn
            go_wp2_with fail
            go_roundw
            case rel => exact ⟨i + 1, _, _, I.eraseIdx k, _, _, _, _, _, _, _, by omega, by go_num, by rw [HIL.out], HPe.out, by rw [HIL.out]; omega, HQ5.out⟩
            case measure => simp [intOf]; omega
          · have n7 : ¬ c2 ≤ k + 1 := by omega
            have n8 : ¬ c2 - (k + 1) = 0 := by omega
            have n9 : ¬ c2 = k + 1 := hcc
            go_wp2_with fail
            refine wp_region_held_drew (S := (fun _ => True)) (by kernel_rfl) trivial (fun hHeld => ?_)
            refine wpAnyH_take (i := 0) (v := ?_) rfl (by kernel_rfl) (by kernel_rfl) (by kernel_rfl) (fun _ _ _ h => h) (Or.inl ⟨by rfl, ?_⟩) (by assumption) ?_
            rotate_left
            · (intro W hSw; (try dsimp only at hSw); go_simp; try with_reducible rfl)
            try simp only [Act.put, List.getElem_toArray, List.getElem_cons_zero, List.getElem_cons_succ, List.setIfInBounds_toArray, List.set_cons_zero, List.set_cons_succ]
            refine wpAnyH_take (i := 1) (v := ?_) rfl (by kernel_rfl) (by kernel_rfl) (by kernel_rfl) (fun _ _ _ h => h) (Or.inl ⟨by rfl, ?_⟩) (by assumption) ?_
            rotate_left
            · (intro W hSw; (try dsimp only at hSw); go_simp; try with_reducible rfl)
            try simp only [Act.put, List.getElem_toArray, List.getElem_cons_zero, List.getElem_cons_succ, List.setIfInBounds_toArray, List.set_cons_zero, List.set_cons_succ]
            refine wpAnyH_take (i := 2) (v := ?_) rfl (by kernel_rfl) (by kernel_rfl) (by kernel_rfl) (fun _ _ _ h => h) (Or.inl ⟨by rfl, ?_⟩) (by assumption) ?_
            rotate_left
            · (intro W hSw; (try dsimp only at hSw); go_simp; try with_reducible rfl)
            try simp only [Act.put, List.getElem_toArray, List.getElem_cons_zero, List.getElem_cons_succ, List.setIfInBounds_toArray, List.set_cons_zero, List.set_cons_succ]
            refine wpAnyH_take (i := 3) (v := ?_) rfl (by kernel_rfl) (by kernel_rfl) (by kernel_rfl) (fun _ _ _ h => h) (Or.inl ⟨by rfl, ?_⟩) (by assumption) ?_
            rotate_left
            · (intro W hSw; (try dsimp only at hSw); go_simp; try with_reducible rfl)
            try simp only [Act.put, List.getElem_toArray, List.getElem_cons_zero, List.getElem_cons_succ, List.setIfInBounds_toArray, List.set_cons_zero, List.set_cons_succ]
            refine wpAnyH_take (i := 4) (v := ?_) rfl (by kernel_rfl) (by kernel_rfl) (by kernel_rfl) (fun _ _ _ h => h) (Or.inl ⟨by rfl, ?_⟩) (by assumption) ?_
            rotate_left
            · (intro W hSw; (try dsimp only at hSw); go_simp; try with_reducible rfl)
            try simp only [Act.put, List.getElem_toArray, List.getElem_cons_zero, List.getElem_cons_succ, List.setIfInBounds_toArray, List.set_cons_zero, List.set_cons_succ]
            refine wpAnyH_take (i := 5) (v := ?_) rfl (by kernel_rfl) (by kernel_rfl) (by kernel_rfl) (fun _ _ _ h => h) (Or.inl ⟨by rfl, ?_⟩) (by assumption) ?_
            rotate_left
            · (intro W hSw; (try dsimp only at hSw); go_simp; try with_reducible rfl)
            try simp only [Act.put, List.getElem_toArray, List.getElem_cons_zero, List.getElem_cons_succ, List.setIfInBounds_toArray, List.set_cons_zero, List.set_cons_succ]
            refine wpAnyH_take (i := 6) (v := ?_) rfl (by kernel_rfl) (by kernel_rfl) (by kernel_rfl) (fun _ _ _ h => h) (Or.inl ⟨by rfl, ?_⟩) (by assumption) ?_
            rotate_left
            · (intro W hSw; (try dsimp only at hSw); go_simp; try with_reducible rfl)
            try simp only [Act.put, List.getElem_toArray, List.getElem_cons_zero, List.getElem_cons_succ, List.setIfInBounds_toArray, List.set_cons_zero, List.set_cons_succ]
            refine wpAnyH_ready (rs := [7]) (by kernel_rfl) (by simp) ?_
            refine AllReadyH.cons rfl (fun K hK => ?_) AllReadyH.nil
            obtain ⟨a4, c4, y4, hr4, hw4, hg4⟩ := run_erase W3.drew w.heap.size g (c2) I k ⟨g, k + 1, none⟩ (c2 - (k + 1)) HRD.out hk hIf hB3 (.inr rfl)
            have HO4 := toHid hw4
            have HG4 := toHid hg4
            clear hw4 hg4
            rw [if_pos (by kernel_rfl)]
            refine operwp_append _ _ _ _ _ (.tmp 80) (.tmp 84) 48 rfl _ _ rfl rfl _ _ (hr4) ?_
            clear hr4
            refine hK.out _ _ trivial (fun hHeld => ?_)
            clear hK K
            try simp only [Act.put, List.getElem_toArray, List.getElem_cons_zero, List.getElem_cons_succ, List.setIfInBounds_toArray, List.set_cons_zero, List.set_cons_succ]
            refine wpAnyH_take (i := 8) (v := ?_) rfl (by kernel_rfl) (by kernel_rfl) (by kernel_rfl) (fun _ _ _ h => h) (Or.inl ⟨by rfl, ?_⟩) (by assumption) ?_
            rotate_left
            · (intro W hSw; (try dsimp only at hSw); go_simp; try with_reducible rfl)
            try simp only [Act.put, List.getElem_toArray, List.getElem_cons_zero, List.getElem_cons_succ, List.setIfInBounds_toArray, List.set_cons_zero, List.set_cons_succ]
            refine wpAnyH_done (by kernel_rfl) ?_ _
            clear hHeld
            have HQ5 := toHid (Hp.rowed (I' := I.eraseIdx k) (HQ3.out.below (W' := W3.drew) (Below.refl _ _).drew) HG4.out (by rw [List.length_eraseIdx_of_lt hk]; exact HO4.out))
            have hcnt : (live.erase m).length = I.length - 1 := by rw [HQ5.out.count HPe.out, List.length_eraseIdx_of_lt hk]
            have HLn := toHid (lenIsI w.heap.size w.heap.size th key (live.erase m) N2 tv2 tops2 y4 HQ5.out.heap)
            rw [hcnt] at HLn
            have hnn : (((I.length - 1 : Nat) : Int) != ((I.length - 1 : Nat) : Int)) = false := by simp
            have HIL := toHid (List.length_eraseIdx_of_lt hk)
            clear hcnt
            go_wp2_with fail
            refine Calls.mono HLn.out ?_
            rintro e w6 ⟨rfl, hw⟩
            obtain rfl := hw.symm
            clear HLn
            go_wp2_with fail
            go_roundw
            case rel => exact ⟨i + 1, _, _, I.eraseIdx k, _, _, _, _, _, _, _, by omega, by go_num, by rw [HIL.out], HPe.out, by rw [HIL.out]; omega, HQ5.out⟩
            case measure => simp [intOf]; omega
      · have t1 : ¬ (i : Int) < (ts.length : Int) := by omega
        have t2 : decide ((i : Int) < (ts.length : Int)) = false := by simp; omega
        go_wp2_with (at_builtin; go_must (refine wpList_append_fresh _ rfl _ _ 48 rfl w.heap.size 3 i0 _ 1 8 Try.underlying48 hi0 hz0 hz1 hz2 rfl (by decide) (.slice a0 I0.length c0) I0.length (i64s I0) rfl HRo.out ⟨w1.heap.size, 0, none⟩ 1 1 (i64s [l[i]]) rfl rfl HNw.out (i64s_one _) (by unfold maxLen; omega) (by omega) (by simp; omega) ?_; intro v3 wq hown hgrow _; obtain ⟨a2, c2, rfl⟩ := ownsRow_shape hown; have HHp := toHid (HP1.out.rowed (I' := I0 ++ [l[i]]) (grownBy_step (World.grownBy_alloc w1 _ _) hgrow) (by rw [List.length_append, i64s_append]; exact hown)); skip; clear hown hgrow))
        rw [show I0.length + 1 = (I0 ++ [l[i]]).length by simp]
        have hIp : 0 < (I0 ++ [l[i]]).length := by simp
        have hIf : (I0 ++ [l[i]]).length ≤ 1000000 := by simp; omega
        have hIi : (I0 ++ [l[i]]).length ≤ i + 1 := by simp; omega
        have HIJ := toHid (show (I0 ++ [l[i]]).Perm (l[i] :: J0) from (List.perm_append_singleton _ _).trans (List.Perm.cons _ HIJ0.out))
        clear HP1 HRo HNw HHp0 HIJ0 cl1 t1 t2
        generalize I0 ++ [l[i]] = I at *
        generalize (l[i] :: J0) = J at *
        generalize (fun q => if q = wr.heap.size then Value.int .i64 l[i] else th0 q) = th at *
        generalize (fun q => if q = wr.heap.size then l[i] else key0 q) = key at *
        generalize (wr.heap.size :: live0) = live at *
        generalize tops0 ++ [wr.heap.size] = tops at *
        generalize N1 = N at *
        generalize tv1 = tv at *
        have hcnt := HHp.out.count HIJ.out
        have HLn := toHid (lenIsI w.heap.size w.heap.size th key live N tv tops wq HHp.out.heap)
        rw [hcnt] at HLn
        have hnn : ((I.length : Int) != (I.length : Int)) = false := by simp
        clear hcnt
        refine Calls.mono HLn.out ?_
        rintro e w6 ⟨rfl, hw⟩
        obtain rfl := hw.symm
        clear HLn
        go_wp2_with fail
        go_roundw
        case rel => exact ⟨i + 1, _, _, I, J, _, _, _, _, _, _, by omega, by go_num, rfl, HIJ.out, hIi, HHp.out⟩
        case measure => simp [intOf]; omega
    · obtain rfl : i = l.length := by omega
      clear hlt hi
      go_wp2_with fail
      go_loopw [6] (fun s W => ∃ (a2 : Option Addr) (c2 : Nat) (I J : List Int) (th : Nat → Value) (key : Nat → Int) (live : List Nat) (N : Nd) (tv : Value) (tops : List Nat), s = .slice a2 I.length c2 ∧ I.Perm J ∧ I.length ≤ 300 ∧ Hp w w.heap.size I J a2 c2 th key live N tv tops W) (fun s _ => lenV s)
      case atStart => exact ⟨a0, c0, I0, J0, _, _, _, _, _, _, rfl, HIJ0.out, by omega, HHp0.out⟩
      case round =>
        obtain ⟨a2, c2, I, J, th, key, live, N, tv, tops, rfl, hij, hI3, hp⟩ := hrel
        obtain ⟨wq, hwq⟩ : ∃ wq, wq = wr := ⟨_, rfl⟩
        subst hwq
        have HHp := toHid hp
        have HIJ := toHid hij
        clear hp hij HHp0 HIJ0
        by_cases hIp : 0 < I.length
        · have hIf : I.length ≤ 1000000 := by omega
          have z1 : (0 : Int) < (I.length : Int) := by omega
          obtain ⟨g, cu, rfl, -, -, hc2, -⟩ : ∃ g cu, a2 = some ⟨g, 0, none⟩ ∧ w.heap.size ≤ g ∧ wq.heap[g]? = some (.cells cu 3) ∧ I.length ≤ c2 ∧ cu.size = c2 * 1 := by
            rcases own_addr HHp.out.row with ⟨_, e, _⟩ | h
            · omega
            · exact h
          have HPo := toHid (popI w.heap.size w.heap.size th key live N tv tops wq HHp.out.heap (HHp.out.some HIJ.out hIp))
          go_wp2_with fail
          refine Calls.mono HPo.out ?_
          rintro e w2 ⟨m, N2, tv2, tops2, rfl, hm, hmin, hH2, hM2⟩
          rw [show th m = .int .i64 (key m) from HHp.out.heap.keys m hm]
          have HQ2 := toHid (HHp.out.popped hm hH2 hM2)
          have HMin := toHid hmin
          have HM := toHid hm
          clear hH2 hM2 hmin hm HPo
          go_wp2_with fail
          refine Calls.mono (least27 w.heap.size g c2 I w2 HQ2.out.row (by omega) hIp) ?_
          rintro e w4 ⟨k, hk, rfl, hkm, nn, rfl⟩
          have hke : I[k] = key m := least_eq HHp.out.perm HIJ.out hk hkm HM.out HMin.out
          have HPe := toHid (erase_perm HHp.out.perm HIJ.out hk HM.out hke)
          have hne : (key m != I[k]) = false := by simp [hke]
          obtain ⟨W3, hW3⟩ : ∃ W3, W3 = w2.drewN nn := ⟨_, rfl⟩
          have HQ3 := toHid (show Hp w w.heap.size I _ _ c2 th key (live.erase m) N2 tv2 tops2 W3 from hW3 ▸ HQ2.out.below (below_drewN _ _ _))
          rw [← hW3]
          have ck := int_cell HQ3.out.row k hk
          have HRD := toHid (show W3.drew.ownsRow w.heap.size 3 1 (.slice (some ⟨g, 0, none⟩) I.length c2) I.length (i64s I) from HQ3.out.row)
          have hB3 : w.heap.size ≤ W3.drew.heap.size := HQ3.out.low.size
          have n1 : (k : Int) ≤ (c2 : Int) := by omega
          have n2 : (k : Int) + 1 ≤ (I.length : Int) := by omega
          have n3 : 0 ≤ (k : Int) := by omega
          have n3' : (k : Int) < (I.length : Int) := by omega
          have n4 : k ≤ c2 := by omega
          have n5 : k + 1 ≤ I.length := by omega
          have hwr : IntKind.i64.wrap ((k : Int) + 1) = (k : Int) + 1 := by simp [IntKind.wrap, IntKind.bits, IntKind.signed]; omega
          have hb9 : 0 ≤ (k : Int) + 1 ∧ (k : Int) + 1 ≤ (I.length : Int) := by omega
          clear hW3 hkm hke HQ2 HMin
          by_cases hcc : c2 = k + 1
          · have hd0 : I.length - (k + 1) = 0 := by omega
            subst hcc
            have n9 : (k : Int) ≤ (k : Int) + 1 := by omega
            go_wp2_with fail
            refine wp_region_held_drew (S := (fun _ => True)) (by kernel_rfl) trivial (fun hHeld => ?_)
            refine wpAnyH_take (i := 0) (v := ?_) rfl (by kernel_rfl) (by kernel_rfl) (by kernel_rfl) (fun _ _ _ h => h) (Or.inl ⟨by rfl, ?_⟩) (by assumption) ?_
            rotate_left
            · (intro W hSw; (try dsimp only at hSw); go_simp; try with_reducible rfl)
            try simp only [Act.put, List.getElem_toArray, List.getElem_cons_zero, List.getElem_cons_succ, List.setIfInBounds_toArray, List.set_cons_zero, List.set_cons_succ]
            refine wpAnyH_take (i := 1) (v := ?_) rfl (by kernel_rfl) (by kernel_rfl) (by kernel_rfl) (fun _ _ _ h => h) (Or.inl ⟨by rfl, ?_⟩) (by assumption) ?_
            rotate_left
            · (intro W hSw; (try dsimp only at hSw); go_simp; try with_reducible rfl)
            try simp only [Act.put, List.getElem_toArray, List.getElem_cons_zero, List.getElem_cons_succ, List.setIfInBounds_toArray, List.set_cons_zero, List.set_cons_succ]
            refine wpAnyH_take (i := 2) (v := ?_) rfl (by kernel_rfl) (by kernel_rfl) (by kernel_rfl) (fun _ _ _ h => h) (Or.inl ⟨by rfl, ?_⟩) (by assumption) ?_
            rotate_left
            · (intro W hSw; (try dsimp only at hSw); go_simp; try with_reducible rfl)
            try simp only [Act.put, List.getElem_toArray, List.getElem_cons_zero, List.getElem_cons_succ, List.setIfInBounds_toArray, List.set_cons_zero, List.set_cons_succ]
            refine wpAnyH_take (i := 3) (v := ?_) rfl (by kernel_rfl) (by kernel_rfl) (by kernel_rfl) (fun _ _ _ h => h) (Or.inl ⟨by rfl, ?_⟩) (by assumption) ?_
            rotate_left
            · (intro W hSw; (try dsimp only at hSw); go_simp; try with_reducible rfl)
            try simp only [Act.put, List.getElem_toArray, List.getElem_cons_zero, List.getElem_cons_succ, List.setIfInBounds_toArray, List.set_cons_zero, List.set_cons_succ]
            refine wpAnyH_take (i := 4) (v := ?_) rfl (by kernel_rfl) (by kernel_rfl) (by kernel_rfl) (fun _ _ _ h => h) (Or.inl ⟨by rfl, ?_⟩) (by assumption) ?_
            rotate_left
            · (intro W hSw; (try dsimp only at hSw); go_simp; try with_reducible rfl)
            try simp only [Act.put, List.getElem_toArray, List.getElem_cons_zero, List.getElem_cons_succ, List.setIfInBounds_toArray, List.set_cons_zero, List.set_cons_succ]
            refine wpAnyH_take (i := 5) (v := ?_) rfl (by kernel_rfl) (by kernel_rfl) (by kernel_rfl) (fun _ _ _ h => h) (Or.inl ⟨by rfl, ?_⟩) (by assumption) ?_
            rotate_left
            · (intro W hSw; (try dsimp only at hSw); go_simp; try with_reducible rfl)
            try simp only [Act.put, List.getElem_toArray, List.getElem_cons_zero, List.getElem_cons_succ, List.setIfInBounds_toArray, List.set_cons_zero, List.set_cons_succ]
            refine wpAnyH_take (i := 6) (v := ?_) rfl (by kernel_rfl) (by kernel_rfl) (by kernel_rfl) (fun _ _ _ h => h) (Or.inl ⟨by rfl, ?_⟩) (by assumption) ?_
            rotate_left
            · (intro W hSw; (try dsimp only at hSw); go_simp; try with_reducible rfl)
            try simp only [Act.put, List.getElem_toArray, List.getElem_cons_zero, List.getElem_cons_succ, List.setIfInBounds_toArray, List.set_cons_zero, List.set_cons_succ]
            refine wpAnyH_ready (rs := [7]) (by kernel_rfl) (by simp) ?_
            refine AllReadyH.cons rfl (fun K hK => ?_) AllReadyH.nil
            obtain ⟨a4, c4, y4, hr4, hw4, hg4⟩ := run_erase W3.drew w.heap.size g (k + 1) I k ⟨g, 0, none⟩ (0) HRD.out hk hIf hB3 (.inl hd0)
            have HO4 := toHid hw4
            have HG4 := toHid hg4
            clear hw4 hg4
            rw [if_pos (by kernel_rfl)]
            refine operwp_append _ _ _ _ _ (.tmp 113) (.tmp 117) 48 rfl _ _ rfl rfl _ _ (show (Builtin.append_ #[48, 48] 48 #[.slice (some ⟨g, 0, none⟩) k (k + 1), .slice (some ⟨g, 0, none⟩) 0 0]).run Try.prog W3.drew = .ok (.slice a4 (I.length - 1) c4) y4 by rw [hd0] at hr4; exact hr4) ?_
            clear hr4
            refine hK.out _ _ trivial (fun hHeld => ?_)
            clear hK K
            try simp only [Act.put, List.getElem_toArray, List.getElem_cons_zero, List.getElem_cons_succ, List.setIfInBounds_toArray, List.set_cons_zero, List.set_cons_succ]
            refine wpAnyH_take (i := 8) (v := ?_) rfl (by kernel_rfl) (by kernel_rfl) (by kernel_rfl) (fun _ _ _ h => h) (Or.inl ⟨by rfl, ?_⟩) (by assumption) ?_
            rotate_left
            · (intro W hSw; (try dsimp only at hSw); go_simp; try with_reducible rfl)
            try simp only [Act.put, List.getElem_toArray, List.getElem_cons_zero, List.getElem_cons_succ, List.setIfInBounds_toArray, List.set_cons_zero, List.set_cons_succ]
            refine wpAnyH_done (by kernel_rfl) ?_ _
            clear hHeld
            have HQ5 := toHid (Hp.rowed (I' := I.eraseIdx k) (HQ3.out.below (W' := W3.drew) (Below.refl _ _).drew) HG4.out (by rw [List.length_eraseIdx_of_lt hk]; exact HO4.out))
            have HIL := toHid (List.length_eraseIdx_of_lt hk)
            go_wp2_with fail
            go_roundw
            case rel => exact ⟨_, _, I.eraseIdx k, _, _, _, _, _, _, _, by rw [HIL.out], HPe.out, by rw [HIL.out]; omega, HQ5.out⟩
            case measure => simp only [lenV]; omega
          · have n7 : ¬ c2 ≤ k + 1 := by omega
            have n8 : ¬ c2 - (k + 1) = 0 := by omega
            have n9 : ¬ c2 = k + 1 := hcc
            go_wp2_with fail
            refine wp_region_held_drew (S := (fun _ => True)) (by kernel_rfl) trivial (fun hHeld => ?_)
            refine wpAnyH_take (i := 0) (v := ?_) rfl (by kernel_rfl) (by kernel_rfl) (by kernel_rfl) (fun _ _ _ h => h) (Or.inl ⟨by rfl, ?_⟩) (by assumption) ?_
            rotate_left
            · (intro W hSw; (try dsimp only at hSw); go_simp; try with_reducible rfl)
            try simp only [Act.put, List.getElem_toArray, List.getElem_cons_zero, List.getElem_cons_succ, List.setIfInBounds_toArray, List.set_cons_zero, List.set_cons_succ]
            refine wpAnyH_take (i := 1) (v := ?_) rfl (by kernel_rfl) (by kernel_rfl) (by kernel_rfl) (fun _ _ _ h => h) (Or.inl ⟨by rfl, ?_⟩) (by assumption) ?_
            rotate_left
            · (intro W hSw; (try dsimp only at hSw); go_simp; try with_reducible rfl)
            try simp only [Act.put, List.getElem_toArray, List.getElem_cons_zero, List.getElem_cons_succ, List.setIfInBounds_toArray, List.set_cons_zero, List.set_cons_succ]
            refine wpAnyH_take (i := 2) (v := ?_) rfl (by kernel_rfl) (by kernel_rfl) (by kernel_rfl) (fun _ _ _ h => h) (Or.inl ⟨by rfl, ?_⟩) (by assumption) ?_
            rotate_left
            · (intro W hSw; (try dsimp only at hSw); go_simp; try with_reducible rfl)
            try simp only [Act.put, List.getElem_toArray, List.getElem_cons_zero, List.getElem_cons_succ, List.setIfInBounds_toArray, List.set_cons_zero, List.set_cons_succ]
            refine wpAnyH_take (i := 3) (v := ?_) rfl (by kernel_rfl) (by kernel_rfl) (by kernel_rfl) (fun _ _ _ h => h) (Or.inl ⟨by rfl, ?_⟩) (by assumption) ?_
            rotate_left
            · (intro W hSw; (try dsimp only at hSw); go_simp; try with_reducible rfl)
            try simp only [Act.put, List.getElem_toArray, List.getElem_cons_zero, List.getElem_cons_succ, List.setIfInBounds_toArray, List.set_cons_zero, List.set_cons_succ]
            refine wpAnyH_take (i := 4) (v := ?_) rfl (by kernel_rfl) (by kernel_rfl) (by kernel_rfl) (fun _ _ _ h => h) (Or.inl ⟨by rfl, ?_⟩) (by assumption) ?_
            rotate_left
            · (intro W hSw; (try dsimp only at hSw); go_simp; try with_reducible rfl)
            try simp only [Act.put, List.getElem_toArray, List.getElem_cons_zero, List.getElem_cons_succ, List.setIfInBounds_toArray, List.set_cons_zero, List.set_cons_succ]
            refine wpAnyH_take (i := 5) (v := ?_) rfl (by kernel_rfl) (by kernel_rfl) (by kernel_rfl) (fun _ _ _ h => h) (Or.inl ⟨by rfl, ?_⟩) (by assumption) ?_
            rotate_left
            · (intro W hSw; (try dsimp only at hSw); go_simp; try with_reducible rfl)
            try simp only [Act.put, List.getElem_toArray, List.getElem_cons_zero, List.getElem_cons_succ, List.setIfInBounds_toArray, List.set_cons_zero, List.set_cons_succ]
            refine wpAnyH_take (i := 6) (v := ?_) rfl (by kernel_rfl) (by kernel_rfl) (by kernel_rfl) (fun _ _ _ h => h) (Or.inl ⟨by rfl, ?_⟩) (by assumption) ?_
            rotate_left
            · (intro W hSw; (try dsimp only at hSw); go_simp; try with_reducible rfl)
            try simp only [Act.put, List.getElem_toArray, List.getElem_cons_zero, List.getElem_cons_succ, List.setIfInBounds_toArray, List.set_cons_zero, List.set_cons_succ]
            refine wpAnyH_ready (rs := [7]) (by kernel_rfl) (by simp) ?_
            refine AllReadyH.cons rfl (fun K hK => ?_) AllReadyH.nil
            obtain ⟨a4, c4, y4, hr4, hw4, hg4⟩ := run_erase W3.drew w.heap.size g (c2) I k ⟨g, k + 1, none⟩ (c2 - (k + 1)) HRD.out hk hIf hB3 (.inr rfl)
            have HO4 := toHid hw4
            have HG4 := toHid hg4
            clear hw4 hg4
            rw [if_pos (by kernel_rfl)]
            refine operwp_append _ _ _ _ _ (.tmp 113) (.tmp 117) 48 rfl _ _ rfl rfl _ _ (hr4) ?_
            clear hr4
            refine hK.out _ _ trivial (fun hHeld => ?_)
            clear hK K
            try simp only [Act.put, List.getElem_toArray, List.getElem_cons_zero, List.getElem_cons_succ, List.setIfInBounds_toArray, List.set_cons_zero, List.set_cons_succ]
            refine wpAnyH_take (i := 8) (v := ?_) rfl (by kernel_rfl) (by kernel_rfl) (by kernel_rfl) (fun _ _ _ h => h) (Or.inl ⟨by rfl, ?_⟩) (by assumption) ?_
            rotate_left
            · (intro W hSw; (try dsimp only at hSw); go_simp; try with_reducible rfl)
            try simp only [Act.put, List.getElem_toArray, List.getElem_cons_zero, List.getElem_cons_succ, List.setIfInBounds_toArray, List.set_cons_zero, List.set_cons_succ]
            refine wpAnyH_done (by kernel_rfl) ?_ _
            clear hHeld
            have HQ5 := toHid (Hp.rowed (I' := I.eraseIdx k) (HQ3.out.below (W' := W3.drew) (Below.refl _ _).drew) HG4.out (by rw [List.length_eraseIdx_of_lt hk]; exact HO4.out))
            have HIL := toHid (List.length_eraseIdx_of_lt hk)
            go_wp2_with fail
            go_roundw
            case rel => exact ⟨_, _, I.eraseIdx k, _, _, _, _, _, _, _, by rw [HIL.out], HPe.out, by rw [HIL.out]; omega, HQ5.out⟩
            case measure => simp only [lenV]; omega
        · have z1 : ¬ (0 : Int) < (I.length : Int) := by omega
          have hI0 : I.length = 0 := by omega
          have hlv : live = [] := List.eq_nil_of_length_eq_zero (by rw [HHp.out.count HIJ.out]; exact hI0)
          subst hlv
          have HPo := toHid (popNoI w.heap.size w.heap.size th key N tv tops wq HHp.out.heap)
          have HLn := toHid (lenIsI w.heap.size w.heap.size th key [] N tv tops wq HHp.out.heap)
          clear hI0
          go_wp2_with fail
          refine Calls.mono HPo.out ?_
          rintro e w2 ⟨rfl, hw⟩
          obtain rfl := hw.symm
          go_wp2_with fail
          refine Calls.mono (pushNilS _ _) ?_
          rintro e w3 ⟨rfl, hw⟩
          obtain rfl := hw.symm
          go_wp2_with fail
          refine Calls.mono (popNilS _) ?_
          rintro e w4 ⟨rfl, hw⟩
          obtain rfl := hw.symm
          go_wp2_with fail
          refine Calls.mono HLn.out ?_
          rintro e w5 ⟨rfl, hw⟩
          obtain rfl := hw.symm
          go_wp2_with fail
          refine Calls.mono (lenNilS _) ?_
          rintro e w6 ⟨rfl, hw⟩
          obtain rfl := hw.symm
          go_wp2_with fail
          refine Calls.mono (lives10 _) ?_
          rintro e w7 ⟨rfl, hb⟩
          have HB := toHid (HHp.out.low.trans (hb.mono HHp.out.low.size))
          clear hb
          go_wp2
          go_ret
          exact ⟨rfl, HB.out⟩

end Go.Proofs.Ytnejcjebepidcaa
