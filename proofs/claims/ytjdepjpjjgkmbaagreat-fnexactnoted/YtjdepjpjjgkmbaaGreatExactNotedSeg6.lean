/- The exact law of Noted answers true, whatever it is given: its walk (written by laws_noted.py). -/
import Derived.Test.YtjdepjpjjgkmbaaGreatExactNotedSeg5

namespace Go.Proofs.YtjdepjpjjgkmbaaGreat
open Go Go.RowKit

/-- The copy of the list of seals. -/
structure SealOf (ps : List (Int × Int)) (wr : World) (g : Nat) : Prop where
  dat : Held wr g ps
theorem SealOf.later {ps : List (Int × Int)} {wr w' : World} {g : Nat} (h : SealOf ps wr g) (_ : Unit) (hb : Below wr.heap.size wr w') : SealOf ps w' g := ⟨h.dat.later hb⟩
theorem SealOf.turn {ps : List (Int × Int)} {wr w' : World} {g : Nat} {T : Nat → Prop} (h : SealOf ps wr g) (_ : Unit) (ht : Turns T wr w') (hg : ¬ T g) : SealOf ps w' g := ⟨Held.turn h.dat ht hg⟩
theorem SealOf.pairs {ps : List (Int × Int)} {wr : World} {g n : Nat} (h : SealOf ps wr g) (hn : ps.length = n) : Pairs wr wr.heap.size (some ⟨g, 0, none⟩) n ps := hn ▸ h.dat.pairs
theorem SealOf.slc {ps : List (Int × Int)} {wr : World} {g n c : Nat} (h : SealOf ps wr g) (hn : ps.length = n) : Slc wr (.slice (some ⟨g, 0, none⟩) n c) ps := .inr ⟨g, 0, n, c, rfl, h.pairs hn⟩
/-- The variables of the arguments, as they were given. -/
structure PreNo (w wr : World) (C0 C1 : Array Value) (t1 t2 : Int) (A7 : Option Addr) (n7 : Nat) (ps : List (Int × Int)) (d0 : GrpD) (d1 : JourD) : Prop where
  v0 : VarOf (AtG d0) 47 wr (· < w.heap.size) (w.heap.size) C0
  v1 : VarOf (AtJ d1) 50 wr (· < w.heap.size) (w.heap.size + 1) C1
  st : Box wr (w.heap.size + 1 + 1) 57 #[.int .i64 t1, .int .i64 t2]
  l2 : PairsF wr (· < w.heap.size) A7 n7 ps
  bel : Below w.heap.size w wr
theorem PreNo.later {w wr w' : World} {C0 C1 : Array Value} {t1 t2 : Int} {A7 : Option Addr} {n7 : Nat} {ps : List (Int × Int)} {d0 : GrpD} {d1 : JourD} (h : PreNo w wr C0 C1 t1 t2 A7 n7 ps d0 d1) (hb : Below wr.heap.size wr w') : PreNo w w' C0 C1 t1 t2 A7 n7 ps d0 d1 :=
  ⟨h.v0.later (keepsG d0) hb, h.v1.later (keepsJ d1) hb, h.st.later hb h.st.lt, h.l2.turn (T := fun _ => False) (Turns.of_below hb) (fun _ _ h => h), bel_trans h.bel hb⟩
theorem PreNo.turn {w wr w' : World} {C0 C1 : Array Value} {t1 t2 : Int} {A7 : Option Addr} {n7 : Nat} {ps : List (Int × Int)} {d0 : GrpD} {d1 : JourD} {T : Nat → Prop} (h : PreNo w wr C0 C1 t1 t2 A7 n7 ps d0 d1) (ht : Turns T wr w') (hT : ∀ b, T b → w.heap.size + 1 + 1 < b) : PreNo w w' C0 C1 t1 t2 A7 n7 ps d0 d1 :=
  ⟨h.v0.turn (keepsG d0) ht (fun hb => by have := hT _ hb; omega) (fun b hb hb2 => by have := hT b hb2; omega), h.v1.turn (keepsJ d1) ht (fun hb => by have := hT _ hb; omega) (fun b hb hb2 => by have := hT b hb2; omega), h.st.turn ht (fun hb => by have := hT _ hb; omega), h.l2.turn ht (fun b hb hb2 => by have := hT b hb2; have hb : b < w.heap.size := hb; omega), ht.below h.bel (fun b hb => by have := hT b hb; omega)⟩
theorem PreNo.start {w : World} {C0 C1 : Array Value} {t1 t2 : Int} {A7 : Option Addr} {n7 : Nat} {ps : List (Int × Int)} {d0 : GrpD} {d1 : JourD} (h0 : AtG d0 w (· < w.heap.size) (.agg C0)) (h1 : AtJ d1 w (· < w.heap.size) (.agg C1)) (hP : PairsF w (· < w.heap.size) A7 n7 ps) : PreNo w (((w.alloc (.cells C0 47)).alloc (.cells C1 50)).alloc (.cells #[.int .i64 t1, .int .i64 t2] 57)) C0 C1 t1 t2 A7 n7 ps d0 d1 := by
  have E2 := bel_trans (bel_trans (bel_alloc w (.cells C0 47)) (bel_alloc _ (.cells C1 50))) (bel_alloc _ (.cells #[.int .i64 t1, .int .i64 t2] 57))
  have B0 := ((Box.new w 47 C0).alloc (.cells C1 50)).alloc (.cells #[.int .i64 t1, .int .i64 t2] 57)
  have B1 := (Box.new (w.alloc (.cells C0 47)) 50 C1).alloc (.cells #[.int .i64 t1, .int .i64 t2] 57)
  have B2 := Box.new ((w.alloc (.cells C0 47)).alloc (.cells C1 50)) 57 #[.int .i64 t1, .int .i64 t2]
  simp only [World.size_alloc] at B1 B2
  exact ⟨⟨B0, by omega, (keepsG d0).later h0 E2⟩, ⟨B1, by omega, (keepsJ d1).later h1 E2⟩, B2, hP.turn (T := fun _ => False) (Turns.of_below E2) (fun _ _ h => h), E2⟩
/-- The heap has come this far. -/
structure Big (H : Nat) (wr : World) : Prop where
  le : H ≤ wr.heap.size
theorem Big.later {H : Nat} {wr w' : World} (h : Big H wr) (_ : Unit) (hb : Below wr.heap.size wr w') : Big H w' := ⟨Nat.le_trans h.le hb.size⟩
theorem Big.turn {H : Nat} {wr w' : World} {T : Nat → Prop} (h : Big H wr) (_ : Unit) (ht : Turns T wr w') : Big H w' := ⟨Nat.le_trans h.le ht.size⟩
theorem LieJ.low {d : JourD} {w : World} {F : Nat → Prop} {v : Value} (h : LieJ d w F v) : LieJ d w (fun b => F b ∧ b < w.heap.size) v := by
  obtain ⟨u, u', F1, F2, e, h1, h2, s1, s2, ha⟩ := h
  exact ⟨u, u', _, _, e, h1.lt, h2.lt, fun b hb => ⟨s1 b hb.1, hb.2⟩, fun b hb => ⟨s2 b hb.1, hb.2⟩, fun b hb hb2 => ha b hb.1 hb2.1⟩
theorem noted_sz {g : GrpD} {d : JourD} {kd sh cl t1 t2 v : Int} {ps : List (Int × Int)} (h : g.sz + d.sz + ps.length ≤ 1048576) : (notedD g d (newD d kd sh cl t1 t2 v ps)).1.sz ≤ 1048576 := by
  unfold notedD
  split
  · rename_i hj
    have hg := jok_grp hj
    split
    · show totC d.ks + totC (d.ls ++ [newD d kd sh cl t1 t2 v ps]) ≤ 1048576
      rw [totC_app, totC_one]
      have e : (newD d kd sh cl t1 t2 v ps).ps = ps := rfl
      rw [e]
      have : d.sz = totC d.ks + totC d.ls := rfl
      omega
    · show d.sz ≤ 1048576
      omega
  · exact Nat.zero_le _
theorem specNoted8_is {g : GrpD} {d : JourD} {w : World} {F0 F1 : Nat → Prop} {C0 C1 : Array Value} (kd sh cl t1 t2 v : Int) {gs n : Nat} {ps : List (Int × Int)} {rr : JourD} {z : Bool} (h0 : LieG g w F0 (.agg C0)) (h1 : LieJ d w F1 (.agg C1)) (hc : SealOf ps w gs) (hl : ps.length = n) (hs : g.sz + d.sz + n ≤ 1048576) (hr : notedD g d (newD d kd sh cl t1 t2 v ps) = (rr, z)) :
    Calls Tryz.prog 23 #[.agg C0, .agg C1, .int .i64 kd, .int .i64 sh, .int .i64 cl, .agg #[.int .i64 t1, .int .i64 t2], .int .i64 v, .slice (some ⟨gs, 0, none⟩) n n] w fun e w' => ∃ C, e = .returned (.tuple #[.agg C, .bool z]) ∧ LieJ rr w' (Iv w.heap.size w'.heap.size) (.agg C) ∧ Below w.heap.size w w' := specNoted_is kd sh cl t1 t2 v h0.at h1.somewhere (hc.slc hl) (hl ▸ hs) hr
theorem noted8_is {g : GrpD} {d : JourD} {w : World} {F0 F1 : Nat → Prop} {C0 C1 : Array Value} (kd sh cl t1 t2 v : Int) {gs n : Nat} {ps : List (Int × Int)} {rr : JourD} {z : Bool} (h0 : LieG g w F0 (.agg C0)) (h1 : LieJ d w F1 (.agg C1)) (hc : SealOf ps w gs) (hl : ps.length = n) (hs : g.sz + d.sz + n ≤ 1048576) (hr : notedD g d (newD d kd sh cl t1 t2 v ps) = (rr, z)) :
    Calls Tryz.prog 22 #[.agg C0, .agg C1, .int .i64 kd, .int .i64 sh, .int .i64 cl, .agg #[.int .i64 t1, .int .i64 t2], .int .i64 v, .slice (some ⟨gs, 0, none⟩) n n] w fun e w' => ∃ C, e = .returned (.tuple #[.agg C, .bool z]) ∧ LieJ rr w' (Iv w.heap.size w'.heap.size) (.agg C) ∧ Below w.heap.size w w' := noted_is kd sh cl t1 t2 v h0.at h1.somewhere (hc.slc hl) (hl ▸ hs) hr

set_option maxRecDepth 100000 in
set_option maxHeartbeats 16000000 in
theorem exactNo10_any (C0 C1 : Array Value) (d0 : GrpD) (d1 : JourD) (kd sh cl t1 t2 v : Int) (A7 : Option Addr) (n7 c7 : Nat) (ps : List (Int × Int)) (w : World) (h0 : AtG d0 w (· < w.heap.size) (.agg C0)) (h1 : AtJ d1 w (· < w.heap.size) (.agg C1)) (hP : PairsF w (· < w.heap.size) A7 n7 ps) (hm7 : n7 ≤ maxLen) :
    Calls Tryz.prog 6 #[.agg C0, .agg C1, .int .i64 kd, .int .i64 sh, .int .i64 cl, .agg #[.int .i64 t1, .int .i64 t2], .int .i64 v, .slice A7 n7 c7] w fun e w' => e = .returned (.bool true) ∧ Below w.heap.size w w' := by
  have HPL := Lib.hid hP.1.1
  have I0 := Lib.hid (sizeG h0).1
  have J0 := Lib.hid (sizeG h0).2
  have I1 := Lib.hid (sizeJ h1).1
  have J1 := Lib.hid (sizeJ h1).2
  have K0 := PreNo.start (t1 := t1) (t2 := t2) h0 h1 hP
  clear h0 h1 hP
  go_enter Tryz.func6, Tryz.ntmps6
  go_wp2_with (refine wpList_load_box 47 _ rfl (w.heap.size) rfl 47 C0 K0.v0.box _ Tryz.underlying47 rfl I0.out (by first | rfl | simp [Region.wanted, yielded] | (simp [Region.wanted, yielded, Act.put] <;> omega)) ?_)
  generalize (((w.alloc _).alloc _).alloc _ : World) = w0 at K0 ⊢
  refine (sz_G K0.v0.dat).mono ?_
  rintro e w1 ⟨⟨u, rfl, hle, hgt⟩, hb⟩
  replace K0 := K0.later hb
  clear hb
  rcases Int.lt_or_le (1048576) (d0.sz : Int) with hs0 | hs0
  · have hu := hgt hs0
    clear hle hgt
    have E := K0.bel
    go_wp2
    go_ret
    exact ⟨rfl, E⟩
  have hu := hle hs0
  clear hle hgt
  subst hu
  have hu0 : ¬ (1048576 - (d0.sz : Int) < 0) := by omega
  go_wp2_with (refine wpList_load_box 50 _ rfl (w.heap.size + 1) rfl 50 C1 K0.v1.box _ Tryz.underlying50 rfl I1.out (by first | rfl | simp [Region.wanted, yielded] | (simp [Region.wanted, yielded, Act.put] <;> omega)) ?_)
  refine (sz_J K0.v1.dat (L := 1048576 - (d0.sz : Int)) (by omega) (by omega)).mono ?_
  rintro e w1 ⟨⟨u, rfl, hle, hgt⟩, hb⟩
  replace K0 := K0.later hb
  clear hb
  rcases Int.lt_or_le (1048576 - (d0.sz : Int)) (d1.sz : Int) with hs1 | hs1
  · have hu := hgt hs1
    clear hle hgt
    have E := K0.bel
    go_wp2
    go_ret
    exact ⟨rfl, E⟩
  have hu := hle hs1
  clear hle hgt
  subst hu
  have hu1 : ¬ (1048576 - (d0.sz : Int) - (d1.sz : Int) < 0) := by omega
  go_wp2_with fail
  rcases Int.lt_or_le (1048576 - (d0.sz : Int) - (d1.sz : Int)) (n7 : Int) with hs2 | hs2
  · refine (szSeals_gt A7 n7 c7 _ _ (by omega) (by omega) hs2 hm7).mono ?_
    rintro e w2 ⟨rfl, rfl⟩
    have E := K0.bel
    go_wp2
    go_ret
    exact ⟨rfl, E⟩
  refine (szSeals_le A7 n7 c7 _ _ (by omega) hs2).mono ?_
  rintro e w2 ⟨rfl, rfl⟩
  have hu2 : ¬ (1048576 - (d0.sz : Int) - (d1.sz : Int) - (n7 : Int) < 0) := by omega
  have hz0 : d0.sz ≤ 1048576 := by omega
  have hz1 : d1.sz ≤ 1048576 := by omega
  have hz7 : n7 ≤ 1048576 := by omega
  have hsum : d0.sz + d1.sz + n7 ≤ 1048576 := by omega
  have m0 : 0 ≤ d0.mk8 ∧ d0.mk8 ≤ 1048576 := by unfold GrpD.mk8; have h8 : d0.zs.length ≤ 1048576 := hz0; omega
  have m1 := mkb_J (JourD.fit hz1)
  obtain ⟨rr, z, hr⟩ : ∃ rr z, notedD d0 d1 (newD d1 kd sh cl t1 t2 v ps) = (rr, z) := ⟨_, _, rfl⟩
  have hq : rr.sz ≤ 1048576 := by have h9 := noted_sz (g := d0) (d := d1) (kd := kd) (sh := sh) (cl := cl) (t1 := t1) (t2 := t2) (v := v) (ps := ps) (by rw [HPL.out]; exact hsum); rw [hr] at h9; exact h9
  have HZ := Lib.hid hr
  have FIT := Lib.hid (JourD.fit hq)
  have hzz : (z != z) = false := by simp
  clear hr
  go_upto_region 11 with fail
  clear hs0 hs1 hs2 hu0 hu1 hu2
  -- the model, on copies
  go_cut [18, 19] (fun pv sv wr => ∃ (V : Nat) (C : Array Value) (F : Nat → Prop), pv = .pointer (some ⟨V, 0, none⟩) ∧ sv = .bool z ∧ VarOf (AtJ rr) 29 wr F V C ∧ (∀ b, F b → b < wr.heap.size) ∧ w.heap.size + 1 + 1 < V ∧ PreNo w wr C0 C1 t1 t2 A7 n7 ps d0 d1)
  case first =>
    refine wp_region_sink 19 (fun w' => Box w' (w.heap.size) 47 C0 ∧ Box w' (w.heap.size + 1) 50 C1 ∧ Box w' (w.heap.size + 1 + 1) 57 #[.int .i64 t1, .int .i64 t2]) (by kernel_rfl) ⟨K0.v0.box, K0.v1.box, K0.st⟩ (fun hH => ?_)
    have hb := (Below.refl w1.heap.size w1).drew
    replace K0 := K0.later hb
    clear hb
    generalize w1.drew = w3 at K0 hH ⊢
    refine wpAnyE_takeS (i := 0) (v := .agg C0) (by simp only [List.getElem?_toArray, List.getElem?_cons_zero]; rfl) (by kernel_rfl) (by kernel_rfl) (by kernel_rfl) (by exact fun _ _ _ h => h) (by kernel_rfl) ?yat0 hH ?_
    case yat0 => exact yields_box 47 _ rfl (w.heap.size) rfl 47 C0 (fun _ h => h.1) _ Tryz.underlying47 rfl I0.out (by first | rfl | simp [Region.wanted, yielded] | (simp [Region.wanted, yielded, Act.put] <;> omega))
    try simp only [Act.put, List.setIfInBounds_toArray, List.set_cons_zero, List.set_cons_succ]
    refine wpAnyE_takeS (i := 2) (v := .agg C1) (by simp only [List.getElem?_toArray, List.getElem?_cons_succ, List.getElem?_cons_zero]; rfl) (by kernel_rfl) (by kernel_rfl) (by kernel_rfl) (by exact fun _ _ _ h => h) (by kernel_rfl) ?yat1 hH ?_
    case yat1 => exact yields_box 50 _ rfl (w.heap.size + 1) rfl 50 C1 (fun _ h => h.2.1) _ Tryz.underlying50 rfl I1.out (by first | rfl | simp [Region.wanted, yielded] | (simp [Region.wanted, yielded, Act.put] <;> omega))
    try simp only [Act.put, List.setIfInBounds_toArray, List.set_cons_zero, List.set_cons_succ]
    refine wpAnyE_takeS (i := 7) (v := .agg #[.int .i64 t1, .int .i64 t2]) (by simp only [List.getElem?_toArray, List.getElem?_cons_succ, List.getElem?_cons_zero]; rfl) (by kernel_rfl) (by kernel_rfl) (by kernel_rfl) (by exact fun _ _ _ h => h) (by kernel_rfl) ?yat2 hH ?_
    case yat2 => exact yields_box 57 _ rfl (w.heap.size + 1 + 1) rfl 57 #[.int .i64 t1, .int .i64 t2] (fun _ h => h.2.2) _ Tryz.underlying57 rfl (by kernel_rfl) (by first | rfl | simp [Region.wanted, yielded] | (simp [Region.wanted, yielded, Act.put] <;> omega))
    try simp only [Act.put, List.setIfInBounds_toArray, List.set_cons_zero, List.set_cons_succ]
    refine wpAnyE_pure (i := 4) (v := ?vam4) (by simp only [List.getElem?_toArray, List.getElem?_cons_succ, List.getElem?_cons_zero]; rfl) (by kernel_rfl) (by kernel_rfl) (by kernel_rfl) (by exact fun _ _ _ h => h) (by kernel_rfl) (Or.inl ⟨by rfl, ?yam4⟩) hH ?ram4
    case yam4 => (intro w' hSw; (try dsimp only at hSw); go_simp; try with_reducible rfl)
    try simp only [Act.put, List.setIfInBounds_toArray, List.set_cons_zero, List.set_cons_succ]
    refine wpAnyE_pure (i := 5) (v := ?vam5) (by simp only [List.getElem?_toArray, List.getElem?_cons_succ, List.getElem?_cons_zero]; rfl) (by kernel_rfl) (by kernel_rfl) (by kernel_rfl) (by exact fun _ _ _ h => h) (by kernel_rfl) (Or.inl ⟨by rfl, ?yam5⟩) hH ?ram5
    case yam5 => (intro w' hSw; (try dsimp only at hSw); go_simp; try with_reducible rfl)
    try simp only [Act.put, List.setIfInBounds_toArray, List.set_cons_zero, List.set_cons_succ]
    refine wpAnyE_pure (i := 6) (v := ?vam6) (by simp only [List.getElem?_toArray, List.getElem?_cons_succ, List.getElem?_cons_zero]; rfl) (by kernel_rfl) (by kernel_rfl) (by kernel_rfl) (by exact fun _ _ _ h => h) (by kernel_rfl) (Or.inl ⟨by rfl, ?yam6⟩) hH ?ram6
    case yam6 => (intro w' hSw; (try dsimp only at hSw); go_simp; try with_reducible rfl)
    try simp only [Act.put, List.setIfInBounds_toArray, List.set_cons_zero, List.set_cons_succ]
    refine wpAnyE_pure (i := 9) (v := ?vam9) (by simp only [List.getElem?_toArray, List.getElem?_cons_succ, List.getElem?_cons_zero]; rfl) (by kernel_rfl) (by kernel_rfl) (by kernel_rfl) (by exact fun _ _ _ h => h) (by kernel_rfl) (Or.inl ⟨by rfl, ?yam9⟩) hH ?ram9
    case yam9 => (intro w' hSw; (try dsimp only at hSw); go_simp; try with_reducible rfl)
    try simp only [Act.put, List.setIfInBounds_toArray, List.set_cons_zero, List.set_cons_succ]
    refine wpAnyE_pure (i := 10) (v := ?vam10) (by simp only [List.getElem?_toArray, List.getElem?_cons_succ, List.getElem?_cons_zero]; rfl) (by kernel_rfl) (by kernel_rfl) (by kernel_rfl) (by exact fun _ _ _ h => h) (by kernel_rfl) (Or.inl ⟨by rfl, ?yam10⟩) hH ?ram10
    case yam10 => (intro w' hSw; (try dsimp only at hSw); go_simp; try with_reducible rfl)
    try simp only [Act.put, List.setIfInBounds_toArray, List.set_cons_zero, List.set_cons_succ]
    refine wpAnyE_two (i := 1) (j := 16) (by kernel_rfl) (by simp only [List.getElem?_toArray, List.getElem?_cons_succ, List.getElem?_cons_zero]; rfl) (by simp only [List.getElem?_toArray, List.getElem?_cons_succ, List.getElem?_cons_zero]; rfl) (fun K hK => ?_) (fun K hK => ?_)
    · skip
      go_simp
      refine (to_G K0.v0.dat hz0).mono ?_
      rintro e w4 ⟨D0, rfl, L0, hb⟩
      replace K0 := K0.later hb
      clear hb
      obtain ⟨w3, rfl⟩ : ∃ x, x = w4 := ⟨_, rfl⟩
      clear hH
      refine hK.out _ _ ⟨K0.v0.box, K0.v1.box, K0.st⟩ (fun hH => ?_)
      clear hK K
      try simp only [Act.put, List.setIfInBounds_toArray, List.set_cons_zero, List.set_cons_succ]
      refine wpAnyE_two (i := 3) (j := 16) (by kernel_rfl) (by simp only [List.getElem?_toArray, List.getElem?_cons_succ, List.getElem?_cons_zero]; rfl) (by simp only [List.getElem?_toArray, List.getElem?_cons_succ, List.getElem?_cons_zero]; rfl) (fun K hK => ?_) (fun K hK => ?_)
      · skip
        go_simp
        refine (to_J K0.v1.dat hz1).mono ?_
        rintro e w4 ⟨D1, rfl, L1, hb⟩
        replace K0 := K0.later hb
        replace L0 := (keepsLG d0).later L0 hb
        clear hb
        obtain ⟨w3, rfl⟩ : ∃ x, x = w4 := ⟨_, rfl⟩
        clear hH
        refine hK.out _ _ ⟨K0.v0.box, K0.v1.box, K0.st⟩ (fun hH => ?_)
        clear hK K
        try simp only [Act.put, List.setIfInBounds_toArray, List.set_cons_zero, List.set_cons_succ]
        refine wpAnyE_two (i := 8) (j := 16) (by kernel_rfl) (by simp only [List.getElem?_toArray, List.getElem?_cons_succ, List.getElem?_cons_zero]; rfl) (by simp only [List.getElem?_toArray, List.getElem?_cons_succ, List.getElem?_cons_zero]; rfl) (fun K hK => ?_) (fun K hK => ?_)
        · skip
          go_simp
          refine (toStamp_any t1 t2 w3).mono ?_
          rintro e w4 ⟨rfl, hb⟩
          replace K0 := K0.later hb
          replace L0 := (keepsLG d0).later L0 hb
          replace L1 := (keepsLJ d1).later L1 hb
          clear hb
          obtain ⟨w3, rfl⟩ : ∃ x, x = w4 := ⟨_, rfl⟩
          clear hH
          refine hK.out _ _ ⟨K0.v0.box, K0.v1.box, K0.st⟩ (fun hH => ?_)
          clear hK K
          try simp only [Act.put, List.setIfInBounds_toArray, List.set_cons_zero, List.set_cons_succ]
          refine wpAnyE_two (i := 11) (j := 16) (by kernel_rfl) (by simp only [List.getElem?_toArray, List.getElem?_cons_succ, List.getElem?_cons_zero]; rfl) (by simp only [List.getElem?_toArray, List.getElem?_cons_succ, List.getElem?_cons_zero]; rfl) (fun K hK => ?_) (fun K hK => ?_)
          · skip
            go_simp
            refine (toSeals_any A7 n7 c7 ps w3 hz7 K0.l2.1).mono ?_
            rintro e w4 ⟨gs, -, rfl, -, LH, hb⟩
            replace K0 := K0.later hb
            replace L0 := (keepsLG d0).later L0 hb
            replace L1 := (keepsLJ d1).later L1 hb
            clear hb
            obtain ⟨w3, rfl⟩ : ∃ x, x = w4 := ⟨_, rfl⟩
            clear hH
            refine hK.out _ _ ⟨K0.v0.box, K0.v1.box, K0.st⟩ (fun hH => ?_)
            clear hK K
            try simp only [Act.put, List.setIfInBounds_toArray, List.set_cons_zero, List.set_cons_succ]
            refine wpAnyE_two (i := 12) (j := 16) (by kernel_rfl) (by simp only [List.getElem?_toArray, List.getElem?_cons_succ, List.getElem?_cons_zero]; rfl) (by simp only [List.getElem?_toArray, List.getElem?_cons_succ, List.getElem?_cons_zero]; rfl) (fun K hK => ?_) (fun K hK => ?_)
            · skip
              go_simp
              refine (specNoted8_is kd sh cl t1 t2 v L0 L1 ⟨LH⟩ HPL.out hsum HZ.out).mono ?_
              rintro e w4 ⟨C, rfl, LR, hb⟩
              replace K0 := K0.later hb
              generalize w3.heap.size = S at LR
              obtain ⟨E, hE⟩ : ∃ E, w4.heap.size = E := ⟨_, rfl⟩
              rw [hE] at LR
              have hEl : E ≤ w4.heap.size := Nat.le_of_eq hE.symm
              clear hE
              clear hb L0 L1 LH
              obtain ⟨w3, rfl⟩ : ∃ x, x = w4 := ⟨_, rfl⟩
              clear hH
              refine hK.out _ _ ⟨K0.v0.box, K0.v1.box, K0.st⟩ (fun hH => ?_)
              clear hK K
              try simp only [Act.put, List.setIfInBounds_toArray, List.set_cons_zero, List.set_cons_succ]
              refine wpAnyE_pure (i := 13) (v := ?val0p13) (by simp only [List.getElem?_toArray, List.getElem?_cons_succ, List.getElem?_cons_zero]; rfl) (by kernel_rfl) (by kernel_rfl) (by kernel_rfl) (by exact fun _ _ _ h => h) (by kernel_rfl) (Or.inl ⟨by rfl, ?yal0p13⟩) hH ?ral0p13
              case yal0p13 => (intro w' hSw; (try dsimp only at hSw); go_simp; try with_reducible rfl)
              try simp only [Act.put, List.setIfInBounds_toArray, List.set_cons_zero, List.set_cons_succ]
              refine wpAnyE_pure (i := 14) (v := ?val0p14) (by simp only [List.getElem?_toArray, List.getElem?_cons_succ, List.getElem?_cons_zero]; rfl) (by kernel_rfl) (by kernel_rfl) (by kernel_rfl) (by exact fun _ _ _ h => h) (by kernel_rfl) (Or.inl ⟨by rfl, ?yal0p14⟩) hH ?ral0p14
              case yal0p14 => (intro w' hSw; (try dsimp only at hSw); go_simp; try with_reducible rfl)
              try simp only [Act.put, List.setIfInBounds_toArray, List.set_cons_zero, List.set_cons_succ]
              refine wpAnyE_pure (i := 15) (v := ?val0p15) (by simp only [List.getElem?_toArray, List.getElem?_cons_succ, List.getElem?_cons_zero]; rfl) (by kernel_rfl) (by kernel_rfl) (by kernel_rfl) (by exact fun _ _ _ h => h) (by kernel_rfl) (Or.inl ⟨by rfl, ?yal0p15⟩) hH ?ral0p15
              case yal0p15 => (intro w' hSw; (try dsimp only at hSw); go_simp; try with_reducible rfl)
              try simp only [Act.put, List.setIfInBounds_toArray, List.set_cons_zero, List.set_cons_succ]
              refine wpAnyE_one (i := 16) (by kernel_rfl) (by simp only [List.getElem?_toArray, List.getElem?_cons_succ, List.getElem?_cons_zero]; rfl) (fun K hK => ?_)
              go_simp
              have hV := K0.st.lt
              have hn := bel_alloc w3 (.cells #[.slice none 0 0, .slice none 0 0] 29)
              replace K0 := K0.later hn
              have ZB := Box.new w3 29 #[.slice none 0 0, .slice none 0 0]
              have hF : ¬ Iv S E w3.heap.size := iv_not (.inr hEl)
              replace LR := (keepsLJ rr).later LR hn
              replace hEl := Nat.le_trans hEl hn.size
              clear hn
              generalize (w3.alloc _ : World) = w4 at K0 ZB LR hEl ⊢
              generalize w3.heap.size = V at hV ZB hF ⊢
              obtain ⟨w3, rfl⟩ : ∃ x, x = w4 := ⟨_, rfl⟩
              clear hH
              refine hK.out _ _ ⟨K0.v0.box, K0.v1.box, K0.st⟩ (fun hH => ?_)
              clear hK K
              try simp only [Act.put, List.setIfInBounds_toArray, List.set_cons_zero, List.set_cons_succ]
              refine wpAnyE_one (i := 17) (by kernel_rfl) (by simp only [List.getElem?_toArray, List.getElem?_cons_succ, List.getElem?_cons_zero]; rfl) (fun K hK => ?_)
              rw [if_pos (by first | rfl | kernel_rfl | simp [Region.wanted, yielded])]
              have O := Lib.hid (oneJ LR.at)
              have JS := Lib.hid (sizeJ LR.at).2
              have ht := turns_setRow w3 V C
              have Ma := VarOf.put (keepsJ rr) ZB LR.at hF
              replace K0 := K0.turn ht (fun b hb => by omega)
              clear hH
              refine wp_store_row 29 _ _ rfl V _ rfl rfl 29 #[.slice none 0 0, .slice none 0 0] ZB JS.out O.out.1.symm O.out.2 ?_
              refine hK.out _ _ ⟨K0.v0.box, K0.v1.box, K0.st⟩ (fun hH => ?_)
              clear hK K
              try simp only [Act.put]
              have hEs : E ≤ (w3.setRow V C).heap.size := by rw [size_setRow]; exact hEl
              clear ZB LR ht O JS
              generalize (w3.setRow _ _ : World) = w4 at K0 Ma hEs hH  ⊢
              refine wpAnyE_end (i := 18) (by kernel_rfl) (by simp only [List.getElem?_toArray, List.getElem?_cons_succ, List.getElem?_cons_zero]; rfl) (by kernel_rfl) (fun K hK => ?_)
              go_simp
              refine hK.out _ _ ⟨K0.v0.box, K0.v1.box, K0.st⟩ ?_
              clear hK K hH
              try simp only [Act.put, List.setIfInBounds_toArray, List.set_cons_zero, List.set_cons_succ]
              go_wp2_with fail
              go_meet
              exact ⟨V, C, _, rfl, rfl, Ma, fun b hb => Nat.lt_of_lt_of_le hb.2 hEs, hV, K0⟩
            · skip
              go_simp
              have hV := K0.st.lt
              have hn := bel_alloc w3 (.cells #[.slice none 0 0, .slice none 0 0] 29)
              replace K0 := K0.later hn
              replace L0 := (keepsLG d0).later L0 hn
              replace L1 := (keepsLJ d1).later L1 hn
              replace LH := LH.later hn
              have ZB := Box.new w3 29 #[.slice none 0 0, .slice none 0 0]
              clear hn
              generalize (w3.alloc _ : World) = w4 at K0 L0 L1 LH ZB ⊢
              generalize w3.heap.size = V at hV ZB ⊢
              obtain ⟨w3, rfl⟩ : ∃ x, x = w4 := ⟨_, rfl⟩
              clear hH
              refine hK.out _ _ ⟨K0.v0.box, K0.v1.box, K0.st⟩ (fun hH => ?_)
              clear hK K
              try simp only [Act.put, List.setIfInBounds_toArray, List.set_cons_zero, List.set_cons_succ]
              refine wpAnyE_one (i := 12) (by kernel_rfl) (by simp only [List.getElem?_toArray, List.getElem?_cons_succ, List.getElem?_cons_zero]; rfl) (fun K hK => ?_)
              go_simp
              have hVS := ZB.lt
              refine (specNoted8_is kd sh cl t1 t2 v L0 L1 ⟨LH⟩ HPL.out hsum HZ.out).mono ?_
              rintro e w4 ⟨C, rfl, LR, hb⟩
              replace K0 := K0.later hb
              replace ZB := ZB.later hb ZB.lt
              generalize w3.heap.size = S at LR hVS
              obtain ⟨E, hE⟩ : ∃ E, w4.heap.size = E := ⟨_, rfl⟩
              rw [hE] at LR
              have hEl : E ≤ w4.heap.size := Nat.le_of_eq hE.symm
              clear hE
              have hF : ¬ Iv S E V := iv_not (.inl hVS)
              clear hVS
              clear hb L0 L1 LH
              obtain ⟨w3, rfl⟩ : ∃ x, x = w4 := ⟨_, rfl⟩
              clear hH
              refine hK.out _ _ ⟨K0.v0.box, K0.v1.box, K0.st⟩ (fun hH => ?_)
              clear hK K
              try simp only [Act.put, List.setIfInBounds_toArray, List.set_cons_zero, List.set_cons_succ]
              refine wpAnyE_pure (i := 13) (v := ?val1p13) (by simp only [List.getElem?_toArray, List.getElem?_cons_succ, List.getElem?_cons_zero]; rfl) (by kernel_rfl) (by kernel_rfl) (by kernel_rfl) (by exact fun _ _ _ h => h) (by kernel_rfl) (Or.inl ⟨by rfl, ?yal1p13⟩) hH ?ral1p13
              case yal1p13 => (intro w' hSw; (try dsimp only at hSw); go_simp; try with_reducible rfl)
              try simp only [Act.put, List.setIfInBounds_toArray, List.set_cons_zero, List.set_cons_succ]
              refine wpAnyE_pure (i := 14) (v := ?val1p14) (by simp only [List.getElem?_toArray, List.getElem?_cons_succ, List.getElem?_cons_zero]; rfl) (by kernel_rfl) (by kernel_rfl) (by kernel_rfl) (by exact fun _ _ _ h => h) (by kernel_rfl) (Or.inl ⟨by rfl, ?yal1p14⟩) hH ?ral1p14
              case yal1p14 => (intro w' hSw; (try dsimp only at hSw); go_simp; try with_reducible rfl)
              try simp only [Act.put, List.setIfInBounds_toArray, List.set_cons_zero, List.set_cons_succ]
              refine wpAnyE_pure (i := 15) (v := ?val1p15) (by simp only [List.getElem?_toArray, List.getElem?_cons_succ, List.getElem?_cons_zero]; rfl) (by kernel_rfl) (by kernel_rfl) (by kernel_rfl) (by exact fun _ _ _ h => h) (by kernel_rfl) (Or.inl ⟨by rfl, ?yal1p15⟩) hH ?ral1p15
              case yal1p15 => (intro w' hSw; (try dsimp only at hSw); go_simp; try with_reducible rfl)
              try simp only [Act.put, List.setIfInBounds_toArray, List.set_cons_zero, List.set_cons_succ]
              refine wpAnyE_one (i := 17) (by kernel_rfl) (by simp only [List.getElem?_toArray, List.getElem?_cons_succ, List.getElem?_cons_zero]; rfl) (fun K hK => ?_)
              rw [if_pos (by first | rfl | kernel_rfl | simp [Region.wanted, yielded])]
              have O := Lib.hid (oneJ LR.at)
              have JS := Lib.hid (sizeJ LR.at).2
              have ht := turns_setRow w3 V C
              have Ma := VarOf.put (keepsJ rr) ZB LR.at hF
              replace K0 := K0.turn ht (fun b hb => by omega)
              clear hH
              refine wp_store_row 29 _ _ rfl V _ rfl rfl 29 #[.slice none 0 0, .slice none 0 0] ZB JS.out O.out.1.symm O.out.2 ?_
              refine hK.out _ _ ⟨K0.v0.box, K0.v1.box, K0.st⟩ (fun hH => ?_)
              clear hK K
              try simp only [Act.put]
              have hEs : E ≤ (w3.setRow V C).heap.size := by rw [size_setRow]; exact hEl
              clear ZB LR ht O JS
              generalize (w3.setRow _ _ : World) = w4 at K0 Ma hEs hH  ⊢
              refine wpAnyE_end (i := 18) (by kernel_rfl) (by simp only [List.getElem?_toArray, List.getElem?_cons_succ, List.getElem?_cons_zero]; rfl) (by kernel_rfl) (fun K hK => ?_)
              go_simp
              refine hK.out _ _ ⟨K0.v0.box, K0.v1.box, K0.st⟩ ?_
              clear hK K hH
              try simp only [Act.put, List.setIfInBounds_toArray, List.set_cons_zero, List.set_cons_succ]
              go_wp2_with fail
              go_meet
              exact ⟨V, C, _, rfl, rfl, Ma, fun b hb => Nat.lt_of_lt_of_le hb.2 hEs, hV, K0⟩
          · skip
            go_simp
            have hV := K0.st.lt
            have hn := bel_alloc w3 (.cells #[.slice none 0 0, .slice none 0 0] 29)
            replace K0 := K0.later hn
            replace L0 := (keepsLG d0).later L0 hn
            replace L1 := (keepsLJ d1).later L1 hn
            have ZB := Box.new w3 29 #[.slice none 0 0, .slice none 0 0]
            clear hn
            generalize (w3.alloc _ : World) = w4 at K0 L0 L1 ZB ⊢
            generalize w3.heap.size = V at hV ZB ⊢
            obtain ⟨w3, rfl⟩ : ∃ x, x = w4 := ⟨_, rfl⟩
            clear hH
            refine hK.out _ _ ⟨K0.v0.box, K0.v1.box, K0.st⟩ (fun hH => ?_)
            clear hK K
            try simp only [Act.put, List.setIfInBounds_toArray, List.set_cons_zero, List.set_cons_succ]
            refine wpAnyE_one (i := 11) (by kernel_rfl) (by simp only [List.getElem?_toArray, List.getElem?_cons_succ, List.getElem?_cons_zero]; rfl) (fun K hK => ?_)
            go_simp
            refine (toSeals_any A7 n7 c7 ps w3 hz7 K0.l2.1).mono ?_
            rintro e w4 ⟨gs, -, rfl, -, LH, hb⟩
            replace K0 := K0.later hb
            replace L0 := (keepsLG d0).later L0 hb
            replace L1 := (keepsLJ d1).later L1 hb
            replace ZB := ZB.later hb ZB.lt
            clear hb
            obtain ⟨w3, rfl⟩ : ∃ x, x = w4 := ⟨_, rfl⟩
            clear hH
            refine hK.out _ _ ⟨K0.v0.box, K0.v1.box, K0.st⟩ (fun hH => ?_)
            clear hK K
            try simp only [Act.put, List.setIfInBounds_toArray, List.set_cons_zero, List.set_cons_succ]
            refine wpAnyE_one (i := 12) (by kernel_rfl) (by simp only [List.getElem?_toArray, List.getElem?_cons_succ, List.getElem?_cons_zero]; rfl) (fun K hK => ?_)
            go_simp
            have hVS := ZB.lt
            refine (specNoted8_is kd sh cl t1 t2 v L0 L1 ⟨LH⟩ HPL.out hsum HZ.out).mono ?_
            rintro e w4 ⟨C, rfl, LR, hb⟩
            replace K0 := K0.later hb
            replace ZB := ZB.later hb ZB.lt
            generalize w3.heap.size = S at LR hVS
            obtain ⟨E, hE⟩ : ∃ E, w4.heap.size = E := ⟨_, rfl⟩
            rw [hE] at LR
            have hEl : E ≤ w4.heap.size := Nat.le_of_eq hE.symm
            clear hE
            have hF : ¬ Iv S E V := iv_not (.inl hVS)
            clear hVS
            clear hb L0 L1 LH
            obtain ⟨w3, rfl⟩ : ∃ x, x = w4 := ⟨_, rfl⟩
            clear hH
            refine hK.out _ _ ⟨K0.v0.box, K0.v1.box, K0.st⟩ (fun hH => ?_)
            clear hK K
            try simp only [Act.put, List.setIfInBounds_toArray, List.set_cons_zero, List.set_cons_succ]
            refine wpAnyE_pure (i := 13) (v := ?val2p13) (by simp only [List.getElem?_toArray, List.getElem?_cons_succ, List.getElem?_cons_zero]; rfl) (by kernel_rfl) (by kernel_rfl) (by kernel_rfl) (by exact fun _ _ _ h => h) (by kernel_rfl) (Or.inl ⟨by rfl, ?yal2p13⟩) hH ?ral2p13
            case yal2p13 => (intro w' hSw; (try dsimp only at hSw); go_simp; try with_reducible rfl)
            try simp only [Act.put, List.setIfInBounds_toArray, List.set_cons_zero, List.set_cons_succ]
            refine wpAnyE_pure (i := 14) (v := ?val2p14) (by simp only [List.getElem?_toArray, List.getElem?_cons_succ, List.getElem?_cons_zero]; rfl) (by kernel_rfl) (by kernel_rfl) (by kernel_rfl) (by exact fun _ _ _ h => h) (by kernel_rfl) (Or.inl ⟨by rfl, ?yal2p14⟩) hH ?ral2p14
            case yal2p14 => (intro w' hSw; (try dsimp only at hSw); go_simp; try with_reducible rfl)
            try simp only [Act.put, List.setIfInBounds_toArray, List.set_cons_zero, List.set_cons_succ]
            refine wpAnyE_pure (i := 15) (v := ?val2p15) (by simp only [List.getElem?_toArray, List.getElem?_cons_succ, List.getElem?_cons_zero]; rfl) (by kernel_rfl) (by kernel_rfl) (by kernel_rfl) (by exact fun _ _ _ h => h) (by kernel_rfl) (Or.inl ⟨by rfl, ?yal2p15⟩) hH ?ral2p15
            case yal2p15 => (intro w' hSw; (try dsimp only at hSw); go_simp; try with_reducible rfl)
            try simp only [Act.put, List.setIfInBounds_toArray, List.set_cons_zero, List.set_cons_succ]
            refine wpAnyE_one (i := 17) (by kernel_rfl) (by simp only [List.getElem?_toArray, List.getElem?_cons_succ, List.getElem?_cons_zero]; rfl) (fun K hK => ?_)
            rw [if_pos (by first | rfl | kernel_rfl | simp [Region.wanted, yielded])]
            have O := Lib.hid (oneJ LR.at)
            have JS := Lib.hid (sizeJ LR.at).2
            have ht := turns_setRow w3 V C
            have Ma := VarOf.put (keepsJ rr) ZB LR.at hF
            replace K0 := K0.turn ht (fun b hb => by omega)
            clear hH
            refine wp_store_row 29 _ _ rfl V _ rfl rfl 29 #[.slice none 0 0, .slice none 0 0] ZB JS.out O.out.1.symm O.out.2 ?_
            refine hK.out _ _ ⟨K0.v0.box, K0.v1.box, K0.st⟩ (fun hH => ?_)
            clear hK K
            try simp only [Act.put]
            have hEs : E ≤ (w3.setRow V C).heap.size := by rw [size_setRow]; exact hEl
            clear ZB LR ht O JS
            generalize (w3.setRow _ _ : World) = w4 at K0 Ma hEs hH  ⊢
            refine wpAnyE_end (i := 18) (by kernel_rfl) (by simp only [List.getElem?_toArray, List.getElem?_cons_succ, List.getElem?_cons_zero]; rfl) (by kernel_rfl) (fun K hK => ?_)
            go_simp
            refine hK.out _ _ ⟨K0.v0.box, K0.v1.box, K0.st⟩ ?_
            clear hK K hH
            try simp only [Act.put, List.setIfInBounds_toArray, List.set_cons_zero, List.set_cons_succ]
            go_wp2_with fail
            go_meet
            exact ⟨V, C, _, rfl, rfl, Ma, fun b hb => Nat.lt_of_lt_of_le hb.2 hEs, hV, K0⟩
        · skip
          go_simp
          have hV := K0.st.lt
          have hn := bel_alloc w3 (.cells #[.slice none 0 0, .slice none 0 0] 29)
          replace K0 := K0.later hn
          replace L0 := (keepsLG d0).later L0 hn
          replace L1 := (keepsLJ d1).later L1 hn
          have ZB := Box.new w3 29 #[.slice none 0 0, .slice none 0 0]
          clear hn
          generalize (w3.alloc _ : World) = w4 at K0 L0 L1 ZB ⊢
          generalize w3.heap.size = V at hV ZB ⊢
          obtain ⟨w3, rfl⟩ : ∃ x, x = w4 := ⟨_, rfl⟩
          clear hH
          refine hK.out _ _ ⟨K0.v0.box, K0.v1.box, K0.st⟩ (fun hH => ?_)
          clear hK K
          try simp only [Act.put, List.setIfInBounds_toArray, List.set_cons_zero, List.set_cons_succ]
          refine wpAnyE_one (i := 8) (by kernel_rfl) (by simp only [List.getElem?_toArray, List.getElem?_cons_succ, List.getElem?_cons_zero]; rfl) (fun K hK => ?_)
          go_simp
          refine (toStamp_any t1 t2 w3).mono ?_
          rintro e w4 ⟨rfl, hb⟩
          replace K0 := K0.later hb
          replace L0 := (keepsLG d0).later L0 hb
          replace L1 := (keepsLJ d1).later L1 hb
          replace ZB := ZB.later hb ZB.lt
          clear hb
          obtain ⟨w3, rfl⟩ : ∃ x, x = w4 := ⟨_, rfl⟩
          clear hH
          refine hK.out _ _ ⟨K0.v0.box, K0.v1.box, K0.st⟩ (fun hH => ?_)
          clear hK K
          try simp only [Act.put, List.setIfInBounds_toArray, List.set_cons_zero, List.set_cons_succ]
          refine wpAnyE_one (i := 11) (by kernel_rfl) (by simp only [List.getElem?_toArray, List.getElem?_cons_succ, List.getElem?_cons_zero]; rfl) (fun K hK => ?_)
          go_simp
          refine (toSeals_any A7 n7 c7 ps w3 hz7 K0.l2.1).mono ?_
          rintro e w4 ⟨gs, -, rfl, -, LH, hb⟩
          replace K0 := K0.later hb
          replace L0 := (keepsLG d0).later L0 hb
          replace L1 := (keepsLJ d1).later L1 hb
          replace ZB := ZB.later hb ZB.lt
          clear hb
          obtain ⟨w3, rfl⟩ : ∃ x, x = w4 := ⟨_, rfl⟩
          clear hH
          refine hK.out _ _ ⟨K0.v0.box, K0.v1.box, K0.st⟩ (fun hH => ?_)
          clear hK K
          try simp only [Act.put, List.setIfInBounds_toArray, List.set_cons_zero, List.set_cons_succ]
          refine wpAnyE_one (i := 12) (by kernel_rfl) (by simp only [List.getElem?_toArray, List.getElem?_cons_succ, List.getElem?_cons_zero]; rfl) (fun K hK => ?_)
          go_simp
          have hVS := ZB.lt
          refine (specNoted8_is kd sh cl t1 t2 v L0 L1 ⟨LH⟩ HPL.out hsum HZ.out).mono ?_
          rintro e w4 ⟨C, rfl, LR, hb⟩
          replace K0 := K0.later hb
          replace ZB := ZB.later hb ZB.lt
          generalize w3.heap.size = S at LR hVS
          obtain ⟨E, hE⟩ : ∃ E, w4.heap.size = E := ⟨_, rfl⟩
          rw [hE] at LR
          have hEl : E ≤ w4.heap.size := Nat.le_of_eq hE.symm
          clear hE
          have hF : ¬ Iv S E V := iv_not (.inl hVS)
          clear hVS
          clear hb L0 L1 LH
          obtain ⟨w3, rfl⟩ : ∃ x, x = w4 := ⟨_, rfl⟩
          clear hH
          refine hK.out _ _ ⟨K0.v0.box, K0.v1.box, K0.st⟩ (fun hH => ?_)
          clear hK K
          try simp only [Act.put, List.setIfInBounds_toArray, List.set_cons_zero, List.set_cons_succ]
          refine wpAnyE_pure (i := 13) (v := ?val3p13) (by simp only [List.getElem?_toArray, List.getElem?_cons_succ, List.getElem?_cons_zero]; rfl) (by kernel_rfl) (by kernel_rfl) (by kernel_rfl) (by exact fun _ _ _ h => h) (by kernel_rfl) (Or.inl ⟨by rfl, ?yal3p13⟩) hH ?ral3p13
          case yal3p13 => (intro w' hSw; (try dsimp only at hSw); go_simp; try with_reducible rfl)
          try simp only [Act.put, List.setIfInBounds_toArray, List.set_cons_zero, List.set_cons_succ]
          refine wpAnyE_pure (i := 14) (v := ?val3p14) (by simp only [List.getElem?_toArray, List.getElem?_cons_succ, List.getElem?_cons_zero]; rfl) (by kernel_rfl) (by kernel_rfl) (by kernel_rfl) (by exact fun _ _ _ h => h) (by kernel_rfl) (Or.inl ⟨by rfl, ?yal3p14⟩) hH ?ral3p14
          case yal3p14 => (intro w' hSw; (try dsimp only at hSw); go_simp; try with_reducible rfl)
          try simp only [Act.put, List.setIfInBounds_toArray, List.set_cons_zero, List.set_cons_succ]
          refine wpAnyE_pure (i := 15) (v := ?val3p15) (by simp only [List.getElem?_toArray, List.getElem?_cons_succ, List.getElem?_cons_zero]; rfl) (by kernel_rfl) (by kernel_rfl) (by kernel_rfl) (by exact fun _ _ _ h => h) (by kernel_rfl) (Or.inl ⟨by rfl, ?yal3p15⟩) hH ?ral3p15
          case yal3p15 => (intro w' hSw; (try dsimp only at hSw); go_simp; try with_reducible rfl)
          try simp only [Act.put, List.setIfInBounds_toArray, List.set_cons_zero, List.set_cons_succ]
          refine wpAnyE_one (i := 17) (by kernel_rfl) (by simp only [List.getElem?_toArray, List.getElem?_cons_succ, List.getElem?_cons_zero]; rfl) (fun K hK => ?_)
          rw [if_pos (by first | rfl | kernel_rfl | simp [Region.wanted, yielded])]
          have O := Lib.hid (oneJ LR.at)
          have JS := Lib.hid (sizeJ LR.at).2
          have ht := turns_setRow w3 V C
          have Ma := VarOf.put (keepsJ rr) ZB LR.at hF
          replace K0 := K0.turn ht (fun b hb => by omega)
          clear hH
          refine wp_store_row 29 _ _ rfl V _ rfl rfl 29 #[.slice none 0 0, .slice none 0 0] ZB JS.out O.out.1.symm O.out.2 ?_
          refine hK.out _ _ ⟨K0.v0.box, K0.v1.box, K0.st⟩ (fun hH => ?_)
          clear hK K
          try simp only [Act.put]
          have hEs : E ≤ (w3.setRow V C).heap.size := by rw [size_setRow]; exact hEl
          clear ZB LR ht O JS
          generalize (w3.setRow _ _ : World) = w4 at K0 Ma hEs hH  ⊢
          refine wpAnyE_end (i := 18) (by kernel_rfl) (by simp only [List.getElem?_toArray, List.getElem?_cons_succ, List.getElem?_cons_zero]; rfl) (by kernel_rfl) (fun K hK => ?_)
          go_simp
          refine hK.out _ _ ⟨K0.v0.box, K0.v1.box, K0.st⟩ ?_
          clear hK K hH
          try simp only [Act.put, List.setIfInBounds_toArray, List.set_cons_zero, List.set_cons_succ]
          go_wp2_with fail
          go_meet
          exact ⟨V, C, _, rfl, rfl, Ma, fun b hb => Nat.lt_of_lt_of_le hb.2 hEs, hV, K0⟩
      · skip
        go_simp
        have hV := K0.st.lt
        have hn := bel_alloc w3 (.cells #[.slice none 0 0, .slice none 0 0] 29)
        replace K0 := K0.later hn
        replace L0 := (keepsLG d0).later L0 hn
        have ZB := Box.new w3 29 #[.slice none 0 0, .slice none 0 0]
        clear hn
        generalize (w3.alloc _ : World) = w4 at K0 L0 ZB ⊢
        generalize w3.heap.size = V at hV ZB ⊢
        obtain ⟨w3, rfl⟩ : ∃ x, x = w4 := ⟨_, rfl⟩
        clear hH
        refine hK.out _ _ ⟨K0.v0.box, K0.v1.box, K0.st⟩ (fun hH => ?_)
        clear hK K
        try simp only [Act.put, List.setIfInBounds_toArray, List.set_cons_zero, List.set_cons_succ]
        refine wpAnyE_one (i := 3) (by kernel_rfl) (by simp only [List.getElem?_toArray, List.getElem?_cons_succ, List.getElem?_cons_zero]; rfl) (fun K hK => ?_)
        go_simp
        refine (to_J K0.v1.dat hz1).mono ?_
        rintro e w4 ⟨D1, rfl, L1, hb⟩
        replace K0 := K0.later hb
        replace L0 := (keepsLG d0).later L0 hb
        replace ZB := ZB.later hb ZB.lt
        clear hb
        obtain ⟨w3, rfl⟩ : ∃ x, x = w4 := ⟨_, rfl⟩
        clear hH
        refine hK.out _ _ ⟨K0.v0.box, K0.v1.box, K0.st⟩ (fun hH => ?_)
        clear hK K
        try simp only [Act.put, List.setIfInBounds_toArray, List.set_cons_zero, List.set_cons_succ]
        refine wpAnyE_one (i := 8) (by kernel_rfl) (by simp only [List.getElem?_toArray, List.getElem?_cons_succ, List.getElem?_cons_zero]; rfl) (fun K hK => ?_)
        go_simp
        refine (toStamp_any t1 t2 w3).mono ?_
        rintro e w4 ⟨rfl, hb⟩
        replace K0 := K0.later hb
        replace L0 := (keepsLG d0).later L0 hb
        replace L1 := (keepsLJ d1).later L1 hb
        replace ZB := ZB.later hb ZB.lt
        clear hb
        obtain ⟨w3, rfl⟩ : ∃ x, x = w4 := ⟨_, rfl⟩
        clear hH
        refine hK.out _ _ ⟨K0.v0.box, K0.v1.box, K0.st⟩ (fun hH => ?_)
        clear hK K
        try simp only [Act.put, List.setIfInBounds_toArray, List.set_cons_zero, List.set_cons_succ]
        refine wpAnyE_one (i := 11) (by kernel_rfl) (by simp only [List.getElem?_toArray, List.getElem?_cons_succ, List.getElem?_cons_zero]; rfl) (fun K hK => ?_)
        go_simp
        refine (toSeals_any A7 n7 c7 ps w3 hz7 K0.l2.1).mono ?_
        rintro e w4 ⟨gs, -, rfl, -, LH, hb⟩
        replace K0 := K0.later hb
        replace L0 := (keepsLG d0).later L0 hb
        replace L1 := (keepsLJ d1).later L1 hb
        replace ZB := ZB.later hb ZB.lt
        clear hb
        obtain ⟨w3, rfl⟩ : ∃ x, x = w4 := ⟨_, rfl⟩
        clear hH
        refine hK.out _ _ ⟨K0.v0.box, K0.v1.box, K0.st⟩ (fun hH => ?_)
        clear hK K
        try simp only [Act.put, List.setIfInBounds_toArray, List.set_cons_zero, List.set_cons_succ]
        refine wpAnyE_one (i := 12) (by kernel_rfl) (by simp only [List.getElem?_toArray, List.getElem?_cons_succ, List.getElem?_cons_zero]; rfl) (fun K hK => ?_)
        go_simp
        have hVS := ZB.lt
        refine (specNoted8_is kd sh cl t1 t2 v L0 L1 ⟨LH⟩ HPL.out hsum HZ.out).mono ?_
        rintro e w4 ⟨C, rfl, LR, hb⟩
        replace K0 := K0.later hb
        replace ZB := ZB.later hb ZB.lt
        generalize w3.heap.size = S at LR hVS
        obtain ⟨E, hE⟩ : ∃ E, w4.heap.size = E := ⟨_, rfl⟩
        rw [hE] at LR
        have hEl : E ≤ w4.heap.size := Nat.le_of_eq hE.symm
        clear hE
        have hF : ¬ Iv S E V := iv_not (.inl hVS)
        clear hVS
        clear hb L0 L1 LH
        obtain ⟨w3, rfl⟩ : ∃ x, x = w4 := ⟨_, rfl⟩
        clear hH
        refine hK.out _ _ ⟨K0.v0.box, K0.v1.box, K0.st⟩ (fun hH => ?_)
        clear hK K
        try simp only [Act.put, List.setIfInBounds_toArray, List.set_cons_zero, List.set_cons_succ]
        refine wpAnyE_pure (i := 13) (v := ?val4p13) (by simp only [List.getElem?_toArray, List.getElem?_cons_succ, List.getElem?_cons_zero]; rfl) (by kernel_rfl) (by kernel_rfl) (by kernel_rfl) (by exact fun _ _ _ h => h) (by kernel_rfl) (Or.inl ⟨by rfl, ?yal4p13⟩) hH ?ral4p13
        case yal4p13 => (intro w' hSw; (try dsimp only at hSw); go_simp; try with_reducible rfl)
        try simp only [Act.put, List.setIfInBounds_toArray, List.set_cons_zero, List.set_cons_succ]
        refine wpAnyE_pure (i := 14) (v := ?val4p14) (by simp only [List.getElem?_toArray, List.getElem?_cons_succ, List.getElem?_cons_zero]; rfl) (by kernel_rfl) (by kernel_rfl) (by kernel_rfl) (by exact fun _ _ _ h => h) (by kernel_rfl) (Or.inl ⟨by rfl, ?yal4p14⟩) hH ?ral4p14
        case yal4p14 => (intro w' hSw; (try dsimp only at hSw); go_simp; try with_reducible rfl)
        try simp only [Act.put, List.setIfInBounds_toArray, List.set_cons_zero, List.set_cons_succ]
        refine wpAnyE_pure (i := 15) (v := ?val4p15) (by simp only [List.getElem?_toArray, List.getElem?_cons_succ, List.getElem?_cons_zero]; rfl) (by kernel_rfl) (by kernel_rfl) (by kernel_rfl) (by exact fun _ _ _ h => h) (by kernel_rfl) (Or.inl ⟨by rfl, ?yal4p15⟩) hH ?ral4p15
        case yal4p15 => (intro w' hSw; (try dsimp only at hSw); go_simp; try with_reducible rfl)
        try simp only [Act.put, List.setIfInBounds_toArray, List.set_cons_zero, List.set_cons_succ]
        refine wpAnyE_one (i := 17) (by kernel_rfl) (by simp only [List.getElem?_toArray, List.getElem?_cons_succ, List.getElem?_cons_zero]; rfl) (fun K hK => ?_)
        rw [if_pos (by first | rfl | kernel_rfl | simp [Region.wanted, yielded])]
        have O := Lib.hid (oneJ LR.at)
        have JS := Lib.hid (sizeJ LR.at).2
        have ht := turns_setRow w3 V C
        have Ma := VarOf.put (keepsJ rr) ZB LR.at hF
        replace K0 := K0.turn ht (fun b hb => by omega)
        clear hH
        refine wp_store_row 29 _ _ rfl V _ rfl rfl 29 #[.slice none 0 0, .slice none 0 0] ZB JS.out O.out.1.symm O.out.2 ?_
        refine hK.out _ _ ⟨K0.v0.box, K0.v1.box, K0.st⟩ (fun hH => ?_)
        clear hK K
        try simp only [Act.put]
        have hEs : E ≤ (w3.setRow V C).heap.size := by rw [size_setRow]; exact hEl
        clear ZB LR ht O JS
        generalize (w3.setRow _ _ : World) = w4 at K0 Ma hEs hH  ⊢
        refine wpAnyE_end (i := 18) (by kernel_rfl) (by simp only [List.getElem?_toArray, List.getElem?_cons_succ, List.getElem?_cons_zero]; rfl) (by kernel_rfl) (fun K hK => ?_)
        go_simp
        refine hK.out _ _ ⟨K0.v0.box, K0.v1.box, K0.st⟩ ?_
        clear hK K hH
        try simp only [Act.put, List.setIfInBounds_toArray, List.set_cons_zero, List.set_cons_succ]
        go_wp2_with fail
        go_meet
        exact ⟨V, C, _, rfl, rfl, Ma, fun b hb => Nat.lt_of_lt_of_le hb.2 hEs, hV, K0⟩
    · skip
      go_simp
      have hV := K0.st.lt
      have hn := bel_alloc w3 (.cells #[.slice none 0 0, .slice none 0 0] 29)
      replace K0 := K0.later hn
      have ZB := Box.new w3 29 #[.slice none 0 0, .slice none 0 0]
      clear hn
      generalize (w3.alloc _ : World) = w4 at K0 ZB ⊢
      generalize w3.heap.size = V at hV ZB ⊢
      obtain ⟨w3, rfl⟩ : ∃ x, x = w4 := ⟨_, rfl⟩
      clear hH
      refine hK.out _ _ ⟨K0.v0.box, K0.v1.box, K0.st⟩ (fun hH => ?_)
      clear hK K
      try simp only [Act.put, List.setIfInBounds_toArray, List.set_cons_zero, List.set_cons_succ]
      refine wpAnyE_one (i := 1) (by kernel_rfl) (by simp only [List.getElem?_toArray, List.getElem?_cons_succ, List.getElem?_cons_zero]; rfl) (fun K hK => ?_)
      go_simp
      refine (to_G K0.v0.dat hz0).mono ?_
      rintro e w4 ⟨D0, rfl, L0, hb⟩
      replace K0 := K0.later hb
      replace ZB := ZB.later hb ZB.lt
      clear hb
      obtain ⟨w3, rfl⟩ : ∃ x, x = w4 := ⟨_, rfl⟩
      clear hH
      refine hK.out _ _ ⟨K0.v0.box, K0.v1.box, K0.st⟩ (fun hH => ?_)
      clear hK K
      try simp only [Act.put, List.setIfInBounds_toArray, List.set_cons_zero, List.set_cons_succ]
      refine wpAnyE_one (i := 3) (by kernel_rfl) (by simp only [List.getElem?_toArray, List.getElem?_cons_succ, List.getElem?_cons_zero]; rfl) (fun K hK => ?_)
      go_simp
      refine (to_J K0.v1.dat hz1).mono ?_
      rintro e w4 ⟨D1, rfl, L1, hb⟩
      replace K0 := K0.later hb
      replace L0 := (keepsLG d0).later L0 hb
      replace ZB := ZB.later hb ZB.lt
      clear hb
      obtain ⟨w3, rfl⟩ : ∃ x, x = w4 := ⟨_, rfl⟩
      clear hH
      refine hK.out _ _ ⟨K0.v0.box, K0.v1.box, K0.st⟩ (fun hH => ?_)
      clear hK K
      try simp only [Act.put, List.setIfInBounds_toArray, List.set_cons_zero, List.set_cons_succ]
      refine wpAnyE_one (i := 8) (by kernel_rfl) (by simp only [List.getElem?_toArray, List.getElem?_cons_succ, List.getElem?_cons_zero]; rfl) (fun K hK => ?_)
      go_simp
      refine (toStamp_any t1 t2 w3).mono ?_
      rintro e w4 ⟨rfl, hb⟩
      replace K0 := K0.later hb
      replace L0 := (keepsLG d0).later L0 hb
      replace L1 := (keepsLJ d1).later L1 hb
      replace ZB := ZB.later hb ZB.lt
      clear hb
      obtain ⟨w3, rfl⟩ : ∃ x, x = w4 := ⟨_, rfl⟩
      clear hH
      refine hK.out _ _ ⟨K0.v0.box, K0.v1.box, K0.st⟩ (fun hH => ?_)
      clear hK K
      try simp only [Act.put, List.setIfInBounds_toArray, List.set_cons_zero, List.set_cons_succ]
      refine wpAnyE_one (i := 11) (by kernel_rfl) (by simp only [List.getElem?_toArray, List.getElem?_cons_succ, List.getElem?_cons_zero]; rfl) (fun K hK => ?_)
      go_simp
      refine (toSeals_any A7 n7 c7 ps w3 hz7 K0.l2.1).mono ?_
      rintro e w4 ⟨gs, -, rfl, -, LH, hb⟩
      replace K0 := K0.later hb
      replace L0 := (keepsLG d0).later L0 hb
      replace L1 := (keepsLJ d1).later L1 hb
      replace ZB := ZB.later hb ZB.lt
      clear hb
      obtain ⟨w3, rfl⟩ : ∃ x, x = w4 := ⟨_, rfl⟩
      clear hH
      refine hK.out _ _ ⟨K0.v0.box, K0.v1.box, K0.st⟩ (fun hH => ?_)
      clear hK K
      try simp only [Act.put, List.setIfInBounds_toArray, List.set_cons_zero, List.set_cons_succ]
      refine wpAnyE_one (i := 12) (by kernel_rfl) (by simp only [List.getElem?_toArray, List.getElem?_cons_succ, List.getElem?_cons_zero]; rfl) (fun K hK => ?_)
      go_simp
      have hVS := ZB.lt
      refine (specNoted8_is kd sh cl t1 t2 v L0 L1 ⟨LH⟩ HPL.out hsum HZ.out).mono ?_
      rintro e w4 ⟨C, rfl, LR, hb⟩
      replace K0 := K0.later hb
      replace ZB := ZB.later hb ZB.lt
      generalize w3.heap.size = S at LR hVS
      obtain ⟨E, hE⟩ : ∃ E, w4.heap.size = E := ⟨_, rfl⟩
      rw [hE] at LR
      have hEl : E ≤ w4.heap.size := Nat.le_of_eq hE.symm
      clear hE
      have hF : ¬ Iv S E V := iv_not (.inl hVS)
      clear hVS
      clear hb L0 L1 LH
      obtain ⟨w3, rfl⟩ : ∃ x, x = w4 := ⟨_, rfl⟩
      clear hH
      refine hK.out _ _ ⟨K0.v0.box, K0.v1.box, K0.st⟩ (fun hH => ?_)
      clear hK K
      try simp only [Act.put, List.setIfInBounds_toArray, List.set_cons_zero, List.set_cons_succ]
      refine wpAnyE_pure (i := 13) (v := ?val5p13) (by simp only [List.getElem?_toArray, List.getElem?_cons_succ, List.getElem?_cons_zero]; rfl) (by kernel_rfl) (by kernel_rfl) (by kernel_rfl) (by exact fun _ _ _ h => h) (by kernel_rfl) (Or.inl ⟨by rfl, ?yal5p13⟩) hH ?ral5p13
      case yal5p13 => (intro w' hSw; (try dsimp only at hSw); go_simp; try with_reducible rfl)
      try simp only [Act.put, List.setIfInBounds_toArray, List.set_cons_zero, List.set_cons_succ]
      refine wpAnyE_pure (i := 14) (v := ?val5p14) (by simp only [List.getElem?_toArray, List.getElem?_cons_succ, List.getElem?_cons_zero]; rfl) (by kernel_rfl) (by kernel_rfl) (by kernel_rfl) (by exact fun _ _ _ h => h) (by kernel_rfl) (Or.inl ⟨by rfl, ?yal5p14⟩) hH ?ral5p14
      case yal5p14 => (intro w' hSw; (try dsimp only at hSw); go_simp; try with_reducible rfl)
      try simp only [Act.put, List.setIfInBounds_toArray, List.set_cons_zero, List.set_cons_succ]
      refine wpAnyE_pure (i := 15) (v := ?val5p15) (by simp only [List.getElem?_toArray, List.getElem?_cons_succ, List.getElem?_cons_zero]; rfl) (by kernel_rfl) (by kernel_rfl) (by kernel_rfl) (by exact fun _ _ _ h => h) (by kernel_rfl) (Or.inl ⟨by rfl, ?yal5p15⟩) hH ?ral5p15
      case yal5p15 => (intro w' hSw; (try dsimp only at hSw); go_simp; try with_reducible rfl)
      try simp only [Act.put, List.setIfInBounds_toArray, List.set_cons_zero, List.set_cons_succ]
      refine wpAnyE_one (i := 17) (by kernel_rfl) (by simp only [List.getElem?_toArray, List.getElem?_cons_succ, List.getElem?_cons_zero]; rfl) (fun K hK => ?_)
      rw [if_pos (by first | rfl | kernel_rfl | simp [Region.wanted, yielded])]
      have O := Lib.hid (oneJ LR.at)
      have JS := Lib.hid (sizeJ LR.at).2
      have ht := turns_setRow w3 V C
      have Ma := VarOf.put (keepsJ rr) ZB LR.at hF
      replace K0 := K0.turn ht (fun b hb => by omega)
      clear hH
      refine wp_store_row 29 _ _ rfl V _ rfl rfl 29 #[.slice none 0 0, .slice none 0 0] ZB JS.out O.out.1.symm O.out.2 ?_
      refine hK.out _ _ ⟨K0.v0.box, K0.v1.box, K0.st⟩ (fun hH => ?_)
      clear hK K
      try simp only [Act.put]
      have hEs : E ≤ (w3.setRow V C).heap.size := by rw [size_setRow]; exact hEl
      clear ZB LR ht O JS
      generalize (w3.setRow _ _ : World) = w4 at K0 Ma hEs hH  ⊢
      refine wpAnyE_end (i := 18) (by kernel_rfl) (by simp only [List.getElem?_toArray, List.getElem?_cons_succ, List.getElem?_cons_zero]; rfl) (by kernel_rfl) (fun K hK => ?_)
      go_simp
      refine hK.out _ _ ⟨K0.v0.box, K0.v1.box, K0.st⟩ ?_
      clear hK K hH
      try simp only [Act.put, List.setIfInBounds_toArray, List.set_cons_zero, List.set_cons_succ]
      go_wp2_with fail
      go_meet
      exact ⟨V, C, _, rfl, rfl, Ma, fun b hb => Nat.lt_of_lt_of_le hb.2 hEs, hV, K0⟩
  case rest =>
  clear K0
  obtain ⟨VM, CM, FM, rfl, rfl, M, hFM, hV, K0⟩ := hcut
  obtain ⟨w1, rfl⟩ : ∃ x, x = wc := ⟨_, rfl⟩
  have JM := Lib.hid (sizeJ M.dat).2
  -- a copy that is handed in
  go_wp2_with (refine wpList_load_box 47 _ rfl (w.heap.size) rfl 47 C0 K0.v0.box _ Tryz.underlying47 rfl I0.out (by first | rfl | simp [Region.wanted, yielded] | (simp [Region.wanted, yielded, Act.put] <;> omega)) ?_)
  refine (to_G K0.v0.dat hz0).mono ?_
  rintro e w2 ⟨D0, rfl, hL, hb⟩
  have s0 := hb.size
  have q0 := M.box.lt
  have O := Lib.hid (oneG hL.at)
  have JS := Lib.hid (sizeG hL.at).2
  have J0 := JS
  have hn := bel_new_row w2 #[.int .i64 0, .int .i64 0, .int .i64 0, .int .i64 0, .slice none 0 0] 26 D0
  have X0 := var_new_row (keepsLG d0) (Z := #[.int .i64 0, .int .i64 0, .int .i64 0, .int .i64 0, .slice none 0 0]) 26 hL (fun b hb => hb.2)
  replace M := (M.later (keepsJ rr) hb).later (keepsJ rr) hn
  replace K0 := (K0.later hb).later hn
  have ZB := Box.new w2 26 #[.int .i64 0, .int .i64 0, .int .i64 0, .int .i64 0, .slice none 0 0]
  generalize w1.heap.size = S0 at s0 q0 X0 hFM
  clear hb hL hn
  go_upto_region 13 with (refine wpList_store_row rfl 26 _ _ rfl w2.heap.size _ rfl rfl 26 #[.int .i64 0, .int .i64 0, .int .i64 0, .int .i64 0, .slice none 0 0] ZB JS.out O.out.1.symm O.out.2 ?_)
  clear ZB O JS
  generalize ((w2.alloc _).setRow _ _ : World) = w3 at K0 X0 M ⊢
  generalize w2.heap.size = V0 at s0 X0 ⊢
  obtain ⟨w1, rfl⟩ : ∃ x, x = w3 := ⟨_, rfl⟩
  -- a copy that is handed in
  go_wp2_with (refine wpList_load_box 50 _ rfl (w.heap.size + 1) rfl 50 C1 K0.v1.box _ Tryz.underlying50 rfl I1.out (by first | rfl | simp [Region.wanted, yielded] | (simp [Region.wanted, yielded, Act.put] <;> omega)) ?_)
  refine (to_J K0.v1.dat hz1).mono ?_
  rintro e w2 ⟨D1, rfl, hL, hb⟩
  have s1 := hb.size
  have q1 := X0.box.lt
  have O := Lib.hid (oneJ hL.at)
  have JS := Lib.hid (sizeJ hL.at).2
  have J1 := JS
  have hn := bel_new_row w2 #[.slice none 0 0, .slice none 0 0] 29 D1
  have X1 := var_new_row (keepsLJ d1) (Z := #[.slice none 0 0, .slice none 0 0]) 29 hL (fun b hb => hb.2)
  replace X0 := (X0.later (keepsLG d0) hb).later (keepsLG d0) hn
  replace M := (M.later (keepsJ rr) hb).later (keepsJ rr) hn
  replace K0 := (K0.later hb).later hn
  have ZB := Box.new w2 29 #[.slice none 0 0, .slice none 0 0]
  generalize w1.heap.size = S1 at s1 q1 X1 
  clear hb hL hn
  go_upto_region 14 with (refine wpList_store_row rfl 29 _ _ rfl w2.heap.size _ rfl rfl 29 #[.slice none 0 0, .slice none 0 0] ZB JS.out O.out.1.symm O.out.2 ?_)
  clear ZB O JS
  generalize ((w2.alloc _).setRow _ _ : World) = w3 at K0 X0 X1 M ⊢
  generalize w2.heap.size = V1 at s1 X1 ⊢
  obtain ⟨w1, rfl⟩ : ∃ x, x = w3 := ⟨_, rfl⟩
  -- the list of seals
  go_wp2_with fail
  refine (toSeals_any A7 n7 c7 ps w1 hz7 K0.l2.1).mono ?_
  rintro e w2 ⟨GB, sB, rfl, -, hB9, hb⟩
  have qB := X1.box.lt
  have XB : SealOf ps w2 GB := ⟨hB9⟩
  replace K0 := K0.later hb
  replace X0 := X0.later (keepsLG d0) hb
  replace X1 := X1.later (keepsLJ d1) hb
  replace M := M.later (keepsJ rr) hb
  generalize w1.heap.size = SB at sB qB
  clear hb hB9
  obtain ⟨w1, rfl⟩ : ∃ x, x = w2 := ⟨_, rfl⟩
  -- the program
  go_upto_region 15 with fail
  go_cut [23, 24] (fun pv sv wr => ∃ (V : Nat) (C : Array Value) (S E : Nat), pv = .pointer (some ⟨V, 0, none⟩) ∧ sv = .bool z ∧ VarOf (LieJ rr) 29 wr (Iv S E) V C ∧ GB < S ∧ GB < V ∧ PreNo w wr C0 C1 t1 t2 A7 n7 ps d0 d1 ∧ VarOf (AtJ rr) 29 wr FM VM CM ∧ VarOf (LieG d0) 26 wr (Iv S0 V0) V0 D0 ∧ VarOf (LieJ d1) 29 wr (Iv S1 V1) V1 D1 ∧ SealOf ps wr GB)
  case first =>
    refine wp_region_sink 16 (fun w' => Box w' V0 26 D0 ∧ Box w' V1 29 D1 ∧ Box w' (w.heap.size + 1 + 1) 57 #[.int .i64 t1, .int .i64 t2]) (by kernel_rfl) ⟨X0.box, X1.box, K0.st⟩ (fun hH => ?_)
    have hb := (Below.refl w1.heap.size w1).drew
    replace K0 := K0.later hb
    replace M := M.later (keepsJ rr) hb
    replace X0 := X0.later (keepsLG d0) hb
    replace X1 := X1.later (keepsLJ d1) hb
    replace XB := XB.later () hb
    clear hb
    generalize w1.drew = w3 at K0 M X0 X1 XB hH ⊢
    refine wpAnyE_takeS (i := 0) (v := .agg D0) (by simp only [List.getElem?_toArray, List.getElem?_cons_zero]; rfl) (by kernel_rfl) (by kernel_rfl) (by kernel_rfl) (by exact fun _ _ _ h => h) (by kernel_rfl) ?ypt0 hH ?_
    case ypt0 => exact yields_box 26 _ rfl (V0) rfl 26 D0 (fun _ h => h.1) _ Tryz.underlying26 rfl J0.out (by first | rfl | simp [Region.wanted, yielded] | (simp [Region.wanted, yielded, Act.put] <;> omega))
    try simp only [Act.put, List.setIfInBounds_toArray, List.set_cons_zero, List.set_cons_succ]
    refine wpAnyE_takeS (i := 1) (v := .agg D1) (by simp only [List.getElem?_toArray, List.getElem?_cons_succ, List.getElem?_cons_zero]; rfl) (by kernel_rfl) (by kernel_rfl) (by kernel_rfl) (by exact fun _ _ _ h => h) (by kernel_rfl) ?ypt1 hH ?_
    case ypt1 => exact yields_box 29 _ rfl (V1) rfl 29 D1 (fun _ h => h.2.1) _ Tryz.underlying29 rfl J1.out (by first | rfl | simp [Region.wanted, yielded] | (simp [Region.wanted, yielded, Act.put] <;> omega))
    try simp only [Act.put, List.setIfInBounds_toArray, List.set_cons_zero, List.set_cons_succ]
    refine wpAnyE_takeS (i := 5) (v := .agg #[.int .i64 t1, .int .i64 t2]) (by simp only [List.getElem?_toArray, List.getElem?_cons_succ, List.getElem?_cons_zero]; rfl) (by kernel_rfl) (by kernel_rfl) (by kernel_rfl) (by exact fun _ _ _ h => h) (by kernel_rfl) ?ypt2 hH ?_
    case ypt2 => exact yields_box 57 _ rfl (w.heap.size + 1 + 1) rfl 57 #[.int .i64 t1, .int .i64 t2] (fun _ h => h.2.2) _ Tryz.underlying57 rfl (by kernel_rfl) (by first | rfl | simp [Region.wanted, yielded] | (simp [Region.wanted, yielded, Act.put] <;> omega))
    try simp only [Act.put, List.setIfInBounds_toArray, List.set_cons_zero, List.set_cons_succ]
    refine wpAnyE_pure (i := 2) (v := ?vpm2) (by simp only [List.getElem?_toArray, List.getElem?_cons_succ, List.getElem?_cons_zero]; rfl) (by kernel_rfl) (by kernel_rfl) (by kernel_rfl) (by exact fun _ _ _ h => h) (by kernel_rfl) (Or.inl ⟨by rfl, ?ypm2⟩) hH ?rpm2
    case ypm2 => (intro w' hSw; (try dsimp only at hSw); go_simp; try with_reducible rfl)
    try simp only [Act.put, List.setIfInBounds_toArray, List.set_cons_zero, List.set_cons_succ]
    refine wpAnyE_pure (i := 3) (v := ?vpm3) (by simp only [List.getElem?_toArray, List.getElem?_cons_succ, List.getElem?_cons_zero]; rfl) (by kernel_rfl) (by kernel_rfl) (by kernel_rfl) (by exact fun _ _ _ h => h) (by kernel_rfl) (Or.inl ⟨by rfl, ?ypm3⟩) hH ?rpm3
    case ypm3 => (intro w' hSw; (try dsimp only at hSw); go_simp; try with_reducible rfl)
    try simp only [Act.put, List.setIfInBounds_toArray, List.set_cons_zero, List.set_cons_succ]
    refine wpAnyE_pure (i := 4) (v := ?vpm4) (by simp only [List.getElem?_toArray, List.getElem?_cons_succ, List.getElem?_cons_zero]; rfl) (by kernel_rfl) (by kernel_rfl) (by kernel_rfl) (by exact fun _ _ _ h => h) (by kernel_rfl) (Or.inl ⟨by rfl, ?ypm4⟩) hH ?rpm4
    case ypm4 => (intro w' hSw; (try dsimp only at hSw); go_simp; try with_reducible rfl)
    try simp only [Act.put, List.setIfInBounds_toArray, List.set_cons_zero, List.set_cons_succ]
    refine wpAnyE_pure (i := 7) (v := ?vpm7) (by simp only [List.getElem?_toArray, List.getElem?_cons_succ, List.getElem?_cons_zero]; rfl) (by kernel_rfl) (by kernel_rfl) (by kernel_rfl) (by exact fun _ _ _ h => h) (by kernel_rfl) (Or.inl ⟨by rfl, ?ypm7⟩) hH ?rpm7
    case ypm7 => (intro w' hSw; (try dsimp only at hSw); go_simp; try with_reducible rfl)
    try simp only [Act.put, List.setIfInBounds_toArray, List.set_cons_zero, List.set_cons_succ]
    refine wpAnyE_pure (i := 8) (v := ?vpm8) (by simp only [List.getElem?_toArray, List.getElem?_cons_succ, List.getElem?_cons_zero]; rfl) (by kernel_rfl) (by kernel_rfl) (by kernel_rfl) (by exact fun _ _ _ h => h) (by kernel_rfl) (Or.inl ⟨by rfl, ?ypm8⟩) hH ?rpm8
    case ypm8 => (intro w' hSw; (try dsimp only at hSw); go_simp; try with_reducible rfl)
    try simp only [Act.put, List.setIfInBounds_toArray, List.set_cons_zero, List.set_cons_succ]
    refine wpAnyE_two (i := 6) (j := 13) (by kernel_rfl) (by simp only [List.getElem?_toArray, List.getElem?_cons_succ, List.getElem?_cons_zero]; rfl) (by simp only [List.getElem?_toArray, List.getElem?_cons_succ, List.getElem?_cons_zero]; rfl) (fun K hK => ?_) (fun K hK => ?_)
    · skip
      go_simp
      refine (toStamp_any t1 t2 w3).mono ?_
      rintro e w4 ⟨rfl, hb⟩
      replace K0 := K0.later hb
      replace M := M.later (keepsJ rr) hb
      replace X0 := X0.later (keepsLG d0) hb
      replace X1 := X1.later (keepsLJ d1) hb
      replace XB := XB.later () hb
      clear hb
      obtain ⟨w3, rfl⟩ : ∃ x, x = w4 := ⟨_, rfl⟩
      clear hH
      refine hK.out _ _ ⟨X0.box, X1.box, K0.st⟩ (fun hH => ?_)
      clear hK K
      try simp only [Act.put, List.setIfInBounds_toArray, List.set_cons_zero, List.set_cons_succ]
      refine wpAnyE_two (i := 9) (j := 13) (by kernel_rfl) (by simp only [List.getElem?_toArray, List.getElem?_cons_succ, List.getElem?_cons_zero]; rfl) (by simp only [List.getElem?_toArray, List.getElem?_cons_succ, List.getElem?_cons_zero]; rfl) (fun K hK => ?_) (fun K hK => ?_)
      · skip
        go_simp
        have hSl := XB.dat.lt
        refine (noted8_is kd sh cl t1 t2 v X0.dat X1.dat XB HPL.out hsum HZ.out).mono ?_
        rintro e w4 ⟨C, rfl, LR, hb⟩
        replace K0 := K0.later hb
        replace M := M.later (keepsJ rr) hb
        replace X0 := X0.later (keepsLG d0) hb
        replace X1 := X1.later (keepsLJ d1) hb
        replace XB := XB.later () hb
        generalize w3.heap.size = S at LR hSl
        obtain ⟨E, hE⟩ : ∃ E, w4.heap.size = E := ⟨_, rfl⟩
        rw [hE] at LR
        have hEl : E ≤ w4.heap.size := Nat.le_of_eq hE.symm
        clear hE
        clear hb 
        obtain ⟨w3, rfl⟩ : ∃ x, x = w4 := ⟨_, rfl⟩
        clear hH
        refine hK.out _ _ ⟨X0.box, X1.box, K0.st⟩ (fun hH => ?_)
        clear hK K
        try simp only [Act.put, List.setIfInBounds_toArray, List.set_cons_zero, List.set_cons_succ]
        refine wpAnyE_pure (i := 10) (v := ?vpl0p10) (by simp only [List.getElem?_toArray, List.getElem?_cons_succ, List.getElem?_cons_zero]; rfl) (by kernel_rfl) (by kernel_rfl) (by kernel_rfl) (by exact fun _ _ _ h => h) (by kernel_rfl) (Or.inl ⟨by rfl, ?ypl0p10⟩) hH ?rpl0p10
        case ypl0p10 => (intro w' hSw; (try dsimp only at hSw); go_simp; try with_reducible rfl)
        try simp only [Act.put, List.setIfInBounds_toArray, List.set_cons_zero, List.set_cons_succ]
        refine wpAnyE_pure (i := 11) (v := ?vpl0p11) (by simp only [List.getElem?_toArray, List.getElem?_cons_succ, List.getElem?_cons_zero]; rfl) (by kernel_rfl) (by kernel_rfl) (by kernel_rfl) (by exact fun _ _ _ h => h) (by kernel_rfl) (Or.inl ⟨by rfl, ?ypl0p11⟩) hH ?rpl0p11
        case ypl0p11 => (intro w' hSw; (try dsimp only at hSw); go_simp; try with_reducible rfl)
        try simp only [Act.put, List.setIfInBounds_toArray, List.set_cons_zero, List.set_cons_succ]
        refine wpAnyE_pure (i := 12) (v := ?vpl0p12) (by simp only [List.getElem?_toArray, List.getElem?_cons_succ, List.getElem?_cons_zero]; rfl) (by kernel_rfl) (by kernel_rfl) (by kernel_rfl) (by exact fun _ _ _ h => h) (by kernel_rfl) (Or.inl ⟨by rfl, ?ypl0p12⟩) hH ?rpl0p12
        case ypl0p12 => (intro w' hSw; (try dsimp only at hSw); go_simp; try with_reducible rfl)
        try simp only [Act.put, List.setIfInBounds_toArray, List.set_cons_zero, List.set_cons_succ]
        refine wpAnyE_one (i := 13) (by kernel_rfl) (by simp only [List.getElem?_toArray, List.getElem?_cons_succ, List.getElem?_cons_zero]; rfl) (fun K hK => ?_)
        go_simp
        have hV := XB.dat.lt
        have hn := bel_alloc w3 (.cells #[.slice none 0 0, .slice none 0 0] 29)
        replace K0 := K0.later hn
        replace M := M.later (keepsJ rr) hn
        replace X0 := X0.later (keepsLG d0) hn
        replace X1 := X1.later (keepsLJ d1) hn
        replace XB := XB.later () hn
        have ZB := Box.new w3 29 #[.slice none 0 0, .slice none 0 0]
        have hF : ¬ Iv S E w3.heap.size := iv_not (.inr hEl)
        replace LR := (keepsLJ rr).later LR hn
        replace hEl := Nat.le_trans hEl hn.size
        clear hn
        generalize (w3.alloc _ : World) = w4 at K0 M X0 X1 XB ZB LR hEl ⊢
        generalize w3.heap.size = V at hV ZB hF ⊢
        obtain ⟨w3, rfl⟩ : ∃ x, x = w4 := ⟨_, rfl⟩
        clear hH
        refine hK.out _ _ ⟨X0.box, X1.box, K0.st⟩ (fun hH => ?_)
        clear hK K
        try simp only [Act.put, List.setIfInBounds_toArray, List.set_cons_zero, List.set_cons_succ]
        refine wpAnyE_one (i := 14) (by kernel_rfl) (by simp only [List.getElem?_toArray, List.getElem?_cons_succ, List.getElem?_cons_zero]; rfl) (fun K hK => ?_)
        rw [if_pos (by first | rfl | kernel_rfl | simp [Region.wanted, yielded])]
        have O := Lib.hid (oneJ LR.at)
        have JS := Lib.hid (sizeJ LR.at).2
        have ht := turns_setRow w3 V C
        have Mp := VarOf.put (keepsLJ rr) ZB LR hF
        replace K0 := K0.turn ht (fun b hb => by omega)
        replace M := M.turn (keepsJ rr) ht (by omega) (fun b hb e => by have h1 := hFM b hb; have e : b = V := e; omega)
        replace X0 := X0.turn (keepsLG d0) ht (by omega) (fun b hb e => by have h1 := hb.2; have e : b = V := e; omega)
        replace X1 := X1.turn (keepsLJ d1) ht (by omega) (fun b hb e => by have h1 := hb.2; have e : b = V := e; omega)
        replace XB := XB.turn () ht (by omega)
        clear hH
        refine wp_store_row 29 _ _ rfl V _ rfl rfl 29 #[.slice none 0 0, .slice none 0 0] ZB JS.out O.out.1.symm O.out.2 ?_
        refine hK.out _ _ ⟨X0.box, X1.box, K0.st⟩ (fun hH => ?_)
        clear hK K
        try simp only [Act.put]
        have hEs : E ≤ (w3.setRow V C).heap.size := by rw [size_setRow]; exact hEl
        clear ZB LR ht O JS
        generalize (w3.setRow _ _ : World) = w4 at K0 Mp hEs hH M X0 X1 XB ⊢
        refine wpAnyE_end (i := 15) (by kernel_rfl) (by simp only [List.getElem?_toArray, List.getElem?_cons_succ, List.getElem?_cons_zero]; rfl) (by kernel_rfl) (fun K hK => ?_)
        go_simp
        refine hK.out _ _ ⟨X0.box, X1.box, K0.st⟩ ?_
        clear hK K hH
        try simp only [Act.put, List.setIfInBounds_toArray, List.set_cons_zero, List.set_cons_succ]
        go_wp2_with fail
        go_meet
        exact ⟨V, C, S, E, rfl, rfl, Mp, hSl, hV, K0, M, X0, X1, XB⟩
      · skip
        go_simp
        have hV := XB.dat.lt
        have hn := bel_alloc w3 (.cells #[.slice none 0 0, .slice none 0 0] 29)
        replace K0 := K0.later hn
        replace M := M.later (keepsJ rr) hn
        replace X0 := X0.later (keepsLG d0) hn
        replace X1 := X1.later (keepsLJ d1) hn
        replace XB := XB.later () hn
        have ZB := Box.new w3 29 #[.slice none 0 0, .slice none 0 0]
        clear hn
        generalize (w3.alloc _ : World) = w4 at K0 M X0 X1 XB ZB ⊢
        generalize w3.heap.size = V at hV ZB ⊢
        obtain ⟨w3, rfl⟩ : ∃ x, x = w4 := ⟨_, rfl⟩
        clear hH
        refine hK.out _ _ ⟨X0.box, X1.box, K0.st⟩ (fun hH => ?_)
        clear hK K
        try simp only [Act.put, List.setIfInBounds_toArray, List.set_cons_zero, List.set_cons_succ]
        refine wpAnyE_one (i := 9) (by kernel_rfl) (by simp only [List.getElem?_toArray, List.getElem?_cons_succ, List.getElem?_cons_zero]; rfl) (fun K hK => ?_)
        go_simp
        have hVS := ZB.lt
        have hSl := XB.dat.lt
        refine (noted8_is kd sh cl t1 t2 v X0.dat X1.dat XB HPL.out hsum HZ.out).mono ?_
        rintro e w4 ⟨C, rfl, LR, hb⟩
        replace K0 := K0.later hb
        replace M := M.later (keepsJ rr) hb
        replace X0 := X0.later (keepsLG d0) hb
        replace X1 := X1.later (keepsLJ d1) hb
        replace XB := XB.later () hb
        replace ZB := ZB.later hb ZB.lt
        generalize w3.heap.size = S at LR hSl hVS
        obtain ⟨E, hE⟩ : ∃ E, w4.heap.size = E := ⟨_, rfl⟩
        rw [hE] at LR
        have hEl : E ≤ w4.heap.size := Nat.le_of_eq hE.symm
        clear hE
        have hF : ¬ Iv S E V := iv_not (.inl hVS)
        clear hVS
        clear hb 
        obtain ⟨w3, rfl⟩ : ∃ x, x = w4 := ⟨_, rfl⟩
        clear hH
        refine hK.out _ _ ⟨X0.box, X1.box, K0.st⟩ (fun hH => ?_)
        clear hK K
        try simp only [Act.put, List.setIfInBounds_toArray, List.set_cons_zero, List.set_cons_succ]
        refine wpAnyE_pure (i := 10) (v := ?vpl1p10) (by simp only [List.getElem?_toArray, List.getElem?_cons_succ, List.getElem?_cons_zero]; rfl) (by kernel_rfl) (by kernel_rfl) (by kernel_rfl) (by exact fun _ _ _ h => h) (by kernel_rfl) (Or.inl ⟨by rfl, ?ypl1p10⟩) hH ?rpl1p10
        case ypl1p10 => (intro w' hSw; (try dsimp only at hSw); go_simp; try with_reducible rfl)
        try simp only [Act.put, List.setIfInBounds_toArray, List.set_cons_zero, List.set_cons_succ]
        refine wpAnyE_pure (i := 11) (v := ?vpl1p11) (by simp only [List.getElem?_toArray, List.getElem?_cons_succ, List.getElem?_cons_zero]; rfl) (by kernel_rfl) (by kernel_rfl) (by kernel_rfl) (by exact fun _ _ _ h => h) (by kernel_rfl) (Or.inl ⟨by rfl, ?ypl1p11⟩) hH ?rpl1p11
        case ypl1p11 => (intro w' hSw; (try dsimp only at hSw); go_simp; try with_reducible rfl)
        try simp only [Act.put, List.setIfInBounds_toArray, List.set_cons_zero, List.set_cons_succ]
        refine wpAnyE_pure (i := 12) (v := ?vpl1p12) (by simp only [List.getElem?_toArray, List.getElem?_cons_succ, List.getElem?_cons_zero]; rfl) (by kernel_rfl) (by kernel_rfl) (by kernel_rfl) (by exact fun _ _ _ h => h) (by kernel_rfl) (Or.inl ⟨by rfl, ?ypl1p12⟩) hH ?rpl1p12
        case ypl1p12 => (intro w' hSw; (try dsimp only at hSw); go_simp; try with_reducible rfl)
        try simp only [Act.put, List.setIfInBounds_toArray, List.set_cons_zero, List.set_cons_succ]
        refine wpAnyE_one (i := 14) (by kernel_rfl) (by simp only [List.getElem?_toArray, List.getElem?_cons_succ, List.getElem?_cons_zero]; rfl) (fun K hK => ?_)
        rw [if_pos (by first | rfl | kernel_rfl | simp [Region.wanted, yielded])]
        have O := Lib.hid (oneJ LR.at)
        have JS := Lib.hid (sizeJ LR.at).2
        have ht := turns_setRow w3 V C
        have Mp := VarOf.put (keepsLJ rr) ZB LR hF
        replace K0 := K0.turn ht (fun b hb => by omega)
        replace M := M.turn (keepsJ rr) ht (by omega) (fun b hb e => by have h1 := hFM b hb; have e : b = V := e; omega)
        replace X0 := X0.turn (keepsLG d0) ht (by omega) (fun b hb e => by have h1 := hb.2; have e : b = V := e; omega)
        replace X1 := X1.turn (keepsLJ d1) ht (by omega) (fun b hb e => by have h1 := hb.2; have e : b = V := e; omega)
        replace XB := XB.turn () ht (by omega)
        clear hH
        refine wp_store_row 29 _ _ rfl V _ rfl rfl 29 #[.slice none 0 0, .slice none 0 0] ZB JS.out O.out.1.symm O.out.2 ?_
        refine hK.out _ _ ⟨X0.box, X1.box, K0.st⟩ (fun hH => ?_)
        clear hK K
        try simp only [Act.put]
        have hEs : E ≤ (w3.setRow V C).heap.size := by rw [size_setRow]; exact hEl
        clear ZB LR ht O JS
        generalize (w3.setRow _ _ : World) = w4 at K0 Mp hEs hH M X0 X1 XB ⊢
        refine wpAnyE_end (i := 15) (by kernel_rfl) (by simp only [List.getElem?_toArray, List.getElem?_cons_succ, List.getElem?_cons_zero]; rfl) (by kernel_rfl) (fun K hK => ?_)
        go_simp
        refine hK.out _ _ ⟨X0.box, X1.box, K0.st⟩ ?_
        clear hK K hH
        try simp only [Act.put, List.setIfInBounds_toArray, List.set_cons_zero, List.set_cons_succ]
        go_wp2_with fail
        go_meet
        exact ⟨V, C, S, E, rfl, rfl, Mp, hSl, hV, K0, M, X0, X1, XB⟩
    · skip
      go_simp
      have hV := XB.dat.lt
      have hn := bel_alloc w3 (.cells #[.slice none 0 0, .slice none 0 0] 29)
      replace K0 := K0.later hn
      replace M := M.later (keepsJ rr) hn
      replace X0 := X0.later (keepsLG d0) hn
      replace X1 := X1.later (keepsLJ d1) hn
      replace XB := XB.later () hn
      have ZB := Box.new w3 29 #[.slice none 0 0, .slice none 0 0]
      clear hn
      generalize (w3.alloc _ : World) = w4 at K0 M X0 X1 XB ZB ⊢
      generalize w3.heap.size = V at hV ZB ⊢
      obtain ⟨w3, rfl⟩ : ∃ x, x = w4 := ⟨_, rfl⟩
      clear hH
      refine hK.out _ _ ⟨X0.box, X1.box, K0.st⟩ (fun hH => ?_)
      clear hK K
      try simp only [Act.put, List.setIfInBounds_toArray, List.set_cons_zero, List.set_cons_succ]
      refine wpAnyE_one (i := 6) (by kernel_rfl) (by simp only [List.getElem?_toArray, List.getElem?_cons_succ, List.getElem?_cons_zero]; rfl) (fun K hK => ?_)
      go_simp
      refine (toStamp_any t1 t2 w3).mono ?_
      rintro e w4 ⟨rfl, hb⟩
      replace K0 := K0.later hb
      replace M := M.later (keepsJ rr) hb
      replace X0 := X0.later (keepsLG d0) hb
      replace X1 := X1.later (keepsLJ d1) hb
      replace XB := XB.later () hb
      replace ZB := ZB.later hb ZB.lt
      clear hb
      obtain ⟨w3, rfl⟩ : ∃ x, x = w4 := ⟨_, rfl⟩
      clear hH
      refine hK.out _ _ ⟨X0.box, X1.box, K0.st⟩ (fun hH => ?_)
      clear hK K
      try simp only [Act.put, List.setIfInBounds_toArray, List.set_cons_zero, List.set_cons_succ]
      refine wpAnyE_one (i := 9) (by kernel_rfl) (by simp only [List.getElem?_toArray, List.getElem?_cons_succ, List.getElem?_cons_zero]; rfl) (fun K hK => ?_)
      go_simp
      have hVS := ZB.lt
      have hSl := XB.dat.lt
      refine (noted8_is kd sh cl t1 t2 v X0.dat X1.dat XB HPL.out hsum HZ.out).mono ?_
      rintro e w4 ⟨C, rfl, LR, hb⟩
      replace K0 := K0.later hb
      replace M := M.later (keepsJ rr) hb
      replace X0 := X0.later (keepsLG d0) hb
      replace X1 := X1.later (keepsLJ d1) hb
      replace XB := XB.later () hb
      replace ZB := ZB.later hb ZB.lt
      generalize w3.heap.size = S at LR hSl hVS
      obtain ⟨E, hE⟩ : ∃ E, w4.heap.size = E := ⟨_, rfl⟩
      rw [hE] at LR
      have hEl : E ≤ w4.heap.size := Nat.le_of_eq hE.symm
      clear hE
      have hF : ¬ Iv S E V := iv_not (.inl hVS)
      clear hVS
      clear hb 
      obtain ⟨w3, rfl⟩ : ∃ x, x = w4 := ⟨_, rfl⟩
      clear hH
      refine hK.out _ _ ⟨X0.box, X1.box, K0.st⟩ (fun hH => ?_)
      clear hK K
      try simp only [Act.put, List.setIfInBounds_toArray, List.set_cons_zero, List.set_cons_succ]
      refine wpAnyE_pure (i := 10) (v := ?vpl2p10) (by simp only [List.getElem?_toArray, List.getElem?_cons_succ, List.getElem?_cons_zero]; rfl) (by kernel_rfl) (by kernel_rfl) (by kernel_rfl) (by exact fun _ _ _ h => h) (by kernel_rfl) (Or.inl ⟨by rfl, ?ypl2p10⟩) hH ?rpl2p10
      case ypl2p10 => (intro w' hSw; (try dsimp only at hSw); go_simp; try with_reducible rfl)
      try simp only [Act.put, List.setIfInBounds_toArray, List.set_cons_zero, List.set_cons_succ]
      refine wpAnyE_pure (i := 11) (v := ?vpl2p11) (by simp only [List.getElem?_toArray, List.getElem?_cons_succ, List.getElem?_cons_zero]; rfl) (by kernel_rfl) (by kernel_rfl) (by kernel_rfl) (by exact fun _ _ _ h => h) (by kernel_rfl) (Or.inl ⟨by rfl, ?ypl2p11⟩) hH ?rpl2p11
      case ypl2p11 => (intro w' hSw; (try dsimp only at hSw); go_simp; try with_reducible rfl)
      try simp only [Act.put, List.setIfInBounds_toArray, List.set_cons_zero, List.set_cons_succ]
      refine wpAnyE_pure (i := 12) (v := ?vpl2p12) (by simp only [List.getElem?_toArray, List.getElem?_cons_succ, List.getElem?_cons_zero]; rfl) (by kernel_rfl) (by kernel_rfl) (by kernel_rfl) (by exact fun _ _ _ h => h) (by kernel_rfl) (Or.inl ⟨by rfl, ?ypl2p12⟩) hH ?rpl2p12
      case ypl2p12 => (intro w' hSw; (try dsimp only at hSw); go_simp; try with_reducible rfl)
      try simp only [Act.put, List.setIfInBounds_toArray, List.set_cons_zero, List.set_cons_succ]
      refine wpAnyE_one (i := 14) (by kernel_rfl) (by simp only [List.getElem?_toArray, List.getElem?_cons_succ, List.getElem?_cons_zero]; rfl) (fun K hK => ?_)
      rw [if_pos (by first | rfl | kernel_rfl | simp [Region.wanted, yielded])]
      have O := Lib.hid (oneJ LR.at)
      have JS := Lib.hid (sizeJ LR.at).2
      have ht := turns_setRow w3 V C
      have Mp := VarOf.put (keepsLJ rr) ZB LR hF
      replace K0 := K0.turn ht (fun b hb => by omega)
      replace M := M.turn (keepsJ rr) ht (by omega) (fun b hb e => by have h1 := hFM b hb; have e : b = V := e; omega)
      replace X0 := X0.turn (keepsLG d0) ht (by omega) (fun b hb e => by have h1 := hb.2; have e : b = V := e; omega)
      replace X1 := X1.turn (keepsLJ d1) ht (by omega) (fun b hb e => by have h1 := hb.2; have e : b = V := e; omega)
      replace XB := XB.turn () ht (by omega)
      clear hH
      refine wp_store_row 29 _ _ rfl V _ rfl rfl 29 #[.slice none 0 0, .slice none 0 0] ZB JS.out O.out.1.symm O.out.2 ?_
      refine hK.out _ _ ⟨X0.box, X1.box, K0.st⟩ (fun hH => ?_)
      clear hK K
      try simp only [Act.put]
      have hEs : E ≤ (w3.setRow V C).heap.size := by rw [size_setRow]; exact hEl
      clear ZB LR ht O JS
      generalize (w3.setRow _ _ : World) = w4 at K0 Mp hEs hH M X0 X1 XB ⊢
      refine wpAnyE_end (i := 15) (by kernel_rfl) (by simp only [List.getElem?_toArray, List.getElem?_cons_succ, List.getElem?_cons_zero]; rfl) (by kernel_rfl) (fun K hK => ?_)
      go_simp
      refine hK.out _ _ ⟨X0.box, X1.box, K0.st⟩ ?_
      clear hK K hH
      try simp only [Act.put, List.setIfInBounds_toArray, List.set_cons_zero, List.set_cons_succ]
      go_wp2_with fail
      go_meet
      exact ⟨V, C, S, E, rfl, rfl, Mp, hSl, hV, K0, M, X0, X1, XB⟩
  case rest =>
  clear K0 M X0 X1 XB
  obtain ⟨VG, CG, SG, EG, rfl, rfl, G, hSG, hVG, K0, M, X0, X1, XB⟩ := hcut
  obtain ⟨w1, rfl⟩ : ∃ x, x = wc := ⟨_, rfl⟩
  have JG := Lib.hid (sizeJ G.dat.at).2
  -- both answers are alike
  go_wp2_with (first | (refine wpList_load_box 29 _ rfl (VG) rfl 29 CG G.box _ Tryz.underlying29 rfl JG.out (by first | rfl | simp [Region.wanted, yielded] | (simp [Region.wanted, yielded, Act.put] <;> omega)) ?_) | (refine wpList_load_box 29 _ rfl (VM) rfl 29 CM M.box _ Tryz.underlying29 rfl JM.out (by first | rfl | simp [Region.wanted, yielded] | (simp [Region.wanted, yielded, Act.put] <;> omega)) ?_))
  refine (eq_J G.dat.at M.dat hq).mono ?_
  rintro e w2 ⟨rfl, hb⟩
  replace K0 := K0.later hb
  replace X0 := X0.later (keepsLG d0) hb
  replace X1 := X1.later (keepsLJ d1) hb
  replace XB := XB.later () hb
  replace M := M.later (keepsJ rr) hb
  replace G := G.later (keepsLJ rr) hb
  clear hb
  obtain ⟨w1, rfl⟩ : ∃ x, x = w2 := ⟨_, rfl⟩
  -- an argument is as it was
  go_upto_region 18 with fail
  refine wp_region_sink 5 (fun w' => Box w' V0 26 D0 ∧ Box w' (w.heap.size) 47 C0) (by kernel_rfl) ⟨X0.box, K0.v0.box⟩ (fun hH => ?_)
  have hb := (Below.refl w1.heap.size w1).drew
  replace K0 := K0.later hb
  replace X0 := X0.later (keepsLG d0) hb
  replace X1 := X1.later (keepsLJ d1) hb
  replace XB := XB.later () hb
  replace M := M.later (keepsJ rr) hb
  replace G := G.later (keepsLJ rr) hb
  clear hb
  generalize w1.drew = w2 at K0 hH X0 X1 XB M G ⊢
  refine wpAnyE_takeS (i := 0) (v := .agg D0) (by simp only [List.getElem?_toArray, List.getElem?_cons_zero]; rfl) (by kernel_rfl) (by kernel_rfl) (by kernel_rfl) (by exact fun _ _ _ h => h) (by kernel_rfl) ?yx0 hH ?_
  case yx0 => exact yields_box 26 _ rfl (V0) rfl 26 D0 (fun _ h => h.1) _ Tryz.underlying26 rfl J0.out (by first | rfl | simp [Region.wanted, yielded] | (simp [Region.wanted, yielded, Act.put] <;> omega))
  try simp only [Act.put, List.setIfInBounds_toArray, List.set_cons_zero, List.set_cons_succ]
  refine wpAnyE_takeS (i := 1) (v := .agg C0) (by simp only [List.getElem?_toArray, List.getElem?_cons_succ, List.getElem?_cons_zero]; rfl) (by kernel_rfl) (by kernel_rfl) (by kernel_rfl) (by exact fun _ _ _ h => h) (by kernel_rfl) ?yo0 hH ?_
  case yo0 => exact yields_box 47 _ rfl (w.heap.size) rfl 47 C0 (fun _ h => h.2) _ Tryz.underlying47 rfl I0.out (by first | rfl | simp [Region.wanted, yielded] | (simp [Region.wanted, yielded, Act.put] <;> omega))
  try simp only [Act.put, List.setIfInBounds_toArray, List.set_cons_zero, List.set_cons_succ]
  refine wpAnyE_one (i := 2) (by kernel_rfl) (by simp only [List.getElem?_toArray, List.getElem?_cons_succ, List.getElem?_cons_zero]; rfl) (fun K hK => ?_)
  go_simp
  refine (to_G K0.v0.dat hz0).mono ?_
  rintro e w3 ⟨D, rfl, L, hb⟩
  replace K0 := K0.later hb
  replace X0 := X0.later (keepsLG d0) hb
  replace X1 := X1.later (keepsLJ d1) hb
  replace XB := XB.later () hb
  replace M := M.later (keepsJ rr) hb
  replace G := G.later (keepsLJ rr) hb
  clear hb
  clear hH
  refine hK.out _ _ ⟨X0.box, K0.v0.box⟩ (fun hH => ?_)
  clear hK K
  try simp only [Act.put, List.setIfInBounds_toArray, List.set_cons_zero, List.set_cons_succ]
  refine wpAnyE_one (i := 3) (by kernel_rfl) (by simp only [List.getElem?_toArray, List.getElem?_cons_succ, List.getElem?_cons_zero]; rfl) (fun K hK => ?_)
  go_simp
  refine (eq_G X0.dat.at L.at hz0).mono ?_
  rintro e w4 ⟨rfl, hb⟩
  replace K0 := K0.later hb
  replace X0 := X0.later (keepsLG d0) hb
  replace X1 := X1.later (keepsLJ d1) hb
  replace XB := XB.later () hb
  replace M := M.later (keepsJ rr) hb
  replace G := G.later (keepsLJ rr) hb
  clear hb L
  clear hH
  refine hK.out _ _ ⟨X0.box, K0.v0.box⟩ (fun hH => ?_)
  clear hK K
  try simp only [Act.put, List.setIfInBounds_toArray, List.set_cons_zero, List.set_cons_succ]
  refine wpAnyE_end (i := 4) (by kernel_rfl) (by simp only [List.getElem?_toArray, List.getElem?_cons_succ, List.getElem?_cons_zero]; rfl) (by kernel_rfl) (fun K hK => ?_)
  go_simp
  refine hK.out _ _ ⟨X0.box, K0.v0.box⟩ ?_
  clear hK K
  try simp only [Act.put, List.setIfInBounds_toArray, List.set_cons_zero, List.set_cons_succ]
  obtain ⟨w1, rfl⟩ : ∃ x, x = w4 := ⟨_, rfl⟩
  clear hH
  -- an argument is as it was
  go_upto_region 20 with fail
  refine wp_region_sink 5 (fun w' => Box w' V1 29 D1 ∧ Box w' (w.heap.size + 1) 50 C1) (by kernel_rfl) ⟨X1.box, K0.v1.box⟩ (fun hH => ?_)
  have hb := (Below.refl w1.heap.size w1).drew
  replace K0 := K0.later hb
  replace X0 := X0.later (keepsLG d0) hb
  replace X1 := X1.later (keepsLJ d1) hb
  replace XB := XB.later () hb
  replace M := M.later (keepsJ rr) hb
  replace G := G.later (keepsLJ rr) hb
  clear hb
  generalize w1.drew = w2 at K0 hH X0 X1 XB M G ⊢
  refine wpAnyE_takeS (i := 0) (v := .agg D1) (by simp only [List.getElem?_toArray, List.getElem?_cons_zero]; rfl) (by kernel_rfl) (by kernel_rfl) (by kernel_rfl) (by exact fun _ _ _ h => h) (by kernel_rfl) ?yx1 hH ?_
  case yx1 => exact yields_box 29 _ rfl (V1) rfl 29 D1 (fun _ h => h.1) _ Tryz.underlying29 rfl J1.out (by first | rfl | simp [Region.wanted, yielded] | (simp [Region.wanted, yielded, Act.put] <;> omega))
  try simp only [Act.put, List.setIfInBounds_toArray, List.set_cons_zero, List.set_cons_succ]
  refine wpAnyE_takeS (i := 1) (v := .agg C1) (by simp only [List.getElem?_toArray, List.getElem?_cons_succ, List.getElem?_cons_zero]; rfl) (by kernel_rfl) (by kernel_rfl) (by kernel_rfl) (by exact fun _ _ _ h => h) (by kernel_rfl) ?yo1 hH ?_
  case yo1 => exact yields_box 50 _ rfl (w.heap.size + 1) rfl 50 C1 (fun _ h => h.2) _ Tryz.underlying50 rfl I1.out (by first | rfl | simp [Region.wanted, yielded] | (simp [Region.wanted, yielded, Act.put] <;> omega))
  try simp only [Act.put, List.setIfInBounds_toArray, List.set_cons_zero, List.set_cons_succ]
  refine wpAnyE_one (i := 2) (by kernel_rfl) (by simp only [List.getElem?_toArray, List.getElem?_cons_succ, List.getElem?_cons_zero]; rfl) (fun K hK => ?_)
  go_simp
  refine (to_J K0.v1.dat hz1).mono ?_
  rintro e w3 ⟨D, rfl, L, hb⟩
  replace K0 := K0.later hb
  replace X0 := X0.later (keepsLG d0) hb
  replace X1 := X1.later (keepsLJ d1) hb
  replace XB := XB.later () hb
  replace M := M.later (keepsJ rr) hb
  replace G := G.later (keepsLJ rr) hb
  clear hb
  clear hH
  refine hK.out _ _ ⟨X1.box, K0.v1.box⟩ (fun hH => ?_)
  clear hK K
  try simp only [Act.put, List.setIfInBounds_toArray, List.set_cons_zero, List.set_cons_succ]
  refine wpAnyE_one (i := 3) (by kernel_rfl) (by simp only [List.getElem?_toArray, List.getElem?_cons_succ, List.getElem?_cons_zero]; rfl) (fun K hK => ?_)
  go_simp
  refine (eq_J X1.dat.at L.at hz1).mono ?_
  rintro e w4 ⟨rfl, hb⟩
  replace K0 := K0.later hb
  replace X0 := X0.later (keepsLG d0) hb
  replace X1 := X1.later (keepsLJ d1) hb
  replace XB := XB.later () hb
  replace M := M.later (keepsJ rr) hb
  replace G := G.later (keepsLJ rr) hb
  clear hb L
  clear hH
  refine hK.out _ _ ⟨X1.box, K0.v1.box⟩ (fun hH => ?_)
  clear hK K
  try simp only [Act.put, List.setIfInBounds_toArray, List.set_cons_zero, List.set_cons_succ]
  refine wpAnyE_end (i := 4) (by kernel_rfl) (by simp only [List.getElem?_toArray, List.getElem?_cons_succ, List.getElem?_cons_zero]; rfl) (by kernel_rfl) (fun K hK => ?_)
  go_simp
  refine hK.out _ _ ⟨X1.box, K0.v1.box⟩ ?_
  clear hK K
  try simp only [Act.put, List.setIfInBounds_toArray, List.set_cons_zero, List.set_cons_succ]
  obtain ⟨w1, rfl⟩ : ∃ x, x = w4 := ⟨_, rfl⟩
  clear hH
  go_wp2_with fail
  refine (toSeals_any A7 n7 c7 ps w1 hz7 K0.l2.1).mono ?_
  rintro e w2 ⟨GE, -, rfl, -, hE9, hb⟩
  replace K0 := K0.later hb
  replace X0 := X0.later (keepsLG d0) hb
  replace X1 := X1.later (keepsLJ d1) hb
  replace XB := XB.later () hb
  replace M := M.later (keepsJ rr) hb
  replace G := G.later (keepsLJ rr) hb
  clear hb
  have XE : SealOf ps w2 GE := ⟨hE9⟩
  clear hE9
  go_wp2_with fail
  refine (eqSeals_same _ _ n7 _ _ ps w2 hz7 (XB.pairs HPL.out) (XE.pairs HPL.out)).mono ?_
  rintro e w3 ⟨rfl, hb⟩
  replace K0 := K0.later hb
  replace X0 := X0.later (keepsLG d0) hb
  replace X1 := X1.later (keepsLJ d1) hb
  replace XB := XB.later () hb
  replace M := M.later (keepsJ rr) hb
  replace G := G.later (keepsLJ rr) hb
  clear hb XE
  obtain ⟨w1, rfl⟩ : ∃ x, x = w3 := ⟨_, rfl⟩
  -- the marks
  go_wp2_with (refine wpList_load_box 26 _ rfl (V0) rfl 26 D0 X0.box _ Tryz.underlying26 rfl J0.out (by first | rfl | simp [Region.wanted, yielded] | (simp [Region.wanted, yielded, Act.put] <;> omega)) ?_)
  refine (mark_G (k := 1) X0.dat hz0 (by omega) (by omega)).mono ?_
  rintro e w2 ⟨rfl, ht⟩
  replace K0 := K0.turn ht (fun b hb => by have := hb.1; omega)
  replace X1 := X1.turn (keepsLJ d1) ht (iv_not (.inr (by omega))) (iv_far (.inr (by omega)))
  replace XB := XB.turn () ht (iv_not (.inr (by omega)))
  replace M := M.turn (keepsJ rr) ht (iv_not (.inl (by omega))) (fun b hb hi => by have := hFM b hb; have := hi.1; omega)
  replace G := G.turn (keepsLJ rr) ht (iv_not (.inr (by omega))) (fun b hb hi => by have := hb.1; have := hi.2; omega)
  clear ht X0
  obtain ⟨w1, rfl⟩ : ∃ x, x = w2 := ⟨_, rfl⟩
  go_wp2_with (refine wpList_load_box 29 _ rfl (V1) rfl 29 D1 X1.box _ Tryz.underlying29 rfl J1.out (by first | rfl | simp [Region.wanted, yielded] | (simp [Region.wanted, yielded, Act.put] <;> omega)) ?_)
  refine (mark_J (k := 1 + d0.mk8) X1.dat hz1 (by omega) (by omega)).mono ?_
  rintro e w2 ⟨rfl, ht⟩
  replace K0 := K0.turn ht (fun b hb => by have := hb.1; omega)
  replace XB := XB.turn () ht (iv_not (.inr (by omega)))
  replace M := M.turn (keepsJ rr) ht (iv_not (.inl (by omega))) (fun b hb hi => by have := hFM b hb; have := hi.1; omega)
  replace G := G.turn (keepsLJ rr) ht (iv_not (.inr (by omega))) (fun b hb hi => by have := hb.1; have := hi.2; omega)
  clear ht X1
  obtain ⟨w1, rfl⟩ : ∃ x, x = w2 := ⟨_, rfl⟩
  have hRP : ResP w1 GB (GB + 1) (.slice (some ⟨GB, 0, none⟩) n7 n7) ps := .inr ⟨GB, n7, Nat.le_refl _, Nat.lt_succ_self _, by rw [HPL.out], by rw [HPL.out]; exact Nat.le_refl _, by unfold maxLen; omega, XB.dat⟩
  go_wp2_with fail
  refine (markP_is (1 + d0.mk8 + d1.mk8) hRP (by rw [HPL.out]; omega) (by omega) (by omega)).mono ?_
  rintro e w2 ⟨rfl, D2, -, -, -, hB⟩
  have ht := Turns.of_band hB
  rw [HPL.out]
  replace K0 := K0.turn ht (fun b hb => by have := hb.1; omega)
  replace M := M.turn (keepsJ rr) ht (iv_not (.inl (by omega))) (fun b hb hi => by have := hFM b hb; have := hi.1; omega)
  replace G := G.turn (keepsLJ rr) ht (iv_not (.inr (by omega))) (fun b hb hi => by have := hb.1; have := hi.2; omega)
  clear ht hB XB hRP
  obtain ⟨w1, rfl⟩ : ∃ x, x = w2 := ⟨_, rfl⟩
  have hk : ¬ (1 + d0.mk8 + d1.mk8 + 2 * (n7 : Int) < 0) := by omega
  go_wp2_with (first | (refine wpList_load_box 29 _ rfl (VG) rfl 29 CG G.box _ Tryz.underlying29 rfl JG.out (by first | rfl | simp [Region.wanted, yielded] | (simp [Region.wanted, yielded, Act.put] <;> omega)) ?_) | (refine wpList_load_box 29 _ rfl (VM) rfl 29 CM M.box _ Tryz.underlying29 rfl JM.out (by first | rfl | simp [Region.wanted, yielded] | (simp [Region.wanted, yielded, Act.put] <;> omega)) ?_))
  refine (eq_J G.dat.at M.dat hq).mono ?_
  rintro e w2 ⟨rfl, hb⟩
  replace K0 := K0.later hb
  replace M := M.later (keepsJ rr) hb
  replace G := G.later (keepsLJ rr) hb
  clear hb
  obtain ⟨w1, rfl⟩ : ∃ x, x = w2 := ⟨_, rfl⟩
  go_wp2_with (refine wpList_load_box 29 _ rfl (VG) rfl 29 CG G.box _ Tryz.underlying29 rfl JG.out (by first | rfl | simp [Region.wanted, yielded] | (simp [Region.wanted, yielded, Act.put] <;> omega)) ?_)
  refine (markd_J (k := 1) G.dat FIT.out (by omega) (by omega)).mono ?_
  rintro e w2 ⟨rfl, ht, r', hm, LG⟩
  replace K0 := K0.turn ht (fun b hb => by have := hb.1; omega)
  replace M := M.turn (keepsJ rr) ht (iv_not (.inl (by omega))) (fun b hb hi => by have := hFM b hb; have := hi.1; omega)
  have G2 : VarOf (LieJ r') 29 w2 (Iv SG EG) VG CG := ⟨G.box.turn ht G.far, G.far, LG⟩
  clear ht LG G hk
  have HM := Lib.hid hm
  clear hm
  obtain ⟨w1, rfl⟩ : ∃ x, x = w2 := ⟨_, rfl⟩
  have mr := mkb_J FIT.out
  have hk : ¬ (1 + rr.mk8 < 0) := by omega
  have hqq : (1 + rr.mk8 != 1 + rr.mk8) = false := by simp
  go_wp2_with (refine wpList_load_box 29 _ rfl (VG) rfl 29 CG G2.box _ Tryz.underlying29 rfl JG.out (by first | rfl | simp [Region.wanted, yielded] | (simp [Region.wanted, yielded, Act.put] <;> omega)) ?_)
  refine (held_J (k := 1) G2.dat HM.out FIT.out (by omega) (by omega)).mono ?_
  rintro e w2 ⟨rfl, hb⟩
  replace K0 := K0.later hb
  replace M := M.later (keepsJ rr) hb
  replace G2 := G2.later (keepsLJ r') hb
  clear hb
  obtain ⟨w1, rfl⟩ : ∃ x, x = w2 := ⟨_, rfl⟩
  go_upto_region 38 with fail
  -- again
  have HH : Big w1.heap.size w1 := ⟨Nat.le_refl _⟩
  have hVM1 := M.box.lt
  have hVG1 := G2.box.lt
  have G3 : VarOf (LieJ r') 29 w1 (fun b => Iv SG EG b ∧ b < w1.heap.size) VG CG := ⟨G2.box, fun h => G2.far h.1, LieJ.low G2.dat⟩
  clear G2
  generalize w1.heap.size = H1 at HH hVM1 hVG1 G3
  go_cut [28, 29] (fun pv sv wr => ∃ (V : Nat) (C : Array Value) (F : Nat → Prop), pv = .pointer (some ⟨V, 0, none⟩) ∧ sv = .bool z ∧ VarOf (AtJ rr) 29 wr F V C ∧ PreNo w wr C0 C1 t1 t2 A7 n7 ps d0 d1 ∧ VarOf (AtJ rr) 29 wr FM VM CM ∧ VarOf (LieJ r') 29 wr (fun b => Iv SG EG b ∧ b < H1) VG CG)
  case first =>
    refine wp_region_sink 19 (fun w' => Box w' (w.heap.size) 47 C0 ∧ Box w' (w.heap.size + 1) 50 C1 ∧ Box w' (w.heap.size + 1 + 1) 57 #[.int .i64 t1, .int .i64 t2]) (by kernel_rfl) ⟨K0.v0.box, K0.v1.box, K0.st⟩ (fun hH => ?_)
    have hb := (Below.refl w1.heap.size w1).drew
    replace K0 := K0.later hb
    replace M := M.later (keepsJ rr) hb
    replace G3 := G3.later (keepsLJ r') hb
    replace HH := HH.later () hb
    clear hb
    generalize w1.drew = w3 at K0 M G3 HH hH ⊢
    refine wpAnyE_takeS (i := 0) (v := .agg C0) (by simp only [List.getElem?_toArray, List.getElem?_cons_zero]; rfl) (by kernel_rfl) (by kernel_rfl) (by kernel_rfl) (by exact fun _ _ _ h => h) (by kernel_rfl) ?ybt0 hH ?_
    case ybt0 => exact yields_box 47 _ rfl (w.heap.size) rfl 47 C0 (fun _ h => h.1) _ Tryz.underlying47 rfl I0.out (by first | rfl | simp [Region.wanted, yielded] | (simp [Region.wanted, yielded, Act.put] <;> omega))
    try simp only [Act.put, List.setIfInBounds_toArray, List.set_cons_zero, List.set_cons_succ]
    refine wpAnyE_takeS (i := 2) (v := .agg C1) (by simp only [List.getElem?_toArray, List.getElem?_cons_succ, List.getElem?_cons_zero]; rfl) (by kernel_rfl) (by kernel_rfl) (by kernel_rfl) (by exact fun _ _ _ h => h) (by kernel_rfl) ?ybt1 hH ?_
    case ybt1 => exact yields_box 50 _ rfl (w.heap.size + 1) rfl 50 C1 (fun _ h => h.2.1) _ Tryz.underlying50 rfl I1.out (by first | rfl | simp [Region.wanted, yielded] | (simp [Region.wanted, yielded, Act.put] <;> omega))
    try simp only [Act.put, List.setIfInBounds_toArray, List.set_cons_zero, List.set_cons_succ]
    refine wpAnyE_takeS (i := 7) (v := .agg #[.int .i64 t1, .int .i64 t2]) (by simp only [List.getElem?_toArray, List.getElem?_cons_succ, List.getElem?_cons_zero]; rfl) (by kernel_rfl) (by kernel_rfl) (by kernel_rfl) (by exact fun _ _ _ h => h) (by kernel_rfl) ?ybt2 hH ?_
    case ybt2 => exact yields_box 57 _ rfl (w.heap.size + 1 + 1) rfl 57 #[.int .i64 t1, .int .i64 t2] (fun _ h => h.2.2) _ Tryz.underlying57 rfl (by kernel_rfl) (by first | rfl | simp [Region.wanted, yielded] | (simp [Region.wanted, yielded, Act.put] <;> omega))
    try simp only [Act.put, List.setIfInBounds_toArray, List.set_cons_zero, List.set_cons_succ]
    refine wpAnyE_pure (i := 4) (v := ?vbm4) (by simp only [List.getElem?_toArray, List.getElem?_cons_succ, List.getElem?_cons_zero]; rfl) (by kernel_rfl) (by kernel_rfl) (by kernel_rfl) (by exact fun _ _ _ h => h) (by kernel_rfl) (Or.inl ⟨by rfl, ?ybm4⟩) hH ?rbm4
    case ybm4 => (intro w' hSw; (try dsimp only at hSw); go_simp; try with_reducible rfl)
    try simp only [Act.put, List.setIfInBounds_toArray, List.set_cons_zero, List.set_cons_succ]
    refine wpAnyE_pure (i := 5) (v := ?vbm5) (by simp only [List.getElem?_toArray, List.getElem?_cons_succ, List.getElem?_cons_zero]; rfl) (by kernel_rfl) (by kernel_rfl) (by kernel_rfl) (by exact fun _ _ _ h => h) (by kernel_rfl) (Or.inl ⟨by rfl, ?ybm5⟩) hH ?rbm5
    case ybm5 => (intro w' hSw; (try dsimp only at hSw); go_simp; try with_reducible rfl)
    try simp only [Act.put, List.setIfInBounds_toArray, List.set_cons_zero, List.set_cons_succ]
    refine wpAnyE_pure (i := 6) (v := ?vbm6) (by simp only [List.getElem?_toArray, List.getElem?_cons_succ, List.getElem?_cons_zero]; rfl) (by kernel_rfl) (by kernel_rfl) (by kernel_rfl) (by exact fun _ _ _ h => h) (by kernel_rfl) (Or.inl ⟨by rfl, ?ybm6⟩) hH ?rbm6
    case ybm6 => (intro w' hSw; (try dsimp only at hSw); go_simp; try with_reducible rfl)
    try simp only [Act.put, List.setIfInBounds_toArray, List.set_cons_zero, List.set_cons_succ]
    refine wpAnyE_pure (i := 9) (v := ?vbm9) (by simp only [List.getElem?_toArray, List.getElem?_cons_succ, List.getElem?_cons_zero]; rfl) (by kernel_rfl) (by kernel_rfl) (by kernel_rfl) (by exact fun _ _ _ h => h) (by kernel_rfl) (Or.inl ⟨by rfl, ?ybm9⟩) hH ?rbm9
    case ybm9 => (intro w' hSw; (try dsimp only at hSw); go_simp; try with_reducible rfl)
    try simp only [Act.put, List.setIfInBounds_toArray, List.set_cons_zero, List.set_cons_succ]
    refine wpAnyE_pure (i := 10) (v := ?vbm10) (by simp only [List.getElem?_toArray, List.getElem?_cons_succ, List.getElem?_cons_zero]; rfl) (by kernel_rfl) (by kernel_rfl) (by kernel_rfl) (by exact fun _ _ _ h => h) (by kernel_rfl) (Or.inl ⟨by rfl, ?ybm10⟩) hH ?rbm10
    case ybm10 => (intro w' hSw; (try dsimp only at hSw); go_simp; try with_reducible rfl)
    try simp only [Act.put, List.setIfInBounds_toArray, List.set_cons_zero, List.set_cons_succ]
    refine wpAnyE_two (i := 1) (j := 16) (by kernel_rfl) (by simp only [List.getElem?_toArray, List.getElem?_cons_succ, List.getElem?_cons_zero]; rfl) (by simp only [List.getElem?_toArray, List.getElem?_cons_succ, List.getElem?_cons_zero]; rfl) (fun K hK => ?_) (fun K hK => ?_)
    · skip
      go_simp
      refine (to_G K0.v0.dat hz0).mono ?_
      rintro e w4 ⟨D0, rfl, L0, hb⟩
      replace K0 := K0.later hb
      replace M := M.later (keepsJ rr) hb
      replace G3 := G3.later (keepsLJ r') hb
      replace HH := HH.later () hb
      clear hb
      obtain ⟨w3, rfl⟩ : ∃ x, x = w4 := ⟨_, rfl⟩
      clear hH
      refine hK.out _ _ ⟨K0.v0.box, K0.v1.box, K0.st⟩ (fun hH => ?_)
      clear hK K
      try simp only [Act.put, List.setIfInBounds_toArray, List.set_cons_zero, List.set_cons_succ]
      refine wpAnyE_two (i := 3) (j := 16) (by kernel_rfl) (by simp only [List.getElem?_toArray, List.getElem?_cons_succ, List.getElem?_cons_zero]; rfl) (by simp only [List.getElem?_toArray, List.getElem?_cons_succ, List.getElem?_cons_zero]; rfl) (fun K hK => ?_) (fun K hK => ?_)
      · skip
        go_simp
        refine (to_J K0.v1.dat hz1).mono ?_
        rintro e w4 ⟨D1, rfl, L1, hb⟩
        replace K0 := K0.later hb
        replace M := M.later (keepsJ rr) hb
        replace G3 := G3.later (keepsLJ r') hb
        replace HH := HH.later () hb
        replace L0 := (keepsLG d0).later L0 hb
        clear hb
        obtain ⟨w3, rfl⟩ : ∃ x, x = w4 := ⟨_, rfl⟩
        clear hH
        refine hK.out _ _ ⟨K0.v0.box, K0.v1.box, K0.st⟩ (fun hH => ?_)
        clear hK K
        try simp only [Act.put, List.setIfInBounds_toArray, List.set_cons_zero, List.set_cons_succ]
        refine wpAnyE_two (i := 8) (j := 16) (by kernel_rfl) (by simp only [List.getElem?_toArray, List.getElem?_cons_succ, List.getElem?_cons_zero]; rfl) (by simp only [List.getElem?_toArray, List.getElem?_cons_succ, List.getElem?_cons_zero]; rfl) (fun K hK => ?_) (fun K hK => ?_)
        · skip
          go_simp
          refine (toStamp_any t1 t2 w3).mono ?_
          rintro e w4 ⟨rfl, hb⟩
          replace K0 := K0.later hb
          replace M := M.later (keepsJ rr) hb
          replace G3 := G3.later (keepsLJ r') hb
          replace HH := HH.later () hb
          replace L0 := (keepsLG d0).later L0 hb
          replace L1 := (keepsLJ d1).later L1 hb
          clear hb
          obtain ⟨w3, rfl⟩ : ∃ x, x = w4 := ⟨_, rfl⟩
          clear hH
          refine hK.out _ _ ⟨K0.v0.box, K0.v1.box, K0.st⟩ (fun hH => ?_)
          clear hK K
          try simp only [Act.put, List.setIfInBounds_toArray, List.set_cons_zero, List.set_cons_succ]
          refine wpAnyE_two (i := 11) (j := 16) (by kernel_rfl) (by simp only [List.getElem?_toArray, List.getElem?_cons_succ, List.getElem?_cons_zero]; rfl) (by simp only [List.getElem?_toArray, List.getElem?_cons_succ, List.getElem?_cons_zero]; rfl) (fun K hK => ?_) (fun K hK => ?_)
          · skip
            go_simp
            refine (toSeals_any A7 n7 c7 ps w3 hz7 K0.l2.1).mono ?_
            rintro e w4 ⟨gs, -, rfl, -, LH, hb⟩
            replace K0 := K0.later hb
            replace M := M.later (keepsJ rr) hb
            replace G3 := G3.later (keepsLJ r') hb
            replace HH := HH.later () hb
            replace L0 := (keepsLG d0).later L0 hb
            replace L1 := (keepsLJ d1).later L1 hb
            clear hb
            obtain ⟨w3, rfl⟩ : ∃ x, x = w4 := ⟨_, rfl⟩
            clear hH
            refine hK.out _ _ ⟨K0.v0.box, K0.v1.box, K0.st⟩ (fun hH => ?_)
            clear hK K
            try simp only [Act.put, List.setIfInBounds_toArray, List.set_cons_zero, List.set_cons_succ]
            refine wpAnyE_two (i := 12) (j := 16) (by kernel_rfl) (by simp only [List.getElem?_toArray, List.getElem?_cons_succ, List.getElem?_cons_zero]; rfl) (by simp only [List.getElem?_toArray, List.getElem?_cons_succ, List.getElem?_cons_zero]; rfl) (fun K hK => ?_) (fun K hK => ?_)
            · skip
              go_simp
              refine (noted8_is kd sh cl t1 t2 v L0 L1 ⟨LH⟩ HPL.out hsum HZ.out).mono ?_
              rintro e w4 ⟨C, rfl, LR, hb⟩
              replace K0 := K0.later hb
              replace M := M.later (keepsJ rr) hb
              replace G3 := G3.later (keepsLJ r') hb
              replace HH := HH.later () hb
              generalize w3.heap.size = S at LR
              obtain ⟨E, hE⟩ : ∃ E, w4.heap.size = E := ⟨_, rfl⟩
              rw [hE] at LR
              have hEl : E ≤ w4.heap.size := Nat.le_of_eq hE.symm
              clear hE
              clear hb L0 L1 LH
              obtain ⟨w3, rfl⟩ : ∃ x, x = w4 := ⟨_, rfl⟩
              clear hH
              refine hK.out _ _ ⟨K0.v0.box, K0.v1.box, K0.st⟩ (fun hH => ?_)
              clear hK K
              try simp only [Act.put, List.setIfInBounds_toArray, List.set_cons_zero, List.set_cons_succ]
              refine wpAnyE_pure (i := 13) (v := ?vbl0p13) (by simp only [List.getElem?_toArray, List.getElem?_cons_succ, List.getElem?_cons_zero]; rfl) (by kernel_rfl) (by kernel_rfl) (by kernel_rfl) (by exact fun _ _ _ h => h) (by kernel_rfl) (Or.inl ⟨by rfl, ?ybl0p13⟩) hH ?rbl0p13
              case ybl0p13 => (intro w' hSw; (try dsimp only at hSw); go_simp; try with_reducible rfl)
              try simp only [Act.put, List.setIfInBounds_toArray, List.set_cons_zero, List.set_cons_succ]
              refine wpAnyE_pure (i := 14) (v := ?vbl0p14) (by simp only [List.getElem?_toArray, List.getElem?_cons_succ, List.getElem?_cons_zero]; rfl) (by kernel_rfl) (by kernel_rfl) (by kernel_rfl) (by exact fun _ _ _ h => h) (by kernel_rfl) (Or.inl ⟨by rfl, ?ybl0p14⟩) hH ?rbl0p14
              case ybl0p14 => (intro w' hSw; (try dsimp only at hSw); go_simp; try with_reducible rfl)
              try simp only [Act.put, List.setIfInBounds_toArray, List.set_cons_zero, List.set_cons_succ]
              refine wpAnyE_pure (i := 15) (v := ?vbl0p15) (by simp only [List.getElem?_toArray, List.getElem?_cons_succ, List.getElem?_cons_zero]; rfl) (by kernel_rfl) (by kernel_rfl) (by kernel_rfl) (by exact fun _ _ _ h => h) (by kernel_rfl) (Or.inl ⟨by rfl, ?ybl0p15⟩) hH ?rbl0p15
              case ybl0p15 => (intro w' hSw; (try dsimp only at hSw); go_simp; try with_reducible rfl)
              try simp only [Act.put, List.setIfInBounds_toArray, List.set_cons_zero, List.set_cons_succ]
              refine wpAnyE_one (i := 16) (by kernel_rfl) (by simp only [List.getElem?_toArray, List.getElem?_cons_succ, List.getElem?_cons_zero]; rfl) (fun K hK => ?_)
              go_simp
              have hV := HH.le
              have hn := bel_alloc w3 (.cells #[.slice none 0 0, .slice none 0 0] 29)
              replace K0 := K0.later hn
              replace M := M.later (keepsJ rr) hn
              replace G3 := G3.later (keepsLJ r') hn
              replace HH := HH.later () hn
              have ZB := Box.new w3 29 #[.slice none 0 0, .slice none 0 0]
              have hF : ¬ Iv S E w3.heap.size := iv_not (.inr hEl)
              replace LR := (keepsLJ rr).later LR hn
              replace hEl := Nat.le_trans hEl hn.size
              clear hn
              generalize (w3.alloc _ : World) = w4 at K0 M G3 HH ZB LR hEl ⊢
              generalize w3.heap.size = V at hV ZB hF ⊢
              obtain ⟨w3, rfl⟩ : ∃ x, x = w4 := ⟨_, rfl⟩
              clear hH
              refine hK.out _ _ ⟨K0.v0.box, K0.v1.box, K0.st⟩ (fun hH => ?_)
              clear hK K
              try simp only [Act.put, List.setIfInBounds_toArray, List.set_cons_zero, List.set_cons_succ]
              refine wpAnyE_one (i := 17) (by kernel_rfl) (by simp only [List.getElem?_toArray, List.getElem?_cons_succ, List.getElem?_cons_zero]; rfl) (fun K hK => ?_)
              rw [if_pos (by first | rfl | kernel_rfl | simp [Region.wanted, yielded])]
              have O := Lib.hid (oneJ LR.at)
              have JS := Lib.hid (sizeJ LR.at).2
              have ht := turns_setRow w3 V C
              have Mb := VarOf.put (keepsJ rr) ZB LR.at hF
              replace K0 := K0.turn ht (fun b hb => by omega)
              replace M := M.turn (keepsJ rr) ht (by omega) (fun b hb e => by have h1 := hFM b hb; have e : b = V := e; omega)
              replace G3 := G3.turn (keepsLJ r') ht (by omega) (fun b hb e => by have h1 := hb.2; have e : b = V := e; omega)
              replace HH := HH.turn () ht 
              clear hH
              refine wp_store_row 29 _ _ rfl V _ rfl rfl 29 #[.slice none 0 0, .slice none 0 0] ZB JS.out O.out.1.symm O.out.2 ?_
              refine hK.out _ _ ⟨K0.v0.box, K0.v1.box, K0.st⟩ (fun hH => ?_)
              clear hK K
              try simp only [Act.put]
              have hEs : E ≤ (w3.setRow V C).heap.size := by rw [size_setRow]; exact hEl
              clear ZB LR ht O JS
              generalize (w3.setRow _ _ : World) = w4 at K0 Mb hEs hH M G3 HH ⊢
              refine wpAnyE_end (i := 18) (by kernel_rfl) (by simp only [List.getElem?_toArray, List.getElem?_cons_succ, List.getElem?_cons_zero]; rfl) (by kernel_rfl) (fun K hK => ?_)
              go_simp
              refine hK.out _ _ ⟨K0.v0.box, K0.v1.box, K0.st⟩ ?_
              clear hK K hH
              try simp only [Act.put, List.setIfInBounds_toArray, List.set_cons_zero, List.set_cons_succ]
              go_wp2_with fail
              go_meet
              exact ⟨V, C, _, rfl, rfl, Mb, K0, M, G3⟩
            · skip
              go_simp
              have hV := HH.le
              have hn := bel_alloc w3 (.cells #[.slice none 0 0, .slice none 0 0] 29)
              replace K0 := K0.later hn
              replace M := M.later (keepsJ rr) hn
              replace G3 := G3.later (keepsLJ r') hn
              replace HH := HH.later () hn
              replace L0 := (keepsLG d0).later L0 hn
              replace L1 := (keepsLJ d1).later L1 hn
              replace LH := LH.later hn
              have ZB := Box.new w3 29 #[.slice none 0 0, .slice none 0 0]
              clear hn
              generalize (w3.alloc _ : World) = w4 at K0 M G3 HH L0 L1 LH ZB ⊢
              generalize w3.heap.size = V at hV ZB ⊢
              obtain ⟨w3, rfl⟩ : ∃ x, x = w4 := ⟨_, rfl⟩
              clear hH
              refine hK.out _ _ ⟨K0.v0.box, K0.v1.box, K0.st⟩ (fun hH => ?_)
              clear hK K
              try simp only [Act.put, List.setIfInBounds_toArray, List.set_cons_zero, List.set_cons_succ]
              refine wpAnyE_one (i := 12) (by kernel_rfl) (by simp only [List.getElem?_toArray, List.getElem?_cons_succ, List.getElem?_cons_zero]; rfl) (fun K hK => ?_)
              go_simp
              have hVS := ZB.lt
              refine (noted8_is kd sh cl t1 t2 v L0 L1 ⟨LH⟩ HPL.out hsum HZ.out).mono ?_
              rintro e w4 ⟨C, rfl, LR, hb⟩
              replace K0 := K0.later hb
              replace M := M.later (keepsJ rr) hb
              replace G3 := G3.later (keepsLJ r') hb
              replace HH := HH.later () hb
              replace ZB := ZB.later hb ZB.lt
              generalize w3.heap.size = S at LR hVS
              obtain ⟨E, hE⟩ : ∃ E, w4.heap.size = E := ⟨_, rfl⟩
              rw [hE] at LR
              have hEl : E ≤ w4.heap.size := Nat.le_of_eq hE.symm
              clear hE
              have hF : ¬ Iv S E V := iv_not (.inl hVS)
              clear hVS
              clear hb L0 L1 LH
              obtain ⟨w3, rfl⟩ : ∃ x, x = w4 := ⟨_, rfl⟩
              clear hH
              refine hK.out _ _ ⟨K0.v0.box, K0.v1.box, K0.st⟩ (fun hH => ?_)
              clear hK K
              try simp only [Act.put, List.setIfInBounds_toArray, List.set_cons_zero, List.set_cons_succ]
              refine wpAnyE_pure (i := 13) (v := ?vbl1p13) (by simp only [List.getElem?_toArray, List.getElem?_cons_succ, List.getElem?_cons_zero]; rfl) (by kernel_rfl) (by kernel_rfl) (by kernel_rfl) (by exact fun _ _ _ h => h) (by kernel_rfl) (Or.inl ⟨by rfl, ?ybl1p13⟩) hH ?rbl1p13
              case ybl1p13 => (intro w' hSw; (try dsimp only at hSw); go_simp; try with_reducible rfl)
              try simp only [Act.put, List.setIfInBounds_toArray, List.set_cons_zero, List.set_cons_succ]
              refine wpAnyE_pure (i := 14) (v := ?vbl1p14) (by simp only [List.getElem?_toArray, List.getElem?_cons_succ, List.getElem?_cons_zero]; rfl) (by kernel_rfl) (by kernel_rfl) (by kernel_rfl) (by exact fun _ _ _ h => h) (by kernel_rfl) (Or.inl ⟨by rfl, ?ybl1p14⟩) hH ?rbl1p14
              case ybl1p14 => (intro w' hSw; (try dsimp only at hSw); go_simp; try with_reducible rfl)
              try simp only [Act.put, List.setIfInBounds_toArray, List.set_cons_zero, List.set_cons_succ]
              refine wpAnyE_pure (i := 15) (v := ?vbl1p15) (by simp only [List.getElem?_toArray, List.getElem?_cons_succ, List.getElem?_cons_zero]; rfl) (by kernel_rfl) (by kernel_rfl) (by kernel_rfl) (by exact fun _ _ _ h => h) (by kernel_rfl) (Or.inl ⟨by rfl, ?ybl1p15⟩) hH ?rbl1p15
              case ybl1p15 => (intro w' hSw; (try dsimp only at hSw); go_simp; try with_reducible rfl)
              try simp only [Act.put, List.setIfInBounds_toArray, List.set_cons_zero, List.set_cons_succ]
              refine wpAnyE_one (i := 17) (by kernel_rfl) (by simp only [List.getElem?_toArray, List.getElem?_cons_succ, List.getElem?_cons_zero]; rfl) (fun K hK => ?_)
              rw [if_pos (by first | rfl | kernel_rfl | simp [Region.wanted, yielded])]
              have O := Lib.hid (oneJ LR.at)
              have JS := Lib.hid (sizeJ LR.at).2
              have ht := turns_setRow w3 V C
              have Mb := VarOf.put (keepsJ rr) ZB LR.at hF
              replace K0 := K0.turn ht (fun b hb => by omega)
              replace M := M.turn (keepsJ rr) ht (by omega) (fun b hb e => by have h1 := hFM b hb; have e : b = V := e; omega)
              replace G3 := G3.turn (keepsLJ r') ht (by omega) (fun b hb e => by have h1 := hb.2; have e : b = V := e; omega)
              replace HH := HH.turn () ht 
              clear hH
              refine wp_store_row 29 _ _ rfl V _ rfl rfl 29 #[.slice none 0 0, .slice none 0 0] ZB JS.out O.out.1.symm O.out.2 ?_
              refine hK.out _ _ ⟨K0.v0.box, K0.v1.box, K0.st⟩ (fun hH => ?_)
              clear hK K
              try simp only [Act.put]
              have hEs : E ≤ (w3.setRow V C).heap.size := by rw [size_setRow]; exact hEl
              clear ZB LR ht O JS
              generalize (w3.setRow _ _ : World) = w4 at K0 Mb hEs hH M G3 HH ⊢
              refine wpAnyE_end (i := 18) (by kernel_rfl) (by simp only [List.getElem?_toArray, List.getElem?_cons_succ, List.getElem?_cons_zero]; rfl) (by kernel_rfl) (fun K hK => ?_)
              go_simp
              refine hK.out _ _ ⟨K0.v0.box, K0.v1.box, K0.st⟩ ?_
              clear hK K hH
              try simp only [Act.put, List.setIfInBounds_toArray, List.set_cons_zero, List.set_cons_succ]
              go_wp2_with fail
              go_meet
              exact ⟨V, C, _, rfl, rfl, Mb, K0, M, G3⟩
          · skip
            go_simp
            have hV := HH.le
            have hn := bel_alloc w3 (.cells #[.slice none 0 0, .slice none 0 0] 29)
            replace K0 := K0.later hn
            replace M := M.later (keepsJ rr) hn
            replace G3 := G3.later (keepsLJ r') hn
            replace HH := HH.later () hn
            replace L0 := (keepsLG d0).later L0 hn
            replace L1 := (keepsLJ d1).later L1 hn
            have ZB := Box.new w3 29 #[.slice none 0 0, .slice none 0 0]
            clear hn
            generalize (w3.alloc _ : World) = w4 at K0 M G3 HH L0 L1 ZB ⊢
            generalize w3.heap.size = V at hV ZB ⊢
            obtain ⟨w3, rfl⟩ : ∃ x, x = w4 := ⟨_, rfl⟩
            clear hH
            refine hK.out _ _ ⟨K0.v0.box, K0.v1.box, K0.st⟩ (fun hH => ?_)
            clear hK K
            try simp only [Act.put, List.setIfInBounds_toArray, List.set_cons_zero, List.set_cons_succ]
            refine wpAnyE_one (i := 11) (by kernel_rfl) (by simp only [List.getElem?_toArray, List.getElem?_cons_succ, List.getElem?_cons_zero]; rfl) (fun K hK => ?_)
            go_simp
            refine (toSeals_any A7 n7 c7 ps w3 hz7 K0.l2.1).mono ?_
            rintro e w4 ⟨gs, -, rfl, -, LH, hb⟩
            replace K0 := K0.later hb
            replace M := M.later (keepsJ rr) hb
            replace G3 := G3.later (keepsLJ r') hb
            replace HH := HH.later () hb
            replace L0 := (keepsLG d0).later L0 hb
            replace L1 := (keepsLJ d1).later L1 hb
            replace ZB := ZB.later hb ZB.lt
            clear hb
            obtain ⟨w3, rfl⟩ : ∃ x, x = w4 := ⟨_, rfl⟩
            clear hH
            refine hK.out _ _ ⟨K0.v0.box, K0.v1.box, K0.st⟩ (fun hH => ?_)
            clear hK K
            try simp only [Act.put, List.setIfInBounds_toArray, List.set_cons_zero, List.set_cons_succ]
            refine wpAnyE_one (i := 12) (by kernel_rfl) (by simp only [List.getElem?_toArray, List.getElem?_cons_succ, List.getElem?_cons_zero]; rfl) (fun K hK => ?_)
            go_simp
            have hVS := ZB.lt
            refine (noted8_is kd sh cl t1 t2 v L0 L1 ⟨LH⟩ HPL.out hsum HZ.out).mono ?_
            rintro e w4 ⟨C, rfl, LR, hb⟩
            replace K0 := K0.later hb
            replace M := M.later (keepsJ rr) hb
            replace G3 := G3.later (keepsLJ r') hb
            replace HH := HH.later () hb
            replace ZB := ZB.later hb ZB.lt
            generalize w3.heap.size = S at LR hVS
            obtain ⟨E, hE⟩ : ∃ E, w4.heap.size = E := ⟨_, rfl⟩
            rw [hE] at LR
            have hEl : E ≤ w4.heap.size := Nat.le_of_eq hE.symm
            clear hE
            have hF : ¬ Iv S E V := iv_not (.inl hVS)
            clear hVS
            clear hb L0 L1 LH
            obtain ⟨w3, rfl⟩ : ∃ x, x = w4 := ⟨_, rfl⟩
            clear hH
            refine hK.out _ _ ⟨K0.v0.box, K0.v1.box, K0.st⟩ (fun hH => ?_)
            clear hK K
            try simp only [Act.put, List.setIfInBounds_toArray, List.set_cons_zero, List.set_cons_succ]
            refine wpAnyE_pure (i := 13) (v := ?vbl2p13) (by simp only [List.getElem?_toArray, List.getElem?_cons_succ, List.getElem?_cons_zero]; rfl) (by kernel_rfl) (by kernel_rfl) (by kernel_rfl) (by exact fun _ _ _ h => h) (by kernel_rfl) (Or.inl ⟨by rfl, ?ybl2p13⟩) hH ?rbl2p13
            case ybl2p13 => (intro w' hSw; (try dsimp only at hSw); go_simp; try with_reducible rfl)
            try simp only [Act.put, List.setIfInBounds_toArray, List.set_cons_zero, List.set_cons_succ]
            refine wpAnyE_pure (i := 14) (v := ?vbl2p14) (by simp only [List.getElem?_toArray, List.getElem?_cons_succ, List.getElem?_cons_zero]; rfl) (by kernel_rfl) (by kernel_rfl) (by kernel_rfl) (by exact fun _ _ _ h => h) (by kernel_rfl) (Or.inl ⟨by rfl, ?ybl2p14⟩) hH ?rbl2p14
            case ybl2p14 => (intro w' hSw; (try dsimp only at hSw); go_simp; try with_reducible rfl)
            try simp only [Act.put, List.setIfInBounds_toArray, List.set_cons_zero, List.set_cons_succ]
            refine wpAnyE_pure (i := 15) (v := ?vbl2p15) (by simp only [List.getElem?_toArray, List.getElem?_cons_succ, List.getElem?_cons_zero]; rfl) (by kernel_rfl) (by kernel_rfl) (by kernel_rfl) (by exact fun _ _ _ h => h) (by kernel_rfl) (Or.inl ⟨by rfl, ?ybl2p15⟩) hH ?rbl2p15
            case ybl2p15 => (intro w' hSw; (try dsimp only at hSw); go_simp; try with_reducible rfl)
            try simp only [Act.put, List.setIfInBounds_toArray, List.set_cons_zero, List.set_cons_succ]
            refine wpAnyE_one (i := 17) (by kernel_rfl) (by simp only [List.getElem?_toArray, List.getElem?_cons_succ, List.getElem?_cons_zero]; rfl) (fun K hK => ?_)
            rw [if_pos (by first | rfl | kernel_rfl | simp [Region.wanted, yielded])]
            have O := Lib.hid (oneJ LR.at)
            have JS := Lib.hid (sizeJ LR.at).2
            have ht := turns_setRow w3 V C
            have Mb := VarOf.put (keepsJ rr) ZB LR.at hF
            replace K0 := K0.turn ht (fun b hb => by omega)
            replace M := M.turn (keepsJ rr) ht (by omega) (fun b hb e => by have h1 := hFM b hb; have e : b = V := e; omega)
            replace G3 := G3.turn (keepsLJ r') ht (by omega) (fun b hb e => by have h1 := hb.2; have e : b = V := e; omega)
            replace HH := HH.turn () ht 
            clear hH
            refine wp_store_row 29 _ _ rfl V _ rfl rfl 29 #[.slice none 0 0, .slice none 0 0] ZB JS.out O.out.1.symm O.out.2 ?_
            refine hK.out _ _ ⟨K0.v0.box, K0.v1.box, K0.st⟩ (fun hH => ?_)
            clear hK K
            try simp only [Act.put]
            have hEs : E ≤ (w3.setRow V C).heap.size := by rw [size_setRow]; exact hEl
            clear ZB LR ht O JS
            generalize (w3.setRow _ _ : World) = w4 at K0 Mb hEs hH M G3 HH ⊢
            refine wpAnyE_end (i := 18) (by kernel_rfl) (by simp only [List.getElem?_toArray, List.getElem?_cons_succ, List.getElem?_cons_zero]; rfl) (by kernel_rfl) (fun K hK => ?_)
            go_simp
            refine hK.out _ _ ⟨K0.v0.box, K0.v1.box, K0.st⟩ ?_
            clear hK K hH
            try simp only [Act.put, List.setIfInBounds_toArray, List.set_cons_zero, List.set_cons_succ]
            go_wp2_with fail
            go_meet
            exact ⟨V, C, _, rfl, rfl, Mb, K0, M, G3⟩
        · skip
          go_simp
          have hV := HH.le
          have hn := bel_alloc w3 (.cells #[.slice none 0 0, .slice none 0 0] 29)
          replace K0 := K0.later hn
          replace M := M.later (keepsJ rr) hn
          replace G3 := G3.later (keepsLJ r') hn
          replace HH := HH.later () hn
          replace L0 := (keepsLG d0).later L0 hn
          replace L1 := (keepsLJ d1).later L1 hn
          have ZB := Box.new w3 29 #[.slice none 0 0, .slice none 0 0]
          clear hn
          generalize (w3.alloc _ : World) = w4 at K0 M G3 HH L0 L1 ZB ⊢
          generalize w3.heap.size = V at hV ZB ⊢
          obtain ⟨w3, rfl⟩ : ∃ x, x = w4 := ⟨_, rfl⟩
          clear hH
          refine hK.out _ _ ⟨K0.v0.box, K0.v1.box, K0.st⟩ (fun hH => ?_)
          clear hK K
          try simp only [Act.put, List.setIfInBounds_toArray, List.set_cons_zero, List.set_cons_succ]
          refine wpAnyE_one (i := 8) (by kernel_rfl) (by simp only [List.getElem?_toArray, List.getElem?_cons_succ, List.getElem?_cons_zero]; rfl) (fun K hK => ?_)
          go_simp
          refine (toStamp_any t1 t2 w3).mono ?_
          rintro e w4 ⟨rfl, hb⟩
          replace K0 := K0.later hb
          replace M := M.later (keepsJ rr) hb
          replace G3 := G3.later (keepsLJ r') hb
          replace HH := HH.later () hb
          replace L0 := (keepsLG d0).later L0 hb
          replace L1 := (keepsLJ d1).later L1 hb
          replace ZB := ZB.later hb ZB.lt
          clear hb
          obtain ⟨w3, rfl⟩ : ∃ x, x = w4 := ⟨_, rfl⟩
          clear hH
          refine hK.out _ _ ⟨K0.v0.box, K0.v1.box, K0.st⟩ (fun hH => ?_)
          clear hK K
          try simp only [Act.put, List.setIfInBounds_toArray, List.set_cons_zero, List.set_cons_succ]
          refine wpAnyE_one (i := 11) (by kernel_rfl) (by simp only [List.getElem?_toArray, List.getElem?_cons_succ, List.getElem?_cons_zero]; rfl) (fun K hK => ?_)
          go_simp
          refine (toSeals_any A7 n7 c7 ps w3 hz7 K0.l2.1).mono ?_
          rintro e w4 ⟨gs, -, rfl, -, LH, hb⟩
          replace K0 := K0.later hb
          replace M := M.later (keepsJ rr) hb
          replace G3 := G3.later (keepsLJ r') hb
          replace HH := HH.later () hb
          replace L0 := (keepsLG d0).later L0 hb
          replace L1 := (keepsLJ d1).later L1 hb
          replace ZB := ZB.later hb ZB.lt
          clear hb
          obtain ⟨w3, rfl⟩ : ∃ x, x = w4 := ⟨_, rfl⟩
          clear hH
          refine hK.out _ _ ⟨K0.v0.box, K0.v1.box, K0.st⟩ (fun hH => ?_)
          clear hK K
          try simp only [Act.put, List.setIfInBounds_toArray, List.set_cons_zero, List.set_cons_succ]
          refine wpAnyE_one (i := 12) (by kernel_rfl) (by simp only [List.getElem?_toArray, List.getElem?_cons_succ, List.getElem?_cons_zero]; rfl) (fun K hK => ?_)
          go_simp
          have hVS := ZB.lt
          refine (noted8_is kd sh cl t1 t2 v L0 L1 ⟨LH⟩ HPL.out hsum HZ.out).mono ?_
          rintro e w4 ⟨C, rfl, LR, hb⟩
          replace K0 := K0.later hb
          replace M := M.later (keepsJ rr) hb
          replace G3 := G3.later (keepsLJ r') hb
          replace HH := HH.later () hb
          replace ZB := ZB.later hb ZB.lt
          generalize w3.heap.size = S at LR hVS
          obtain ⟨E, hE⟩ : ∃ E, w4.heap.size = E := ⟨_, rfl⟩
          rw [hE] at LR
          have hEl : E ≤ w4.heap.size := Nat.le_of_eq hE.symm
          clear hE
          have hF : ¬ Iv S E V := iv_not (.inl hVS)
          clear hVS
          clear hb L0 L1 LH
          obtain ⟨w3, rfl⟩ : ∃ x, x = w4 := ⟨_, rfl⟩
          clear hH
          refine hK.out _ _ ⟨K0.v0.box, K0.v1.box, K0.st⟩ (fun hH => ?_)
          clear hK K
          try simp only [Act.put, List.setIfInBounds_toArray, List.set_cons_zero, List.set_cons_succ]
          refine wpAnyE_pure (i := 13) (v := ?vbl3p13) (by simp only [List.getElem?_toArray, List.getElem?_cons_succ, List.getElem?_cons_zero]; rfl) (by kernel_rfl) (by kernel_rfl) (by kernel_rfl) (by exact fun _ _ _ h => h) (by kernel_rfl) (Or.inl ⟨by rfl, ?ybl3p13⟩) hH ?rbl3p13
          case ybl3p13 => (intro w' hSw; (try dsimp only at hSw); go_simp; try with_reducible rfl)
          try simp only [Act.put, List.setIfInBounds_toArray, List.set_cons_zero, List.set_cons_succ]
          refine wpAnyE_pure (i := 14) (v := ?vbl3p14) (by simp only [List.getElem?_toArray, List.getElem?_cons_succ, List.getElem?_cons_zero]; rfl) (by kernel_rfl) (by kernel_rfl) (by kernel_rfl) (by exact fun _ _ _ h => h) (by kernel_rfl) (Or.inl ⟨by rfl, ?ybl3p14⟩) hH ?rbl3p14
          case ybl3p14 => (intro w' hSw; (try dsimp only at hSw); go_simp; try with_reducible rfl)
          try simp only [Act.put, List.setIfInBounds_toArray, List.set_cons_zero, List.set_cons_succ]
          refine wpAnyE_pure (i := 15) (v := ?vbl3p15) (by simp only [List.getElem?_toArray, List.getElem?_cons_succ, List.getElem?_cons_zero]; rfl) (by kernel_rfl) (by kernel_rfl) (by kernel_rfl) (by exact fun _ _ _ h => h) (by kernel_rfl) (Or.inl ⟨by rfl, ?ybl3p15⟩) hH ?rbl3p15
          case ybl3p15 => (intro w' hSw; (try dsimp only at hSw); go_simp; try with_reducible rfl)
          try simp only [Act.put, List.setIfInBounds_toArray, List.set_cons_zero, List.set_cons_succ]
          refine wpAnyE_one (i := 17) (by kernel_rfl) (by simp only [List.getElem?_toArray, List.getElem?_cons_succ, List.getElem?_cons_zero]; rfl) (fun K hK => ?_)
          rw [if_pos (by first | rfl | kernel_rfl | simp [Region.wanted, yielded])]
          have O := Lib.hid (oneJ LR.at)
          have JS := Lib.hid (sizeJ LR.at).2
          have ht := turns_setRow w3 V C
          have Mb := VarOf.put (keepsJ rr) ZB LR.at hF
          replace K0 := K0.turn ht (fun b hb => by omega)
          replace M := M.turn (keepsJ rr) ht (by omega) (fun b hb e => by have h1 := hFM b hb; have e : b = V := e; omega)
          replace G3 := G3.turn (keepsLJ r') ht (by omega) (fun b hb e => by have h1 := hb.2; have e : b = V := e; omega)
          replace HH := HH.turn () ht 
          clear hH
          refine wp_store_row 29 _ _ rfl V _ rfl rfl 29 #[.slice none 0 0, .slice none 0 0] ZB JS.out O.out.1.symm O.out.2 ?_
          refine hK.out _ _ ⟨K0.v0.box, K0.v1.box, K0.st⟩ (fun hH => ?_)
          clear hK K
          try simp only [Act.put]
          have hEs : E ≤ (w3.setRow V C).heap.size := by rw [size_setRow]; exact hEl
          clear ZB LR ht O JS
          generalize (w3.setRow _ _ : World) = w4 at K0 Mb hEs hH M G3 HH ⊢
          refine wpAnyE_end (i := 18) (by kernel_rfl) (by simp only [List.getElem?_toArray, List.getElem?_cons_succ, List.getElem?_cons_zero]; rfl) (by kernel_rfl) (fun K hK => ?_)
          go_simp
          refine hK.out _ _ ⟨K0.v0.box, K0.v1.box, K0.st⟩ ?_
          clear hK K hH
          try simp only [Act.put, List.setIfInBounds_toArray, List.set_cons_zero, List.set_cons_succ]
          go_wp2_with fail
          go_meet
          exact ⟨V, C, _, rfl, rfl, Mb, K0, M, G3⟩
      · skip
        go_simp
        have hV := HH.le
        have hn := bel_alloc w3 (.cells #[.slice none 0 0, .slice none 0 0] 29)
        replace K0 := K0.later hn
        replace M := M.later (keepsJ rr) hn
        replace G3 := G3.later (keepsLJ r') hn
        replace HH := HH.later () hn
        replace L0 := (keepsLG d0).later L0 hn
        have ZB := Box.new w3 29 #[.slice none 0 0, .slice none 0 0]
        clear hn
        generalize (w3.alloc _ : World) = w4 at K0 M G3 HH L0 ZB ⊢
        generalize w3.heap.size = V at hV ZB ⊢
        obtain ⟨w3, rfl⟩ : ∃ x, x = w4 := ⟨_, rfl⟩
        clear hH
        refine hK.out _ _ ⟨K0.v0.box, K0.v1.box, K0.st⟩ (fun hH => ?_)
        clear hK K
        try simp only [Act.put, List.setIfInBounds_toArray, List.set_cons_zero, List.set_cons_succ]
        refine wpAnyE_one (i := 3) (by kernel_rfl) (by simp only [List.getElem?_toArray, List.getElem?_cons_succ, List.getElem?_cons_zero]; rfl) (fun K hK => ?_)
        go_simp
        refine (to_J K0.v1.dat hz1).mono ?_
        rintro e w4 ⟨D1, rfl, L1, hb⟩
        replace K0 := K0.later hb
        replace M := M.later (keepsJ rr) hb
        replace G3 := G3.later (keepsLJ r') hb
        replace HH := HH.later () hb
        replace L0 := (keepsLG d0).later L0 hb
        replace ZB := ZB.later hb ZB.lt
        clear hb
        obtain ⟨w3, rfl⟩ : ∃ x, x = w4 := ⟨_, rfl⟩
        clear hH
        refine hK.out _ _ ⟨K0.v0.box, K0.v1.box, K0.st⟩ (fun hH => ?_)
        clear hK K
        try simp only [Act.put, List.setIfInBounds_toArray, List.set_cons_zero, List.set_cons_succ]
        refine wpAnyE_one (i := 8) (by kernel_rfl) (by simp only [List.getElem?_toArray, List.getElem?_cons_succ, List.getElem?_cons_zero]; rfl) (fun K hK => ?_)
        go_simp
        refine (toStamp_any t1 t2 w3).mono ?_
        rintro e w4 ⟨rfl, hb⟩
        replace K0 := K0.later hb
        replace M := M.later (keepsJ rr) hb
        replace G3 := G3.later (keepsLJ r') hb
        replace HH := HH.later () hb
        replace L0 := (keepsLG d0).later L0 hb
        replace L1 := (keepsLJ d1).later L1 hb
        replace ZB := ZB.later hb ZB.lt
        clear hb
        obtain ⟨w3, rfl⟩ : ∃ x, x = w4 := ⟨_, rfl⟩
        clear hH
        refine hK.out _ _ ⟨K0.v0.box, K0.v1.box, K0.st⟩ (fun hH => ?_)
        clear hK K
        try simp only [Act.put, List.setIfInBounds_toArray, List.set_cons_zero, List.set_cons_succ]
        refine wpAnyE_one (i := 11) (by kernel_rfl) (by simp only [List.getElem?_toArray, List.getElem?_cons_succ, List.getElem?_cons_zero]; rfl) (fun K hK => ?_)
        go_simp
        refine (toSeals_any A7 n7 c7 ps w3 hz7 K0.l2.1).mono ?_
        rintro e w4 ⟨gs, -, rfl, -, LH, hb⟩
        replace K0 := K0.later hb
        replace M := M.later (keepsJ rr) hb
        replace G3 := G3.later (keepsLJ r') hb
        replace HH := HH.later () hb
        replace L0 := (keepsLG d0).later L0 hb
        replace L1 := (keepsLJ d1).later L1 hb
        replace ZB := ZB.later hb ZB.lt
        clear hb
        obtain ⟨w3, rfl⟩ : ∃ x, x = w4 := ⟨_, rfl⟩
        clear hH
        refine hK.out _ _ ⟨K0.v0.box, K0.v1.box, K0.st⟩ (fun hH => ?_)
        clear hK K
        try simp only [Act.put, List.setIfInBounds_toArray, List.set_cons_zero, List.set_cons_succ]
        refine wpAnyE_one (i := 12) (by kernel_rfl) (by simp only [List.getElem?_toArray, List.getElem?_cons_succ, List.getElem?_cons_zero]; rfl) (fun K hK => ?_)
        go_simp
        have hVS := ZB.lt
        refine (noted8_is kd sh cl t1 t2 v L0 L1 ⟨LH⟩ HPL.out hsum HZ.out).mono ?_
        rintro e w4 ⟨C, rfl, LR, hb⟩
        replace K0 := K0.later hb
        replace M := M.later (keepsJ rr) hb
        replace G3 := G3.later (keepsLJ r') hb
        replace HH := HH.later () hb
        replace ZB := ZB.later hb ZB.lt
        generalize w3.heap.size = S at LR hVS
        obtain ⟨E, hE⟩ : ∃ E, w4.heap.size = E := ⟨_, rfl⟩
        rw [hE] at LR
        have hEl : E ≤ w4.heap.size := Nat.le_of_eq hE.symm
        clear hE
        have hF : ¬ Iv S E V := iv_not (.inl hVS)
        clear hVS
        clear hb L0 L1 LH
        obtain ⟨w3, rfl⟩ : ∃ x, x = w4 := ⟨_, rfl⟩
        clear hH
        refine hK.out _ _ ⟨K0.v0.box, K0.v1.box, K0.st⟩ (fun hH => ?_)
        clear hK K
        try simp only [Act.put, List.setIfInBounds_toArray, List.set_cons_zero, List.set_cons_succ]
        refine wpAnyE_pure (i := 13) (v := ?vbl4p13) (by simp only [List.getElem?_toArray, List.getElem?_cons_succ, List.getElem?_cons_zero]; rfl) (by kernel_rfl) (by kernel_rfl) (by kernel_rfl) (by exact fun _ _ _ h => h) (by kernel_rfl) (Or.inl ⟨by rfl, ?ybl4p13⟩) hH ?rbl4p13
        case ybl4p13 => (intro w' hSw; (try dsimp only at hSw); go_simp; try with_reducible rfl)
        try simp only [Act.put, List.setIfInBounds_toArray, List.set_cons_zero, List.set_cons_succ]
        refine wpAnyE_pure (i := 14) (v := ?vbl4p14) (by simp only [List.getElem?_toArray, List.getElem?_cons_succ, List.getElem?_cons_zero]; rfl) (by kernel_rfl) (by kernel_rfl) (by kernel_rfl) (by exact fun _ _ _ h => h) (by kernel_rfl) (Or.inl ⟨by rfl, ?ybl4p14⟩) hH ?rbl4p14
        case ybl4p14 => (intro w' hSw; (try dsimp only at hSw); go_simp; try with_reducible rfl)
        try simp only [Act.put, List.setIfInBounds_toArray, List.set_cons_zero, List.set_cons_succ]
        refine wpAnyE_pure (i := 15) (v := ?vbl4p15) (by simp only [List.getElem?_toArray, List.getElem?_cons_succ, List.getElem?_cons_zero]; rfl) (by kernel_rfl) (by kernel_rfl) (by kernel_rfl) (by exact fun _ _ _ h => h) (by kernel_rfl) (Or.inl ⟨by rfl, ?ybl4p15⟩) hH ?rbl4p15
        case ybl4p15 => (intro w' hSw; (try dsimp only at hSw); go_simp; try with_reducible rfl)
        try simp only [Act.put, List.setIfInBounds_toArray, List.set_cons_zero, List.set_cons_succ]
        refine wpAnyE_one (i := 17) (by kernel_rfl) (by simp only [List.getElem?_toArray, List.getElem?_cons_succ, List.getElem?_cons_zero]; rfl) (fun K hK => ?_)
        rw [if_pos (by first | rfl | kernel_rfl | simp [Region.wanted, yielded])]
        have O := Lib.hid (oneJ LR.at)
        have JS := Lib.hid (sizeJ LR.at).2
        have ht := turns_setRow w3 V C
        have Mb := VarOf.put (keepsJ rr) ZB LR.at hF
        replace K0 := K0.turn ht (fun b hb => by omega)
        replace M := M.turn (keepsJ rr) ht (by omega) (fun b hb e => by have h1 := hFM b hb; have e : b = V := e; omega)
        replace G3 := G3.turn (keepsLJ r') ht (by omega) (fun b hb e => by have h1 := hb.2; have e : b = V := e; omega)
        replace HH := HH.turn () ht 
        clear hH
        refine wp_store_row 29 _ _ rfl V _ rfl rfl 29 #[.slice none 0 0, .slice none 0 0] ZB JS.out O.out.1.symm O.out.2 ?_
        refine hK.out _ _ ⟨K0.v0.box, K0.v1.box, K0.st⟩ (fun hH => ?_)
        clear hK K
        try simp only [Act.put]
        have hEs : E ≤ (w3.setRow V C).heap.size := by rw [size_setRow]; exact hEl
        clear ZB LR ht O JS
        generalize (w3.setRow _ _ : World) = w4 at K0 Mb hEs hH M G3 HH ⊢
        refine wpAnyE_end (i := 18) (by kernel_rfl) (by simp only [List.getElem?_toArray, List.getElem?_cons_succ, List.getElem?_cons_zero]; rfl) (by kernel_rfl) (fun K hK => ?_)
        go_simp
        refine hK.out _ _ ⟨K0.v0.box, K0.v1.box, K0.st⟩ ?_
        clear hK K hH
        try simp only [Act.put, List.setIfInBounds_toArray, List.set_cons_zero, List.set_cons_succ]
        go_wp2_with fail
        go_meet
        exact ⟨V, C, _, rfl, rfl, Mb, K0, M, G3⟩
    · skip
      go_simp
      have hV := HH.le
      have hn := bel_alloc w3 (.cells #[.slice none 0 0, .slice none 0 0] 29)
      replace K0 := K0.later hn
      replace M := M.later (keepsJ rr) hn
      replace G3 := G3.later (keepsLJ r') hn
      replace HH := HH.later () hn
      have ZB := Box.new w3 29 #[.slice none 0 0, .slice none 0 0]
      clear hn
      generalize (w3.alloc _ : World) = w4 at K0 M G3 HH ZB ⊢
      generalize w3.heap.size = V at hV ZB ⊢
      obtain ⟨w3, rfl⟩ : ∃ x, x = w4 := ⟨_, rfl⟩
      clear hH
      refine hK.out _ _ ⟨K0.v0.box, K0.v1.box, K0.st⟩ (fun hH => ?_)
      clear hK K
      try simp only [Act.put, List.setIfInBounds_toArray, List.set_cons_zero, List.set_cons_succ]
      refine wpAnyE_one (i := 1) (by kernel_rfl) (by simp only [List.getElem?_toArray, List.getElem?_cons_succ, List.getElem?_cons_zero]; rfl) (fun K hK => ?_)
      go_simp
      refine (to_G K0.v0.dat hz0).mono ?_
      rintro e w4 ⟨D0, rfl, L0, hb⟩
      replace K0 := K0.later hb
      replace M := M.later (keepsJ rr) hb
      replace G3 := G3.later (keepsLJ r') hb
      replace HH := HH.later () hb
      replace ZB := ZB.later hb ZB.lt
      clear hb
      obtain ⟨w3, rfl⟩ : ∃ x, x = w4 := ⟨_, rfl⟩
      clear hH
      refine hK.out _ _ ⟨K0.v0.box, K0.v1.box, K0.st⟩ (fun hH => ?_)
      clear hK K
      try simp only [Act.put, List.setIfInBounds_toArray, List.set_cons_zero, List.set_cons_succ]
      refine wpAnyE_one (i := 3) (by kernel_rfl) (by simp only [List.getElem?_toArray, List.getElem?_cons_succ, List.getElem?_cons_zero]; rfl) (fun K hK => ?_)
      go_simp
      refine (to_J K0.v1.dat hz1).mono ?_
      rintro e w4 ⟨D1, rfl, L1, hb⟩
      replace K0 := K0.later hb
      replace M := M.later (keepsJ rr) hb
      replace G3 := G3.later (keepsLJ r') hb
      replace HH := HH.later () hb
      replace L0 := (keepsLG d0).later L0 hb
      replace ZB := ZB.later hb ZB.lt
      clear hb
      obtain ⟨w3, rfl⟩ : ∃ x, x = w4 := ⟨_, rfl⟩
      clear hH
      refine hK.out _ _ ⟨K0.v0.box, K0.v1.box, K0.st⟩ (fun hH => ?_)
      clear hK K
      try simp only [Act.put, List.setIfInBounds_toArray, List.set_cons_zero, List.set_cons_succ]
      refine wpAnyE_one (i := 8) (by kernel_rfl) (by simp only [List.getElem?_toArray, List.getElem?_cons_succ, List.getElem?_cons_zero]; rfl) (fun K hK => ?_)
      go_simp
      refine (toStamp_any t1 t2 w3).mono ?_
      rintro e w4 ⟨rfl, hb⟩
      replace K0 := K0.later hb
      replace M := M.later (keepsJ rr) hb
      replace G3 := G3.later (keepsLJ r') hb
      replace HH := HH.later () hb
      replace L0 := (keepsLG d0).later L0 hb
      replace L1 := (keepsLJ d1).later L1 hb
      replace ZB := ZB.later hb ZB.lt
      clear hb
      obtain ⟨w3, rfl⟩ : ∃ x, x = w4 := ⟨_, rfl⟩
      clear hH
      refine hK.out _ _ ⟨K0.v0.box, K0.v1.box, K0.st⟩ (fun hH => ?_)
      clear hK K
      try simp only [Act.put, List.setIfInBounds_toArray, List.set_cons_zero, List.set_cons_succ]
      refine wpAnyE_one (i := 11) (by kernel_rfl) (by simp only [List.getElem?_toArray, List.getElem?_cons_succ, List.getElem?_cons_zero]; rfl) (fun K hK => ?_)
      go_simp
      refine (toSeals_any A7 n7 c7 ps w3 hz7 K0.l2.1).mono ?_
      rintro e w4 ⟨gs, -, rfl, -, LH, hb⟩
      replace K0 := K0.later hb
      replace M := M.later (keepsJ rr) hb
      replace G3 := G3.later (keepsLJ r') hb
      replace HH := HH.later () hb
      replace L0 := (keepsLG d0).later L0 hb
      replace L1 := (keepsLJ d1).later L1 hb
      replace ZB := ZB.later hb ZB.lt
      clear hb
      obtain ⟨w3, rfl⟩ : ∃ x, x = w4 := ⟨_, rfl⟩
      clear hH
      refine hK.out _ _ ⟨K0.v0.box, K0.v1.box, K0.st⟩ (fun hH => ?_)
      clear hK K
      try simp only [Act.put, List.setIfInBounds_toArray, List.set_cons_zero, List.set_cons_succ]
      refine wpAnyE_one (i := 12) (by kernel_rfl) (by simp only [List.getElem?_toArray, List.getElem?_cons_succ, List.getElem?_cons_zero]; rfl) (fun K hK => ?_)
      go_simp
      have hVS := ZB.lt
      refine (noted8_is kd sh cl t1 t2 v L0 L1 ⟨LH⟩ HPL.out hsum HZ.out).mono ?_
      rintro e w4 ⟨C, rfl, LR, hb⟩
      replace K0 := K0.later hb
      replace M := M.later (keepsJ rr) hb
      replace G3 := G3.later (keepsLJ r') hb
      replace HH := HH.later () hb
      replace ZB := ZB.later hb ZB.lt
      generalize w3.heap.size = S at LR hVS
      obtain ⟨E, hE⟩ : ∃ E, w4.heap.size = E := ⟨_, rfl⟩
      rw [hE] at LR
      have hEl : E ≤ w4.heap.size := Nat.le_of_eq hE.symm
      clear hE
      have hF : ¬ Iv S E V := iv_not (.inl hVS)
      clear hVS
      clear hb L0 L1 LH
      obtain ⟨w3, rfl⟩ : ∃ x, x = w4 := ⟨_, rfl⟩
      clear hH
      refine hK.out _ _ ⟨K0.v0.box, K0.v1.box, K0.st⟩ (fun hH => ?_)
      clear hK K
      try simp only [Act.put, List.setIfInBounds_toArray, List.set_cons_zero, List.set_cons_succ]
      refine wpAnyE_pure (i := 13) (v := ?vbl5p13) (by simp only [List.getElem?_toArray, List.getElem?_cons_succ, List.getElem?_cons_zero]; rfl) (by kernel_rfl) (by kernel_rfl) (by kernel_rfl) (by exact fun _ _ _ h => h) (by kernel_rfl) (Or.inl ⟨by rfl, ?ybl5p13⟩) hH ?rbl5p13
      case ybl5p13 => (intro w' hSw; (try dsimp only at hSw); go_simp; try with_reducible rfl)
      try simp only [Act.put, List.setIfInBounds_toArray, List.set_cons_zero, List.set_cons_succ]
      refine wpAnyE_pure (i := 14) (v := ?vbl5p14) (by simp only [List.getElem?_toArray, List.getElem?_cons_succ, List.getElem?_cons_zero]; rfl) (by kernel_rfl) (by kernel_rfl) (by kernel_rfl) (by exact fun _ _ _ h => h) (by kernel_rfl) (Or.inl ⟨by rfl, ?ybl5p14⟩) hH ?rbl5p14
      case ybl5p14 => (intro w' hSw; (try dsimp only at hSw); go_simp; try with_reducible rfl)
      try simp only [Act.put, List.setIfInBounds_toArray, List.set_cons_zero, List.set_cons_succ]
      refine wpAnyE_pure (i := 15) (v := ?vbl5p15) (by simp only [List.getElem?_toArray, List.getElem?_cons_succ, List.getElem?_cons_zero]; rfl) (by kernel_rfl) (by kernel_rfl) (by kernel_rfl) (by exact fun _ _ _ h => h) (by kernel_rfl) (Or.inl ⟨by rfl, ?ybl5p15⟩) hH ?rbl5p15
      case ybl5p15 => (intro w' hSw; (try dsimp only at hSw); go_simp; try with_reducible rfl)
      try simp only [Act.put, List.setIfInBounds_toArray, List.set_cons_zero, List.set_cons_succ]
      refine wpAnyE_one (i := 17) (by kernel_rfl) (by simp only [List.getElem?_toArray, List.getElem?_cons_succ, List.getElem?_cons_zero]; rfl) (fun K hK => ?_)
      rw [if_pos (by first | rfl | kernel_rfl | simp [Region.wanted, yielded])]
      have O := Lib.hid (oneJ LR.at)
      have JS := Lib.hid (sizeJ LR.at).2
      have ht := turns_setRow w3 V C
      have Mb := VarOf.put (keepsJ rr) ZB LR.at hF
      replace K0 := K0.turn ht (fun b hb => by omega)
      replace M := M.turn (keepsJ rr) ht (by omega) (fun b hb e => by have h1 := hFM b hb; have e : b = V := e; omega)
      replace G3 := G3.turn (keepsLJ r') ht (by omega) (fun b hb e => by have h1 := hb.2; have e : b = V := e; omega)
      replace HH := HH.turn () ht 
      clear hH
      refine wp_store_row 29 _ _ rfl V _ rfl rfl 29 #[.slice none 0 0, .slice none 0 0] ZB JS.out O.out.1.symm O.out.2 ?_
      refine hK.out _ _ ⟨K0.v0.box, K0.v1.box, K0.st⟩ (fun hH => ?_)
      clear hK K
      try simp only [Act.put]
      have hEs : E ≤ (w3.setRow V C).heap.size := by rw [size_setRow]; exact hEl
      clear ZB LR ht O JS
      generalize (w3.setRow _ _ : World) = w4 at K0 Mb hEs hH M G3 HH ⊢
      refine wpAnyE_end (i := 18) (by kernel_rfl) (by simp only [List.getElem?_toArray, List.getElem?_cons_succ, List.getElem?_cons_zero]; rfl) (by kernel_rfl) (fun K hK => ?_)
      go_simp
      refine hK.out _ _ ⟨K0.v0.box, K0.v1.box, K0.st⟩ ?_
      clear hK K hH
      try simp only [Act.put, List.setIfInBounds_toArray, List.set_cons_zero, List.set_cons_succ]
      go_wp2_with fail
      go_meet
      exact ⟨V, C, _, rfl, rfl, Mb, K0, M, G3⟩
  case rest =>
  clear K0 M G3 HH
  obtain ⟨VH, CH, FH, rfl, rfl, H, K0, M, G2⟩ := hcut
  obtain ⟨w1, rfl⟩ : ∃ x, x = wc := ⟨_, rfl⟩
  have JH := Lib.hid (sizeJ H.dat).2
  go_wp2_with (first | (refine wpList_load_box 29 _ rfl (VH) rfl 29 CH H.box _ Tryz.underlying29 rfl JH.out (by first | rfl | simp [Region.wanted, yielded] | (simp [Region.wanted, yielded, Act.put] <;> omega)) ?_) | (refine wpList_load_box 29 _ rfl (VM) rfl 29 CM M.box _ Tryz.underlying29 rfl JM.out (by first | rfl | simp [Region.wanted, yielded] | (simp [Region.wanted, yielded, Act.put] <;> omega)) ?_))
  refine (eq_J H.dat M.dat hq).mono ?_
  rintro e w2 ⟨rfl, hb⟩
  replace K0 := K0.later hb
  replace M := M.later (keepsJ rr) hb
  replace G2 := G2.later (keepsLJ r') hb
  clear hb H
  obtain ⟨w1, rfl⟩ : ∃ x, x = w2 := ⟨_, rfl⟩
  go_wp2_with (refine wpList_load_box 29 _ rfl (VG) rfl 29 CG G2.box _ Tryz.underlying29 rfl JG.out (by first | rfl | simp [Region.wanted, yielded] | (simp [Region.wanted, yielded, Act.put] <;> omega)) ?_)
  refine (held_J (k := 1) G2.dat HM.out FIT.out (by omega) (by omega)).mono ?_
  rintro e w2 ⟨rfl, hb⟩
  have E := (K0.later hb).bel
  clear K0 M G2 hb
  go_wp2
  go_ret
  exact ⟨rfl, E⟩

end Go.Proofs.YtjdepjpjjgkmbaaGreat
