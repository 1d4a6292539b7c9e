/- The exact law of Readied answers true, whatever it is given: its walk (written by exact8m.py). -/
import Derived.Test.YtjdepjpjjgkmbaaGreatReadD
import Derived.Test.YtjdepjpjjgkmbaaGreatKinds8
namespace Go.Proofs.YtjdepjpjjgkmbaaGreat
open Go Go.RowKit


/-- The variables of the arguments, as they were given. -/
structure PreRdd (w wr : World) (C0 C1 C2 : Array Value) (d0 : GrpD) (d1 : RegD) (d2 : NoteD) : Prop where
  v0 : VarOf (AtG d0) 47 wr (· < w.heap.size) (w.heap.size) C0
  v1 : VarOf (AtR d1) 73 wr (· < w.heap.size) (w.heap.size + 1) C1
  v2 : VarOf (AtN d2) 75 wr (· < w.heap.size) (w.heap.size + 1 + 1) C2
  bel : Below w.heap.size w wr
theorem PreRdd.later {w wr w' : World} {C0 C1 C2 : Array Value} {d0 : GrpD} {d1 : RegD} {d2 : NoteD} (h : PreRdd w wr C0 C1 C2 d0 d1 d2) (hb : Below wr.heap.size wr w') : PreRdd w w' C0 C1 C2 d0 d1 d2 :=
  ⟨h.v0.later (keepsG d0) hb, h.v1.later (keepsR d1) hb, h.v2.later (keepsN d2) hb, bel_trans h.bel hb⟩
theorem PreRdd.turn {w wr w' : World} {C0 C1 C2 : Array Value} {d0 : GrpD} {d1 : RegD} {d2 : NoteD} {T : Nat → Prop} (h : PreRdd w wr C0 C1 C2 d0 d1 d2) (ht : Turns T wr w') (hT : ∀ b, T b → w.heap.size + 1 + 1 < b) : PreRdd w w' C0 C1 C2 d0 d1 d2 :=
  ⟨h.v0.turn (keepsG d0) ht (fun hb => by have := hT _ hb; omega) (fun b hb hb2 => by have := hT b hb2; omega), h.v1.turn (keepsR d1) ht (fun hb => by have := hT _ hb; omega) (fun b hb hb2 => by have := hT b hb2; omega), h.v2.turn (keepsN d2) ht (fun hb => by have := hT _ hb; omega) (fun b hb hb2 => by have := hT b hb2; omega), ht.below h.bel (fun b hb => by have := hT b hb; omega)⟩
theorem PreRdd.start {w : World} {C0 C1 C2 : Array Value} {d0 : GrpD} {d1 : RegD} {d2 : NoteD} (h0 : AtG d0 w (· < w.heap.size) (.agg C0)) (h1 : AtR d1 w (· < w.heap.size) (.agg C1)) (h2 : AtN d2 w (· < w.heap.size) (.agg C2)) : PreRdd w (((w.alloc (.cells C0 47)).alloc (.cells C1 73)).alloc (.cells C2 75)) C0 C1 C2 d0 d1 d2 := by
  have e0 := bel_alloc w (.cells C0 47)
  have e1 := bel_alloc (w.alloc (.cells C0 47)) (.cells C1 73)
  have e2 := bel_alloc ((w.alloc (.cells C0 47)).alloc (.cells C1 73)) (.cells C2 75)
  have E0 := e0
  have E1 := bel_trans E0 e1
  have E2 := bel_trans E1 e2
  have B0 := Box.new w 47 C0
  replace B0 := B0.alloc (.cells C1 73)
  replace B0 := B0.alloc (.cells C2 75)
  have B1 := Box.new (w.alloc (.cells C0 47)) 73 C1
  replace B1 := B1.alloc (.cells C2 75)
  have B2 := Box.new ((w.alloc (.cells C0 47)).alloc (.cells C1 73)) 75 C2
  simp only [World.size_alloc] at B0 B1 B2
  exact ⟨⟨B0, by omega, (keepsG d0).later h0 E2⟩, ⟨B1, by omega, (keepsR d1).later h1 E2⟩, ⟨B2, by omega, (keepsN d2).later h2 E2⟩, E2⟩

set_option maxRecDepth 100000 in
set_option maxHeartbeats 16000000 in
theorem exactRdd_any (C0 C1 C2 : Array Value) (d0 : GrpD) (d1 : RegD) (d2 : NoteD) (w : World) (h0 : AtG d0 w (· < w.heap.size) (.agg C0)) (h1 : AtR d1 w (· < w.heap.size) (.agg C1)) (h2 : AtN d2 w (· < w.heap.size) (.agg C2)) :
    Calls Tryz.prog 9 #[.agg C0, .agg C1, .agg C2] w fun e w' => e = .returned (.bool true) ∧ Below w.heap.size w w' := by
  have I0 := Lib.hid (sizeG h0).1
  have J0 := Lib.hid (sizeG h0).2
  have I1 := Lib.hid (sizeR h1).1
  have J1 := Lib.hid (sizeR h1).2
  have I2 := Lib.hid (sizeN8 h2).1
  have J2 := Lib.hid (sizeN8 h2).2
  have K0 := PreRdd.start h0 h1 h2
  clear h0 h1 h2
  go_enter Tryz.func9, Tryz.ntmps9
  go_wp2_with (refine wpList_load_box 47 _ rfl (w.heap.size) rfl 47 C0 K0.v0.box _ Tryz.underlying47 rfl I0.out (by first | rfl | simp [Region.wanted, yielded] | (simp [Region.wanted, yielded, Act.put] <;> omega)) ?_)
  generalize (((w.alloc _).alloc _).alloc _ : World) = w0 at K0 ⊢
  refine (sz_G K0.v0.dat).mono ?_
  rintro e w1 ⟨⟨u, rfl, hle, hgt⟩, hb⟩
  replace K0 := K0.later hb
  clear hb
  rcases Int.lt_or_le (1048576) (d0.sz : Int) with hs0 | hs0
  · have hu := hgt hs0
    clear hle hgt
    have E := K0.bel
    go_wp2
    go_ret
    exact ⟨rfl, E⟩
  have hu := hle hs0
  clear hle hgt
  subst hu
  have hu0 : ¬ (1048576 - (d0.sz : Int) < 0) := by omega
  go_wp2_with (refine wpList_load_box 73 _ rfl (w.heap.size + 1) rfl 73 C1 K0.v1.box _ Tryz.underlying73 rfl I1.out (by first | rfl | simp [Region.wanted, yielded] | (simp [Region.wanted, yielded, Act.put] <;> omega)) ?_)
  refine (sz_R K0.v1.dat (L := 1048576 - (d0.sz : Int)) (by omega) (by omega)).mono ?_
  rintro e w1 ⟨⟨u, rfl, hle, hgt⟩, hb⟩
  replace K0 := K0.later hb
  clear hb
  rcases Int.lt_or_le (1048576 - (d0.sz : Int)) (d1.sz : Int) with hs1 | hs1
  · have hu := hgt hs1
    clear hle hgt
    have E := K0.bel
    go_wp2
    go_ret
    exact ⟨rfl, E⟩
  have hu := hle hs1
  clear hle hgt
  subst hu
  have hu1 : ¬ (1048576 - (d0.sz : Int) - (d1.sz : Int) < 0) := by omega
  go_wp2_with (refine wpList_load_box 75 _ rfl (w.heap.size + 1 + 1) rfl 75 C2 K0.v2.box _ Tryz.underlying75 rfl I2.out (by first | rfl | simp [Region.wanted, yielded] | (simp [Region.wanted, yielded, Act.put] <;> omega)) ?_)
  refine (sz_N K0.v2.dat (L := 1048576 - (d0.sz : Int) - (d1.sz : Int)) (by omega) (by omega)).mono ?_
  rintro e w1 ⟨⟨u, rfl, hle, hgt⟩, hb⟩
  replace K0 := K0.later hb
  clear hb
  rcases Int.lt_or_le (1048576 - (d0.sz : Int) - (d1.sz : Int)) (d2.sz : Int) with hs2 | hs2
  · have hu := hgt hs2
    clear hle hgt
    have E := K0.bel
    go_wp2
    go_ret
    exact ⟨rfl, E⟩
  have hu := hle hs2
  clear hle hgt
  subst hu
  have hu2 : ¬ (1048576 - (d0.sz : Int) - (d1.sz : Int) - (d2.sz : Int) < 0) := by omega
  have hz0 : d0.sz ≤ 1048576 := by omega
  have hz1 : d1.sz ≤ 1048576 := by omega
  have hz2 : d2.sz ≤ 1048576 := by omega
  have m0 := mkb_G hz0
  have m1 := mkb_R hz1
  have m2 := mkb_N hz2
  obtain ⟨rr, z, hr⟩ : ∃ rr z, readD d0 d1 d2 = (rr, z) := ⟨_, _, rfl⟩
  have hq := readD_len hr
  have hq1 : rr.ps.length ≤ 1048576 := by unfold RegD.sz at hz1; omega
  have hq2 : rr.os.length ≤ 1048577 := by unfold RegD.sz at hz1; omega
  clear hq
  have HZ := Lib.hid hr
  have hzz : (z != z) = false := by simp
  clear hr
  go_upto_region 11 with fail
  clear hs0 hu0 hs1 hu1 hs2 hu2
  -- the model, on copies
  go_cut [8, 9] (fun pv sv wr => ∃ (V : Nat) (C : Array Value) (F : Nat → Prop), pv = .pointer (some ⟨V, 0, none⟩) ∧ sv = .int .i64 z ∧ VarOf (AtR rr) 80 wr F V C ∧ (∀ b, F b → b < wr.heap.size) ∧ w.heap.size + 1 + 1 < V ∧ PreRdd w wr C0 C1 C2 d0 d1 d2)
  case first =>
    refine wp_region_sink 13 (fun w' => Box w' (w.heap.size) 47 C0 ∧ Box w' (w.heap.size + 1) 73 C1 ∧ Box w' (w.heap.size + 1 + 1) 75 C2) (by kernel_rfl) ⟨K0.v0.box, K0.v1.box, K0.v2.box⟩ (fun hH => ?_)
    have hb := (Below.refl w1.heap.size w1).drew
    replace K0 := K0.later hb
    clear hb
    generalize w1.drew = w3 at K0 hH ⊢
    refine wpAnyE_takeS (i := 0) (v := .agg C0) (by simp only [List.getElem?_toArray, List.getElem?_cons_zero]; rfl) (by kernel_rfl) (by kernel_rfl) (by kernel_rfl) (by exact fun _ _ _ h => h) (by kernel_rfl) ?ya0 hH ?_
    case ya0 => exact yields_box 47 _ rfl (w.heap.size) rfl 47 C0 (fun _ h => h.1) _ Tryz.underlying47 rfl I0.out (by first | rfl | simp [Region.wanted, yielded] | (simp [Region.wanted, yielded, Act.put] <;> omega))
    try simp only [Act.put, List.setIfInBounds_toArray, List.set_cons_zero, List.set_cons_succ]
    refine wpAnyE_takeS (i := 2) (v := .agg C1) (by simp only [List.getElem?_toArray, List.getElem?_cons_succ, List.getElem?_cons_zero]; rfl) (by kernel_rfl) (by kernel_rfl) (by kernel_rfl) (by exact fun _ _ _ h => h) (by kernel_rfl) ?ya1 hH ?_
    case ya1 => exact yields_box 73 _ rfl (w.heap.size + 1) rfl 73 C1 (fun _ h => h.2.1) _ Tryz.underlying73 rfl I1.out (by first | rfl | simp [Region.wanted, yielded] | (simp [Region.wanted, yielded, Act.put] <;> omega))
    try simp only [Act.put, List.setIfInBounds_toArray, List.set_cons_zero, List.set_cons_succ]
    refine wpAnyE_takeS (i := 4) (v := .agg C2) (by simp only [List.getElem?_toArray, List.getElem?_cons_succ, List.getElem?_cons_zero]; rfl) (by kernel_rfl) (by kernel_rfl) (by kernel_rfl) (by exact fun _ _ _ h => h) (by kernel_rfl) ?ya2 hH ?_
    case ya2 => exact yields_box 75 _ rfl (w.heap.size + 1 + 1) rfl 75 C2 (fun _ h => h.2.2) _ Tryz.underlying75 rfl I2.out (by first | rfl | simp [Region.wanted, yielded] | (simp [Region.wanted, yielded, Act.put] <;> omega))
    try simp only [Act.put, List.setIfInBounds_toArray, List.set_cons_zero, List.set_cons_succ]
    refine wpAnyE_two (i := 1) (j := 10) (by kernel_rfl) (by simp only [List.getElem?_toArray, List.getElem?_cons_succ, List.getElem?_cons_zero]; rfl) (by simp only [List.getElem?_toArray, List.getElem?_cons_succ, List.getElem?_cons_zero]; rfl) (fun K hK => ?_) (fun K hK => ?_)
    · skip
      go_simp
      refine (to_G K0.v0.dat hz0).mono ?_
      rintro e w4 ⟨D0, rfl, L0, hb⟩
      replace K0 := K0.later hb
      obtain ⟨F0, L0⟩ : ∃ F, LieG d0 w4 F (.agg D0) := ⟨_, L0⟩
      clear hb
      obtain ⟨w3, rfl⟩ : ∃ x, x = w4 := ⟨_, rfl⟩
      clear hH
      refine hK.out _ _ ⟨K0.v0.box, K0.v1.box, K0.v2.box⟩ (fun hH => ?_)
      clear hK K
      try simp only [Act.put, List.setIfInBounds_toArray, List.set_cons_zero, List.set_cons_succ]
      refine wpAnyE_two (i := 3) (j := 10) (by kernel_rfl) (by simp only [List.getElem?_toArray, List.getElem?_cons_succ, List.getElem?_cons_zero]; rfl) (by simp only [List.getElem?_toArray, List.getElem?_cons_succ, List.getElem?_cons_zero]; rfl) (fun K hK => ?_) (fun K hK => ?_)
      · skip
        go_simp
        refine (to_R K0.v1.dat hz1).mono ?_
        rintro e w4 ⟨D1, rfl, L1, hb⟩
        replace K0 := K0.later hb
        replace L0 := (keepsLG d0).later L0 hb
        obtain ⟨F1, L1⟩ : ∃ F, LieR d1 w4 F (.agg D1) := ⟨_, L1⟩
        clear hb
        obtain ⟨w3, rfl⟩ : ∃ x, x = w4 := ⟨_, rfl⟩
        clear hH
        refine hK.out _ _ ⟨K0.v0.box, K0.v1.box, K0.v2.box⟩ (fun hH => ?_)
        clear hK K
        try simp only [Act.put, List.setIfInBounds_toArray, List.set_cons_zero, List.set_cons_succ]
        refine wpAnyE_two (i := 5) (j := 10) (by kernel_rfl) (by simp only [List.getElem?_toArray, List.getElem?_cons_succ, List.getElem?_cons_zero]; rfl) (by simp only [List.getElem?_toArray, List.getElem?_cons_succ, List.getElem?_cons_zero]; rfl) (fun K hK => ?_) (fun K hK => ?_)
        · skip
          go_simp
          refine (to_N K0.v2.dat hz2).mono ?_
          rintro e w4 ⟨D2, rfl, L2, hb⟩
          replace K0 := K0.later hb
          replace L0 := (keepsLG d0).later L0 hb
          replace L1 := (keepsLR d1).later L1 hb
          obtain ⟨F2, L2⟩ : ∃ F, LieN d2 w4 F (.agg D2) := ⟨_, L2⟩
          clear hb
          obtain ⟨w3, rfl⟩ : ∃ x, x = w4 := ⟨_, rfl⟩
          clear hH
          refine hK.out _ _ ⟨K0.v0.box, K0.v1.box, K0.v2.box⟩ (fun hH => ?_)
          clear hK K
          try simp only [Act.put, List.setIfInBounds_toArray, List.set_cons_zero, List.set_cons_succ]
          refine wpAnyE_two (i := 6) (j := 10) (by kernel_rfl) (by simp only [List.getElem?_toArray, List.getElem?_cons_succ, List.getElem?_cons_zero]; rfl) (by simp only [List.getElem?_toArray, List.getElem?_cons_succ, List.getElem?_cons_zero]; rfl) (fun K hK => ?_) (fun K hK => ?_)
          · skip
            go_simp
            refine (specReadied8_is L0 L1 L2 hz0 hz1 hz2 HZ.out).mono ?_
            rintro e w4 ⟨C, rfl, LR, hb⟩
            replace K0 := K0.later hb
            generalize w3.heap.size = S at LR
            obtain ⟨E, hE⟩ : ∃ E, w4.heap.size = E := ⟨_, rfl⟩
            rw [hE] at LR
            have hEl : E ≤ w4.heap.size := Nat.le_of_eq hE.symm
            clear hE
            clear hb L0 L1 L2
            obtain ⟨w3, rfl⟩ : ∃ x, x = w4 := ⟨_, rfl⟩
            clear hH
            refine hK.out _ _ ⟨K0.v0.box, K0.v1.box, K0.v2.box⟩ (fun hH => ?_)
            clear hK K
            try simp only [Act.put, List.setIfInBounds_toArray, List.set_cons_zero, List.set_cons_succ]
            refine wpAnyE_pure (i := 7) (v := ?val0p1) (by simp only [List.getElem?_toArray, List.getElem?_cons_succ, List.getElem?_cons_zero]; rfl) (by kernel_rfl) (by kernel_rfl) (by kernel_rfl) (by exact fun _ _ _ h => h) (by kernel_rfl) (Or.inl ⟨by rfl, ?yal0p1⟩) hH ?ral0p1
            case yal0p1 => (intro w' hSw; (try dsimp only at hSw); go_simp; try with_reducible rfl)
            try simp only [Act.put, List.setIfInBounds_toArray, List.set_cons_zero, List.set_cons_succ]
            refine wpAnyE_pure (i := 8) (v := ?val0p2) (by simp only [List.getElem?_toArray, List.getElem?_cons_succ, List.getElem?_cons_zero]; rfl) (by kernel_rfl) (by kernel_rfl) (by kernel_rfl) (by exact fun _ _ _ h => h) (by kernel_rfl) (Or.inl ⟨by rfl, ?yal0p2⟩) hH ?ral0p2
            case yal0p2 => (intro w' hSw; (try dsimp only at hSw); go_simp; try with_reducible rfl)
            try simp only [Act.put, List.setIfInBounds_toArray, List.set_cons_zero, List.set_cons_succ]
            refine wpAnyE_pure (i := 9) (v := ?val0p3) (by simp only [List.getElem?_toArray, List.getElem?_cons_succ, List.getElem?_cons_zero]; rfl) (by kernel_rfl) (by kernel_rfl) (by kernel_rfl) (by exact fun _ _ _ h => h) (by kernel_rfl) (Or.inl ⟨by rfl, ?yal0p3⟩) hH ?ral0p3
            case yal0p3 => (intro w' hSw; (try dsimp only at hSw); go_simp; try with_reducible rfl)
            try simp only [Act.put, List.setIfInBounds_toArray, List.set_cons_zero, List.set_cons_succ]
            refine wpAnyE_one (i := 10) (by kernel_rfl) (by simp only [List.getElem?_toArray, List.getElem?_cons_succ, List.getElem?_cons_zero]; rfl) (fun K hK => ?_)
            go_simp
            have hV := K0.v2.box.lt
            have hn := bel_alloc w3 (.cells #[.int .i64 0, .int .i64 0, .int .i64 0, .slice none 0 0, .slice none 0 0] 80)
            replace K0 := K0.later hn
            have ZB := Box.new w3 80 #[.int .i64 0, .int .i64 0, .int .i64 0, .slice none 0 0, .slice none 0 0]
            have hF : ¬ Iv S E w3.heap.size := iv_not (.inr hEl)
            replace LR := (keepsLR rr).later LR hn
            replace hEl := Nat.le_trans hEl hn.size
            clear hn
            generalize (w3.alloc _ : World) = w4 at K0 ZB LR hEl ⊢
            generalize w3.heap.size = V at hV ZB hF ⊢
            obtain ⟨w3, rfl⟩ : ∃ x, x = w4 := ⟨_, rfl⟩
            clear hH
            refine hK.out _ _ ⟨K0.v0.box, K0.v1.box, K0.v2.box⟩ (fun hH => ?_)
            clear hK K
            try simp only [Act.put, List.setIfInBounds_toArray, List.set_cons_zero, List.set_cons_succ]
            refine wpAnyE_one (i := 11) (by kernel_rfl) (by simp only [List.getElem?_toArray, List.getElem?_cons_succ, List.getElem?_cons_zero]; rfl) (fun K hK => ?_)
            rw [if_pos (by first | rfl | kernel_rfl | simp [Region.wanted, yielded])]
            have O := Lib.hid (oneR LR.at)
            have JS := Lib.hid (sizeR LR.at).2
            have Ma := VarOf.put (keepsR rr) ZB LR.at hF
            have ht := turns_setRow w3 V C
            replace K0 := K0.turn ht (fun b hb => by omega)
            clear hH
            refine wp_store_row 80 _ _ rfl V _ rfl rfl 80 #[.int .i64 0, .int .i64 0, .int .i64 0, .slice none 0 0, .slice none 0 0] ZB JS.out O.out.1.symm O.out.2 ?_
            refine hK.out _ _ ⟨K0.v0.box, K0.v1.box, K0.v2.box⟩ (fun hH => ?_)
            clear hK K
            try simp only [Act.put]
            have hEs : E ≤ (w3.setRow V C).heap.size := by rw [size_setRow]; exact hEl
            clear ZB LR ht O JS
            generalize (w3.setRow _ _ : World) = w4 at K0 Ma hEs hH  ⊢
            refine wpAnyE_end (i := 12) (by kernel_rfl) (by simp only [List.getElem?_toArray, List.getElem?_cons_succ, List.getElem?_cons_zero]; rfl) (by kernel_rfl) (fun K hK => ?_)
            go_simp
            refine hK.out _ _ ⟨K0.v0.box, K0.v1.box, K0.v2.box⟩ ?_
            clear hK K
            try simp only [Act.put, List.setIfInBounds_toArray, List.set_cons_zero, List.set_cons_succ]
            go_wp2_with fail
            go_meet
            exact ⟨V, C, _, rfl, rfl, Ma, fun b hb => Nat.lt_of_lt_of_le hb.2 hEs, hV, K0⟩
          · skip
            go_simp
            have hV := K0.v2.box.lt
            have hn := bel_alloc w3 (.cells #[.int .i64 0, .int .i64 0, .int .i64 0, .slice none 0 0, .slice none 0 0] 80)
            replace K0 := K0.later hn
            replace L0 := (keepsLG d0).later L0 hn
            replace L1 := (keepsLR d1).later L1 hn
            replace L2 := (keepsLN d2).later L2 hn
            have ZB := Box.new w3 80 #[.int .i64 0, .int .i64 0, .int .i64 0, .slice none 0 0, .slice none 0 0]
            clear hn
            generalize (w3.alloc _ : World) = w4 at K0 L0 L1 L2 ZB ⊢
            generalize w3.heap.size = V at hV ZB ⊢
            obtain ⟨w3, rfl⟩ : ∃ x, x = w4 := ⟨_, rfl⟩
            clear hH
            refine hK.out _ _ ⟨K0.v0.box, K0.v1.box, K0.v2.box⟩ (fun hH => ?_)
            clear hK K
            try simp only [Act.put, List.setIfInBounds_toArray, List.set_cons_zero, List.set_cons_succ]
            refine wpAnyE_one (i := 6) (by kernel_rfl) (by simp only [List.getElem?_toArray, List.getElem?_cons_succ, List.getElem?_cons_zero]; rfl) (fun K hK => ?_)
            go_simp
            have hVS := ZB.lt
            refine (specReadied8_is L0 L1 L2 hz0 hz1 hz2 HZ.out).mono ?_
            rintro e w4 ⟨C, rfl, LR, hb⟩
            replace K0 := K0.later hb
            replace ZB := ZB.later hb ZB.lt
            generalize w3.heap.size = S at LR hVS
            obtain ⟨E, hE⟩ : ∃ E, w4.heap.size = E := ⟨_, rfl⟩
            rw [hE] at LR
            have hEl : E ≤ w4.heap.size := Nat.le_of_eq hE.symm
            clear hE
            have hF : ¬ Iv S E V := iv_not (.inl hVS)
            clear hVS
            clear hb L0 L1 L2
            obtain ⟨w3, rfl⟩ : ∃ x, x = w4 := ⟨_, rfl⟩
            clear hH
            refine hK.out _ _ ⟨K0.v0.box, K0.v1.box, K0.v2.box⟩ (fun hH => ?_)
            clear hK K
            try simp only [Act.put, List.setIfInBounds_toArray, List.set_cons_zero, List.set_cons_succ]
            refine wpAnyE_pure (i := 7) (v := ?val1p1) (by simp only [List.getElem?_toArray, List.getElem?_cons_succ, List.getElem?_cons_zero]; rfl) (by kernel_rfl) (by kernel_rfl) (by kernel_rfl) (by exact fun _ _ _ h => h) (by kernel_rfl) (Or.inl ⟨by rfl, ?yal1p1⟩) hH ?ral1p1
            case yal1p1 => (intro w' hSw; (try dsimp only at hSw); go_simp; try with_reducible rfl)
            try simp only [Act.put, List.setIfInBounds_toArray, List.set_cons_zero, List.set_cons_succ]
            refine wpAnyE_pure (i := 8) (v := ?val1p2) (by simp only [List.getElem?_toArray, List.getElem?_cons_succ, List.getElem?_cons_zero]; rfl) (by kernel_rfl) (by kernel_rfl) (by kernel_rfl) (by exact fun _ _ _ h => h) (by kernel_rfl) (Or.inl ⟨by rfl, ?yal1p2⟩) hH ?ral1p2
            case yal1p2 => (intro w' hSw; (try dsimp only at hSw); go_simp; try with_reducible rfl)
            try simp only [Act.put, List.setIfInBounds_toArray, List.set_cons_zero, List.set_cons_succ]
            refine wpAnyE_pure (i := 9) (v := ?val1p3) (by simp only [List.getElem?_toArray, List.getElem?_cons_succ, List.getElem?_cons_zero]; rfl) (by kernel_rfl) (by kernel_rfl) (by kernel_rfl) (by exact fun _ _ _ h => h) (by kernel_rfl) (Or.inl ⟨by rfl, ?yal1p3⟩) hH ?ral1p3
            case yal1p3 => (intro w' hSw; (try dsimp only at hSw); go_simp; try with_reducible rfl)
            try simp only [Act.put, List.setIfInBounds_toArray, List.set_cons_zero, List.set_cons_succ]
            refine wpAnyE_one (i := 11) (by kernel_rfl) (by simp only [List.getElem?_toArray, List.getElem?_cons_succ, List.getElem?_cons_zero]; rfl) (fun K hK => ?_)
            rw [if_pos (by first | rfl | kernel_rfl | simp [Region.wanted, yielded])]
            have O := Lib.hid (oneR LR.at)
            have JS := Lib.hid (sizeR LR.at).2
            have Ma := VarOf.put (keepsR rr) ZB LR.at hF
            have ht := turns_setRow w3 V C
            replace K0 := K0.turn ht (fun b hb => by omega)
            clear hH
            refine wp_store_row 80 _ _ rfl V _ rfl rfl 80 #[.int .i64 0, .int .i64 0, .int .i64 0, .slice none 0 0, .slice none 0 0] ZB JS.out O.out.1.symm O.out.2 ?_
            refine hK.out _ _ ⟨K0.v0.box, K0.v1.box, K0.v2.box⟩ (fun hH => ?_)
            clear hK K
            try simp only [Act.put]
            have hEs : E ≤ (w3.setRow V C).heap.size := by rw [size_setRow]; exact hEl
            clear ZB LR ht O JS
            generalize (w3.setRow _ _ : World) = w4 at K0 Ma hEs hH  ⊢
            refine wpAnyE_end (i := 12) (by kernel_rfl) (by simp only [List.getElem?_toArray, List.getElem?_cons_succ, List.getElem?_cons_zero]; rfl) (by kernel_rfl) (fun K hK => ?_)
            go_simp
            refine hK.out _ _ ⟨K0.v0.box, K0.v1.box, K0.v2.box⟩ ?_
            clear hK K
            try simp only [Act.put, List.setIfInBounds_toArray, List.set_cons_zero, List.set_cons_succ]
            go_wp2_with fail
            go_meet
            exact ⟨V, C, _, rfl, rfl, Ma, fun b hb => Nat.lt_of_lt_of_le hb.2 hEs, hV, K0⟩
        · skip
          go_simp
          have hV := K0.v2.box.lt
          have hn := bel_alloc w3 (.cells #[.int .i64 0, .int .i64 0, .int .i64 0, .slice none 0 0, .slice none 0 0] 80)
          replace K0 := K0.later hn
          replace L0 := (keepsLG d0).later L0 hn
          replace L1 := (keepsLR d1).later L1 hn
          have ZB := Box.new w3 80 #[.int .i64 0, .int .i64 0, .int .i64 0, .slice none 0 0, .slice none 0 0]
          clear hn
          generalize (w3.alloc _ : World) = w4 at K0 L0 L1 ZB ⊢
          generalize w3.heap.size = V at hV ZB ⊢
          obtain ⟨w3, rfl⟩ : ∃ x, x = w4 := ⟨_, rfl⟩
          clear hH
          refine hK.out _ _ ⟨K0.v0.box, K0.v1.box, K0.v2.box⟩ (fun hH => ?_)
          clear hK K
          try simp only [Act.put, List.setIfInBounds_toArray, List.set_cons_zero, List.set_cons_succ]
          refine wpAnyE_one (i := 5) (by kernel_rfl) (by simp only [List.getElem?_toArray, List.getElem?_cons_succ, List.getElem?_cons_zero]; rfl) (fun K hK => ?_)
          go_simp
          refine (to_N K0.v2.dat hz2).mono ?_
          rintro e w4 ⟨D2, rfl, L2, hb⟩
          replace K0 := K0.later hb
          replace L0 := (keepsLG d0).later L0 hb
          replace L1 := (keepsLR d1).later L1 hb
          replace ZB := ZB.later hb ZB.lt
          obtain ⟨F2, L2⟩ : ∃ F, LieN d2 w4 F (.agg D2) := ⟨_, L2⟩
          clear hb
          obtain ⟨w3, rfl⟩ : ∃ x, x = w4 := ⟨_, rfl⟩
          clear hH
          refine hK.out _ _ ⟨K0.v0.box, K0.v1.box, K0.v2.box⟩ (fun hH => ?_)
          clear hK K
          try simp only [Act.put, List.setIfInBounds_toArray, List.set_cons_zero, List.set_cons_succ]
          refine wpAnyE_one (i := 6) (by kernel_rfl) (by simp only [List.getElem?_toArray, List.getElem?_cons_succ, List.getElem?_cons_zero]; rfl) (fun K hK => ?_)
          go_simp
          have hVS := ZB.lt
          refine (specReadied8_is L0 L1 L2 hz0 hz1 hz2 HZ.out).mono ?_
          rintro e w4 ⟨C, rfl, LR, hb⟩
          replace K0 := K0.later hb
          replace ZB := ZB.later hb ZB.lt
          generalize w3.heap.size = S at LR hVS
          obtain ⟨E, hE⟩ : ∃ E, w4.heap.size = E := ⟨_, rfl⟩
          rw [hE] at LR
          have hEl : E ≤ w4.heap.size := Nat.le_of_eq hE.symm
          clear hE
          have hF : ¬ Iv S E V := iv_not (.inl hVS)
          clear hVS
          clear hb L0 L1 L2
          obtain ⟨w3, rfl⟩ : ∃ x, x = w4 := ⟨_, rfl⟩
          clear hH
          refine hK.out _ _ ⟨K0.v0.box, K0.v1.box, K0.v2.box⟩ (fun hH => ?_)
          clear hK K
          try simp only [Act.put, List.setIfInBounds_toArray, List.set_cons_zero, List.set_cons_succ]
          refine wpAnyE_pure (i := 7) (v := ?val2p1) (by simp only [List.getElem?_toArray, List.getElem?_cons_succ, List.getElem?_cons_zero]; rfl) (by kernel_rfl) (by kernel_rfl) (by kernel_rfl) (by exact fun _ _ _ h => h) (by kernel_rfl) (Or.inl ⟨by rfl, ?yal2p1⟩) hH ?ral2p1
          case yal2p1 => (intro w' hSw; (try dsimp only at hSw); go_simp; try with_reducible rfl)
          try simp only [Act.put, List.setIfInBounds_toArray, List.set_cons_zero, List.set_cons_succ]
          refine wpAnyE_pure (i := 8) (v := ?val2p2) (by simp only [List.getElem?_toArray, List.getElem?_cons_succ, List.getElem?_cons_zero]; rfl) (by kernel_rfl) (by kernel_rfl) (by kernel_rfl) (by exact fun _ _ _ h => h) (by kernel_rfl) (Or.inl ⟨by rfl, ?yal2p2⟩) hH ?ral2p2
          case yal2p2 => (intro w' hSw; (try dsimp only at hSw); go_simp; try with_reducible rfl)
          try simp only [Act.put, List.setIfInBounds_toArray, List.set_cons_zero, List.set_cons_succ]
          refine wpAnyE_pure (i := 9) (v := ?val2p3) (by simp only [List.getElem?_toArray, List.getElem?_cons_succ, List.getElem?_cons_zero]; rfl) (by kernel_rfl) (by kernel_rfl) (by kernel_rfl) (by exact fun _ _ _ h => h) (by kernel_rfl) (Or.inl ⟨by rfl, ?yal2p3⟩) hH ?ral2p3
          case yal2p3 => (intro w' hSw; (try dsimp only at hSw); go_simp; try with_reducible rfl)
          try simp only [Act.put, List.setIfInBounds_toArray, List.set_cons_zero, List.set_cons_succ]
          refine wpAnyE_one (i := 11) (by kernel_rfl) (by simp only [List.getElem?_toArray, List.getElem?_cons_succ, List.getElem?_cons_zero]; rfl) (fun K hK => ?_)
          rw [if_pos (by first | rfl | kernel_rfl | simp [Region.wanted, yielded])]
          have O := Lib.hid (oneR LR.at)
          have JS := Lib.hid (sizeR LR.at).2
          have Ma := VarOf.put (keepsR rr) ZB LR.at hF
          have ht := turns_setRow w3 V C
          replace K0 := K0.turn ht (fun b hb => by omega)
          clear hH
          refine wp_store_row 80 _ _ rfl V _ rfl rfl 80 #[.int .i64 0, .int .i64 0, .int .i64 0, .slice none 0 0, .slice none 0 0] ZB JS.out O.out.1.symm O.out.2 ?_
          refine hK.out _ _ ⟨K0.v0.box, K0.v1.box, K0.v2.box⟩ (fun hH => ?_)
          clear hK K
          try simp only [Act.put]
          have hEs : E ≤ (w3.setRow V C).heap.size := by rw [size_setRow]; exact hEl
          clear ZB LR ht O JS
          generalize (w3.setRow _ _ : World) = w4 at K0 Ma hEs hH  ⊢
          refine wpAnyE_end (i := 12) (by kernel_rfl) (by simp only [List.getElem?_toArray, List.getElem?_cons_succ, List.getElem?_cons_zero]; rfl) (by kernel_rfl) (fun K hK => ?_)
          go_simp
          refine hK.out _ _ ⟨K0.v0.box, K0.v1.box, K0.v2.box⟩ ?_
          clear hK K
          try simp only [Act.put, List.setIfInBounds_toArray, List.set_cons_zero, List.set_cons_succ]
          go_wp2_with fail
          go_meet
          exact ⟨V, C, _, rfl, rfl, Ma, fun b hb => Nat.lt_of_lt_of_le hb.2 hEs, hV, K0⟩
      · skip
        go_simp
        have hV := K0.v2.box.lt
        have hn := bel_alloc w3 (.cells #[.int .i64 0, .int .i64 0, .int .i64 0, .slice none 0 0, .slice none 0 0] 80)
        replace K0 := K0.later hn
        replace L0 := (keepsLG d0).later L0 hn
        have ZB := Box.new w3 80 #[.int .i64 0, .int .i64 0, .int .i64 0, .slice none 0 0, .slice none 0 0]
        clear hn
        generalize (w3.alloc _ : World) = w4 at K0 L0 ZB ⊢
        generalize w3.heap.size = V at hV ZB ⊢
        obtain ⟨w3, rfl⟩ : ∃ x, x = w4 := ⟨_, rfl⟩
        clear hH
        refine hK.out _ _ ⟨K0.v0.box, K0.v1.box, K0.v2.box⟩ (fun hH => ?_)
        clear hK K
        try simp only [Act.put, List.setIfInBounds_toArray, List.set_cons_zero, List.set_cons_succ]
        refine wpAnyE_one (i := 3) (by kernel_rfl) (by simp only [List.getElem?_toArray, List.getElem?_cons_succ, List.getElem?_cons_zero]; rfl) (fun K hK => ?_)
        go_simp
        refine (to_R K0.v1.dat hz1).mono ?_
        rintro e w4 ⟨D1, rfl, L1, hb⟩
        replace K0 := K0.later hb
        replace L0 := (keepsLG d0).later L0 hb
        replace ZB := ZB.later hb ZB.lt
        obtain ⟨F1, L1⟩ : ∃ F, LieR d1 w4 F (.agg D1) := ⟨_, L1⟩
        clear hb
        obtain ⟨w3, rfl⟩ : ∃ x, x = w4 := ⟨_, rfl⟩
        clear hH
        refine hK.out _ _ ⟨K0.v0.box, K0.v1.box, K0.v2.box⟩ (fun hH => ?_)
        clear hK K
        try simp only [Act.put, List.setIfInBounds_toArray, List.set_cons_zero, List.set_cons_succ]
        refine wpAnyE_one (i := 5) (by kernel_rfl) (by simp only [List.getElem?_toArray, List.getElem?_cons_succ, List.getElem?_cons_zero]; rfl) (fun K hK => ?_)
        go_simp
        refine (to_N K0.v2.dat hz2).mono ?_
        rintro e w4 ⟨D2, rfl, L2, hb⟩
        replace K0 := K0.later hb
        replace L0 := (keepsLG d0).later L0 hb
        replace L1 := (keepsLR d1).later L1 hb
        replace ZB := ZB.later hb ZB.lt
        obtain ⟨F2, L2⟩ : ∃ F, LieN d2 w4 F (.agg D2) := ⟨_, L2⟩
        clear hb
        obtain ⟨w3, rfl⟩ : ∃ x, x = w4 := ⟨_, rfl⟩
        clear hH
        refine hK.out _ _ ⟨K0.v0.box, K0.v1.box, K0.v2.box⟩ (fun hH => ?_)
        clear hK K
        try simp only [Act.put, List.setIfInBounds_toArray, List.set_cons_zero, List.set_cons_succ]
        refine wpAnyE_one (i := 6) (by kernel_rfl) (by simp only [List.getElem?_toArray, List.getElem?_cons_succ, List.getElem?_cons_zero]; rfl) (fun K hK => ?_)
        go_simp
        have hVS := ZB.lt
        refine (specReadied8_is L0 L1 L2 hz0 hz1 hz2 HZ.out).mono ?_
        rintro e w4 ⟨C, rfl, LR, hb⟩
        replace K0 := K0.later hb
        replace ZB := ZB.later hb ZB.lt
        generalize w3.heap.size = S at LR hVS
        obtain ⟨E, hE⟩ : ∃ E, w4.heap.size = E := ⟨_, rfl⟩
        rw [hE] at LR
        have hEl : E ≤ w4.heap.size := Nat.le_of_eq hE.symm
        clear hE
        have hF : ¬ Iv S E V := iv_not (.inl hVS)
        clear hVS
        clear hb L0 L1 L2
        obtain ⟨w3, rfl⟩ : ∃ x, x = w4 := ⟨_, rfl⟩
        clear hH
        refine hK.out _ _ ⟨K0.v0.box, K0.v1.box, K0.v2.box⟩ (fun hH => ?_)
        clear hK K
        try simp only [Act.put, List.setIfInBounds_toArray, List.set_cons_zero, List.set_cons_succ]
        refine wpAnyE_pure (i := 7) (v := ?val3p1) (by simp only [List.getElem?_toArray, List.getElem?_cons_succ, List.getElem?_cons_zero]; rfl) (by kernel_rfl) (by kernel_rfl) (by kernel_rfl) (by exact fun _ _ _ h => h) (by kernel_rfl) (Or.inl ⟨by rfl, ?yal3p1⟩) hH ?ral3p1
        case yal3p1 => (intro w' hSw; (try dsimp only at hSw); go_simp; try with_reducible rfl)
        try simp only [Act.put, List.setIfInBounds_toArray, List.set_cons_zero, List.set_cons_succ]
        refine wpAnyE_pure (i := 8) (v := ?val3p2) (by simp only [List.getElem?_toArray, List.getElem?_cons_succ, List.getElem?_cons_zero]; rfl) (by kernel_rfl) (by kernel_rfl) (by kernel_rfl) (by exact fun _ _ _ h => h) (by kernel_rfl) (Or.inl ⟨by rfl, ?yal3p2⟩) hH ?ral3p2
        case yal3p2 => (intro w' hSw; (try dsimp only at hSw); go_simp; try with_reducible rfl)
        try simp only [Act.put, List.setIfInBounds_toArray, List.set_cons_zero, List.set_cons_succ]
        refine wpAnyE_pure (i := 9) (v := ?val3p3) (by simp only [List.getElem?_toArray, List.getElem?_cons_succ, List.getElem?_cons_zero]; rfl) (by kernel_rfl) (by kernel_rfl) (by kernel_rfl) (by exact fun _ _ _ h => h) (by kernel_rfl) (Or.inl ⟨by rfl, ?yal3p3⟩) hH ?ral3p3
        case yal3p3 => (intro w' hSw; (try dsimp only at hSw); go_simp; try with_reducible rfl)
        try simp only [Act.put, List.setIfInBounds_toArray, List.set_cons_zero, List.set_cons_succ]
        refine wpAnyE_one (i := 11) (by kernel_rfl) (by simp only [List.getElem?_toArray, List.getElem?_cons_succ, List.getElem?_cons_zero]; rfl) (fun K hK => ?_)
        rw [if_pos (by first | rfl | kernel_rfl | simp [Region.wanted, yielded])]
        have O := Lib.hid (oneR LR.at)
        have JS := Lib.hid (sizeR LR.at).2
        have Ma := VarOf.put (keepsR rr) ZB LR.at hF
        have ht := turns_setRow w3 V C
        replace K0 := K0.turn ht (fun b hb => by omega)
        clear hH
        refine wp_store_row 80 _ _ rfl V _ rfl rfl 80 #[.int .i64 0, .int .i64 0, .int .i64 0, .slice none 0 0, .slice none 0 0] ZB JS.out O.out.1.symm O.out.2 ?_
        refine hK.out _ _ ⟨K0.v0.box, K0.v1.box, K0.v2.box⟩ (fun hH => ?_)
        clear hK K
        try simp only [Act.put]
        have hEs : E ≤ (w3.setRow V C).heap.size := by rw [size_setRow]; exact hEl
        clear ZB LR ht O JS
        generalize (w3.setRow _ _ : World) = w4 at K0 Ma hEs hH  ⊢
        refine wpAnyE_end (i := 12) (by kernel_rfl) (by simp only [List.getElem?_toArray, List.getElem?_cons_succ, List.getElem?_cons_zero]; rfl) (by kernel_rfl) (fun K hK => ?_)
        go_simp
        refine hK.out _ _ ⟨K0.v0.box, K0.v1.box, K0.v2.box⟩ ?_
        clear hK K
        try simp only [Act.put, List.setIfInBounds_toArray, List.set_cons_zero, List.set_cons_succ]
        go_wp2_with fail
        go_meet
        exact ⟨V, C, _, rfl, rfl, Ma, fun b hb => Nat.lt_of_lt_of_le hb.2 hEs, hV, K0⟩
    · skip
      go_simp
      have hV := K0.v2.box.lt
      have hn := bel_alloc w3 (.cells #[.int .i64 0, .int .i64 0, .int .i64 0, .slice none 0 0, .slice none 0 0] 80)
      replace K0 := K0.later hn
      have ZB := Box.new w3 80 #[.int .i64 0, .int .i64 0, .int .i64 0, .slice none 0 0, .slice none 0 0]
      clear hn
      generalize (w3.alloc _ : World) = w4 at K0 ZB ⊢
      generalize w3.heap.size = V at hV ZB ⊢
      obtain ⟨w3, rfl⟩ : ∃ x, x = w4 := ⟨_, rfl⟩
      clear hH
      refine hK.out _ _ ⟨K0.v0.box, K0.v1.box, K0.v2.box⟩ (fun hH => ?_)
      clear hK K
      try simp only [Act.put, List.setIfInBounds_toArray, List.set_cons_zero, List.set_cons_succ]
      refine wpAnyE_one (i := 1) (by kernel_rfl) (by simp only [List.getElem?_toArray, List.getElem?_cons_succ, List.getElem?_cons_zero]; rfl) (fun K hK => ?_)
      go_simp
      refine (to_G K0.v0.dat hz0).mono ?_
      rintro e w4 ⟨D0, rfl, L0, hb⟩
      replace K0 := K0.later hb
      replace ZB := ZB.later hb ZB.lt
      obtain ⟨F0, L0⟩ : ∃ F, LieG d0 w4 F (.agg D0) := ⟨_, L0⟩
      clear hb
      obtain ⟨w3, rfl⟩ : ∃ x, x = w4 := ⟨_, rfl⟩
      clear hH
      refine hK.out _ _ ⟨K0.v0.box, K0.v1.box, K0.v2.box⟩ (fun hH => ?_)
      clear hK K
      try simp only [Act.put, List.setIfInBounds_toArray, List.set_cons_zero, List.set_cons_succ]
      refine wpAnyE_one (i := 3) (by kernel_rfl) (by simp only [List.getElem?_toArray, List.getElem?_cons_succ, List.getElem?_cons_zero]; rfl) (fun K hK => ?_)
      go_simp
      refine (to_R K0.v1.dat hz1).mono ?_
      rintro e w4 ⟨D1, rfl, L1, hb⟩
      replace K0 := K0.later hb
      replace L0 := (keepsLG d0).later L0 hb
      replace ZB := ZB.later hb ZB.lt
      obtain ⟨F1, L1⟩ : ∃ F, LieR d1 w4 F (.agg D1) := ⟨_, L1⟩
      clear hb
      obtain ⟨w3, rfl⟩ : ∃ x, x = w4 := ⟨_, rfl⟩
      clear hH
      refine hK.out _ _ ⟨K0.v0.box, K0.v1.box, K0.v2.box⟩ (fun hH => ?_)
      clear hK K
      try simp only [Act.put, List.setIfInBounds_toArray, List.set_cons_zero, List.set_cons_succ]
      refine wpAnyE_one (i := 5) (by kernel_rfl) (by simp only [List.getElem?_toArray, List.getElem?_cons_succ, List.getElem?_cons_zero]; rfl) (fun K hK => ?_)
      go_simp
      refine (to_N K0.v2.dat hz2).mono ?_
      rintro e w4 ⟨D2, rfl, L2, hb⟩
      replace K0 := K0.later hb
      replace L0 := (keepsLG d0).later L0 hb
      replace L1 := (keepsLR d1).later L1 hb
      replace ZB := ZB.later hb ZB.lt
      obtain ⟨F2, L2⟩ : ∃ F, LieN d2 w4 F (.agg D2) := ⟨_, L2⟩
      clear hb
      obtain ⟨w3, rfl⟩ : ∃ x, x = w4 := ⟨_, rfl⟩
      clear hH
      refine hK.out _ _ ⟨K0.v0.box, K0.v1.box, K0.v2.box⟩ (fun hH => ?_)
      clear hK K
      try simp only [Act.put, List.setIfInBounds_toArray, List.set_cons_zero, List.set_cons_succ]
      refine wpAnyE_one (i := 6) (by kernel_rfl) (by simp only [List.getElem?_toArray, List.getElem?_cons_succ, List.getElem?_cons_zero]; rfl) (fun K hK => ?_)
      go_simp
      have hVS := ZB.lt
      refine (specReadied8_is L0 L1 L2 hz0 hz1 hz2 HZ.out).mono ?_
      rintro e w4 ⟨C, rfl, LR, hb⟩
      replace K0 := K0.later hb
      replace ZB := ZB.later hb ZB.lt
      generalize w3.heap.size = S at LR hVS
      obtain ⟨E, hE⟩ : ∃ E, w4.heap.size = E := ⟨_, rfl⟩
      rw [hE] at LR
      have hEl : E ≤ w4.heap.size := Nat.le_of_eq hE.symm
      clear hE
      have hF : ¬ Iv S E V := iv_not (.inl hVS)
      clear hVS
      clear hb L0 L1 L2
      obtain ⟨w3, rfl⟩ : ∃ x, x = w4 := ⟨_, rfl⟩
      clear hH
      refine hK.out _ _ ⟨K0.v0.box, K0.v1.box, K0.v2.box⟩ (fun hH => ?_)
      clear hK K
      try simp only [Act.put, List.setIfInBounds_toArray, List.set_cons_zero, List.set_cons_succ]
      refine wpAnyE_pure (i := 7) (v := ?val4p1) (by simp only [List.getElem?_toArray, List.getElem?_cons_succ, List.getElem?_cons_zero]; rfl) (by kernel_rfl) (by kernel_rfl) (by kernel_rfl) (by exact fun _ _ _ h => h) (by kernel_rfl) (Or.inl ⟨by rfl, ?yal4p1⟩) hH ?ral4p1
      case yal4p1 => (intro w' hSw; (try dsimp only at hSw); go_simp; try with_reducible rfl)
      try simp only [Act.put, List.setIfInBounds_toArray, List.set_cons_zero, List.set_cons_succ]
      refine wpAnyE_pure (i := 8) (v := ?val4p2) (by simp only [List.getElem?_toArray, List.getElem?_cons_succ, List.getElem?_cons_zero]; rfl) (by kernel_rfl) (by kernel_rfl) (by kernel_rfl) (by exact fun _ _ _ h => h) (by kernel_rfl) (Or.inl ⟨by rfl, ?yal4p2⟩) hH ?ral4p2
      case yal4p2 => (intro w' hSw; (try dsimp only at hSw); go_simp; try with_reducible rfl)
      try simp only [Act.put, List.setIfInBounds_toArray, List.set_cons_zero, List.set_cons_succ]
      refine wpAnyE_pure (i := 9) (v := ?val4p3) (by simp only [List.getElem?_toArray, List.getElem?_cons_succ, List.getElem?_cons_zero]; rfl) (by kernel_rfl) (by kernel_rfl) (by kernel_rfl) (by exact fun _ _ _ h => h) (by kernel_rfl) (Or.inl ⟨by rfl, ?yal4p3⟩) hH ?ral4p3
      case yal4p3 => (intro w' hSw; (try dsimp only at hSw); go_simp; try with_reducible rfl)
      try simp only [Act.put, List.setIfInBounds_toArray, List.set_cons_zero, List.set_cons_succ]
      refine wpAnyE_one (i := 11) (by kernel_rfl) (by simp only [List.getElem?_toArray, List.getElem?_cons_succ, List.getElem?_cons_zero]; rfl) (fun K hK => ?_)
      rw [if_pos (by first | rfl | kernel_rfl | simp [Region.wanted, yielded])]
      have O := Lib.hid (oneR LR.at)
      have JS := Lib.hid (sizeR LR.at).2
      have Ma := VarOf.put (keepsR rr) ZB LR.at hF
      have ht := turns_setRow w3 V C
      replace K0 := K0.turn ht (fun b hb => by omega)
      clear hH
      refine wp_store_row 80 _ _ rfl V _ rfl rfl 80 #[.int .i64 0, .int .i64 0, .int .i64 0, .slice none 0 0, .slice none 0 0] ZB JS.out O.out.1.symm O.out.2 ?_
      refine hK.out _ _ ⟨K0.v0.box, K0.v1.box, K0.v2.box⟩ (fun hH => ?_)
      clear hK K
      try simp only [Act.put]
      have hEs : E ≤ (w3.setRow V C).heap.size := by rw [size_setRow]; exact hEl
      clear ZB LR ht O JS
      generalize (w3.setRow _ _ : World) = w4 at K0 Ma hEs hH  ⊢
      refine wpAnyE_end (i := 12) (by kernel_rfl) (by simp only [List.getElem?_toArray, List.getElem?_cons_succ, List.getElem?_cons_zero]; rfl) (by kernel_rfl) (fun K hK => ?_)
      go_simp
      refine hK.out _ _ ⟨K0.v0.box, K0.v1.box, K0.v2.box⟩ ?_
      clear hK K
      try simp only [Act.put, List.setIfInBounds_toArray, List.set_cons_zero, List.set_cons_succ]
      go_wp2_with fail
      go_meet
      exact ⟨V, C, _, rfl, rfl, Ma, fun b hb => Nat.lt_of_lt_of_le hb.2 hEs, hV, K0⟩
  case rest =>
  clear K0
  obtain ⟨VM, CM, FM, rfl, rfl, M, hFM, hV, K0⟩ := hcut
  obtain ⟨w1, rfl⟩ : ∃ x, x = wc := ⟨_, rfl⟩
  have JM := Lib.hid (sizeR M.dat).2
  -- a copy that is handed in
  go_wp2_with (refine wpList_load_box 47 _ rfl (w.heap.size) rfl 47 C0 K0.v0.box _ Tryz.underlying47 rfl I0.out (by first | rfl | simp [Region.wanted, yielded] | (simp [Region.wanted, yielded, Act.put] <;> omega)) ?_)
  refine (to_G K0.v0.dat hz0).mono ?_
  rintro e w2 ⟨D0, rfl, hL, hb⟩
  have s0 := hb.size
  have q0 := M.box.lt
  have O := Lib.hid (oneG hL.at)
  have JS := Lib.hid (sizeG hL.at).2
  have J0 := JS
  have hn := bel_new_row w2 #[.int .i64 0, .int .i64 0, .int .i64 0, .int .i64 0, .slice none 0 0] 26 D0
  have X0 := var_new_row (keepsLG d0) (Z := #[.int .i64 0, .int .i64 0, .int .i64 0, .int .i64 0, .slice none 0 0]) 26 hL (fun b hb => hb.2)
  replace M := (M.later (keepsR rr) hb).later (keepsR rr) hn
  replace K0 := (K0.later hb).later hn
  have ZB := Box.new w2 26 #[.int .i64 0, .int .i64 0, .int .i64 0, .int .i64 0, .slice none 0 0]
  generalize w1.heap.size = S0 at s0 q0 X0 hFM
  clear hb hL hn
  go_upto_region 13 with (refine wpList_store_row rfl 26 _ _ rfl w2.heap.size _ rfl rfl 26 #[.int .i64 0, .int .i64 0, .int .i64 0, .int .i64 0, .slice none 0 0] ZB JS.out O.out.1.symm O.out.2 ?_)
  clear ZB O JS
  generalize ((w2.alloc _).setRow _ _ : World) = w3 at K0 X0 M ⊢
  generalize w2.heap.size = V0 at s0 X0 ⊢
  obtain ⟨w1, rfl⟩ : ∃ x, x = w3 := ⟨_, rfl⟩
  -- a copy that is handed in
  go_wp2_with (refine wpList_load_box 73 _ rfl (w.heap.size + 1) rfl 73 C1 K0.v1.box _ Tryz.underlying73 rfl I1.out (by first | rfl | simp [Region.wanted, yielded] | (simp [Region.wanted, yielded, Act.put] <;> omega)) ?_)
  refine (to_R K0.v1.dat hz1).mono ?_
  rintro e w2 ⟨D1, rfl, hL, hb⟩
  have s1 := hb.size
  have q1 := X0.box.lt
  have O := Lib.hid (oneR hL.at)
  have JS := Lib.hid (sizeR hL.at).2
  have J1 := JS
  have hn := bel_new_row w2 #[.int .i64 0, .int .i64 0, .int .i64 0, .slice none 0 0, .slice none 0 0] 80 D1
  have X1 := var_new_row (keepsLR d1) (Z := #[.int .i64 0, .int .i64 0, .int .i64 0, .slice none 0 0, .slice none 0 0]) 80 hL (fun b hb => hb.2)
  replace X0 := (X0.later (keepsLG d0) hb).later (keepsLG d0) hn
  replace M := (M.later (keepsR rr) hb).later (keepsR rr) hn
  replace K0 := (K0.later hb).later hn
  have ZB := Box.new w2 80 #[.int .i64 0, .int .i64 0, .int .i64 0, .slice none 0 0, .slice none 0 0]
  generalize w1.heap.size = S1 at s1 q1 X1 
  clear hb hL hn
  go_upto_region 14 with (refine wpList_store_row rfl 80 _ _ rfl w2.heap.size _ rfl rfl 80 #[.int .i64 0, .int .i64 0, .int .i64 0, .slice none 0 0, .slice none 0 0] ZB JS.out O.out.1.symm O.out.2 ?_)
  clear ZB O JS
  generalize ((w2.alloc _).setRow _ _ : World) = w3 at K0 X0 X1 M ⊢
  generalize w2.heap.size = V1 at s1 X1 ⊢
  obtain ⟨w1, rfl⟩ : ∃ x, x = w3 := ⟨_, rfl⟩
  -- a copy that is handed in
  go_wp2_with (refine wpList_load_box 75 _ rfl (w.heap.size + 1 + 1) rfl 75 C2 K0.v2.box _ Tryz.underlying75 rfl I2.out (by first | rfl | simp [Region.wanted, yielded] | (simp [Region.wanted, yielded, Act.put] <;> omega)) ?_)
  refine (to_N K0.v2.dat hz2).mono ?_
  rintro e w2 ⟨D2, rfl, hL, hb⟩
  have s2 := hb.size
  have q2 := X1.box.lt
  have O := Lib.hid (oneN hL.at)
  have JS := Lib.hid (sizeN8 hL.at).2
  have J2 := JS
  have hn := bel_new_row w2 #[.int .i64 0, .int .i64 0, .int .i64 0, .int .i64 0, .int .i64 0, .int .i64 0, .int .i64 0, .int .i64 0, .int .i64 0, .int .i64 0, .int .i64 0, .slice none 0 0, .slice none 0 0, .int .i64 0, .int .i64 0, .int .i64 0] 85 D2
  have X2 := var_new_row (keepsLN d2) (Z := #[.int .i64 0, .int .i64 0, .int .i64 0, .int .i64 0, .int .i64 0, .int .i64 0, .int .i64 0, .int .i64 0, .int .i64 0, .int .i64 0, .int .i64 0, .slice none 0 0, .slice none 0 0, .int .i64 0, .int .i64 0, .int .i64 0]) 85 hL (fun b hb => hb.2)
  replace X0 := (X0.later (keepsLG d0) hb).later (keepsLG d0) hn
  replace X1 := (X1.later (keepsLR d1) hb).later (keepsLR d1) hn
  replace M := (M.later (keepsR rr) hb).later (keepsR rr) hn
  replace K0 := (K0.later hb).later hn
  have ZB := Box.new w2 85 #[.int .i64 0, .int .i64 0, .int .i64 0, .int .i64 0, .int .i64 0, .int .i64 0, .int .i64 0, .int .i64 0, .int .i64 0, .int .i64 0, .int .i64 0, .slice none 0 0, .slice none 0 0, .int .i64 0, .int .i64 0, .int .i64 0]
  generalize w1.heap.size = S2 at s2 q2 X2 
  clear hb hL hn
  go_upto_region 15 with (refine wpList_store_row rfl 85 _ _ rfl w2.heap.size _ rfl rfl 85 #[.int .i64 0, .int .i64 0, .int .i64 0, .int .i64 0, .int .i64 0, .int .i64 0, .int .i64 0, .int .i64 0, .int .i64 0, .int .i64 0, .int .i64 0, .slice none 0 0, .slice none 0 0, .int .i64 0, .int .i64 0, .int .i64 0] ZB JS.out O.out.1.symm O.out.2 ?_)
  clear ZB O JS
  generalize ((w2.alloc _).setRow _ _ : World) = w3 at K0 X0 X1 X2 M ⊢
  generalize w2.heap.size = V2 at s2 X2 ⊢
  obtain ⟨w1, rfl⟩ : ∃ x, x = w3 := ⟨_, rfl⟩
  -- the program
  have qG := X2.box.lt
  go_wp2_with (first | (refine wpList_load_box 26 _ rfl (V0) rfl 26 D0 X0.box _ Tryz.underlying26 rfl J0.out (by first | rfl | simp [Region.wanted, yielded] | (simp [Region.wanted, yielded, Act.put] <;> omega)) ?_) | (refine wpList_load_box 80 _ rfl (V1) rfl 80 D1 X1.box _ Tryz.underlying80 rfl J1.out (by first | rfl | simp [Region.wanted, yielded] | (simp [Region.wanted, yielded, Act.put] <;> omega)) ?_) | (refine wpList_load_box 85 _ rfl (V2) rfl 85 D2 X2.box _ Tryz.underlying85 rfl J2.out (by first | rfl | simp [Region.wanted, yielded] | (simp [Region.wanted, yielded, Act.put] <;> omega)) ?_))
  refine (readied8_is X0.dat X1.dat X2.dat hz0 hz1 hz2 HZ.out).mono ?_
  rintro e w2 ⟨CG, rfl, LG, hb⟩
  have sG := hb.size
  have O := Lib.hid (oneR LG.at)
  have JG := Lib.hid (sizeR LG.at).2
  have hn := bel_new_row w2 #[.int .i64 0, .int .i64 0, .int .i64 0, .slice none 0 0, .slice none 0 0] 80 CG
  have G := var_new_row (keepsLR rr) (Z := #[.int .i64 0, .int .i64 0, .int .i64 0, .slice none 0 0, .slice none 0 0]) 80 LG (fun b hb => hb.2)
  replace K0 := (K0.later hb).later hn
  replace X0 := (X0.later (keepsLG d0) hb).later (keepsLG d0) hn
  replace X1 := (X1.later (keepsLR d1) hb).later (keepsLR d1) hn
  replace X2 := (X2.later (keepsLN d2) hb).later (keepsLN d2) hn
  replace M := (M.later (keepsR rr) hb).later (keepsR rr) hn
  have ZB := Box.new w2 80 #[.int .i64 0, .int .i64 0, .int .i64 0, .slice none 0 0, .slice none 0 0]
  generalize w1.heap.size = SG at sG qG G
  clear hb LG hn
  go_upto_region 16 with (refine wpList_store_row rfl 80 _ _ rfl w2.heap.size _ rfl rfl 80 #[.int .i64 0, .int .i64 0, .int .i64 0, .slice none 0 0, .slice none 0 0] ZB JG.out O.out.1.symm O.out.2 ?_)
  clear ZB O
  generalize ((w2.alloc _).setRow _ _ : World) = w3 at K0 X0 X1 X2 M G ⊢
  generalize w2.heap.size = VG at sG G ⊢
  obtain ⟨w1, rfl⟩ : ∃ x, x = w3 := ⟨_, rfl⟩
  -- both answers are alike
  go_wp2_with (first | (refine wpList_load_box 80 _ rfl (VG) rfl 80 CG G.box _ Tryz.underlying80 rfl JG.out (by first | rfl | simp [Region.wanted, yielded] | (simp [Region.wanted, yielded, Act.put] <;> omega)) ?_) | (refine wpList_load_box 80 _ rfl (VM) rfl 80 CM M.box _ Tryz.underlying80 rfl JM.out (by first | rfl | simp [Region.wanted, yielded] | (simp [Region.wanted, yielded, Act.put] <;> omega)) ?_))
  refine (eq_R G.dat.at M.dat hq1 hq2).mono ?_
  rintro e w2 ⟨rfl, hb⟩
  replace K0 := K0.later hb
  replace X0 := X0.later (keepsLG d0) hb
  replace X1 := X1.later (keepsLR d1) hb
  replace X2 := X2.later (keepsLN d2) hb
  replace M := M.later (keepsR rr) hb
  replace G := G.later (keepsLR rr) hb
  clear hb
  obtain ⟨w1, rfl⟩ : ∃ x, x = w2 := ⟨_, rfl⟩
  -- an argument is as it was
  go_upto_region 18 with fail
  refine wp_region_sink 5 (fun w' => Box w' V0 26 D0 ∧ Box w' (w.heap.size) 47 C0) (by kernel_rfl) ⟨X0.box, K0.v0.box⟩ (fun hH => ?_)
  have hb := (Below.refl w1.heap.size w1).drew
  replace K0 := K0.later hb
  replace X0 := X0.later (keepsLG d0) hb
  replace X1 := X1.later (keepsLR d1) hb
  replace X2 := X2.later (keepsLN d2) hb
  replace M := M.later (keepsR rr) hb
  replace G := G.later (keepsLR rr) hb
  clear hb
  generalize w1.drew = w2 at K0 hH X0 X1 X2 M G ⊢
  refine wpAnyE_takeS (i := 0) (v := .agg D0) (by simp only [List.getElem?_toArray, List.getElem?_cons_zero]; rfl) (by kernel_rfl) (by kernel_rfl) (by kernel_rfl) (by exact fun _ _ _ h => h) (by kernel_rfl) ?yx0 hH ?_
  case yx0 => exact yields_box 26 _ rfl (V0) rfl 26 D0 (fun _ h => h.1) _ Tryz.underlying26 rfl J0.out (by first | rfl | simp [Region.wanted, yielded] | (simp [Region.wanted, yielded, Act.put] <;> omega))
  try simp only [Act.put, List.setIfInBounds_toArray, List.set_cons_zero, List.set_cons_succ]
  refine wpAnyE_takeS (i := 1) (v := .agg C0) (by simp only [List.getElem?_toArray, List.getElem?_cons_succ, List.getElem?_cons_zero]; rfl) (by kernel_rfl) (by kernel_rfl) (by kernel_rfl) (by exact fun _ _ _ h => h) (by kernel_rfl) ?yo0 hH ?_
  case yo0 => exact yields_box 47 _ rfl (w.heap.size) rfl 47 C0 (fun _ h => h.2) _ Tryz.underlying47 rfl I0.out (by first | rfl | simp [Region.wanted, yielded] | (simp [Region.wanted, yielded, Act.put] <;> omega))
  try simp only [Act.put, List.setIfInBounds_toArray, List.set_cons_zero, List.set_cons_succ]
  refine wpAnyE_one (i := 2) (by kernel_rfl) (by simp only [List.getElem?_toArray, List.getElem?_cons_succ, List.getElem?_cons_zero]; rfl) (fun K hK => ?_)
  go_simp
  refine (to_G K0.v0.dat hz0).mono ?_
  rintro e w3 ⟨D, rfl, L, hb⟩
  replace K0 := K0.later hb
  replace X0 := X0.later (keepsLG d0) hb
  replace X1 := X1.later (keepsLR d1) hb
  replace X2 := X2.later (keepsLN d2) hb
  replace M := M.later (keepsR rr) hb
  replace G := G.later (keepsLR rr) hb
  clear hb
  clear hH
  refine hK.out _ _ ⟨X0.box, K0.v0.box⟩ (fun hH => ?_)
  clear hK K
  try simp only [Act.put, List.setIfInBounds_toArray, List.set_cons_zero, List.set_cons_succ]
  refine wpAnyE_one (i := 3) (by kernel_rfl) (by simp only [List.getElem?_toArray, List.getElem?_cons_succ, List.getElem?_cons_zero]; rfl) (fun K hK => ?_)
  go_simp
  refine (eq_G X0.dat.at L.at hz0).mono ?_
  rintro e w4 ⟨rfl, hb⟩
  replace K0 := K0.later hb
  replace X0 := X0.later (keepsLG d0) hb
  replace X1 := X1.later (keepsLR d1) hb
  replace X2 := X2.later (keepsLN d2) hb
  replace M := M.later (keepsR rr) hb
  replace G := G.later (keepsLR rr) hb
  clear hb L
  clear hH
  refine hK.out _ _ ⟨X0.box, K0.v0.box⟩ (fun hH => ?_)
  clear hK K
  try simp only [Act.put, List.setIfInBounds_toArray, List.set_cons_zero, List.set_cons_succ]
  refine wpAnyE_end (i := 4) (by kernel_rfl) (by simp only [List.getElem?_toArray, List.getElem?_cons_succ, List.getElem?_cons_zero]; rfl) (by kernel_rfl) (fun K hK => ?_)
  go_simp
  refine hK.out _ _ ⟨X0.box, K0.v0.box⟩ ?_
  clear hK K
  try simp only [Act.put, List.setIfInBounds_toArray, List.set_cons_zero, List.set_cons_succ]
  obtain ⟨w1, rfl⟩ : ∃ x, x = w4 := ⟨_, rfl⟩
  clear hH
  -- an argument is as it was
  go_upto_region 20 with fail
  refine wp_region_sink 5 (fun w' => Box w' V1 80 D1 ∧ Box w' (w.heap.size + 1) 73 C1) (by kernel_rfl) ⟨X1.box, K0.v1.box⟩ (fun hH => ?_)
  have hb := (Below.refl w1.heap.size w1).drew
  replace K0 := K0.later hb
  replace X0 := X0.later (keepsLG d0) hb
  replace X1 := X1.later (keepsLR d1) hb
  replace X2 := X2.later (keepsLN d2) hb
  replace M := M.later (keepsR rr) hb
  replace G := G.later (keepsLR rr) hb
  clear hb
  generalize w1.drew = w2 at K0 hH X0 X1 X2 M G ⊢
  refine wpAnyE_takeS (i := 0) (v := .agg D1) (by simp only [List.getElem?_toArray, List.getElem?_cons_zero]; rfl) (by kernel_rfl) (by kernel_rfl) (by kernel_rfl) (by exact fun _ _ _ h => h) (by kernel_rfl) ?yx1 hH ?_
  case yx1 => exact yields_box 80 _ rfl (V1) rfl 80 D1 (fun _ h => h.1) _ Tryz.underlying80 rfl J1.out (by first | rfl | simp [Region.wanted, yielded] | (simp [Region.wanted, yielded, Act.put] <;> omega))
  try simp only [Act.put, List.setIfInBounds_toArray, List.set_cons_zero, List.set_cons_succ]
  refine wpAnyE_takeS (i := 1) (v := .agg C1) (by simp only [List.getElem?_toArray, List.getElem?_cons_succ, List.getElem?_cons_zero]; rfl) (by kernel_rfl) (by kernel_rfl) (by kernel_rfl) (by exact fun _ _ _ h => h) (by kernel_rfl) ?yo1 hH ?_
  case yo1 => exact yields_box 73 _ rfl (w.heap.size + 1) rfl 73 C1 (fun _ h => h.2) _ Tryz.underlying73 rfl I1.out (by first | rfl | simp [Region.wanted, yielded] | (simp [Region.wanted, yielded, Act.put] <;> omega))
  try simp only [Act.put, List.setIfInBounds_toArray, List.set_cons_zero, List.set_cons_succ]
  refine wpAnyE_one (i := 2) (by kernel_rfl) (by simp only [List.getElem?_toArray, List.getElem?_cons_succ, List.getElem?_cons_zero]; rfl) (fun K hK => ?_)
  go_simp
  refine (to_R K0.v1.dat hz1).mono ?_
  rintro e w3 ⟨D, rfl, L, hb⟩
  replace K0 := K0.later hb
  replace X0 := X0.later (keepsLG d0) hb
  replace X1 := X1.later (keepsLR d1) hb
  replace X2 := X2.later (keepsLN d2) hb
  replace M := M.later (keepsR rr) hb
  replace G := G.later (keepsLR rr) hb
  clear hb
  clear hH
  refine hK.out _ _ ⟨X1.box, K0.v1.box⟩ (fun hH => ?_)
  clear hK K
  try simp only [Act.put, List.setIfInBounds_toArray, List.set_cons_zero, List.set_cons_succ]
  refine wpAnyE_one (i := 3) (by kernel_rfl) (by simp only [List.getElem?_toArray, List.getElem?_cons_succ, List.getElem?_cons_zero]; rfl) (fun K hK => ?_)
  go_simp
  refine (eqd_R X1.dat.at L.at hz1).mono ?_
  rintro e w4 ⟨rfl, hb⟩
  replace K0 := K0.later hb
  replace X0 := X0.later (keepsLG d0) hb
  replace X1 := X1.later (keepsLR d1) hb
  replace X2 := X2.later (keepsLN d2) hb
  replace M := M.later (keepsR rr) hb
  replace G := G.later (keepsLR rr) hb
  clear hb L
  clear hH
  refine hK.out _ _ ⟨X1.box, K0.v1.box⟩ (fun hH => ?_)
  clear hK K
  try simp only [Act.put, List.setIfInBounds_toArray, List.set_cons_zero, List.set_cons_succ]
  refine wpAnyE_end (i := 4) (by kernel_rfl) (by simp only [List.getElem?_toArray, List.getElem?_cons_succ, List.getElem?_cons_zero]; rfl) (by kernel_rfl) (fun K hK => ?_)
  go_simp
  refine hK.out _ _ ⟨X1.box, K0.v1.box⟩ ?_
  clear hK K
  try simp only [Act.put, List.setIfInBounds_toArray, List.set_cons_zero, List.set_cons_succ]
  obtain ⟨w1, rfl⟩ : ∃ x, x = w4 := ⟨_, rfl⟩
  clear hH
  -- an argument is as it was
  go_upto_region 22 with fail
  refine wp_region_sink 5 (fun w' => Box w' V2 85 D2 ∧ Box w' (w.heap.size + 1 + 1) 75 C2) (by kernel_rfl) ⟨X2.box, K0.v2.box⟩ (fun hH => ?_)
  have hb := (Below.refl w1.heap.size w1).drew
  replace K0 := K0.later hb
  replace X0 := X0.later (keepsLG d0) hb
  replace X1 := X1.later (keepsLR d1) hb
  replace X2 := X2.later (keepsLN d2) hb
  replace M := M.later (keepsR rr) hb
  replace G := G.later (keepsLR rr) hb
  clear hb
  generalize w1.drew = w2 at K0 hH X0 X1 X2 M G ⊢
  refine wpAnyE_takeS (i := 0) (v := .agg D2) (by simp only [List.getElem?_toArray, List.getElem?_cons_zero]; rfl) (by kernel_rfl) (by kernel_rfl) (by kernel_rfl) (by exact fun _ _ _ h => h) (by kernel_rfl) ?yx2 hH ?_
  case yx2 => exact yields_box 85 _ rfl (V2) rfl 85 D2 (fun _ h => h.1) _ Tryz.underlying85 rfl J2.out (by first | rfl | simp [Region.wanted, yielded] | (simp [Region.wanted, yielded, Act.put] <;> omega))
  try simp only [Act.put, List.setIfInBounds_toArray, List.set_cons_zero, List.set_cons_succ]
  refine wpAnyE_takeS (i := 1) (v := .agg C2) (by simp only [List.getElem?_toArray, List.getElem?_cons_succ, List.getElem?_cons_zero]; rfl) (by kernel_rfl) (by kernel_rfl) (by kernel_rfl) (by exact fun _ _ _ h => h) (by kernel_rfl) ?yo2 hH ?_
  case yo2 => exact yields_box 75 _ rfl (w.heap.size + 1 + 1) rfl 75 C2 (fun _ h => h.2) _ Tryz.underlying75 rfl I2.out (by first | rfl | simp [Region.wanted, yielded] | (simp [Region.wanted, yielded, Act.put] <;> omega))
  try simp only [Act.put, List.setIfInBounds_toArray, List.set_cons_zero, List.set_cons_succ]
  refine wpAnyE_one (i := 2) (by kernel_rfl) (by simp only [List.getElem?_toArray, List.getElem?_cons_succ, List.getElem?_cons_zero]; rfl) (fun K hK => ?_)
  go_simp
  refine (to_N K0.v2.dat hz2).mono ?_
  rintro e w3 ⟨D, rfl, L, hb⟩
  replace K0 := K0.later hb
  replace X0 := X0.later (keepsLG d0) hb
  replace X1 := X1.later (keepsLR d1) hb
  replace X2 := X2.later (keepsLN d2) hb
  replace M := M.later (keepsR rr) hb
  replace G := G.later (keepsLR rr) hb
  clear hb
  clear hH
  refine hK.out _ _ ⟨X2.box, K0.v2.box⟩ (fun hH => ?_)
  clear hK K
  try simp only [Act.put, List.setIfInBounds_toArray, List.set_cons_zero, List.set_cons_succ]
  refine wpAnyE_one (i := 3) (by kernel_rfl) (by simp only [List.getElem?_toArray, List.getElem?_cons_succ, List.getElem?_cons_zero]; rfl) (fun K hK => ?_)
  go_simp
  refine (eq_N X2.dat.at L.at hz2).mono ?_
  rintro e w4 ⟨rfl, hb⟩
  replace K0 := K0.later hb
  replace X0 := X0.later (keepsLG d0) hb
  replace X1 := X1.later (keepsLR d1) hb
  replace X2 := X2.later (keepsLN d2) hb
  replace M := M.later (keepsR rr) hb
  replace G := G.later (keepsLR rr) hb
  clear hb L
  clear hH
  refine hK.out _ _ ⟨X2.box, K0.v2.box⟩ (fun hH => ?_)
  clear hK K
  try simp only [Act.put, List.setIfInBounds_toArray, List.set_cons_zero, List.set_cons_succ]
  refine wpAnyE_end (i := 4) (by kernel_rfl) (by simp only [List.getElem?_toArray, List.getElem?_cons_succ, List.getElem?_cons_zero]; rfl) (by kernel_rfl) (fun K hK => ?_)
  go_simp
  refine hK.out _ _ ⟨X2.box, K0.v2.box⟩ ?_
  clear hK K
  try simp only [Act.put, List.setIfInBounds_toArray, List.set_cons_zero, List.set_cons_succ]
  obtain ⟨w1, rfl⟩ : ∃ x, x = w4 := ⟨_, rfl⟩
  clear hH
  -- the marks
  go_wp2_with (refine wpList_load_box 26 _ rfl (V0) rfl 26 D0 X0.box _ Tryz.underlying26 rfl J0.out (by first | rfl | simp [Region.wanted, yielded] | (simp [Region.wanted, yielded, Act.put] <;> omega)) ?_)
  refine (mark_G (k := 1) X0.dat hz0 (by omega) (by omega)).mono ?_
  rintro e w2 ⟨rfl, ht⟩
  replace K0 := K0.turn ht (fun b hb => by have := hb.1; omega)
  replace X1 := X1.turn (keepsLR d1) ht (iv_not (.inr (by omega))) (iv_far (.inr (by omega)))
  replace X2 := X2.turn (keepsLN d2) ht (iv_not (.inr (by omega))) (iv_far (.inr (by omega)))
  replace M := M.turn (keepsR rr) ht (iv_not (.inl (by omega))) (fun b hb hi => by have := hFM b hb; have := hi.1; omega)
  replace G := G.turn (keepsLR rr) ht (iv_not (.inr (by omega))) (iv_far (.inr (by omega)))
  clear ht X0
  obtain ⟨w1, rfl⟩ : ∃ x, x = w2 := ⟨_, rfl⟩
  go_wp2_with (refine wpList_load_box 80 _ rfl (V1) rfl 80 D1 X1.box _ Tryz.underlying80 rfl J1.out (by first | rfl | simp [Region.wanted, yielded] | (simp [Region.wanted, yielded, Act.put] <;> omega)) ?_)
  refine (mark_R (k := 1 + d0.mk8) X1.dat hz1 (by omega) (by omega)).mono ?_
  rintro e w2 ⟨rfl, ht⟩
  replace K0 := K0.turn ht (fun b hb => by have := hb.1; omega)
  replace X2 := X2.turn (keepsLN d2) ht (iv_not (.inr (by omega))) (iv_far (.inr (by omega)))
  replace M := M.turn (keepsR rr) ht (iv_not (.inl (by omega))) (fun b hb hi => by have := hFM b hb; have := hi.1; omega)
  replace G := G.turn (keepsLR rr) ht (iv_not (.inr (by omega))) (iv_far (.inr (by omega)))
  clear ht X1
  obtain ⟨w1, rfl⟩ : ∃ x, x = w2 := ⟨_, rfl⟩
  go_wp2_with (refine wpList_load_box 85 _ rfl (V2) rfl 85 D2 X2.box _ Tryz.underlying85 rfl J2.out (by first | rfl | simp [Region.wanted, yielded] | (simp [Region.wanted, yielded, Act.put] <;> omega)) ?_)
  refine (mark_N (k := 1 + d0.mk8 + d1.mk8) X2.dat hz2 (by omega) (by omega)).mono ?_
  rintro e w2 ⟨rfl, ht⟩
  replace K0 := K0.turn ht (fun b hb => by have := hb.1; omega)
  replace M := M.turn (keepsR rr) ht (iv_not (.inl (by omega))) (fun b hb hi => by have := hFM b hb; have := hi.1; omega)
  replace G := G.turn (keepsLR rr) ht (iv_not (.inr (by omega))) (iv_far (.inr (by omega)))
  clear ht X2
  obtain ⟨w1, rfl⟩ : ∃ x, x = w2 := ⟨_, rfl⟩
  have hk : ¬ (1 + d0.mk8 + d1.mk8 + d2.mk8 < 0) := by omega
  go_wp2_with (first | (refine wpList_load_box 80 _ rfl (VG) rfl 80 CG G.box _ Tryz.underlying80 rfl JG.out (by first | rfl | simp [Region.wanted, yielded] | (simp [Region.wanted, yielded, Act.put] <;> omega)) ?_) | (refine wpList_load_box 80 _ rfl (VM) rfl 80 CM M.box _ Tryz.underlying80 rfl JM.out (by first | rfl | simp [Region.wanted, yielded] | (simp [Region.wanted, yielded, Act.put] <;> omega)) ?_))
  refine (eq_R G.dat.at M.dat hq1 hq2).mono ?_
  rintro e w2 ⟨rfl, hb⟩
  replace K0 := K0.later hb
  replace M := M.later (keepsR rr) hb
  replace G := G.later (keepsLR rr) hb
  clear hb
  obtain ⟨w1, rfl⟩ : ∃ x, x = w2 := ⟨_, rfl⟩
  go_wp2_with (refine wpList_load_box 80 _ rfl (VG) rfl 80 CG G.box _ Tryz.underlying80 rfl JG.out (by first | rfl | simp [Region.wanted, yielded] | (simp [Region.wanted, yielded, Act.put] <;> omega)) ?_)
  refine (markd_R (k := 1) G.dat (by omega) (by omega) (by omega) (by omega)).mono ?_
  rintro e w2 ⟨rfl, ht, r', hm, LG⟩
  replace K0 := K0.turn ht (fun b hb => by have := hb.1; omega)
  replace M := M.turn (keepsR rr) ht (iv_not (.inl (by omega))) (fun b hb hi => by have := hFM b hb; have := hi.1; omega)
  have G2 : VarOf (LieR r') 80 w2 (Iv SG VG) VG CG := ⟨G.box.turn ht (iv_not (.inr (Nat.le_refl _))), G.far, LG⟩
  clear ht LG G hk
  have HM := Lib.hid hm
  clear hm
  obtain ⟨w1, rfl⟩ : ∃ x, x = w2 := ⟨_, rfl⟩
  have mr := mkb2_R (d := rr) (by omega) (by omega)
  have hk : ¬ (1 + rr.mk8 < 0) := by omega
  have hqq : (1 + rr.mk8 != 1 + rr.mk8) = false := by simp
  go_wp2_with (refine wpList_load_box 80 _ rfl (VG) rfl 80 CG G2.box _ Tryz.underlying80 rfl JG.out (by first | rfl | simp [Region.wanted, yielded] | (simp [Region.wanted, yielded, Act.put] <;> omega)) ?_)
  refine (held_R (k := 1) G2.dat HM.out (by omega) (by omega) (by omega) (by omega)).mono ?_
  rintro e w2 ⟨rfl, hb⟩
  replace K0 := K0.later hb
  replace M := M.later (keepsR rr) hb
  replace G2 := G2.later (keepsLR r') hb
  clear hb
  obtain ⟨w1, rfl⟩ : ∃ x, x = w2 := ⟨_, rfl⟩
  go_upto_region 38 with fail
  -- again
  go_cut [18, 19] (fun pv sv wr => ∃ (V : Nat) (C : Array Value) (F : Nat → Prop), pv = .pointer (some ⟨V, 0, none⟩) ∧ sv = .int .i64 z ∧ VarOf (AtR rr) 80 wr F V C ∧ PreRdd w wr C0 C1 C2 d0 d1 d2 ∧ VarOf (AtR rr) 80 wr FM VM CM ∧ VarOf (LieR r') 80 wr (Iv SG VG) VG CG)
  case first =>
    refine wp_region_sink 13 (fun w' => Box w' (w.heap.size) 47 C0 ∧ Box w' (w.heap.size + 1) 73 C1 ∧ Box w' (w.heap.size + 1 + 1) 75 C2) (by kernel_rfl) ⟨K0.v0.box, K0.v1.box, K0.v2.box⟩ (fun hH => ?_)
    have hb := (Below.refl w1.heap.size w1).drew
    replace K0 := K0.later hb
    replace M := M.later (keepsR rr) hb
    replace G2 := G2.later (keepsLR r') hb
    clear hb
    generalize w1.drew = w3 at K0 M G2 hH ⊢
    refine wpAnyE_takeS (i := 0) (v := .agg C0) (by simp only [List.getElem?_toArray, List.getElem?_cons_zero]; rfl) (by kernel_rfl) (by kernel_rfl) (by kernel_rfl) (by exact fun _ _ _ h => h) (by kernel_rfl) ?yb0 hH ?_
    case yb0 => exact yields_box 47 _ rfl (w.heap.size) rfl 47 C0 (fun _ h => h.1) _ Tryz.underlying47 rfl I0.out (by first | rfl | simp [Region.wanted, yielded] | (simp [Region.wanted, yielded, Act.put] <;> omega))
    try simp only [Act.put, List.setIfInBounds_toArray, List.set_cons_zero, List.set_cons_succ]
    refine wpAnyE_takeS (i := 2) (v := .agg C1) (by simp only [List.getElem?_toArray, List.getElem?_cons_succ, List.getElem?_cons_zero]; rfl) (by kernel_rfl) (by kernel_rfl) (by kernel_rfl) (by exact fun _ _ _ h => h) (by kernel_rfl) ?yb1 hH ?_
    case yb1 => exact yields_box 73 _ rfl (w.heap.size + 1) rfl 73 C1 (fun _ h => h.2.1) _ Tryz.underlying73 rfl I1.out (by first | rfl | simp [Region.wanted, yielded] | (simp [Region.wanted, yielded, Act.put] <;> omega))
    try simp only [Act.put, List.setIfInBounds_toArray, List.set_cons_zero, List.set_cons_succ]
    refine wpAnyE_takeS (i := 4) (v := .agg C2) (by simp only [List.getElem?_toArray, List.getElem?_cons_succ, List.getElem?_cons_zero]; rfl) (by kernel_rfl) (by kernel_rfl) (by kernel_rfl) (by exact fun _ _ _ h => h) (by kernel_rfl) ?yb2 hH ?_
    case yb2 => exact yields_box 75 _ rfl (w.heap.size + 1 + 1) rfl 75 C2 (fun _ h => h.2.2) _ Tryz.underlying75 rfl I2.out (by first | rfl | simp [Region.wanted, yielded] | (simp [Region.wanted, yielded, Act.put] <;> omega))
    try simp only [Act.put, List.setIfInBounds_toArray, List.set_cons_zero, List.set_cons_succ]
    refine wpAnyE_two (i := 1) (j := 10) (by kernel_rfl) (by simp only [List.getElem?_toArray, List.getElem?_cons_succ, List.getElem?_cons_zero]; rfl) (by simp only [List.getElem?_toArray, List.getElem?_cons_succ, List.getElem?_cons_zero]; rfl) (fun K hK => ?_) (fun K hK => ?_)
    · skip
      go_simp
      refine (to_G K0.v0.dat hz0).mono ?_
      rintro e w4 ⟨D0, rfl, L0, hb⟩
      replace K0 := K0.later hb
      replace M := M.later (keepsR rr) hb
      replace G2 := G2.later (keepsLR r') hb
      obtain ⟨F0, L0⟩ : ∃ F, LieG d0 w4 F (.agg D0) := ⟨_, L0⟩
      clear hb
      obtain ⟨w3, rfl⟩ : ∃ x, x = w4 := ⟨_, rfl⟩
      clear hH
      refine hK.out _ _ ⟨K0.v0.box, K0.v1.box, K0.v2.box⟩ (fun hH => ?_)
      clear hK K
      try simp only [Act.put, List.setIfInBounds_toArray, List.set_cons_zero, List.set_cons_succ]
      refine wpAnyE_two (i := 3) (j := 10) (by kernel_rfl) (by simp only [List.getElem?_toArray, List.getElem?_cons_succ, List.getElem?_cons_zero]; rfl) (by simp only [List.getElem?_toArray, List.getElem?_cons_succ, List.getElem?_cons_zero]; rfl) (fun K hK => ?_) (fun K hK => ?_)
      · skip
        go_simp
        refine (to_R K0.v1.dat hz1).mono ?_
        rintro e w4 ⟨D1, rfl, L1, hb⟩
        replace K0 := K0.later hb
        replace L0 := (keepsLG d0).later L0 hb
        replace M := M.later (keepsR rr) hb
        replace G2 := G2.later (keepsLR r') hb
        obtain ⟨F1, L1⟩ : ∃ F, LieR d1 w4 F (.agg D1) := ⟨_, L1⟩
        clear hb
        obtain ⟨w3, rfl⟩ : ∃ x, x = w4 := ⟨_, rfl⟩
        clear hH
        refine hK.out _ _ ⟨K0.v0.box, K0.v1.box, K0.v2.box⟩ (fun hH => ?_)
        clear hK K
        try simp only [Act.put, List.setIfInBounds_toArray, List.set_cons_zero, List.set_cons_succ]
        refine wpAnyE_two (i := 5) (j := 10) (by kernel_rfl) (by simp only [List.getElem?_toArray, List.getElem?_cons_succ, List.getElem?_cons_zero]; rfl) (by simp only [List.getElem?_toArray, List.getElem?_cons_succ, List.getElem?_cons_zero]; rfl) (fun K hK => ?_) (fun K hK => ?_)
        · skip
          go_simp
          refine (to_N K0.v2.dat hz2).mono ?_
          rintro e w4 ⟨D2, rfl, L2, hb⟩
          replace K0 := K0.later hb
          replace L0 := (keepsLG d0).later L0 hb
          replace L1 := (keepsLR d1).later L1 hb
          replace M := M.later (keepsR rr) hb
          replace G2 := G2.later (keepsLR r') hb
          obtain ⟨F2, L2⟩ : ∃ F, LieN d2 w4 F (.agg D2) := ⟨_, L2⟩
          clear hb
          obtain ⟨w3, rfl⟩ : ∃ x, x = w4 := ⟨_, rfl⟩
          clear hH
          refine hK.out _ _ ⟨K0.v0.box, K0.v1.box, K0.v2.box⟩ (fun hH => ?_)
          clear hK K
          try simp only [Act.put, List.setIfInBounds_toArray, List.set_cons_zero, List.set_cons_succ]
          refine wpAnyE_two (i := 6) (j := 10) (by kernel_rfl) (by simp only [List.getElem?_toArray, List.getElem?_cons_succ, List.getElem?_cons_zero]; rfl) (by simp only [List.getElem?_toArray, List.getElem?_cons_succ, List.getElem?_cons_zero]; rfl) (fun K hK => ?_) (fun K hK => ?_)
          · skip
            go_simp
            refine (readied8_is L0 L1 L2 hz0 hz1 hz2 HZ.out).mono ?_
            rintro e w4 ⟨C, rfl, LR, hb⟩
            replace K0 := K0.later hb
            replace M := M.later (keepsR rr) hb
            replace G2 := G2.later (keepsLR r') hb
            generalize w3.heap.size = S at LR
            obtain ⟨E, hE⟩ : ∃ E, w4.heap.size = E := ⟨_, rfl⟩
            rw [hE] at LR
            have hEl : E ≤ w4.heap.size := Nat.le_of_eq hE.symm
            clear hE
            clear hb L0 L1 L2
            obtain ⟨w3, rfl⟩ : ∃ x, x = w4 := ⟨_, rfl⟩
            clear hH
            refine hK.out _ _ ⟨K0.v0.box, K0.v1.box, K0.v2.box⟩ (fun hH => ?_)
            clear hK K
            try simp only [Act.put, List.setIfInBounds_toArray, List.set_cons_zero, List.set_cons_succ]
            refine wpAnyE_pure (i := 7) (v := ?vbl0p1) (by simp only [List.getElem?_toArray, List.getElem?_cons_succ, List.getElem?_cons_zero]; rfl) (by kernel_rfl) (by kernel_rfl) (by kernel_rfl) (by exact fun _ _ _ h => h) (by kernel_rfl) (Or.inl ⟨by rfl, ?ybl0p1⟩) hH ?rbl0p1
            case ybl0p1 => (intro w' hSw; (try dsimp only at hSw); go_simp; try with_reducible rfl)
            try simp only [Act.put, List.setIfInBounds_toArray, List.set_cons_zero, List.set_cons_succ]
            refine wpAnyE_pure (i := 8) (v := ?vbl0p2) (by simp only [List.getElem?_toArray, List.getElem?_cons_succ, List.getElem?_cons_zero]; rfl) (by kernel_rfl) (by kernel_rfl) (by kernel_rfl) (by exact fun _ _ _ h => h) (by kernel_rfl) (Or.inl ⟨by rfl, ?ybl0p2⟩) hH ?rbl0p2
            case ybl0p2 => (intro w' hSw; (try dsimp only at hSw); go_simp; try with_reducible rfl)
            try simp only [Act.put, List.setIfInBounds_toArray, List.set_cons_zero, List.set_cons_succ]
            refine wpAnyE_pure (i := 9) (v := ?vbl0p3) (by simp only [List.getElem?_toArray, List.getElem?_cons_succ, List.getElem?_cons_zero]; rfl) (by kernel_rfl) (by kernel_rfl) (by kernel_rfl) (by exact fun _ _ _ h => h) (by kernel_rfl) (Or.inl ⟨by rfl, ?ybl0p3⟩) hH ?rbl0p3
            case ybl0p3 => (intro w' hSw; (try dsimp only at hSw); go_simp; try with_reducible rfl)
            try simp only [Act.put, List.setIfInBounds_toArray, List.set_cons_zero, List.set_cons_succ]
            refine wpAnyE_one (i := 10) (by kernel_rfl) (by simp only [List.getElem?_toArray, List.getElem?_cons_succ, List.getElem?_cons_zero]; rfl) (fun K hK => ?_)
            go_simp
            have hV := G2.box.lt
            have hn := bel_alloc w3 (.cells #[.int .i64 0, .int .i64 0, .int .i64 0, .slice none 0 0, .slice none 0 0] 80)
            replace K0 := K0.later hn
            replace M := M.later (keepsR rr) hn
            replace G2 := G2.later (keepsLR r') hn
            have ZB := Box.new w3 80 #[.int .i64 0, .int .i64 0, .int .i64 0, .slice none 0 0, .slice none 0 0]
            have hF : ¬ Iv S E w3.heap.size := iv_not (.inr hEl)
            replace LR := (keepsLR rr).later LR hn
            replace hEl := Nat.le_trans hEl hn.size
            clear hn
            generalize (w3.alloc _ : World) = w4 at K0 M G2 ZB LR hEl ⊢
            generalize w3.heap.size = V at hV ZB hF ⊢
            obtain ⟨w3, rfl⟩ : ∃ x, x = w4 := ⟨_, rfl⟩
            clear hH
            refine hK.out _ _ ⟨K0.v0.box, K0.v1.box, K0.v2.box⟩ (fun hH => ?_)
            clear hK K
            try simp only [Act.put, List.setIfInBounds_toArray, List.set_cons_zero, List.set_cons_succ]
            refine wpAnyE_one (i := 11) (by kernel_rfl) (by simp only [List.getElem?_toArray, List.getElem?_cons_succ, List.getElem?_cons_zero]; rfl) (fun K hK => ?_)
            rw [if_pos (by first | rfl | kernel_rfl | simp [Region.wanted, yielded])]
            have O := Lib.hid (oneR LR.at)
            have JS := Lib.hid (sizeR LR.at).2
            have Mb := VarOf.put (keepsR rr) ZB LR.at hF
            have ht := turns_setRow w3 V C
            replace K0 := K0.turn ht (fun b hb => by omega)
            replace M := M.turn (keepsR rr) ht (by omega) (fun b hb e => by have := hFM b hb; omega)
            replace G2 := G2.turn (keepsLR r') ht (by omega) (fun b hb e => by have := hb.2; omega)
            clear hH
            refine wp_store_row 80 _ _ rfl V _ rfl rfl 80 #[.int .i64 0, .int .i64 0, .int .i64 0, .slice none 0 0, .slice none 0 0] ZB JS.out O.out.1.symm O.out.2 ?_
            refine hK.out _ _ ⟨K0.v0.box, K0.v1.box, K0.v2.box⟩ (fun hH => ?_)
            clear hK K
            try simp only [Act.put]
            have hEs : E ≤ (w3.setRow V C).heap.size := by rw [size_setRow]; exact hEl
            clear ZB LR ht O JS
            generalize (w3.setRow _ _ : World) = w4 at K0 Mb hEs hH M G2 ⊢
            refine wpAnyE_end (i := 12) (by kernel_rfl) (by simp only [List.getElem?_toArray, List.getElem?_cons_succ, List.getElem?_cons_zero]; rfl) (by kernel_rfl) (fun K hK => ?_)
            go_simp
            refine hK.out _ _ ⟨K0.v0.box, K0.v1.box, K0.v2.box⟩ ?_
            clear hK K
            try simp only [Act.put, List.setIfInBounds_toArray, List.set_cons_zero, List.set_cons_succ]
            go_wp2_with fail
            go_meet
            exact ⟨V, C, _, rfl, rfl, Mb, K0, M, G2⟩
          · skip
            go_simp
            have hV := G2.box.lt
            have hn := bel_alloc w3 (.cells #[.int .i64 0, .int .i64 0, .int .i64 0, .slice none 0 0, .slice none 0 0] 80)
            replace K0 := K0.later hn
            replace L0 := (keepsLG d0).later L0 hn
            replace L1 := (keepsLR d1).later L1 hn
            replace L2 := (keepsLN d2).later L2 hn
            replace M := M.later (keepsR rr) hn
            replace G2 := G2.later (keepsLR r') hn
            have ZB := Box.new w3 80 #[.int .i64 0, .int .i64 0, .int .i64 0, .slice none 0 0, .slice none 0 0]
            clear hn
            generalize (w3.alloc _ : World) = w4 at K0 L0 L1 L2 M G2 ZB ⊢
            generalize w3.heap.size = V at hV ZB ⊢
            obtain ⟨w3, rfl⟩ : ∃ x, x = w4 := ⟨_, rfl⟩
            clear hH
            refine hK.out _ _ ⟨K0.v0.box, K0.v1.box, K0.v2.box⟩ (fun hH => ?_)
            clear hK K
            try simp only [Act.put, List.setIfInBounds_toArray, List.set_cons_zero, List.set_cons_succ]
            refine wpAnyE_one (i := 6) (by kernel_rfl) (by simp only [List.getElem?_toArray, List.getElem?_cons_succ, List.getElem?_cons_zero]; rfl) (fun K hK => ?_)
            go_simp
            have hVS := ZB.lt
            refine (readied8_is L0 L1 L2 hz0 hz1 hz2 HZ.out).mono ?_
            rintro e w4 ⟨C, rfl, LR, hb⟩
            replace K0 := K0.later hb
            replace M := M.later (keepsR rr) hb
            replace G2 := G2.later (keepsLR r') hb
            replace ZB := ZB.later hb ZB.lt
            generalize w3.heap.size = S at LR hVS
            obtain ⟨E, hE⟩ : ∃ E, w4.heap.size = E := ⟨_, rfl⟩
            rw [hE] at LR
            have hEl : E ≤ w4.heap.size := Nat.le_of_eq hE.symm
            clear hE
            have hF : ¬ Iv S E V := iv_not (.inl hVS)
            clear hVS
            clear hb L0 L1 L2
            obtain ⟨w3, rfl⟩ : ∃ x, x = w4 := ⟨_, rfl⟩
            clear hH
            refine hK.out _ _ ⟨K0.v0.box, K0.v1.box, K0.v2.box⟩ (fun hH => ?_)
            clear hK K
            try simp only [Act.put, List.setIfInBounds_toArray, List.set_cons_zero, List.set_cons_succ]
            refine wpAnyE_pure (i := 7) (v := ?vbl1p1) (by simp only [List.getElem?_toArray, List.getElem?_cons_succ, List.getElem?_cons_zero]; rfl) (by kernel_rfl) (by kernel_rfl) (by kernel_rfl) (by exact fun _ _ _ h => h) (by kernel_rfl) (Or.inl ⟨by rfl, ?ybl1p1⟩) hH ?rbl1p1
            case ybl1p1 => (intro w' hSw; (try dsimp only at hSw); go_simp; try with_reducible rfl)
            try simp only [Act.put, List.setIfInBounds_toArray, List.set_cons_zero, List.set_cons_succ]
            refine wpAnyE_pure (i := 8) (v := ?vbl1p2) (by simp only [List.getElem?_toArray, List.getElem?_cons_succ, List.getElem?_cons_zero]; rfl) (by kernel_rfl) (by kernel_rfl) (by kernel_rfl) (by exact fun _ _ _ h => h) (by kernel_rfl) (Or.inl ⟨by rfl, ?ybl1p2⟩) hH ?rbl1p2
            case ybl1p2 => (intro w' hSw; (try dsimp only at hSw); go_simp; try with_reducible rfl)
            try simp only [Act.put, List.setIfInBounds_toArray, List.set_cons_zero, List.set_cons_succ]
            refine wpAnyE_pure (i := 9) (v := ?vbl1p3) (by simp only [List.getElem?_toArray, List.getElem?_cons_succ, List.getElem?_cons_zero]; rfl) (by kernel_rfl) (by kernel_rfl) (by kernel_rfl) (by exact fun _ _ _ h => h) (by kernel_rfl) (Or.inl ⟨by rfl, ?ybl1p3⟩) hH ?rbl1p3
            case ybl1p3 => (intro w' hSw; (try dsimp only at hSw); go_simp; try with_reducible rfl)
            try simp only [Act.put, List.setIfInBounds_toArray, List.set_cons_zero, List.set_cons_succ]
            refine wpAnyE_one (i := 11) (by kernel_rfl) (by simp only [List.getElem?_toArray, List.getElem?_cons_succ, List.getElem?_cons_zero]; rfl) (fun K hK => ?_)
            rw [if_pos (by first | rfl | kernel_rfl | simp [Region.wanted, yielded])]
            have O := Lib.hid (oneR LR.at)
            have JS := Lib.hid (sizeR LR.at).2
            have Mb := VarOf.put (keepsR rr) ZB LR.at hF
            have ht := turns_setRow w3 V C
            replace K0 := K0.turn ht (fun b hb => by omega)
            replace M := M.turn (keepsR rr) ht (by omega) (fun b hb e => by have := hFM b hb; omega)
            replace G2 := G2.turn (keepsLR r') ht (by omega) (fun b hb e => by have := hb.2; omega)
            clear hH
            refine wp_store_row 80 _ _ rfl V _ rfl rfl 80 #[.int .i64 0, .int .i64 0, .int .i64 0, .slice none 0 0, .slice none 0 0] ZB JS.out O.out.1.symm O.out.2 ?_
            refine hK.out _ _ ⟨K0.v0.box, K0.v1.box, K0.v2.box⟩ (fun hH => ?_)
            clear hK K
            try simp only [Act.put]
            have hEs : E ≤ (w3.setRow V C).heap.size := by rw [size_setRow]; exact hEl
            clear ZB LR ht O JS
            generalize (w3.setRow _ _ : World) = w4 at K0 Mb hEs hH M G2 ⊢
            refine wpAnyE_end (i := 12) (by kernel_rfl) (by simp only [List.getElem?_toArray, List.getElem?_cons_succ, List.getElem?_cons_zero]; rfl) (by kernel_rfl) (fun K hK => ?_)
            go_simp
            refine hK.out _ _ ⟨K0.v0.box, K0.v1.box, K0.v2.box⟩ ?_
            clear hK K
            try simp only [Act.put, List.setIfInBounds_toArray, List.set_cons_zero, List.set_cons_succ]
            go_wp2_with fail
            go_meet
            exact ⟨V, C, _, rfl, rfl, Mb, K0, M, G2⟩
        · skip
          go_simp
          have hV := G2.box.lt
          have hn := bel_alloc w3 (.cells #[.int .i64 0, .int .i64 0, .int .i64 0, .slice none 0 0, .slice none 0 0] 80)
          replace K0 := K0.later hn
          replace L0 := (keepsLG d0).later L0 hn
          replace L1 := (keepsLR d1).later L1 hn
          replace M := M.later (keepsR rr) hn
          replace G2 := G2.later (keepsLR r') hn
          have ZB := Box.new w3 80 #[.int .i64 0, .int .i64 0, .int .i64 0, .slice none 0 0, .slice none 0 0]
          clear hn
          generalize (w3.alloc _ : World) = w4 at K0 L0 L1 M G2 ZB ⊢
          generalize w3.heap.size = V at hV ZB ⊢
          obtain ⟨w3, rfl⟩ : ∃ x, x = w4 := ⟨_, rfl⟩
          clear hH
          refine hK.out _ _ ⟨K0.v0.box, K0.v1.box, K0.v2.box⟩ (fun hH => ?_)
          clear hK K
          try simp only [Act.put, List.setIfInBounds_toArray, List.set_cons_zero, List.set_cons_succ]
          refine wpAnyE_one (i := 5) (by kernel_rfl) (by simp only [List.getElem?_toArray, List.getElem?_cons_succ, List.getElem?_cons_zero]; rfl) (fun K hK => ?_)
          go_simp
          refine (to_N K0.v2.dat hz2).mono ?_
          rintro e w4 ⟨D2, rfl, L2, hb⟩
          replace K0 := K0.later hb
          replace L0 := (keepsLG d0).later L0 hb
          replace L1 := (keepsLR d1).later L1 hb
          replace M := M.later (keepsR rr) hb
          replace G2 := G2.later (keepsLR r') hb
          replace ZB := ZB.later hb ZB.lt
          obtain ⟨F2, L2⟩ : ∃ F, LieN d2 w4 F (.agg D2) := ⟨_, L2⟩
          clear hb
          obtain ⟨w3, rfl⟩ : ∃ x, x = w4 := ⟨_, rfl⟩
          clear hH
          refine hK.out _ _ ⟨K0.v0.box, K0.v1.box, K0.v2.box⟩ (fun hH => ?_)
          clear hK K
          try simp only [Act.put, List.setIfInBounds_toArray, List.set_cons_zero, List.set_cons_succ]
          refine wpAnyE_one (i := 6) (by kernel_rfl) (by simp only [List.getElem?_toArray, List.getElem?_cons_succ, List.getElem?_cons_zero]; rfl) (fun K hK => ?_)
          go_simp
          have hVS := ZB.lt
          refine (readied8_is L0 L1 L2 hz0 hz1 hz2 HZ.out).mono ?_
          rintro e w4 ⟨C, rfl, LR, hb⟩
          replace K0 := K0.later hb
          replace M := M.later (keepsR rr) hb
          replace G2 := G2.later (keepsLR r') hb
          replace ZB := ZB.later hb ZB.lt
          generalize w3.heap.size = S at LR hVS
          obtain ⟨E, hE⟩ : ∃ E, w4.heap.size = E := ⟨_, rfl⟩
          rw [hE] at LR
          have hEl : E ≤ w4.heap.size := Nat.le_of_eq hE.symm
          clear hE
          have hF : ¬ Iv S E V := iv_not (.inl hVS)
          clear hVS
          clear hb L0 L1 L2
          obtain ⟨w3, rfl⟩ : ∃ x, x = w4 := ⟨_, rfl⟩
          clear hH
          refine hK.out _ _ ⟨K0.v0.box, K0.v1.box, K0.v2.box⟩ (fun hH => ?_)
          clear hK K
          try simp only [Act.put, List.setIfInBounds_toArray, List.set_cons_zero, List.set_cons_succ]
          refine wpAnyE_pure (i := 7) (v := ?vbl2p1) (by simp only [List.getElem?_toArray, List.getElem?_cons_succ, List.getElem?_cons_zero]; rfl) (by kernel_rfl) (by kernel_rfl) (by kernel_rfl) (by exact fun _ _ _ h => h) (by kernel_rfl) (Or.inl ⟨by rfl, ?ybl2p1⟩) hH ?rbl2p1
          case ybl2p1 => (intro w' hSw; (try dsimp only at hSw); go_simp; try with_reducible rfl)
          try simp only [Act.put, List.setIfInBounds_toArray, List.set_cons_zero, List.set_cons_succ]
          refine wpAnyE_pure (i := 8) (v := ?vbl2p2) (by simp only [List.getElem?_toArray, List.getElem?_cons_succ, List.getElem?_cons_zero]; rfl) (by kernel_rfl) (by kernel_rfl) (by kernel_rfl) (by exact fun _ _ _ h => h) (by kernel_rfl) (Or.inl ⟨by rfl, ?ybl2p2⟩) hH ?rbl2p2
          case ybl2p2 => (intro w' hSw; (try dsimp only at hSw); go_simp; try with_reducible rfl)
          try simp only [Act.put, List.setIfInBounds_toArray, List.set_cons_zero, List.set_cons_succ]
          refine wpAnyE_pure (i := 9) (v := ?vbl2p3) (by simp only [List.getElem?_toArray, List.getElem?_cons_succ, List.getElem?_cons_zero]; rfl) (by kernel_rfl) (by kernel_rfl) (by kernel_rfl) (by exact fun _ _ _ h => h) (by kernel_rfl) (Or.inl ⟨by rfl, ?ybl2p3⟩) hH ?rbl2p3
          case ybl2p3 => (intro w' hSw; (try dsimp only at hSw); go_simp; try with_reducible rfl)
          try simp only [Act.put, List.setIfInBounds_toArray, List.set_cons_zero, List.set_cons_succ]
          refine wpAnyE_one (i := 11) (by kernel_rfl) (by simp only [List.getElem?_toArray, List.getElem?_cons_succ, List.getElem?_cons_zero]; rfl) (fun K hK => ?_)
          rw [if_pos (by first | rfl | kernel_rfl | simp [Region.wanted, yielded])]
          have O := Lib.hid (oneR LR.at)
          have JS := Lib.hid (sizeR LR.at).2
          have Mb := VarOf.put (keepsR rr) ZB LR.at hF
          have ht := turns_setRow w3 V C
          replace K0 := K0.turn ht (fun b hb => by omega)
          replace M := M.turn (keepsR rr) ht (by omega) (fun b hb e => by have := hFM b hb; omega)
          replace G2 := G2.turn (keepsLR r') ht (by omega) (fun b hb e => by have := hb.2; omega)
          clear hH
          refine wp_store_row 80 _ _ rfl V _ rfl rfl 80 #[.int .i64 0, .int .i64 0, .int .i64 0, .slice none 0 0, .slice none 0 0] ZB JS.out O.out.1.symm O.out.2 ?_
          refine hK.out _ _ ⟨K0.v0.box, K0.v1.box, K0.v2.box⟩ (fun hH => ?_)
          clear hK K
          try simp only [Act.put]
          have hEs : E ≤ (w3.setRow V C).heap.size := by rw [size_setRow]; exact hEl
          clear ZB LR ht O JS
          generalize (w3.setRow _ _ : World) = w4 at K0 Mb hEs hH M G2 ⊢
          refine wpAnyE_end (i := 12) (by kernel_rfl) (by simp only [List.getElem?_toArray, List.getElem?_cons_succ, List.getElem?_cons_zero]; rfl) (by kernel_rfl) (fun K hK => ?_)
          go_simp
          refine hK.out _ _ ⟨K0.v0.box, K0.v1.box, K0.v2.box⟩ ?_
          clear hK K
          try simp only [Act.put, List.setIfInBounds_toArray, List.set_cons_zero, List.set_cons_succ]
          go_wp2_with fail
          go_meet
          exact ⟨V, C, _, rfl, rfl, Mb, K0, M, G2⟩
      · skip
        go_simp
        have hV := G2.box.lt
        have hn := bel_alloc w3 (.cells #[.int .i64 0, .int .i64 0, .int .i64 0, .slice none 0 0, .slice none 0 0] 80)
        replace K0 := K0.later hn
        replace L0 := (keepsLG d0).later L0 hn
        replace M := M.later (keepsR rr) hn
        replace G2 := G2.later (keepsLR r') hn
        have ZB := Box.new w3 80 #[.int .i64 0, .int .i64 0, .int .i64 0, .slice none 0 0, .slice none 0 0]
        clear hn
        generalize (w3.alloc _ : World) = w4 at K0 L0 M G2 ZB ⊢
        generalize w3.heap.size = V at hV ZB ⊢
        obtain ⟨w3, rfl⟩ : ∃ x, x = w4 := ⟨_, rfl⟩
        clear hH
        refine hK.out _ _ ⟨K0.v0.box, K0.v1.box, K0.v2.box⟩ (fun hH => ?_)
        clear hK K
        try simp only [Act.put, List.setIfInBounds_toArray, List.set_cons_zero, List.set_cons_succ]
        refine wpAnyE_one (i := 3) (by kernel_rfl) (by simp only [List.getElem?_toArray, List.getElem?_cons_succ, List.getElem?_cons_zero]; rfl) (fun K hK => ?_)
        go_simp
        refine (to_R K0.v1.dat hz1).mono ?_
        rintro e w4 ⟨D1, rfl, L1, hb⟩
        replace K0 := K0.later hb
        replace L0 := (keepsLG d0).later L0 hb
        replace M := M.later (keepsR rr) hb
        replace G2 := G2.later (keepsLR r') hb
        replace ZB := ZB.later hb ZB.lt
        obtain ⟨F1, L1⟩ : ∃ F, LieR d1 w4 F (.agg D1) := ⟨_, L1⟩
        clear hb
        obtain ⟨w3, rfl⟩ : ∃ x, x = w4 := ⟨_, rfl⟩
        clear hH
        refine hK.out _ _ ⟨K0.v0.box, K0.v1.box, K0.v2.box⟩ (fun hH => ?_)
        clear hK K
        try simp only [Act.put, List.setIfInBounds_toArray, List.set_cons_zero, List.set_cons_succ]
        refine wpAnyE_one (i := 5) (by kernel_rfl) (by simp only [List.getElem?_toArray, List.getElem?_cons_succ, List.getElem?_cons_zero]; rfl) (fun K hK => ?_)
        go_simp
        refine (to_N K0.v2.dat hz2).mono ?_
        rintro e w4 ⟨D2, rfl, L2, hb⟩
        replace K0 := K0.later hb
        replace L0 := (keepsLG d0).later L0 hb
        replace L1 := (keepsLR d1).later L1 hb
        replace M := M.later (keepsR rr) hb
        replace G2 := G2.later (keepsLR r') hb
        replace ZB := ZB.later hb ZB.lt
        obtain ⟨F2, L2⟩ : ∃ F, LieN d2 w4 F (.agg D2) := ⟨_, L2⟩
        clear hb
        obtain ⟨w3, rfl⟩ : ∃ x, x = w4 := ⟨_, rfl⟩
        clear hH
        refine hK.out _ _ ⟨K0.v0.box, K0.v1.box, K0.v2.box⟩ (fun hH => ?_)
        clear hK K
        try simp only [Act.put, List.setIfInBounds_toArray, List.set_cons_zero, List.set_cons_succ]
        refine wpAnyE_one (i := 6) (by kernel_rfl) (by simp only [List.getElem?_toArray, List.getElem?_cons_succ, List.getElem?_cons_zero]; rfl) (fun K hK => ?_)
        go_simp
        have hVS := ZB.lt
        refine (readied8_is L0 L1 L2 hz0 hz1 hz2 HZ.out).mono ?_
        rintro e w4 ⟨C, rfl, LR, hb⟩
        replace K0 := K0.later hb
        replace M := M.later (keepsR rr) hb
        replace G2 := G2.later (keepsLR r') hb
        replace ZB := ZB.later hb ZB.lt
        generalize w3.heap.size = S at LR hVS
        obtain ⟨E, hE⟩ : ∃ E, w4.heap.size = E := ⟨_, rfl⟩
        rw [hE] at LR
        have hEl : E ≤ w4.heap.size := Nat.le_of_eq hE.symm
        clear hE
        have hF : ¬ Iv S E V := iv_not (.inl hVS)
        clear hVS
        clear hb L0 L1 L2
        obtain ⟨w3, rfl⟩ : ∃ x, x = w4 := ⟨_, rfl⟩
        clear hH
        refine hK.out _ _ ⟨K0.v0.box, K0.v1.box, K0.v2.box⟩ (fun hH => ?_)
        clear hK K
        try simp only [Act.put, List.setIfInBounds_toArray, List.set_cons_zero, List.set_cons_succ]
        refine wpAnyE_pure (i := 7) (v := ?vbl3p1) (by simp only [List.getElem?_toArray, List.getElem?_cons_succ, List.getElem?_cons_zero]; rfl) (by kernel_rfl) (by kernel_rfl) (by kernel_rfl) (by exact fun _ _ _ h => h) (by kernel_rfl) (Or.inl ⟨by rfl, ?ybl3p1⟩) hH ?rbl3p1
        case ybl3p1 => (intro w' hSw; (try dsimp only at hSw); go_simp; try with_reducible rfl)
        try simp only [Act.put, List.setIfInBounds_toArray, List.set_cons_zero, List.set_cons_succ]
        refine wpAnyE_pure (i := 8) (v := ?vbl3p2) (by simp only [List.getElem?_toArray, List.getElem?_cons_succ, List.getElem?_cons_zero]; rfl) (by kernel_rfl) (by kernel_rfl) (by kernel_rfl) (by exact fun _ _ _ h => h) (by kernel_rfl) (Or.inl ⟨by rfl, ?ybl3p2⟩) hH ?rbl3p2
        case ybl3p2 => (intro w' hSw; (try dsimp only at hSw); go_simp; try with_reducible rfl)
        try simp only [Act.put, List.setIfInBounds_toArray, List.set_cons_zero, List.set_cons_succ]
        refine wpAnyE_pure (i := 9) (v := ?vbl3p3) (by simp only [List.getElem?_toArray, List.getElem?_cons_succ, List.getElem?_cons_zero]; rfl) (by kernel_rfl) (by kernel_rfl) (by kernel_rfl) (by exact fun _ _ _ h => h) (by kernel_rfl) (Or.inl ⟨by rfl, ?ybl3p3⟩) hH ?rbl3p3
        case ybl3p3 => (intro w' hSw; (try dsimp only at hSw); go_simp; try with_reducible rfl)
        try simp only [Act.put, List.setIfInBounds_toArray, List.set_cons_zero, List.set_cons_succ]
        refine wpAnyE_one (i := 11) (by kernel_rfl) (by simp only [List.getElem?_toArray, List.getElem?_cons_succ, List.getElem?_cons_zero]; rfl) (fun K hK => ?_)
        rw [if_pos (by first | rfl | kernel_rfl | simp [Region.wanted, yielded])]
        have O := Lib.hid (oneR LR.at)
        have JS := Lib.hid (sizeR LR.at).2
        have Mb := VarOf.put (keepsR rr) ZB LR.at hF
        have ht := turns_setRow w3 V C
        replace K0 := K0.turn ht (fun b hb => by omega)
        replace M := M.turn (keepsR rr) ht (by omega) (fun b hb e => by have := hFM b hb; omega)
        replace G2 := G2.turn (keepsLR r') ht (by omega) (fun b hb e => by have := hb.2; omega)
        clear hH
        refine wp_store_row 80 _ _ rfl V _ rfl rfl 80 #[.int .i64 0, .int .i64 0, .int .i64 0, .slice none 0 0, .slice none 0 0] ZB JS.out O.out.1.symm O.out.2 ?_
        refine hK.out _ _ ⟨K0.v0.box, K0.v1.box, K0.v2.box⟩ (fun hH => ?_)
        clear hK K
        try simp only [Act.put]
        have hEs : E ≤ (w3.setRow V C).heap.size := by rw [size_setRow]; exact hEl
        clear ZB LR ht O JS
        generalize (w3.setRow _ _ : World) = w4 at K0 Mb hEs hH M G2 ⊢
        refine wpAnyE_end (i := 12) (by kernel_rfl) (by simp only [List.getElem?_toArray, List.getElem?_cons_succ, List.getElem?_cons_zero]; rfl) (by kernel_rfl) (fun K hK => ?_)
        go_simp
        refine hK.out _ _ ⟨K0.v0.box, K0.v1.box, K0.v2.box⟩ ?_
        clear hK K
        try simp only [Act.put, List.setIfInBounds_toArray, List.set_cons_zero, List.set_cons_succ]
        go_wp2_with fail
        go_meet
        exact ⟨V, C, _, rfl, rfl, Mb, K0, M, G2⟩
    · skip
      go_simp
      have hV := G2.box.lt
      have hn := bel_alloc w3 (.cells #[.int .i64 0, .int .i64 0, .int .i64 0, .slice none 0 0, .slice none 0 0] 80)
      replace K0 := K0.later hn
      replace M := M.later (keepsR rr) hn
      replace G2 := G2.later (keepsLR r') hn
      have ZB := Box.new w3 80 #[.int .i64 0, .int .i64 0, .int .i64 0, .slice none 0 0, .slice none 0 0]
      clear hn
      generalize (w3.alloc _ : World) = w4 at K0 M G2 ZB ⊢
      generalize w3.heap.size = V at hV ZB ⊢
      obtain ⟨w3, rfl⟩ : ∃ x, x = w4 := ⟨_, rfl⟩
      clear hH
      refine hK.out _ _ ⟨K0.v0.box, K0.v1.box, K0.v2.box⟩ (fun hH => ?_)
      clear hK K
      try simp only [Act.put, List.setIfInBounds_toArray, List.set_cons_zero, List.set_cons_succ]
      refine wpAnyE_one (i := 1) (by kernel_rfl) (by simp only [List.getElem?_toArray, List.getElem?_cons_succ, List.getElem?_cons_zero]; rfl) (fun K hK => ?_)
      go_simp
      refine (to_G K0.v0.dat hz0).mono ?_
      rintro e w4 ⟨D0, rfl, L0, hb⟩
      replace K0 := K0.later hb
      replace M := M.later (keepsR rr) hb
      replace G2 := G2.later (keepsLR r') hb
      replace ZB := ZB.later hb ZB.lt
      obtain ⟨F0, L0⟩ : ∃ F, LieG d0 w4 F (.agg D0) := ⟨_, L0⟩
      clear hb
      obtain ⟨w3, rfl⟩ : ∃ x, x = w4 := ⟨_, rfl⟩
      clear hH
      refine hK.out _ _ ⟨K0.v0.box, K0.v1.box, K0.v2.box⟩ (fun hH => ?_)
      clear hK K
      try simp only [Act.put, List.setIfInBounds_toArray, List.set_cons_zero, List.set_cons_succ]
      refine wpAnyE_one (i := 3) (by kernel_rfl) (by simp only [List.getElem?_toArray, List.getElem?_cons_succ, List.getElem?_cons_zero]; rfl) (fun K hK => ?_)
      go_simp
      refine (to_R K0.v1.dat hz1).mono ?_
      rintro e w4 ⟨D1, rfl, L1, hb⟩
      replace K0 := K0.later hb
      replace L0 := (keepsLG d0).later L0 hb
      replace M := M.later (keepsR rr) hb
      replace G2 := G2.later (keepsLR r') hb
      replace ZB := ZB.later hb ZB.lt
      obtain ⟨F1, L1⟩ : ∃ F, LieR d1 w4 F (.agg D1) := ⟨_, L1⟩
      clear hb
      obtain ⟨w3, rfl⟩ : ∃ x, x = w4 := ⟨_, rfl⟩
      clear hH
      refine hK.out _ _ ⟨K0.v0.box, K0.v1.box, K0.v2.box⟩ (fun hH => ?_)
      clear hK K
      try simp only [Act.put, List.setIfInBounds_toArray, List.set_cons_zero, List.set_cons_succ]
      refine wpAnyE_one (i := 5) (by kernel_rfl) (by simp only [List.getElem?_toArray, List.getElem?_cons_succ, List.getElem?_cons_zero]; rfl) (fun K hK => ?_)
      go_simp
      refine (to_N K0.v2.dat hz2).mono ?_
      rintro e w4 ⟨D2, rfl, L2, hb⟩
      replace K0 := K0.later hb
      replace L0 := (keepsLG d0).later L0 hb
      replace L1 := (keepsLR d1).later L1 hb
      replace M := M.later (keepsR rr) hb
      replace G2 := G2.later (keepsLR r') hb
      replace ZB := ZB.later hb ZB.lt
      obtain ⟨F2, L2⟩ : ∃ F, LieN d2 w4 F (.agg D2) := ⟨_, L2⟩
      clear hb
      obtain ⟨w3, rfl⟩ : ∃ x, x = w4 := ⟨_, rfl⟩
      clear hH
      refine hK.out _ _ ⟨K0.v0.box, K0.v1.box, K0.v2.box⟩ (fun hH => ?_)
      clear hK K
      try simp only [Act.put, List.setIfInBounds_toArray, List.set_cons_zero, List.set_cons_succ]
      refine wpAnyE_one (i := 6) (by kernel_rfl) (by simp only [List.getElem?_toArray, List.getElem?_cons_succ, List.getElem?_cons_zero]; rfl) (fun K hK => ?_)
      go_simp
      have hVS := ZB.lt
      refine (readied8_is L0 L1 L2 hz0 hz1 hz2 HZ.out).mono ?_
      rintro e w4 ⟨C, rfl, LR, hb⟩
      replace K0 := K0.later hb
      replace M := M.later (keepsR rr) hb
      replace G2 := G2.later (keepsLR r') hb
      replace ZB := ZB.later hb ZB.lt
      generalize w3.heap.size = S at LR hVS
      obtain ⟨E, hE⟩ : ∃ E, w4.heap.size = E := ⟨_, rfl⟩
      rw [hE] at LR
      have hEl : E ≤ w4.heap.size := Nat.le_of_eq hE.symm
      clear hE
      have hF : ¬ Iv S E V := iv_not (.inl hVS)
      clear hVS
      clear hb L0 L1 L2
      obtain ⟨w3, rfl⟩ : ∃ x, x = w4 := ⟨_, rfl⟩
      clear hH
      refine hK.out _ _ ⟨K0.v0.box, K0.v1.box, K0.v2.box⟩ (fun hH => ?_)
      clear hK K
      try simp only [Act.put, List.setIfInBounds_toArray, List.set_cons_zero, List.set_cons_succ]
      refine wpAnyE_pure (i := 7) (v := ?vbl4p1) (by simp only [List.getElem?_toArray, List.getElem?_cons_succ, List.getElem?_cons_zero]; rfl) (by kernel_rfl) (by kernel_rfl) (by kernel_rfl) (by exact fun _ _ _ h => h) (by kernel_rfl) (Or.inl ⟨by rfl, ?ybl4p1⟩) hH ?rbl4p1
      case ybl4p1 => (intro w' hSw; (try dsimp only at hSw); go_simp; try with_reducible rfl)
      try simp only [Act.put, List.setIfInBounds_toArray, List.set_cons_zero, List.set_cons_succ]
      refine wpAnyE_pure (i := 8) (v := ?vbl4p2) (by simp only [List.getElem?_toArray, List.getElem?_cons_succ, List.getElem?_cons_zero]; rfl) (by kernel_rfl) (by kernel_rfl) (by kernel_rfl) (by exact fun _ _ _ h => h) (by kernel_rfl) (Or.inl ⟨by rfl, ?ybl4p2⟩) hH ?rbl4p2
      case ybl4p2 => (intro w' hSw; (try dsimp only at hSw); go_simp; try with_reducible rfl)
      try simp only [Act.put, List.setIfInBounds_toArray, List.set_cons_zero, List.set_cons_succ]
      refine wpAnyE_pure (i := 9) (v := ?vbl4p3) (by simp only [List.getElem?_toArray, List.getElem?_cons_succ, List.getElem?_cons_zero]; rfl) (by kernel_rfl) (by kernel_rfl) (by kernel_rfl) (by exact fun _ _ _ h => h) (by kernel_rfl) (Or.inl ⟨by rfl, ?ybl4p3⟩) hH ?rbl4p3
      case ybl4p3 => (intro w' hSw; (try dsimp only at hSw); go_simp; try with_reducible rfl)
      try simp only [Act.put, List.setIfInBounds_toArray, List.set_cons_zero, List.set_cons_succ]
      refine wpAnyE_one (i := 11) (by kernel_rfl) (by simp only [List.getElem?_toArray, List.getElem?_cons_succ, List.getElem?_cons_zero]; rfl) (fun K hK => ?_)
      rw [if_pos (by first | rfl | kernel_rfl | simp [Region.wanted, yielded])]
      have O := Lib.hid (oneR LR.at)
      have JS := Lib.hid (sizeR LR.at).2
      have Mb := VarOf.put (keepsR rr) ZB LR.at hF
      have ht := turns_setRow w3 V C
      replace K0 := K0.turn ht (fun b hb => by omega)
      replace M := M.turn (keepsR rr) ht (by omega) (fun b hb e => by have := hFM b hb; omega)
      replace G2 := G2.turn (keepsLR r') ht (by omega) (fun b hb e => by have := hb.2; omega)
      clear hH
      refine wp_store_row 80 _ _ rfl V _ rfl rfl 80 #[.int .i64 0, .int .i64 0, .int .i64 0, .slice none 0 0, .slice none 0 0] ZB JS.out O.out.1.symm O.out.2 ?_
      refine hK.out _ _ ⟨K0.v0.box, K0.v1.box, K0.v2.box⟩ (fun hH => ?_)
      clear hK K
      try simp only [Act.put]
      have hEs : E ≤ (w3.setRow V C).heap.size := by rw [size_setRow]; exact hEl
      clear ZB LR ht O JS
      generalize (w3.setRow _ _ : World) = w4 at K0 Mb hEs hH M G2 ⊢
      refine wpAnyE_end (i := 12) (by kernel_rfl) (by simp only [List.getElem?_toArray, List.getElem?_cons_succ, List.getElem?_cons_zero]; rfl) (by kernel_rfl) (fun K hK => ?_)
      go_simp
      refine hK.out _ _ ⟨K0.v0.box, K0.v1.box, K0.v2.box⟩ ?_
      clear hK K
      try simp only [Act.put, List.setIfInBounds_toArray, List.set_cons_zero, List.set_cons_succ]
      go_wp2_with fail
      go_meet
      exact ⟨V, C, _, rfl, rfl, Mb, K0, M, G2⟩
  case rest =>
  clear K0 M G2
  obtain ⟨VH, CH, FH, rfl, rfl, H, K0, M, G2⟩ := hcut
  obtain ⟨w1, rfl⟩ : ∃ x, x = wc := ⟨_, rfl⟩
  have JH := Lib.hid (sizeR H.dat).2
  go_wp2_with (first | (refine wpList_load_box 80 _ rfl (VH) rfl 80 CH H.box _ Tryz.underlying80 rfl JH.out (by first | rfl | simp [Region.wanted, yielded] | (simp [Region.wanted, yielded, Act.put] <;> omega)) ?_) | (refine wpList_load_box 80 _ rfl (VM) rfl 80 CM M.box _ Tryz.underlying80 rfl JM.out (by first | rfl | simp [Region.wanted, yielded] | (simp [Region.wanted, yielded, Act.put] <;> omega)) ?_))
  refine (eq_R H.dat M.dat hq1 hq2).mono ?_
  rintro e w2 ⟨rfl, hb⟩
  replace K0 := K0.later hb
  replace M := M.later (keepsR rr) hb
  replace G2 := G2.later (keepsLR r') hb
  clear hb H
  obtain ⟨w1, rfl⟩ : ∃ x, x = w2 := ⟨_, rfl⟩
  go_wp2_with (refine wpList_load_box 80 _ rfl (VG) rfl 80 CG G2.box _ Tryz.underlying80 rfl JG.out (by first | rfl | simp [Region.wanted, yielded] | (simp [Region.wanted, yielded, Act.put] <;> omega)) ?_)
  refine (held_R (k := 1) G2.dat HM.out (by omega) (by omega) (by omega) (by omega)).mono ?_
  rintro e w2 ⟨rfl, hb⟩
  have E := (K0.later hb).bel
  clear K0 M G2 hb
  go_wp2
  go_ret
  exact ⟨rfl, E⟩

end Go.Proofs.YtjdepjpjjgkmbaaGreat
