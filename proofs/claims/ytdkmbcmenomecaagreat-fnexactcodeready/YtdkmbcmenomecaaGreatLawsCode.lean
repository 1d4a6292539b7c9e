/- The exact law of CodeReady answers true, whatever it is given: its walk (written by exact8.py). -/
import Derived.Test.YtdkmbcmenomecaaGreatCode8
namespace Go.Proofs.YtdkmbcmenomecaaGreat
open Go Go.RowKit


/-- The variables of the arguments, as they were given. -/
structure PreCode (w wr : World) (C0 C1 C2 : Array Value) (d0 : GrpD) (d1 : RegD) (d2 : NoteD) : Prop where
  v0 : VarOf (AtG d0) 47 wr (· < w.heap.size) (w.heap.size) C0
  v1 : VarOf (AtR d1) 52 wr (· < w.heap.size) (w.heap.size + 1) C1
  v2 : VarOf (AtN d2) 54 wr (· < w.heap.size) (w.heap.size + 1 + 1) C2
  bel : Below w.heap.size w wr
theorem PreCode.later {w wr w' : World} {C0 C1 C2 : Array Value} {d0 : GrpD} {d1 : RegD} {d2 : NoteD} (h : PreCode w wr C0 C1 C2 d0 d1 d2) (hb : Below wr.heap.size wr w') : PreCode w w' C0 C1 C2 d0 d1 d2 :=
  ⟨h.v0.later (keepsG d0) hb, h.v1.later (keepsR d1) hb, h.v2.later (keepsN d2) hb, bel_trans h.bel hb⟩
theorem PreCode.turn {w wr w' : World} {C0 C1 C2 : Array Value} {d0 : GrpD} {d1 : RegD} {d2 : NoteD} {T : Nat → Prop} (h : PreCode w wr C0 C1 C2 d0 d1 d2) (ht : Turns T wr w') (hT : ∀ b, T b → w.heap.size + 1 + 1 < b) : PreCode w w' C0 C1 C2 d0 d1 d2 :=
  ⟨h.v0.turn (keepsG d0) ht (fun hb => by have := hT _ hb; omega) (fun b hb hb2 => by have := hT b hb2; omega), h.v1.turn (keepsR d1) ht (fun hb => by have := hT _ hb; omega) (fun b hb hb2 => by have := hT b hb2; omega), h.v2.turn (keepsN d2) ht (fun hb => by have := hT _ hb; omega) (fun b hb hb2 => by have := hT b hb2; omega), ht.below h.bel (fun b hb => by have := hT b hb; omega)⟩
theorem PreCode.start {w : World} {C0 C1 C2 : Array Value} {d0 : GrpD} {d1 : RegD} {d2 : NoteD} (h0 : AtG d0 w (· < w.heap.size) (.agg C0)) (h1 : AtR d1 w (· < w.heap.size) (.agg C1)) (h2 : AtN d2 w (· < w.heap.size) (.agg C2)) : PreCode w (((w.alloc (.cells C0 47)).alloc (.cells C1 52)).alloc (.cells C2 54)) C0 C1 C2 d0 d1 d2 := by
  have e0 := bel_alloc w (.cells C0 47)
  have e1 := bel_alloc (w.alloc (.cells C0 47)) (.cells C1 52)
  have e2 := bel_alloc ((w.alloc (.cells C0 47)).alloc (.cells C1 52)) (.cells C2 54)
  have E0 := e0
  have E1 := bel_trans E0 e1
  have E2 := bel_trans E1 e2
  have B0 := Box.new w 47 C0
  replace B0 := B0.alloc (.cells C1 52)
  replace B0 := B0.alloc (.cells C2 54)
  have B1 := Box.new (w.alloc (.cells C0 47)) 52 C1
  replace B1 := B1.alloc (.cells C2 54)
  have B2 := Box.new ((w.alloc (.cells C0 47)).alloc (.cells C1 52)) 54 C2
  simp only [World.size_alloc] at B0 B1 B2
  exact ⟨⟨B0, by omega, (keepsG d0).later h0 E2⟩, ⟨B1, by omega, (keepsR d1).later h1 E2⟩, ⟨B2, by omega, (keepsN d2).later h2 E2⟩, E2⟩

set_option maxRecDepth 100000 in
set_option maxHeartbeats 16000000 in
theorem exactCode_any (C0 C1 C2 : Array Value) (d0 : GrpD) (d1 : RegD) (d2 : NoteD) (w : World) (h0 : AtG d0 w (· < w.heap.size) (.agg C0)) (h1 : AtR d1 w (· < w.heap.size) (.agg C1)) (h2 : AtN d2 w (· < w.heap.size) (.agg C2)) :
    Calls Tryz.prog 4 #[.agg C0, .agg C1, .agg C2] w fun e w' => e = .returned (.bool true) ∧ Below w.heap.size w w' := by
  have I0 := Lib.hid (sizeG h0).1
  have J0 := Lib.hid (sizeG h0).2
  have I1 := Lib.hid (sizeR h1).1
  have J1 := Lib.hid (sizeR h1).2
  have I2 := Lib.hid (sizeN8 h2).1
  have J2 := Lib.hid (sizeN8 h2).2
  have K0 := PreCode.start h0 h1 h2
  clear h0 h1 h2
  go_enter Tryz.func4, Tryz.ntmps4
  go_wp2_with (refine wpList_load_box 47 _ rfl (w.heap.size) rfl 47 C0 K0.v0.box _ Tryz.underlying47 rfl I0.out (by first | rfl | simp [Region.wanted, yielded] | (simp [Region.wanted, yielded, Act.put] <;> omega)) ?_)
  generalize (((w.alloc _).alloc _).alloc _ : World) = w0 at K0 ⊢
  refine (sz_G K0.v0.dat).mono ?_
  rintro e w1 ⟨⟨u, rfl, hle, hgt⟩, hb⟩
  replace K0 := K0.later hb
  clear hb
  rcases Int.lt_or_le (1048576) (d0.sz : Int) with hs0 | hs0
  · have hu := hgt hs0
    clear hle hgt
    have E := K0.bel
    go_wp2
    go_ret
    exact ⟨rfl, E⟩
  have hu := hle hs0
  clear hle hgt
  subst hu
  have hu0 : ¬ (1048576 - (d0.sz : Int) < 0) := by omega
  go_wp2_with (refine wpList_load_box 52 _ rfl (w.heap.size + 1) rfl 52 C1 K0.v1.box _ Tryz.underlying52 rfl I1.out (by first | rfl | simp [Region.wanted, yielded] | (simp [Region.wanted, yielded, Act.put] <;> omega)) ?_)
  refine (sz_R K0.v1.dat (L := 1048576 - (d0.sz : Int)) (by omega) (by omega)).mono ?_
  rintro e w1 ⟨⟨u, rfl, hle, hgt⟩, hb⟩
  replace K0 := K0.later hb
  clear hb
  rcases Int.lt_or_le (1048576 - (d0.sz : Int)) (d1.sz : Int) with hs1 | hs1
  · have hu := hgt hs1
    clear hle hgt
    have E := K0.bel
    go_wp2
    go_ret
    exact ⟨rfl, E⟩
  have hu := hle hs1
  clear hle hgt
  subst hu
  have hu1 : ¬ (1048576 - (d0.sz : Int) - (d1.sz : Int) < 0) := by omega
  go_wp2_with (refine wpList_load_box 54 _ rfl (w.heap.size + 1 + 1) rfl 54 C2 K0.v2.box _ Tryz.underlying54 rfl I2.out (by first | rfl | simp [Region.wanted, yielded] | (simp [Region.wanted, yielded, Act.put] <;> omega)) ?_)
  refine (sz_N K0.v2.dat (L := 1048576 - (d0.sz : Int) - (d1.sz : Int)) (by omega) (by omega)).mono ?_
  rintro e w1 ⟨⟨u, rfl, hle, hgt⟩, hb⟩
  replace K0 := K0.later hb
  clear hb
  rcases Int.lt_or_le (1048576 - (d0.sz : Int) - (d1.sz : Int)) (d2.sz : Int) with hs2 | hs2
  · have hu := hgt hs2
    clear hle hgt
    have E := K0.bel
    go_wp2
    go_ret
    exact ⟨rfl, E⟩
  have hu := hle hs2
  clear hle hgt
  subst hu
  have hu2 : ¬ (1048576 - (d0.sz : Int) - (d1.sz : Int) - (d2.sz : Int) < 0) := by omega
  have hz0 : d0.sz ≤ 1048576 := by omega
  have hz1 : d1.sz ≤ 1048576 := by omega
  have hz2 : d2.sz ≤ 1048576 := by omega
  obtain ⟨z, hz⟩ : ∃ z, codeD d0 d1 d2 = z := ⟨_, rfl⟩
  have HZ := Lib.hid hz
  have hzz : (z != z) = false := by simp
  clear hz
  go_upto_region 11 with fail
  clear hs0 hu0 hs1 hu1 hs2 hu2
  -- the model, on copies
  refine wp_region_sink 8 (fun w' => Box w' (w.heap.size) 47 C0 ∧ Box w' (w.heap.size + 1) 52 C1 ∧ Box w' (w.heap.size + 1 + 1) 54 C2) (by kernel_rfl) ⟨K0.v0.box, K0.v1.box, K0.v2.box⟩ (fun hH => ?_)
  replace K0 := K0.later ((Below.refl w1.heap.size w1).drew)
  generalize w1.drew = w2 at K0 hH ⊢
  refine wpAnyE_takeS (i := 0) (v := .agg C0) (by simp only [List.getElem?_toArray, List.getElem?_cons_zero]; rfl) (by kernel_rfl) (by kernel_rfl) (by kernel_rfl) (by exact fun _ _ _ h => h) (by kernel_rfl) ?y0 hH ?_
  case y0 => exact yields_box 47 _ rfl (w.heap.size) rfl 47 C0 (fun _ h => h.1) _ Tryz.underlying47 rfl I0.out (by first | rfl | simp [Region.wanted, yielded] | (simp [Region.wanted, yielded, Act.put] <;> omega))
  try simp only [Act.put, List.setIfInBounds_toArray, List.set_cons_zero, List.set_cons_succ]
  refine wpAnyE_takeS (i := 2) (v := .agg C1) (by simp only [List.getElem?_toArray, List.getElem?_cons_succ, List.getElem?_cons_zero]; rfl) (by kernel_rfl) (by kernel_rfl) (by kernel_rfl) (by exact fun _ _ _ h => h) (by kernel_rfl) ?y1 hH ?_
  case y1 => exact yields_box 52 _ rfl (w.heap.size + 1) rfl 52 C1 (fun _ h => h.2.1) _ Tryz.underlying52 rfl I1.out (by first | rfl | simp [Region.wanted, yielded] | (simp [Region.wanted, yielded, Act.put] <;> omega))
  try simp only [Act.put, List.setIfInBounds_toArray, List.set_cons_zero, List.set_cons_succ]
  refine wpAnyE_takeS (i := 4) (v := .agg C2) (by simp only [List.getElem?_toArray, List.getElem?_cons_succ, List.getElem?_cons_zero]; rfl) (by kernel_rfl) (by kernel_rfl) (by kernel_rfl) (by exact fun _ _ _ h => h) (by kernel_rfl) ?y2 hH ?_
  case y2 => exact yields_box 54 _ rfl (w.heap.size + 1 + 1) rfl 54 C2 (fun _ h => h.2.2) _ Tryz.underlying54 rfl I2.out (by first | rfl | simp [Region.wanted, yielded] | (simp [Region.wanted, yielded, Act.put] <;> omega))
  try simp only [Act.put, List.setIfInBounds_toArray, List.set_cons_zero, List.set_cons_succ]
  refine wpAnyE_one (i := 1) (by kernel_rfl) (by simp only [List.getElem?_toArray, List.getElem?_cons_succ, List.getElem?_cons_zero]; rfl) (fun K hK => ?_)
  go_simp
  refine (to_G K0.v0.dat hz0).mono ?_
  rintro e w3 ⟨D0, rfl, L0, hb⟩
  replace K0 := K0.later hb
  clear hb
  clear hH
  refine hK.out _ _ ⟨K0.v0.box, K0.v1.box, K0.v2.box⟩ (fun hH => ?_)
  clear hK K
  try simp only [Act.put, List.setIfInBounds_toArray, List.set_cons_zero, List.set_cons_succ]
  refine wpAnyE_one (i := 3) (by kernel_rfl) (by simp only [List.getElem?_toArray, List.getElem?_cons_succ, List.getElem?_cons_zero]; rfl) (fun K hK => ?_)
  go_simp
  refine (to_R K0.v1.dat hz1).mono ?_
  rintro e w3 ⟨D1, rfl, L1, hb⟩
  replace K0 := K0.later hb
  replace L0 := (keepsLG d0).later L0 hb
  clear hb
  clear hH
  refine hK.out _ _ ⟨K0.v0.box, K0.v1.box, K0.v2.box⟩ (fun hH => ?_)
  clear hK K
  try simp only [Act.put, List.setIfInBounds_toArray, List.set_cons_zero, List.set_cons_succ]
  refine wpAnyE_one (i := 5) (by kernel_rfl) (by simp only [List.getElem?_toArray, List.getElem?_cons_succ, List.getElem?_cons_zero]; rfl) (fun K hK => ?_)
  go_simp
  refine (to_N K0.v2.dat hz2).mono ?_
  rintro e w3 ⟨D2, rfl, L2, hb⟩
  replace K0 := K0.later hb
  replace L0 := (keepsLG d0).later L0 hb
  replace L1 := (keepsLR d1).later L1 hb
  clear hb
  clear hH
  refine hK.out _ _ ⟨K0.v0.box, K0.v1.box, K0.v2.box⟩ (fun hH => ?_)
  clear hK K
  try simp only [Act.put, List.setIfInBounds_toArray, List.set_cons_zero, List.set_cons_succ]
  refine wpAnyE_one (i := 6) (by kernel_rfl) (by simp only [List.getElem?_toArray, List.getElem?_cons_succ, List.getElem?_cons_zero]; rfl) (fun K hK => ?_)
  go_simp
  refine (specCode8_is L0 L1 L2 hz0 hz1 hz2 HZ.out).mono ?_
  rintro e w4 ⟨rfl, hb⟩
  replace K0 := K0.later hb
  clear hb L0 L1 L2
  clear hH
  refine hK.out _ _ ⟨K0.v0.box, K0.v1.box, K0.v2.box⟩ (fun hH => ?_)
  clear hK K
  try simp only [Act.put, List.setIfInBounds_toArray, List.set_cons_zero, List.set_cons_succ]
  refine wpAnyE_end (i := 7) (by kernel_rfl) (by simp only [List.getElem?_toArray, List.getElem?_cons_succ, List.getElem?_cons_zero]; rfl) (by kernel_rfl) (fun K hK => ?_)
  go_simp
  refine hK.out _ _ ⟨K0.v0.box, K0.v1.box, K0.v2.box⟩ ?_
  clear hK K
  try simp only [Act.put, List.setIfInBounds_toArray, List.set_cons_zero, List.set_cons_succ]
  obtain ⟨w1, rfl⟩ : ∃ x, x = w4 := ⟨_, rfl⟩
  clear hH
  -- a copy that is handed in
  go_wp2_with (refine wpList_load_box 47 _ rfl (w.heap.size) rfl 47 C0 K0.v0.box _ Tryz.underlying47 rfl I0.out (by first | rfl | simp [Region.wanted, yielded] | (simp [Region.wanted, yielded, Act.put] <;> omega)) ?_)
  refine (to_G K0.v0.dat hz0).mono ?_
  rintro e w2 ⟨D0, rfl, hL, hb⟩
  have s0 := hb.size
  have q0 := K0.v2.box.lt
  have O := Lib.hid (oneG hL.at)
  have JS := Lib.hid (sizeG hL.at).2
  have J0 := JS
  have hn := bel_new_row w2 #[.int .i64 0, .int .i64 0, .int .i64 0, .int .i64 0, .slice none 0 0] 26 D0
  have X0 := var_new_row (keepsLG d0) (Z := #[.int .i64 0, .int .i64 0, .int .i64 0, .int .i64 0, .slice none 0 0]) 26 hL (fun b hb => hb.2)
  replace K0 := (K0.later hb).later hn
  have ZB := Box.new w2 26 #[.int .i64 0, .int .i64 0, .int .i64 0, .int .i64 0, .slice none 0 0]
  generalize w1.heap.size = S0 at s0 q0 X0
  clear hb hL hn
  go_upto_region 13 with (refine wpList_store_row rfl 26 _ _ rfl w2.heap.size _ rfl rfl 26 #[.int .i64 0, .int .i64 0, .int .i64 0, .int .i64 0, .slice none 0 0] ZB JS.out O.out.1.symm O.out.2 ?_)
  clear ZB O JS
  generalize ((w2.alloc _).setRow _ _ : World) = w3 at K0 X0 ⊢
  generalize w2.heap.size = V0 at s0 X0 ⊢
  obtain ⟨w1, rfl⟩ : ∃ x, x = w3 := ⟨_, rfl⟩
  -- a copy that is handed in
  go_wp2_with (refine wpList_load_box 52 _ rfl (w.heap.size + 1) rfl 52 C1 K0.v1.box _ Tryz.underlying52 rfl I1.out (by first | rfl | simp [Region.wanted, yielded] | (simp [Region.wanted, yielded, Act.put] <;> omega)) ?_)
  refine (to_R K0.v1.dat hz1).mono ?_
  rintro e w2 ⟨D1, rfl, hL, hb⟩
  have s1 := hb.size
  have q1 := X0.box.lt
  have O := Lib.hid (oneR hL.at)
  have JS := Lib.hid (sizeR hL.at).2
  have J1 := JS
  have hn := bel_new_row w2 #[.int .i64 0, .int .i64 0, .int .i64 0, .slice none 0 0, .slice none 0 0] 32 D1
  have X1 := var_new_row (keepsLR d1) (Z := #[.int .i64 0, .int .i64 0, .int .i64 0, .slice none 0 0, .slice none 0 0]) 32 hL (fun b hb => hb.2)
  replace X0 := (X0.later (keepsLG d0) hb).later (keepsLG d0) hn
  replace K0 := (K0.later hb).later hn
  have ZB := Box.new w2 32 #[.int .i64 0, .int .i64 0, .int .i64 0, .slice none 0 0, .slice none 0 0]
  generalize w1.heap.size = S1 at s1 q1 X1
  clear hb hL hn
  go_upto_region 14 with (refine wpList_store_row rfl 32 _ _ rfl w2.heap.size _ rfl rfl 32 #[.int .i64 0, .int .i64 0, .int .i64 0, .slice none 0 0, .slice none 0 0] ZB JS.out O.out.1.symm O.out.2 ?_)
  clear ZB O JS
  generalize ((w2.alloc _).setRow _ _ : World) = w3 at K0 X0 X1 ⊢
  generalize w2.heap.size = V1 at s1 X1 ⊢
  obtain ⟨w1, rfl⟩ : ∃ x, x = w3 := ⟨_, rfl⟩
  -- a copy that is handed in
  go_wp2_with (refine wpList_load_box 54 _ rfl (w.heap.size + 1 + 1) rfl 54 C2 K0.v2.box _ Tryz.underlying54 rfl I2.out (by first | rfl | simp [Region.wanted, yielded] | (simp [Region.wanted, yielded, Act.put] <;> omega)) ?_)
  refine (to_N K0.v2.dat hz2).mono ?_
  rintro e w2 ⟨D2, rfl, hL, hb⟩
  have s2 := hb.size
  have q2 := X1.box.lt
  have O := Lib.hid (oneN hL.at)
  have JS := Lib.hid (sizeN8 hL.at).2
  have J2 := JS
  have hn := bel_new_row w2 #[.int .i64 0, .int .i64 0, .int .i64 0, .int .i64 0, .int .i64 0, .int .i64 0, .int .i64 0, .int .i64 0, .int .i64 0, .int .i64 0, .int .i64 0, .slice none 0 0, .slice none 0 0, .int .i64 0, .int .i64 0, .int .i64 0] 34 D2
  have X2 := var_new_row (keepsLN d2) (Z := #[.int .i64 0, .int .i64 0, .int .i64 0, .int .i64 0, .int .i64 0, .int .i64 0, .int .i64 0, .int .i64 0, .int .i64 0, .int .i64 0, .int .i64 0, .slice none 0 0, .slice none 0 0, .int .i64 0, .int .i64 0, .int .i64 0]) 34 hL (fun b hb => hb.2)
  replace X0 := (X0.later (keepsLG d0) hb).later (keepsLG d0) hn
  replace X1 := (X1.later (keepsLR d1) hb).later (keepsLR d1) hn
  replace K0 := (K0.later hb).later hn
  have ZB := Box.new w2 34 #[.int .i64 0, .int .i64 0, .int .i64 0, .int .i64 0, .int .i64 0, .int .i64 0, .int .i64 0, .int .i64 0, .int .i64 0, .int .i64 0, .int .i64 0, .slice none 0 0, .slice none 0 0, .int .i64 0, .int .i64 0, .int .i64 0]
  generalize w1.heap.size = S2 at s2 q2 X2
  clear hb hL hn
  go_upto_region 15 with (refine wpList_store_row rfl 34 _ _ rfl w2.heap.size _ rfl rfl 34 #[.int .i64 0, .int .i64 0, .int .i64 0, .int .i64 0, .int .i64 0, .int .i64 0, .int .i64 0, .int .i64 0, .int .i64 0, .int .i64 0, .int .i64 0, .slice none 0 0, .slice none 0 0, .int .i64 0, .int .i64 0, .int .i64 0] ZB JS.out O.out.1.symm O.out.2 ?_)
  clear ZB O JS
  generalize ((w2.alloc _).setRow _ _ : World) = w3 at K0 X0 X1 X2 ⊢
  generalize w2.heap.size = V2 at s2 X2 ⊢
  obtain ⟨w1, rfl⟩ : ∃ x, x = w3 := ⟨_, rfl⟩
  -- the program
  go_wp2_with (first | (refine wpList_load_box 26 _ rfl (V0) rfl 26 D0 X0.box _ Tryz.underlying26 rfl J0.out (by first | rfl | simp [Region.wanted, yielded] | (simp [Region.wanted, yielded, Act.put] <;> omega)) ?_) | (refine wpList_load_box 32 _ rfl (V1) rfl 32 D1 X1.box _ Tryz.underlying32 rfl J1.out (by first | rfl | simp [Region.wanted, yielded] | (simp [Region.wanted, yielded, Act.put] <;> omega)) ?_) | (refine wpList_load_box 34 _ rfl (V2) rfl 34 D2 X2.box _ Tryz.underlying34 rfl J2.out (by first | rfl | simp [Region.wanted, yielded] | (simp [Region.wanted, yielded, Act.put] <;> omega)) ?_))
  refine (code8_is X0.dat X1.dat X2.dat hz0 hz1 hz2 HZ.out).mono ?_
  rintro e w4 ⟨rfl, hb⟩
  replace K0 := K0.later hb
  replace X0 := X0.later (keepsLG d0) hb
  replace X1 := X1.later (keepsLR d1) hb
  replace X2 := X2.later (keepsLN d2) hb
  clear hb
  obtain ⟨w1, rfl⟩ : ∃ x, x = w4 := ⟨_, rfl⟩
  -- an argument is as it was
  go_upto_region 18 with fail
  refine wp_region_sink 5 (fun w' => Box w' V0 26 D0 ∧ Box w' (w.heap.size) 47 C0) (by kernel_rfl) ⟨X0.box, K0.v0.box⟩ (fun hH => ?_)
  have hb := (Below.refl w1.heap.size w1).drew
  replace K0 := K0.later hb
  replace X0 := X0.later (keepsLG d0) hb
  replace X1 := X1.later (keepsLR d1) hb
  replace X2 := X2.later (keepsLN d2) hb
  clear hb
  generalize w1.drew = w2 at K0 hH X0 X1 X2 ⊢
  refine wpAnyE_takeS (i := 0) (v := .agg D0) (by simp only [List.getElem?_toArray, List.getElem?_cons_zero]; rfl) (by kernel_rfl) (by kernel_rfl) (by kernel_rfl) (by exact fun _ _ _ h => h) (by kernel_rfl) ?yx0 hH ?_
  case yx0 => exact yields_box 26 _ rfl (V0) rfl 26 D0 (fun _ h => h.1) _ Tryz.underlying26 rfl J0.out (by first | rfl | simp [Region.wanted, yielded] | (simp [Region.wanted, yielded, Act.put] <;> omega))
  try simp only [Act.put, List.setIfInBounds_toArray, List.set_cons_zero, List.set_cons_succ]
  refine wpAnyE_takeS (i := 1) (v := .agg C0) (by simp only [List.getElem?_toArray, List.getElem?_cons_succ, List.getElem?_cons_zero]; rfl) (by kernel_rfl) (by kernel_rfl) (by kernel_rfl) (by exact fun _ _ _ h => h) (by kernel_rfl) ?yo0 hH ?_
  case yo0 => exact yields_box 47 _ rfl (w.heap.size) rfl 47 C0 (fun _ h => h.2) _ Tryz.underlying47 rfl I0.out (by first | rfl | simp [Region.wanted, yielded] | (simp [Region.wanted, yielded, Act.put] <;> omega))
  try simp only [Act.put, List.setIfInBounds_toArray, List.set_cons_zero, List.set_cons_succ]
  refine wpAnyE_one (i := 2) (by kernel_rfl) (by simp only [List.getElem?_toArray, List.getElem?_cons_succ, List.getElem?_cons_zero]; rfl) (fun K hK => ?_)
  go_simp
  refine (to_G K0.v0.dat hz0).mono ?_
  rintro e w3 ⟨D, rfl, L, hb⟩
  replace K0 := K0.later hb
  replace X0 := X0.later (keepsLG d0) hb
  replace X1 := X1.later (keepsLR d1) hb
  replace X2 := X2.later (keepsLN d2) hb
  clear hb
  clear hH
  refine hK.out _ _ ⟨X0.box, K0.v0.box⟩ (fun hH => ?_)
  clear hK K
  try simp only [Act.put, List.setIfInBounds_toArray, List.set_cons_zero, List.set_cons_succ]
  refine wpAnyE_one (i := 3) (by kernel_rfl) (by simp only [List.getElem?_toArray, List.getElem?_cons_succ, List.getElem?_cons_zero]; rfl) (fun K hK => ?_)
  go_simp
  refine (eq_G X0.dat.at L.at hz0).mono ?_
  rintro e w4 ⟨rfl, hb⟩
  replace K0 := K0.later hb
  replace X0 := X0.later (keepsLG d0) hb
  replace X1 := X1.later (keepsLR d1) hb
  replace X2 := X2.later (keepsLN d2) hb
  clear hb L
  clear hH
  refine hK.out _ _ ⟨X0.box, K0.v0.box⟩ (fun hH => ?_)
  clear hK K
  try simp only [Act.put, List.setIfInBounds_toArray, List.set_cons_zero, List.set_cons_succ]
  refine wpAnyE_end (i := 4) (by kernel_rfl) (by simp only [List.getElem?_toArray, List.getElem?_cons_succ, List.getElem?_cons_zero]; rfl) (by kernel_rfl) (fun K hK => ?_)
  go_simp
  refine hK.out _ _ ⟨X0.box, K0.v0.box⟩ ?_
  clear hK K
  try simp only [Act.put, List.setIfInBounds_toArray, List.set_cons_zero, List.set_cons_succ]
  obtain ⟨w1, rfl⟩ : ∃ x, x = w4 := ⟨_, rfl⟩
  clear hH
  -- an argument is as it was
  go_upto_region 20 with fail
  refine wp_region_sink 5 (fun w' => Box w' V1 32 D1 ∧ Box w' (w.heap.size + 1) 52 C1) (by kernel_rfl) ⟨X1.box, K0.v1.box⟩ (fun hH => ?_)
  have hb := (Below.refl w1.heap.size w1).drew
  replace K0 := K0.later hb
  replace X0 := X0.later (keepsLG d0) hb
  replace X1 := X1.later (keepsLR d1) hb
  replace X2 := X2.later (keepsLN d2) hb
  clear hb
  generalize w1.drew = w2 at K0 hH X0 X1 X2 ⊢
  refine wpAnyE_takeS (i := 0) (v := .agg D1) (by simp only [List.getElem?_toArray, List.getElem?_cons_zero]; rfl) (by kernel_rfl) (by kernel_rfl) (by kernel_rfl) (by exact fun _ _ _ h => h) (by kernel_rfl) ?yx1 hH ?_
  case yx1 => exact yields_box 32 _ rfl (V1) rfl 32 D1 (fun _ h => h.1) _ Tryz.underlying32 rfl J1.out (by first | rfl | simp [Region.wanted, yielded] | (simp [Region.wanted, yielded, Act.put] <;> omega))
  try simp only [Act.put, List.setIfInBounds_toArray, List.set_cons_zero, List.set_cons_succ]
  refine wpAnyE_takeS (i := 1) (v := .agg C1) (by simp only [List.getElem?_toArray, List.getElem?_cons_succ, List.getElem?_cons_zero]; rfl) (by kernel_rfl) (by kernel_rfl) (by kernel_rfl) (by exact fun _ _ _ h => h) (by kernel_rfl) ?yo1 hH ?_
  case yo1 => exact yields_box 52 _ rfl (w.heap.size + 1) rfl 52 C1 (fun _ h => h.2) _ Tryz.underlying52 rfl I1.out (by first | rfl | simp [Region.wanted, yielded] | (simp [Region.wanted, yielded, Act.put] <;> omega))
  try simp only [Act.put, List.setIfInBounds_toArray, List.set_cons_zero, List.set_cons_succ]
  refine wpAnyE_one (i := 2) (by kernel_rfl) (by simp only [List.getElem?_toArray, List.getElem?_cons_succ, List.getElem?_cons_zero]; rfl) (fun K hK => ?_)
  go_simp
  refine (to_R K0.v1.dat hz1).mono ?_
  rintro e w3 ⟨D, rfl, L, hb⟩
  replace K0 := K0.later hb
  replace X0 := X0.later (keepsLG d0) hb
  replace X1 := X1.later (keepsLR d1) hb
  replace X2 := X2.later (keepsLN d2) hb
  clear hb
  clear hH
  refine hK.out _ _ ⟨X1.box, K0.v1.box⟩ (fun hH => ?_)
  clear hK K
  try simp only [Act.put, List.setIfInBounds_toArray, List.set_cons_zero, List.set_cons_succ]
  refine wpAnyE_one (i := 3) (by kernel_rfl) (by simp only [List.getElem?_toArray, List.getElem?_cons_succ, List.getElem?_cons_zero]; rfl) (fun K hK => ?_)
  go_simp
  refine (eqd_R X1.dat.at L.at hz1).mono ?_
  rintro e w4 ⟨rfl, hb⟩
  replace K0 := K0.later hb
  replace X0 := X0.later (keepsLG d0) hb
  replace X1 := X1.later (keepsLR d1) hb
  replace X2 := X2.later (keepsLN d2) hb
  clear hb L
  clear hH
  refine hK.out _ _ ⟨X1.box, K0.v1.box⟩ (fun hH => ?_)
  clear hK K
  try simp only [Act.put, List.setIfInBounds_toArray, List.set_cons_zero, List.set_cons_succ]
  refine wpAnyE_end (i := 4) (by kernel_rfl) (by simp only [List.getElem?_toArray, List.getElem?_cons_succ, List.getElem?_cons_zero]; rfl) (by kernel_rfl) (fun K hK => ?_)
  go_simp
  refine hK.out _ _ ⟨X1.box, K0.v1.box⟩ ?_
  clear hK K
  try simp only [Act.put, List.setIfInBounds_toArray, List.set_cons_zero, List.set_cons_succ]
  obtain ⟨w1, rfl⟩ : ∃ x, x = w4 := ⟨_, rfl⟩
  clear hH
  -- an argument is as it was
  go_upto_region 22 with fail
  refine wp_region_sink 5 (fun w' => Box w' V2 34 D2 ∧ Box w' (w.heap.size + 1 + 1) 54 C2) (by kernel_rfl) ⟨X2.box, K0.v2.box⟩ (fun hH => ?_)
  have hb := (Below.refl w1.heap.size w1).drew
  replace K0 := K0.later hb
  replace X0 := X0.later (keepsLG d0) hb
  replace X1 := X1.later (keepsLR d1) hb
  replace X2 := X2.later (keepsLN d2) hb
  clear hb
  generalize w1.drew = w2 at K0 hH X0 X1 X2 ⊢
  refine wpAnyE_takeS (i := 0) (v := .agg D2) (by simp only [List.getElem?_toArray, List.getElem?_cons_zero]; rfl) (by kernel_rfl) (by kernel_rfl) (by kernel_rfl) (by exact fun _ _ _ h => h) (by kernel_rfl) ?yx2 hH ?_
  case yx2 => exact yields_box 34 _ rfl (V2) rfl 34 D2 (fun _ h => h.1) _ Tryz.underlying34 rfl J2.out (by first | rfl | simp [Region.wanted, yielded] | (simp [Region.wanted, yielded, Act.put] <;> omega))
  try simp only [Act.put, List.setIfInBounds_toArray, List.set_cons_zero, List.set_cons_succ]
  refine wpAnyE_takeS (i := 1) (v := .agg C2) (by simp only [List.getElem?_toArray, List.getElem?_cons_succ, List.getElem?_cons_zero]; rfl) (by kernel_rfl) (by kernel_rfl) (by kernel_rfl) (by exact fun _ _ _ h => h) (by kernel_rfl) ?yo2 hH ?_
  case yo2 => exact yields_box 54 _ rfl (w.heap.size + 1 + 1) rfl 54 C2 (fun _ h => h.2) _ Tryz.underlying54 rfl I2.out (by first | rfl | simp [Region.wanted, yielded] | (simp [Region.wanted, yielded, Act.put] <;> omega))
  try simp only [Act.put, List.setIfInBounds_toArray, List.set_cons_zero, List.set_cons_succ]
  refine wpAnyE_one (i := 2) (by kernel_rfl) (by simp only [List.getElem?_toArray, List.getElem?_cons_succ, List.getElem?_cons_zero]; rfl) (fun K hK => ?_)
  go_simp
  refine (to_N K0.v2.dat hz2).mono ?_
  rintro e w3 ⟨D, rfl, L, hb⟩
  replace K0 := K0.later hb
  replace X0 := X0.later (keepsLG d0) hb
  replace X1 := X1.later (keepsLR d1) hb
  replace X2 := X2.later (keepsLN d2) hb
  clear hb
  clear hH
  refine hK.out _ _ ⟨X2.box, K0.v2.box⟩ (fun hH => ?_)
  clear hK K
  try simp only [Act.put, List.setIfInBounds_toArray, List.set_cons_zero, List.set_cons_succ]
  refine wpAnyE_one (i := 3) (by kernel_rfl) (by simp only [List.getElem?_toArray, List.getElem?_cons_succ, List.getElem?_cons_zero]; rfl) (fun K hK => ?_)
  go_simp
  refine (eq_N X2.dat.at L.at hz2).mono ?_
  rintro e w4 ⟨rfl, hb⟩
  replace K0 := K0.later hb
  replace X0 := X0.later (keepsLG d0) hb
  replace X1 := X1.later (keepsLR d1) hb
  replace X2 := X2.later (keepsLN d2) hb
  clear hb L
  clear hH
  refine hK.out _ _ ⟨X2.box, K0.v2.box⟩ (fun hH => ?_)
  clear hK K
  try simp only [Act.put, List.setIfInBounds_toArray, List.set_cons_zero, List.set_cons_succ]
  refine wpAnyE_end (i := 4) (by kernel_rfl) (by simp only [List.getElem?_toArray, List.getElem?_cons_succ, List.getElem?_cons_zero]; rfl) (by kernel_rfl) (fun K hK => ?_)
  go_simp
  refine hK.out _ _ ⟨X2.box, K0.v2.box⟩ ?_
  clear hK K
  try simp only [Act.put, List.setIfInBounds_toArray, List.set_cons_zero, List.set_cons_succ]
  obtain ⟨w1, rfl⟩ : ∃ x, x = w4 := ⟨_, rfl⟩
  clear hH
  have E := K0.bel
  clear K0 X0 X1 X2
  go_wp2
  go_ret
  exact ⟨rfl, E⟩

end Go.Proofs.YtdkmbcmenomecaaGreat
