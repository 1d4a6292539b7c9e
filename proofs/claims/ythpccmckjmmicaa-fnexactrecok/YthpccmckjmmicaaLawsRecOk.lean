/- The exact law of RecOk answers true, whatever it is given: its walk (written by exact8.py). -/
import Derived.Test.YthpccmckjmmicaaRecOkD
namespace Go.Proofs.Ythpccmckjmmicaa
open Go Go.RowKit


/-- The variables of the arguments, as they were given. -/
structure PreRecOk (w wr : World) (C0 C1 : Array Value) (d0 : GrpD) (d1 : RecD) : Prop where
  v0 : VarOf (AtG d0) 52 wr (· < w.heap.size) (w.heap.size) C0
  v1 : VarOf (AtC d1) 41 wr (· < w.heap.size) (w.heap.size + 1) C1
  bel : Below w.heap.size w wr
theorem PreRecOk.later {w wr w' : World} {C0 C1 : Array Value} {d0 : GrpD} {d1 : RecD} (h : PreRecOk w wr C0 C1 d0 d1) (hb : Below wr.heap.size wr w') : PreRecOk w w' C0 C1 d0 d1 :=
  ⟨h.v0.later (keepsG d0) hb, h.v1.later (keepsC d1) hb, bel_trans h.bel hb⟩
theorem PreRecOk.turn {w wr w' : World} {C0 C1 : Array Value} {d0 : GrpD} {d1 : RecD} {T : Nat → Prop} (h : PreRecOk w wr C0 C1 d0 d1) (ht : Turns T wr w') (hT : ∀ b, T b → w.heap.size + 1 < b) : PreRecOk w w' C0 C1 d0 d1 :=
  ⟨h.v0.turn (keepsG d0) ht (fun hb => by have := hT _ hb; omega) (fun b hb hb2 => by have := hT b hb2; omega), h.v1.turn (keepsC d1) ht (fun hb => by have := hT _ hb; omega) (fun b hb hb2 => by have := hT b hb2; omega), ht.below h.bel (fun b hb => by have := hT b hb; omega)⟩
theorem PreRecOk.start {w : World} {C0 C1 : Array Value} {d0 : GrpD} {d1 : RecD} (h0 : AtG d0 w (· < w.heap.size) (.agg C0)) (h1 : AtC d1 w (· < w.heap.size) (.agg C1)) : PreRecOk w ((w.alloc (.cells C0 52)).alloc (.cells C1 41)) C0 C1 d0 d1 := by
  have e0 := bel_alloc w (.cells C0 52)
  have e1 := bel_alloc (w.alloc (.cells C0 52)) (.cells C1 41)
  have E0 := e0
  have E1 := bel_trans E0 e1
  have B0 := Box.new w 52 C0
  replace B0 := B0.alloc (.cells C1 41)
  have B1 := Box.new (w.alloc (.cells C0 52)) 41 C1
  try simp only [World.size_alloc] at B0 B1
  exact ⟨⟨B0, by omega, (keepsG d0).later h0 E1⟩, ⟨B1, by omega, (keepsC d1).later h1 E1⟩, E1⟩

set_option maxRecDepth 100000 in
set_option maxHeartbeats 16000000 in
theorem exactRecOk_any (C0 C1 : Array Value) (d0 : GrpD) (d1 : RecD) (w : World) (h0 : AtG d0 w (· < w.heap.size) (.agg C0)) (h1 : AtC d1 w (· < w.heap.size) (.agg C1)) :
    Calls Try.prog 6 #[.agg C0, .agg C1] w fun e w' => e = .returned (.bool true) ∧ Below w.heap.size w w' := by
  have I0 := Lib.hid (sizeG h0).1
  have J0 := Lib.hid (sizeG h0).2
  have I1 := Lib.hid (sizeC h1).1
  have J1 := Lib.hid (sizeC h1).2
  have K0 := PreRecOk.start h0 h1
  clear h0 h1
  go_enter Try.func6, Try.ntmps6
  go_wp2_with (refine wpList_load_box 52 _ rfl (w.heap.size) rfl 52 C0 K0.v0.box _ Try.underlying52 rfl I0.out (by first | rfl | simp [Region.wanted, yielded] | (simp [Region.wanted, yielded, Act.put] <;> omega)) ?_)
  generalize ((w.alloc _).alloc _ : World) = w0 at K0 ⊢
  refine (sz_G K0.v0.dat).mono ?_
  rintro e w1 ⟨⟨u, rfl, hle, hgt⟩, hb⟩
  replace K0 := K0.later hb
  clear hb
  rcases Int.lt_or_le (1048576) (d0.sz : Int) with hs0 | hs0
  · have hu := hgt hs0
    clear hle hgt
    have E := K0.bel
    go_wp2
    go_ret
    exact ⟨rfl, E⟩
  have hu := hle hs0
  clear hle hgt
  subst hu
  have hu0 : ¬ (1048576 - (d0.sz : Int) < 0) := by omega
  go_wp2_with (refine wpList_load_box 41 _ rfl (w.heap.size + 1) rfl 41 C1 K0.v1.box _ Try.underlying41 rfl I1.out (by first | rfl | simp [Region.wanted, yielded] | (simp [Region.wanted, yielded, Act.put] <;> omega)) ?_)
  refine (sz_C K0.v1.dat (L := 1048576 - (d0.sz : Int)) (by omega) (by omega)).mono ?_
  rintro e w1 ⟨⟨u, rfl, hle, hgt⟩, hb⟩
  replace K0 := K0.later hb
  clear hb
  rcases Int.lt_or_le (1048576 - (d0.sz : Int)) (d1.sz : Int) with hs1 | hs1
  · have hu := hgt hs1
    clear hle hgt
    have E := K0.bel
    go_wp2
    go_ret
    exact ⟨rfl, E⟩
  have hu := hle hs1
  clear hle hgt
  subst hu
  have hu1 : ¬ (1048576 - (d0.sz : Int) - (d1.sz : Int) < 0) := by omega
  have hz0 : d0.sz ≤ 1048576 := by omega
  have hz1 : d1.sz ≤ 1048576 := by omega
  obtain ⟨z, hz⟩ : ∃ z, rokD d0 d1 = z := ⟨_, rfl⟩
  have HZ := Lib.hid hz
  have hzz : (z != z) = false := by simp
  clear hz
  go_upto_region 8 with fail
  clear hs0 hu0 hs1 hu1
  -- the model, on copies
  refine wp_region_sink 6 (fun w' => Box w' (w.heap.size) 52 C0 ∧ Box w' (w.heap.size + 1) 41 C1) (by kernel_rfl) ⟨K0.v0.box, K0.v1.box⟩ (fun hH => ?_)
  replace K0 := K0.later ((Below.refl w1.heap.size w1).drew)
  generalize w1.drew = w2 at K0 hH ⊢
  refine wpAnyE_takeS (i := 0) (v := .agg C0) (by simp only [List.getElem?_toArray, List.getElem?_cons_zero]; rfl) (by kernel_rfl) (by kernel_rfl) (by kernel_rfl) (by exact fun _ _ _ h => h) (by kernel_rfl) ?y0 hH ?_
  case y0 => exact yields_box 52 _ rfl (w.heap.size) rfl 52 C0 (fun _ h => h.1) _ Try.underlying52 rfl I0.out (by first | rfl | simp [Region.wanted, yielded] | (simp [Region.wanted, yielded, Act.put] <;> omega))
  try simp only [Act.put, List.setIfInBounds_toArray, List.set_cons_zero, List.set_cons_succ]
  refine wpAnyE_takeS (i := 2) (v := .agg C1) (by simp only [List.getElem?_toArray, List.getElem?_cons_succ, List.getElem?_cons_zero]; rfl) (by kernel_rfl) (by kernel_rfl) (by kernel_rfl) (by exact fun _ _ _ h => h) (by kernel_rfl) ?y1 hH ?_
  case y1 => exact yields_box 41 _ rfl (w.heap.size + 1) rfl 41 C1 (fun _ h => h.2) _ Try.underlying41 rfl I1.out (by first | rfl | simp [Region.wanted, yielded] | (simp [Region.wanted, yielded, Act.put] <;> omega))
  try simp only [Act.put, List.setIfInBounds_toArray, List.set_cons_zero, List.set_cons_succ]
  refine wpAnyE_one (i := 1) (by kernel_rfl) (by simp only [List.getElem?_toArray, List.getElem?_cons_succ, List.getElem?_cons_zero]; rfl) (fun K hK => ?_)
  go_simp
  refine (to_G K0.v0.dat hz0).mono ?_
  rintro e w3 ⟨D0, rfl, L0, hb⟩
  replace K0 := K0.later hb
  clear hb
  clear hH
  refine hK.out _ _ ⟨K0.v0.box, K0.v1.box⟩ (fun hH => ?_)
  clear hK K
  try simp only [Act.put, List.setIfInBounds_toArray, List.set_cons_zero, List.set_cons_succ]
  refine wpAnyE_one (i := 3) (by kernel_rfl) (by simp only [List.getElem?_toArray, List.getElem?_cons_succ, List.getElem?_cons_zero]; rfl) (fun K hK => ?_)
  go_simp
  refine (to_C K0.v1.dat hz1).mono ?_
  rintro e w3 ⟨D1, rfl, L1, hb⟩
  replace K0 := K0.later hb
  replace L0 := (keepsLG d0).later L0 hb
  clear hb
  clear hH
  refine hK.out _ _ ⟨K0.v0.box, K0.v1.box⟩ (fun hH => ?_)
  clear hK K
  try simp only [Act.put, List.setIfInBounds_toArray, List.set_cons_zero, List.set_cons_succ]
  refine wpAnyE_one (i := 4) (by kernel_rfl) (by simp only [List.getElem?_toArray, List.getElem?_cons_succ, List.getElem?_cons_zero]; rfl) (fun K hK => ?_)
  go_simp
  refine (specRecOk8_is L0 L1 hz0 hz1 HZ.out).mono ?_
  rintro e w4 ⟨rfl, hb⟩
  replace K0 := K0.later hb
  clear hb L0 L1
  clear hH
  refine hK.out _ _ ⟨K0.v0.box, K0.v1.box⟩ (fun hH => ?_)
  clear hK K
  try simp only [Act.put, List.setIfInBounds_toArray, List.set_cons_zero, List.set_cons_succ]
  refine wpAnyE_end (i := 5) (by kernel_rfl) (by simp only [List.getElem?_toArray, List.getElem?_cons_succ, List.getElem?_cons_zero]; rfl) (by kernel_rfl) (fun K hK => ?_)
  go_simp
  refine hK.out _ _ ⟨K0.v0.box, K0.v1.box⟩ ?_
  clear hK K
  try simp only [Act.put, List.setIfInBounds_toArray, List.set_cons_zero, List.set_cons_succ]
  obtain ⟨w1, rfl⟩ : ∃ x, x = w4 := ⟨_, rfl⟩
  clear hH
  -- a copy that is handed in
  go_wp2_with (refine wpList_load_box 52 _ rfl (w.heap.size) rfl 52 C0 K0.v0.box _ Try.underlying52 rfl I0.out (by first | rfl | simp [Region.wanted, yielded] | (simp [Region.wanted, yielded, Act.put] <;> omega)) ?_)
  refine (to_G K0.v0.dat hz0).mono ?_
  rintro e w2 ⟨D0, rfl, hL, hb⟩
  have s0 := hb.size
  have q0 := K0.v1.box.lt
  have O := Lib.hid (oneG hL.at)
  have JS := Lib.hid (sizeG hL.at).2
  have J0 := JS
  have hn := bel_new_row w2 #[.int .i64 0, .int .i64 0, .int .i64 0, .int .i64 0, .slice none 0 0] 26 D0
  have X0 := var_new_row (keepsLG d0) (Z := #[.int .i64 0, .int .i64 0, .int .i64 0, .int .i64 0, .slice none 0 0]) 26 hL (fun b hb => hb.2)
  replace K0 := (K0.later hb).later hn
  have ZB := Box.new w2 26 #[.int .i64 0, .int .i64 0, .int .i64 0, .int .i64 0, .slice none 0 0]
  generalize w1.heap.size = S0 at s0 q0 X0 
  clear hb hL hn
  go_upto_region 10 with (refine wpList_store_row rfl 26 _ _ rfl w2.heap.size _ rfl rfl 26 #[.int .i64 0, .int .i64 0, .int .i64 0, .int .i64 0, .slice none 0 0] ZB JS.out O.out.1.symm O.out.2 ?_)
  clear ZB O JS
  generalize ((w2.alloc _).setRow _ _ : World) = w3 at K0 X0 ⊢
  generalize w2.heap.size = V0 at s0 X0 ⊢
  obtain ⟨w1, rfl⟩ : ∃ x, x = w3 := ⟨_, rfl⟩
  -- a copy that is handed in
  go_wp2_with (refine wpList_load_box 41 _ rfl (w.heap.size + 1) rfl 41 C1 K0.v1.box _ Try.underlying41 rfl I1.out (by first | rfl | simp [Region.wanted, yielded] | (simp [Region.wanted, yielded, Act.put] <;> omega)) ?_)
  refine (to_C K0.v1.dat hz1).mono ?_
  rintro e w2 ⟨D1, rfl, hL, hb⟩
  have s1 := hb.size
  have q1 := X0.box.lt
  have O := Lib.hid (oneC hL.at)
  have JS := Lib.hid (sizeC hL.at).2
  have J1 := JS
  have hn := bel_new_row w2 #[.int .i64 0, .int .i64 0, .int .i64 0, .int .i64 0, .int .i64 0, .int .i64 0, .int .i64 0, .slice none 0 0, .int .i64 0] 31 D1
  have X1 := var_new_row (keepsLC d1) (Z := #[.int .i64 0, .int .i64 0, .int .i64 0, .int .i64 0, .int .i64 0, .int .i64 0, .int .i64 0, .slice none 0 0, .int .i64 0]) 31 hL (fun b hb => hb.2)
  replace X0 := (X0.later (keepsLG d0) hb).later (keepsLG d0) hn
  replace K0 := (K0.later hb).later hn
  have ZB := Box.new w2 31 #[.int .i64 0, .int .i64 0, .int .i64 0, .int .i64 0, .int .i64 0, .int .i64 0, .int .i64 0, .slice none 0 0, .int .i64 0]
  generalize w1.heap.size = S1 at s1 q1 X1 
  clear hb hL hn
  go_upto_region 11 with (refine wpList_store_row rfl 31 _ _ rfl w2.heap.size _ rfl rfl 31 #[.int .i64 0, .int .i64 0, .int .i64 0, .int .i64 0, .int .i64 0, .int .i64 0, .int .i64 0, .slice none 0 0, .int .i64 0] ZB JS.out O.out.1.symm O.out.2 ?_)
  clear ZB O JS
  generalize ((w2.alloc _).setRow _ _ : World) = w3 at K0 X0 X1 ⊢
  generalize w2.heap.size = V1 at s1 X1 ⊢
  obtain ⟨w1, rfl⟩ : ∃ x, x = w3 := ⟨_, rfl⟩
  -- the program
  go_wp2_with (first | (refine wpList_load_box 26 _ rfl (V0) rfl 26 D0 X0.box _ Try.underlying26 rfl J0.out (by first | rfl | simp [Region.wanted, yielded] | (simp [Region.wanted, yielded, Act.put] <;> omega)) ?_) | (refine wpList_load_box 31 _ rfl (V1) rfl 31 D1 X1.box _ Try.underlying31 rfl J1.out (by first | rfl | simp [Region.wanted, yielded] | (simp [Region.wanted, yielded, Act.put] <;> omega)) ?_))
  refine (recOk8_is X0.dat X1.dat hz0 hz1 HZ.out).mono ?_
  rintro e w4 ⟨rfl, hb⟩
  replace K0 := K0.later hb
  replace X0 := X0.later (keepsLG d0) hb
  replace X1 := X1.later (keepsLC d1) hb
  clear hb
  obtain ⟨w1, rfl⟩ : ∃ x, x = w4 := ⟨_, rfl⟩
  -- an argument is as it was
  go_upto_region 14 with fail
  refine wp_region_sink 5 (fun w' => Box w' V0 26 D0 ∧ Box w' (w.heap.size) 52 C0) (by kernel_rfl) ⟨X0.box, K0.v0.box⟩ (fun hH => ?_)
  have hb := (Below.refl w1.heap.size w1).drew
  replace K0 := K0.later hb
  replace X0 := X0.later (keepsLG d0) hb
  replace X1 := X1.later (keepsLC d1) hb
  clear hb
  generalize w1.drew = w2 at K0 hH X0 X1 ⊢
  refine wpAnyE_takeS (i := 0) (v := .agg D0) (by simp only [List.getElem?_toArray, List.getElem?_cons_zero]; rfl) (by kernel_rfl) (by kernel_rfl) (by kernel_rfl) (by exact fun _ _ _ h => h) (by kernel_rfl) ?yx0 hH ?_
  case yx0 => exact yields_box 26 _ rfl (V0) rfl 26 D0 (fun _ h => h.1) _ Try.underlying26 rfl J0.out (by first | rfl | simp [Region.wanted, yielded] | (simp [Region.wanted, yielded, Act.put] <;> omega))
  try simp only [Act.put, List.setIfInBounds_toArray, List.set_cons_zero, List.set_cons_succ]
  refine wpAnyE_takeS (i := 1) (v := .agg C0) (by simp only [List.getElem?_toArray, List.getElem?_cons_succ, List.getElem?_cons_zero]; rfl) (by kernel_rfl) (by kernel_rfl) (by kernel_rfl) (by exact fun _ _ _ h => h) (by kernel_rfl) ?yo0 hH ?_
  case yo0 => exact yields_box 52 _ rfl (w.heap.size) rfl 52 C0 (fun _ h => h.2) _ Try.underlying52 rfl I0.out (by first | rfl | simp [Region.wanted, yielded] | (simp [Region.wanted, yielded, Act.put] <;> omega))
  try simp only [Act.put, List.setIfInBounds_toArray, List.set_cons_zero, List.set_cons_succ]
  refine wpAnyE_one (i := 2) (by kernel_rfl) (by simp only [List.getElem?_toArray, List.getElem?_cons_succ, List.getElem?_cons_zero]; rfl) (fun K hK => ?_)
  go_simp
  refine (to_G K0.v0.dat hz0).mono ?_
  rintro e w3 ⟨D, rfl, L, hb⟩
  replace K0 := K0.later hb
  replace X0 := X0.later (keepsLG d0) hb
  replace X1 := X1.later (keepsLC d1) hb
  clear hb
  clear hH
  refine hK.out _ _ ⟨X0.box, K0.v0.box⟩ (fun hH => ?_)
  clear hK K
  try simp only [Act.put, List.setIfInBounds_toArray, List.set_cons_zero, List.set_cons_succ]
  refine wpAnyE_one (i := 3) (by kernel_rfl) (by simp only [List.getElem?_toArray, List.getElem?_cons_succ, List.getElem?_cons_zero]; rfl) (fun K hK => ?_)
  go_simp
  refine (eq_G X0.dat.at L.at hz0).mono ?_
  rintro e w4 ⟨rfl, hb⟩
  replace K0 := K0.later hb
  replace X0 := X0.later (keepsLG d0) hb
  replace X1 := X1.later (keepsLC d1) hb
  clear hb L
  clear hH
  refine hK.out _ _ ⟨X0.box, K0.v0.box⟩ (fun hH => ?_)
  clear hK K
  try simp only [Act.put, List.setIfInBounds_toArray, List.set_cons_zero, List.set_cons_succ]
  refine wpAnyE_end (i := 4) (by kernel_rfl) (by simp only [List.getElem?_toArray, List.getElem?_cons_succ, List.getElem?_cons_zero]; rfl) (by kernel_rfl) (fun K hK => ?_)
  go_simp
  refine hK.out _ _ ⟨X0.box, K0.v0.box⟩ ?_
  clear hK K
  try simp only [Act.put, List.setIfInBounds_toArray, List.set_cons_zero, List.set_cons_succ]
  obtain ⟨w1, rfl⟩ : ∃ x, x = w4 := ⟨_, rfl⟩
  clear hH
  -- an argument is as it was
  go_upto_region 16 with fail
  refine wp_region_sink 5 (fun w' => Box w' V1 31 D1 ∧ Box w' (w.heap.size + 1) 41 C1) (by kernel_rfl) ⟨X1.box, K0.v1.box⟩ (fun hH => ?_)
  have hb := (Below.refl w1.heap.size w1).drew
  replace K0 := K0.later hb
  replace X0 := X0.later (keepsLG d0) hb
  replace X1 := X1.later (keepsLC d1) hb
  clear hb
  generalize w1.drew = w2 at K0 hH X0 X1 ⊢
  refine wpAnyE_takeS (i := 0) (v := .agg D1) (by simp only [List.getElem?_toArray, List.getElem?_cons_zero]; rfl) (by kernel_rfl) (by kernel_rfl) (by kernel_rfl) (by exact fun _ _ _ h => h) (by kernel_rfl) ?yx1 hH ?_
  case yx1 => exact yields_box 31 _ rfl (V1) rfl 31 D1 (fun _ h => h.1) _ Try.underlying31 rfl J1.out (by first | rfl | simp [Region.wanted, yielded] | (simp [Region.wanted, yielded, Act.put] <;> omega))
  try simp only [Act.put, List.setIfInBounds_toArray, List.set_cons_zero, List.set_cons_succ]
  refine wpAnyE_takeS (i := 1) (v := .agg C1) (by simp only [List.getElem?_toArray, List.getElem?_cons_succ, List.getElem?_cons_zero]; rfl) (by kernel_rfl) (by kernel_rfl) (by kernel_rfl) (by exact fun _ _ _ h => h) (by kernel_rfl) ?yo1 hH ?_
  case yo1 => exact yields_box 41 _ rfl (w.heap.size + 1) rfl 41 C1 (fun _ h => h.2) _ Try.underlying41 rfl I1.out (by first | rfl | simp [Region.wanted, yielded] | (simp [Region.wanted, yielded, Act.put] <;> omega))
  try simp only [Act.put, List.setIfInBounds_toArray, List.set_cons_zero, List.set_cons_succ]
  refine wpAnyE_one (i := 2) (by kernel_rfl) (by simp only [List.getElem?_toArray, List.getElem?_cons_succ, List.getElem?_cons_zero]; rfl) (fun K hK => ?_)
  go_simp
  refine (to_C K0.v1.dat hz1).mono ?_
  rintro e w3 ⟨D, rfl, L, hb⟩
  replace K0 := K0.later hb
  replace X0 := X0.later (keepsLG d0) hb
  replace X1 := X1.later (keepsLC d1) hb
  clear hb
  clear hH
  refine hK.out _ _ ⟨X1.box, K0.v1.box⟩ (fun hH => ?_)
  clear hK K
  try simp only [Act.put, List.setIfInBounds_toArray, List.set_cons_zero, List.set_cons_succ]
  refine wpAnyE_one (i := 3) (by kernel_rfl) (by simp only [List.getElem?_toArray, List.getElem?_cons_succ, List.getElem?_cons_zero]; rfl) (fun K hK => ?_)
  go_simp
  refine (eq_C X1.dat.at L.at hz1).mono ?_
  rintro e w4 ⟨rfl, hb⟩
  replace K0 := K0.later hb
  replace X0 := X0.later (keepsLG d0) hb
  replace X1 := X1.later (keepsLC d1) hb
  clear hb L
  clear hH
  refine hK.out _ _ ⟨X1.box, K0.v1.box⟩ (fun hH => ?_)
  clear hK K
  try simp only [Act.put, List.setIfInBounds_toArray, List.set_cons_zero, List.set_cons_succ]
  refine wpAnyE_end (i := 4) (by kernel_rfl) (by simp only [List.getElem?_toArray, List.getElem?_cons_succ, List.getElem?_cons_zero]; rfl) (by kernel_rfl) (fun K hK => ?_)
  go_simp
  refine hK.out _ _ ⟨X1.box, K0.v1.box⟩ ?_
  clear hK K
  try simp only [Act.put, List.setIfInBounds_toArray, List.set_cons_zero, List.set_cons_succ]
  obtain ⟨w1, rfl⟩ : ∃ x, x = w4 := ⟨_, rfl⟩
  clear hH
  have E := K0.bel
  clear K0 X0 X1
  go_wp2
  go_ret
  exact ⟨rfl, E⟩

end Go.Proofs.Ythpccmckjmmicaa
