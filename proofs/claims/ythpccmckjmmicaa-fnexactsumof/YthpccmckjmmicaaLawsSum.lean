/- The exact law of SumOf answers true, whatever it is given: its walk (written by exact8.py). -/
import Derived.Test.YthpccmckjmmicaaKinds9
namespace Go.Proofs.Ythpccmckjmmicaa
open Go Go.RowKit


/-- The variables of the arguments, as they were given. -/
structure PreSum (w wr : World) (C0 : Array Value) (d0 : RecD) : Prop where
  v0 : VarOf (AtC d0) 41 wr (· < w.heap.size) (w.heap.size) C0
  bel : Below w.heap.size w wr
theorem PreSum.later {w wr w' : World} {C0 : Array Value} {d0 : RecD} (h : PreSum w wr C0 d0) (hb : Below wr.heap.size wr w') : PreSum w w' C0 d0 :=
  ⟨h.v0.later (keepsC d0) hb, bel_trans h.bel hb⟩
theorem PreSum.turn {w wr w' : World} {C0 : Array Value} {d0 : RecD} {T : Nat → Prop} (h : PreSum w wr C0 d0) (ht : Turns T wr w') (hT : ∀ b, T b → w.heap.size < b) : PreSum w w' C0 d0 :=
  ⟨h.v0.turn (keepsC d0) ht (fun hb => by have := hT _ hb; omega) (fun b hb hb2 => by have := hT b hb2; omega), ht.below h.bel (fun b hb => by have := hT b hb; omega)⟩
theorem PreSum.start {w : World} {C0 : Array Value} {d0 : RecD} (h0 : AtC d0 w (· < w.heap.size) (.agg C0)) : PreSum w (w.alloc (.cells C0 41)) C0 d0 := by
  have e0 := bel_alloc w (.cells C0 41)
  have E0 := e0
  have B0 := Box.new w 41 C0
  try simp only [World.size_alloc] at B0
  exact ⟨⟨B0, by omega, (keepsC d0).later h0 E0⟩, E0⟩

set_option maxRecDepth 100000 in
set_option maxHeartbeats 16000000 in
theorem exactSum_any (C0 : Array Value) (d0 : RecD) (w : World) (h0 : AtC d0 w (· < w.heap.size) (.agg C0)) :
    Calls Try.prog 4 #[.agg C0] w fun e w' => e = .returned (.bool true) ∧ Below w.heap.size w w' := by
  have I0 := Lib.hid (sizeC h0).1
  have J0 := Lib.hid (sizeC h0).2
  have K0 := PreSum.start h0
  clear h0
  go_enter Try.func4, Try.ntmps4
  go_wp2_with (refine wpList_load_box 41 _ rfl (w.heap.size) rfl 41 C0 K0.v0.box _ Try.underlying41 rfl I0.out (by first | rfl | simp [Region.wanted, yielded] | (simp [Region.wanted, yielded, Act.put] <;> omega)) ?_)
  generalize (w.alloc _ : World) = w0 at K0 ⊢
  refine (sz_C K0.v0.dat (L := 1048576) (by omega) (by omega)).mono ?_
  rintro e w1 ⟨⟨u, rfl, hle, hgt⟩, hb⟩
  replace K0 := K0.later hb
  clear hb
  rcases Int.lt_or_le (1048576) (d0.sz : Int) with hs0 | hs0
  · have hu := hgt hs0
    clear hle hgt
    have E := K0.bel
    go_wp2
    go_ret
    exact ⟨rfl, E⟩
  have hu := hle hs0
  clear hle hgt
  subst hu
  have hu0 : ¬ (1048576 - (d0.sz : Int) < 0) := by omega
  have hz0 : d0.sz ≤ 1048576 := by omega
  obtain ⟨z, hz⟩ : ∃ z, d0.sum = z := ⟨_, rfl⟩
  have HZ := Lib.hid hz
  have hzz : (z != z) = false := by simp
  clear hz
  go_upto_region 5 with fail
  clear hs0 hu0
  -- the model, on copies
  go_wp2_with (refine wpList_load_box 41 _ rfl (w.heap.size) rfl 41 C0 K0.v0.box _ Try.underlying41 rfl I0.out (by first | rfl | simp [Region.wanted, yielded] | (simp [Region.wanted, yielded, Act.put] <;> omega)) ?_)
  refine (to_C K0.v0.dat hz0).mono ?_
  rintro e w3 ⟨D0, rfl, L0, hb⟩
  replace K0 := K0.later hb
  clear hb
  go_wp2_with fail
  refine (specSum8_is L0 hz0 HZ.out).mono ?_
  rintro e w4 ⟨rfl, hb⟩
  replace K0 := K0.later hb
  clear hb L0
  obtain ⟨w1, rfl⟩ : ∃ x, x = w4 := ⟨_, rfl⟩
  -- a copy that is handed in
  go_wp2_with (refine wpList_load_box 41 _ rfl (w.heap.size) rfl 41 C0 K0.v0.box _ Try.underlying41 rfl I0.out (by first | rfl | simp [Region.wanted, yielded] | (simp [Region.wanted, yielded, Act.put] <;> omega)) ?_)
  refine (to_C K0.v0.dat hz0).mono ?_
  rintro e w2 ⟨D0, rfl, hL, hb⟩
  have s0 := hb.size
  have q0 := K0.v0.box.lt
  have O := Lib.hid (oneC hL.at)
  have JS := Lib.hid (sizeC hL.at).2
  have J0 := JS
  have hn := bel_new_row w2 #[.int .i64 0, .int .i64 0, .int .i64 0, .int .i64 0, .int .i64 0, .int .i64 0, .int .i64 0, .slice none 0 0, .int .i64 0] 31 D0
  have X0 := var_new_row (keepsLC d0) (Z := #[.int .i64 0, .int .i64 0, .int .i64 0, .int .i64 0, .int .i64 0, .int .i64 0, .int .i64 0, .slice none 0 0, .int .i64 0]) 31 hL (fun b hb => hb.2)
  replace K0 := (K0.later hb).later hn
  have ZB := Box.new w2 31 #[.int .i64 0, .int .i64 0, .int .i64 0, .int .i64 0, .int .i64 0, .int .i64 0, .int .i64 0, .slice none 0 0, .int .i64 0]
  generalize w1.heap.size = S0 at s0 q0 X0 
  clear hb hL hn
  go_upto_region 7 with (refine wpList_store_row rfl 31 _ _ rfl w2.heap.size _ rfl rfl 31 #[.int .i64 0, .int .i64 0, .int .i64 0, .int .i64 0, .int .i64 0, .int .i64 0, .int .i64 0, .slice none 0 0, .int .i64 0] ZB JS.out O.out.1.symm O.out.2 ?_)
  clear ZB O JS
  generalize ((w2.alloc _).setRow _ _ : World) = w3 at K0 X0 ⊢
  generalize w2.heap.size = V0 at s0 X0 ⊢
  obtain ⟨w1, rfl⟩ : ∃ x, x = w3 := ⟨_, rfl⟩
  -- the program
  go_wp2_with (refine wpList_load_box 31 _ rfl (V0) rfl 31 D0 X0.box _ Try.underlying31 rfl J0.out (by first | rfl | simp [Region.wanted, yielded] | (simp [Region.wanted, yielded, Act.put] <;> omega)) ?_)
  refine (sum8_is X0.dat hz0 HZ.out).mono ?_
  rintro e w4 ⟨rfl, hb⟩
  replace K0 := K0.later hb
  replace X0 := X0.later (keepsLC d0) hb
  clear hb
  obtain ⟨w1, rfl⟩ : ∃ x, x = w4 := ⟨_, rfl⟩
  -- an argument is as it was
  go_upto_region 10 with fail
  refine wp_region_sink 5 (fun w' => Box w' V0 31 D0 ∧ Box w' (w.heap.size) 41 C0) (by kernel_rfl) ⟨X0.box, K0.v0.box⟩ (fun hH => ?_)
  have hb := (Below.refl w1.heap.size w1).drew
  replace K0 := K0.later hb
  replace X0 := X0.later (keepsLC d0) hb
  clear hb
  generalize w1.drew = w2 at K0 hH X0 ⊢
  refine wpAnyE_takeS (i := 0) (v := .agg D0) (by simp only [List.getElem?_toArray, List.getElem?_cons_zero]; rfl) (by kernel_rfl) (by kernel_rfl) (by kernel_rfl) (by exact fun _ _ _ h => h) (by kernel_rfl) ?yx0 hH ?_
  case yx0 => exact yields_box 31 _ rfl (V0) rfl 31 D0 (fun _ h => h.1) _ Try.underlying31 rfl J0.out (by first | rfl | simp [Region.wanted, yielded] | (simp [Region.wanted, yielded, Act.put] <;> omega))
  try simp only [Act.put, List.setIfInBounds_toArray, List.set_cons_zero, List.set_cons_succ]
  refine wpAnyE_takeS (i := 1) (v := .agg C0) (by simp only [List.getElem?_toArray, List.getElem?_cons_succ, List.getElem?_cons_zero]; rfl) (by kernel_rfl) (by kernel_rfl) (by kernel_rfl) (by exact fun _ _ _ h => h) (by kernel_rfl) ?yo0 hH ?_
  case yo0 => exact yields_box 41 _ rfl (w.heap.size) rfl 41 C0 (fun _ h => h.2) _ Try.underlying41 rfl I0.out (by first | rfl | simp [Region.wanted, yielded] | (simp [Region.wanted, yielded, Act.put] <;> omega))
  try simp only [Act.put, List.setIfInBounds_toArray, List.set_cons_zero, List.set_cons_succ]
  refine wpAnyE_one (i := 2) (by kernel_rfl) (by simp only [List.getElem?_toArray, List.getElem?_cons_succ, List.getElem?_cons_zero]; rfl) (fun K hK => ?_)
  go_simp
  refine (to_C K0.v0.dat hz0).mono ?_
  rintro e w3 ⟨D, rfl, L, hb⟩
  replace K0 := K0.later hb
  replace X0 := X0.later (keepsLC d0) hb
  clear hb
  clear hH
  refine hK.out _ _ ⟨X0.box, K0.v0.box⟩ (fun hH => ?_)
  clear hK K
  try simp only [Act.put, List.setIfInBounds_toArray, List.set_cons_zero, List.set_cons_succ]
  refine wpAnyE_one (i := 3) (by kernel_rfl) (by simp only [List.getElem?_toArray, List.getElem?_cons_succ, List.getElem?_cons_zero]; rfl) (fun K hK => ?_)
  go_simp
  refine (eq_C X0.dat.at L.at hz0).mono ?_
  rintro e w4 ⟨rfl, hb⟩
  replace K0 := K0.later hb
  replace X0 := X0.later (keepsLC d0) hb
  clear hb L
  clear hH
  refine hK.out _ _ ⟨X0.box, K0.v0.box⟩ (fun hH => ?_)
  clear hK K
  try simp only [Act.put, List.setIfInBounds_toArray, List.set_cons_zero, List.set_cons_succ]
  refine wpAnyE_end (i := 4) (by kernel_rfl) (by simp only [List.getElem?_toArray, List.getElem?_cons_succ, List.getElem?_cons_zero]; rfl) (by kernel_rfl) (fun K hK => ?_)
  go_simp
  refine hK.out _ _ ⟨X0.box, K0.v0.box⟩ ?_
  clear hK K
  try simp only [Act.put, List.setIfInBounds_toArray, List.set_cons_zero, List.set_cons_succ]
  obtain ⟨w1, rfl⟩ : ∃ x, x = w4 := ⟨_, rfl⟩
  clear hH
  have E := K0.bel
  clear K0 X0
  go_wp2
  go_ret
  exact ⟨rfl, E⟩

end Go.Proofs.Ythpccmckjmmicaa
