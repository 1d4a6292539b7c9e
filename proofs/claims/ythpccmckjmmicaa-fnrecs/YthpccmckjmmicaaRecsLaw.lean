/- FnRecs: a record is right with its own sum alone: the law's walk (written by recs_law.py); conditions: the bytes can be read. -/
import Derived.Test.YthpccmckjmmicaaDrawRec9
import Derived.Test.YthpccmckjmmicaaLikeRec
import Derived.Test.YthpccmckjmmicaaRecOkD
namespace Go.Proofs.Ythpccmckjmmicaa
open Go Go.RowKit

theorem recOkA_is {g : GrpD} {d : RecD} {w : World} {F0 F1 : Nat → Prop} {C0 C1 : Array Value} {z : Bool} (h0 : AtG g w F0 (.agg C0)) (h1 : AtC d w F1 (.agg C1)) (z1 : d.sz ≤ 1048576) (hz : rokD g d = z) :
    Calls Try.prog 9 #[.agg C0, .agg C1] w fun e w' => e = .returned (.bool z) ∧ Below w.heap.size w w' := by
  obtain ⟨L, m, mc, rfl, hm, hp⟩ := LieC.slc h1 z1
  obtain ⟨A, n, cap, e0, m0, hr⟩ := h0
  injection e0 with e0
  subst e0
  exact recOk_is hz A n cap L m mc w m0 hr.1 hm hp
theorem specRecOkA_is {g : GrpD} {d : RecD} {w : World} {F0 F1 : Nat → Prop} {C0 C1 : Array Value} {z : Bool} (h0 : AtG g w F0 (.agg C0)) (h1 : AtC d w F1 (.agg C1)) (z1 : d.sz ≤ 1048576) (hz : rokD g d = z) :
    Calls Try.prog 10 #[.agg C0, .agg C1] w fun e w' => e = .returned (.bool z) ∧ Below w.heap.size w w' := by
  obtain ⟨L, m, mc, rfl, hm, hp⟩ := LieC.slc h1 z1
  obtain ⟨A, n, cap, e0, m0, hr⟩ := h0
  injection e0 with e0
  subst e0
  exact specRecOk_is hz A n cap L m mc w m0 hr.1 hm hp
theorem sumA_is {d : RecD} {w : World} {F : Nat → Prop} {C : Array Value} {z : Int} (h : AtC d w F (.agg C)) (hs : d.sz ≤ 1048576) (hz : d.sum = z) :
    Calls Try.prog 11 #[.agg C] w fun e w' => e = .returned (.int .i64 z) ∧ Below w.heap.size w w' := by
  obtain ⟨L, m, mc, rfl, hm, hr⟩ := LieC.slc h hs
  exact hz ▸ sumOf_is d.r1 d.r2 d.r3 d.r4 d.r5 d.r6 d.r7 L m mc d.r8 d.ps w hm hr
theorem specSumA_is {d : RecD} {w : World} {F : Nat → Prop} {C : Array Value} {z : Int} (h : AtC d w F (.agg C)) (hs : d.sz ≤ 1048576) (hz : d.sum = z) :
    Calls Try.prog 12 #[.agg C] w fun e w' => e = .returned (.int .i64 z) ∧ Below w.heap.size w w' := by
  obtain ⟨L, m, mc, rfl, hm, hr⟩ := LieC.slc h hs
  exact hz ▸ specSumOf_is d.r1 d.r2 d.r3 d.r4 d.r5 d.r6 d.r7 L m mc d.r8 d.ps w hm hr
theorem atG_lt9 {d : GrpD} {w : World} {F : Nat → Prop} {v : Value} (h : AtG d w F v) : AtG d w (· < w.heap.size) v := by
  obtain ⟨A, n, c, e, hn, hr⟩ := h
  exact ⟨A, n, c, e, hn, hr.1.all⟩
/-- What was drawn: a group, a record whose list can be handed on. -/
structure RC (w1 wr : World) (gd : GrpD) (G : Array Value) (d : RecD) (u : Value) : Prop where
  bel : Below w1.heap.size w1 wr
  vg : Box wr w1.heap.size 26 G
  vr : Box wr (w1.heap.size + 1) 31 (d.cells u)
  grp : AtG gd wr (· < w1.heap.size) (.agg G)
  own : RowC d.ps wr (· < w1.heap.size) u
theorem RC.turn {w1 wr w' : World} {gd : GrpD} {G : Array Value} {d : RecD} {u : Value} {T : Nat → Prop} (h : RC w1 wr gd G d u) (ht : Turns T wr w') (hT : ∀ b, T b → w1.heap.size + 1 < b) : RC w1 w' gd G d u :=
  ⟨ht.below h.bel (fun i hi => by have := hT i hi; omega), h.vg.turn ht (fun hi => by have := hT _ hi; omega), h.vr.turn ht (fun hi => by have := hT _ hi; omega), (keepsG gd).turn h.grp ht (fun b hb hi => by have := hT b hi; omega), (keepsRow d.ps).turn h.own ht (fun b hb hi => by have := hT b hi; omega)⟩
theorem RC.later {w1 wr w' : World} {gd : GrpD} {G : Array Value} {d : RecD} {u : Value} (h : RC w1 wr gd G d u) (hb : Below wr.heap.size wr w') : RC w1 w' gd G d u := h.turn (T := fun _ => False) (Turns.of_below hb) (fun _ h => h.elim)
theorem RC.at {w1 wr : World} {gd : GrpD} {G : Array Value} {d : RecD} {u : Value} (h : RC w1 wr gd G d u) : AtC d wr (· < w1.heap.size) (.agg (d.cells u)) := LieC.at ⟨u, rfl, h.own.own⟩
theorem RC.slc {w1 wr : World} {gd : GrpD} {G : Array Value} {d : RecD} {u : Value} (h : RC w1 wr gd G d u) : Slc wr u d.ps := by
  obtain ⟨_, _, _, _, _, s⟩ := OwnP.at h.own.own
  exact s

theorem rok_bad (g : GrpD) (d : RecD) (z : Int) (hz : d.sum = z) : rokD g ⟨d.r1, d.r2, d.r3, d.r4, d.r5, d.r6, d.r7, d.ps, z + 1⟩ = false := by
  unfold rokD rokB
  have : (z + 1 == sumN d.r1 d.r2 d.r3 d.r4 d.r5 d.r6 d.r7 d.ps) = false := by
    have h : sumN d.r1 d.r2 d.r3 d.r4 d.r5 d.r6 d.r7 d.ps = z := hz
    rw [h]
    simp
    omega
  simp [this]
theorem rok_same {g : GrpD} {d : RecD} (h : rokD g d = true) : (⟨d.r1, d.r2, d.r3, d.r4, d.r5, d.r6, d.r7, d.ps, sumN d.r1 d.r2 d.r3 d.r4 d.r5 d.r6 d.r7 d.ps⟩ : RecD) = d := by
  unfold rokD rokB at h
  simp only [Bool.and_eq_true, beq_iff_eq] at h
  obtain ⟨r1, r2, r3, r4, r5, r6, r7, ps, r8⟩ := d
  simp only at h ⊢
  rw [← h.2]

theorem recs_big (A : Option Addr) (n cap : Nat) (w : World) (hm : n ≤ maxLen) (hb : 4096 < n) :
    Calls Try.prog 3 #[.slice A n cap] w fun e w' => e = .returned (.bool true) ∧ Below w.heap.size w w' := by
  have hd : decide (4096 < n) = true := by simpa using hb
  go_enter Try.func3, Try.ntmps3
  go_wp2_with (go_at_call 7; refine (big_any A n cap _ hm).mono ?_; rintro e w' ⟨rfl, rfl⟩)
  go_ret
  exact ⟨rfl, Below.refl _ _⟩

set_option maxRecDepth 100000 in
set_option maxHeartbeats 16000000 in
theorem recs_small (A : Option Addr) (n cap : Nat) (w : World) (hn : n ≤ 4096) (hB : Bytes w w.heap.size A n) :
    Calls Try.prog 3 #[.slice A n cap] w fun e w' => e = .returned (.bool true) ∧ Below w.heap.size w w' := by
  have hd : decide (4096 < n) = false := by simpa using hn
  have HM : Hid (n ≤ maxLen) := by show n ≤ maxLen; unfold maxLen; omega
  have HB := Lib.hid hB
  clear hB
  go_enter Try.func3, Try.ntmps3
  go_wp2_with fail
  refine (big_any A n cap _ HM.out).mono ?_
  rintro e w' ⟨rfl, rfl⟩
  go_wp2_with fail
  refine (drawRecOk_any A n cap w hn HB.out).mono ?_
  rintro e w1 ⟨G, C, gd, d, rfl, hG, hC, hgl, hdl, E1⟩
  clear hd HB HM hn
  have OG := Lib.hid (oneG hG)
  have SG := Lib.hid (sizeGI hG)
  have OC := Lib.hid (oneC hC.lie.at)
  have SC := Lib.hid (sizeCI hC.lie.at)
  obtain ⟨u, hu, hR⟩ := hC
  injection hu with hu
  subst hu
  have hz1 : d.sz ≤ 1048576 := by unfold RecD.sz; omega
  have e0 := bel_trans (bel_alloc w1 (.cells #[.int .i64 0, .int .i64 0, .int .i64 0, .int .i64 0, .slice none 0 0] 26)) (bel_alloc _ (.cells #[.int .i64 0, .int .i64 0, .int .i64 0, .int .i64 0, .int .i64 0, .int .i64 0, .int .i64 0, .slice none 0 0, .int .i64 0] 31))
  have R2 := (Box.new w1 26 #[.int .i64 0, .int .i64 0, .int .i64 0, .int .i64 0, .slice none 0 0]).alloc (.cells #[.int .i64 0, .int .i64 0, .int .i64 0, .int .i64 0, .int .i64 0, .int .i64 0, .int .i64 0, .slice none 0 0, .int .i64 0] 31)
  have R3 := Box.new (w1.alloc (.cells #[.int .i64 0, .int .i64 0, .int .i64 0, .int .i64 0, .slice none 0 0] 26)) 31 #[.int .i64 0, .int .i64 0, .int .i64 0, .int .i64 0, .int .i64 0, .int .i64 0, .int .i64 0, .slice none 0 0, .int .i64 0]
  simp only [World.size_alloc] at R3
  have t1 := turns_setRow ((w1.alloc (.cells #[.int .i64 0, .int .i64 0, .int .i64 0, .int .i64 0, .slice none 0 0] 26)).alloc (.cells #[.int .i64 0, .int .i64 0, .int .i64 0, .int .i64 0, .int .i64 0, .int .i64 0, .int .i64 0, .slice none 0 0, .int .i64 0] 31)) w1.heap.size G
  have t2 := turns_setRow (((w1.alloc (.cells #[.int .i64 0, .int .i64 0, .int .i64 0, .int .i64 0, .slice none 0 0] 26)).alloc (.cells #[.int .i64 0, .int .i64 0, .int .i64 0, .int .i64 0, .int .i64 0, .int .i64 0, .int .i64 0, .slice none 0 0, .int .i64 0] 31)).setRow w1.heap.size G) (w1.heap.size + 1) (d.cells u)
  have X3 := R3.turn t1 (by omega)
  have hlt : RowC d.ps w1 (· < w1.heap.size) u := (keepsRow d.ps).sub (rowC_lt hR) (fun b hb => hb.2)
  have K : RC w1 ((((w1.alloc (.cells #[.int .i64 0, .int .i64 0, .int .i64 0, .int .i64 0, .slice none 0 0] 26)).alloc (.cells #[.int .i64 0, .int .i64 0, .int .i64 0, .int .i64 0, .int .i64 0, .int .i64 0, .int .i64 0, .slice none 0 0, .int .i64 0] 31)).setRow w1.heap.size G).setRow (w1.heap.size + 1) (d.cells u)) gd G d u := ⟨t2.below (t1.below e0 (fun i hi => by omega)) (fun i hi => by omega), (R2.setRow G).turn t2 (by omega), X3.setRow _, (keepsG gd).turn ((keepsG gd).turn ((keepsG gd).later (atG_lt9 hG) e0) t1 (fun b hb e => by omega)) t2 (fun b hb e => by omega), (keepsRow d.ps).turn ((keepsRow d.ps).turn ((keepsRow d.ps).later hlt e0) t1 (fun b hb e => by omega)) t2 (fun b hb e => by omega)⟩
  clear hG hR hlt e0 t1 t2 hgl
  go_upto_region 4 with (first | (refine wpList_store_row rfl 26 _ _ rfl w1.heap.size _ rfl rfl 26 _ R2 SG.out OG.out.1.symm OG.out.2 ?_) | (refine wpList_store_row rfl 31 _ _ rfl (w1.heap.size + 1) _ rfl rfl 31 _ X3 SC.out OC.out.1.symm OC.out.2 ?_))
  clear R2 R3 X3
  generalize ((((w1.alloc _).alloc _).setRow _ _).setRow _ _ : World) = w2 at K ⊢
  obtain ⟨b, hb⟩ : ∃ b, rokD gd d = b := ⟨_, rfl⟩
  obtain ⟨z, hz⟩ : ∃ z, d.sum = z := ⟨_, rfl⟩
  have HB := Lib.hid hb
  have HZ := Lib.hid hz
  have hbb : (b != b) = false := by simp
  have hzz : (z != z) = false := by simp
  clear hb hz
  have E0 := Lib.hid E1
  clear E1
  refine wp_region_sink 14 (fun w' => Box w' (w1.heap.size) 26 G ∧ Box w' (w1.heap.size + 1) 31 (d.cells u)) (by kernel_rfl) ⟨K.vg, K.vr⟩ (fun hH => ?_)
  have hb := (Below.refl w2.heap.size w2).drew
  replace K := K.later hb
  clear hb
  generalize w2.drew = w3 at K hH ⊢
  refine wpAnyE_takeS (i := 0) (v := .agg G) (by simp only [List.getElem?_toArray, List.getElem?_cons_zero]; rfl) (by kernel_rfl) (by kernel_rfl) (by kernel_rfl) (by exact fun _ _ _ h => h) (by kernel_rfl) ?yr0 hH ?_
  case yr0 => exact yields_box 26 _ rfl ((w1.heap.size)) rfl 26 G (fun _ h => h.1) _ Try.underlying26 rfl SG.out (by first | rfl | simp [Region.wanted, yielded] | (simp [Region.wanted, yielded, Act.put] <;> omega))
  try simp only [Act.put, List.setIfInBounds_toArray, List.set_cons_zero, List.set_cons_succ]
  refine wpAnyE_takeS (i := 1) (v := .agg (d.cells u)) (by simp only [List.getElem?_toArray, List.getElem?_cons_succ, List.getElem?_cons_zero]; rfl) (by kernel_rfl) (by kernel_rfl) (by kernel_rfl) (by exact fun _ _ _ h => h) (by kernel_rfl) ?yr1 hH ?_
  case yr1 => exact yields_box 31 _ rfl ((w1.heap.size + 1)) rfl 31 (d.cells u) (fun _ h => h.2) _ Try.underlying31 rfl SC.out (by first | rfl | simp [Region.wanted, yielded] | (simp [Region.wanted, yielded, Act.put] <;> omega))
  try simp only [Act.put, List.setIfInBounds_toArray, List.set_cons_zero, List.set_cons_succ]
  refine wpAnyE_takeS (i := 3) (v := .agg G) (by simp only [List.getElem?_toArray, List.getElem?_cons_succ, List.getElem?_cons_zero]; rfl) (by kernel_rfl) (by kernel_rfl) (by kernel_rfl) (by exact fun _ _ _ h => h) (by kernel_rfl) ?yr3 hH ?_
  case yr3 => exact yields_box 26 _ rfl ((w1.heap.size)) rfl 26 G (fun _ h => h.1) _ Try.underlying26 rfl SG.out (by first | rfl | simp [Region.wanted, yielded] | (simp [Region.wanted, yielded, Act.put] <;> omega))
  try simp only [Act.put, List.setIfInBounds_toArray, List.set_cons_zero, List.set_cons_succ]
  refine wpAnyE_takeS (i := 4) (v := .agg (d.cells u)) (by simp only [List.getElem?_toArray, List.getElem?_cons_succ, List.getElem?_cons_zero]; rfl) (by kernel_rfl) (by kernel_rfl) (by kernel_rfl) (by exact fun _ _ _ h => h) (by kernel_rfl) ?yr4 hH ?_
  case yr4 => exact yields_box 31 _ rfl ((w1.heap.size + 1)) rfl 31 (d.cells u) (fun _ h => h.2) _ Try.underlying31 rfl SC.out (by first | rfl | simp [Region.wanted, yielded] | (simp [Region.wanted, yielded, Act.put] <;> omega))
  try simp only [Act.put, List.setIfInBounds_toArray, List.set_cons_zero, List.set_cons_succ]
  refine wpAnyE_one (i := 2) (by kernel_rfl) (by simp only [List.getElem?_toArray, List.getElem?_cons_succ, List.getElem?_cons_zero]; rfl) (fun K' hK => ?_)
  go_simp
  refine (recOkA_is K.grp K.at hz1 HB.out).mono ?_
  rintro e w4 ⟨rfl, hb⟩
  replace K := K.later hb
  clear hb
  clear hH
  refine hK.out _ _ ⟨K.vg, K.vr⟩ (fun hH => ?_)
  clear hK K'
  try simp only [Act.put, List.setIfInBounds_toArray, List.set_cons_zero, List.set_cons_succ]
  obtain ⟨w3, rfl⟩ : ∃ x, x = w4 := ⟨_, rfl⟩
  refine wpAnyE_one (i := 5) (by kernel_rfl) (by simp only [List.getElem?_toArray, List.getElem?_cons_succ, List.getElem?_cons_zero]; rfl) (fun K' hK => ?_)
  go_simp
  refine (specRecOkA_is K.grp K.at hz1 HB.out).mono ?_
  rintro e w4 ⟨rfl, hb⟩
  replace K := K.later hb
  clear hb
  clear hH
  refine hK.out _ _ ⟨K.vg, K.vr⟩ (fun hH => ?_)
  clear hK K'
  try simp only [Act.put, List.setIfInBounds_toArray, List.set_cons_zero, List.set_cons_succ]
  obtain ⟨w3, rfl⟩ : ∃ x, x = w4 := ⟨_, rfl⟩
  refine wpAnyE_pure (i := 6) (v := ?vr6) (by simp only [List.getElem?_toArray, List.getElem?_cons_succ, List.getElem?_cons_zero]; rfl) (by kernel_rfl) (by kernel_rfl) (by kernel_rfl) (by exact fun _ _ _ h => h) (by kernel_rfl) (Or.inl ⟨by rfl, ?yr6⟩) hH ?rr6
  case yr6 => (intro w' hSw; (try dsimp only at hSw); go_simp; try with_reducible rfl)
  try simp only [Act.put, List.setIfInBounds_toArray, List.set_cons_zero, List.set_cons_succ]
  refine wpAnyE_pure (i := 7) (v := ?vr7) (by simp only [List.getElem?_toArray, List.getElem?_cons_succ, List.getElem?_cons_zero]; rfl) (by kernel_rfl) (by kernel_rfl) (by kernel_rfl) (by exact fun _ _ _ h => h) (by kernel_rfl) (Or.inl ⟨by rfl, ?yr7⟩) hH ?rr7
  case yr7 => (intro w' hSw; (try dsimp only at hSw); go_simp; try with_reducible rfl)
  try simp only [Act.put, List.setIfInBounds_toArray, List.set_cons_zero, List.set_cons_succ]
  refine wpAnyE_takeS (i := 8) (v := .agg (d.cells u)) (by simp only [List.getElem?_toArray, List.getElem?_cons_succ, List.getElem?_cons_zero]; rfl) (by kernel_rfl) (by kernel_rfl) (by kernel_rfl) (by exact fun _ _ _ h => h) (by kernel_rfl) ?yr8 hH ?_
  case yr8 => exact yields_box 31 _ rfl ((w1.heap.size + 1)) rfl 31 (d.cells u) (fun _ h => h.2) _ Try.underlying31 rfl SC.out (by first | rfl | simp [Region.wanted, yielded] | (simp [Region.wanted, yielded, Act.put] <;> omega))
  try simp only [Act.put, List.setIfInBounds_toArray, List.set_cons_zero, List.set_cons_succ]
  refine wpAnyE_takeS (i := 10) (v := .agg (d.cells u)) (by simp only [List.getElem?_toArray, List.getElem?_cons_succ, List.getElem?_cons_zero]; rfl) (by kernel_rfl) (by kernel_rfl) (by kernel_rfl) (by exact fun _ _ _ h => h) (by kernel_rfl) ?yr10 hH ?_
  case yr10 => exact yields_box 31 _ rfl ((w1.heap.size + 1)) rfl 31 (d.cells u) (fun _ h => h.2) _ Try.underlying31 rfl SC.out (by first | rfl | simp [Region.wanted, yielded] | (simp [Region.wanted, yielded, Act.put] <;> omega))
  try simp only [Act.put, List.setIfInBounds_toArray, List.set_cons_zero, List.set_cons_succ]
  refine wpAnyE_one (i := 9) (by kernel_rfl) (by simp only [List.getElem?_toArray, List.getElem?_cons_succ, List.getElem?_cons_zero]; rfl) (fun K' hK => ?_)
  go_simp
  refine (sumA_is K.at hz1 HZ.out).mono ?_
  rintro e w4 ⟨rfl, hb⟩
  replace K := K.later hb
  clear hb
  clear hH
  refine hK.out _ _ ⟨K.vg, K.vr⟩ (fun hH => ?_)
  clear hK K'
  try simp only [Act.put, List.setIfInBounds_toArray, List.set_cons_zero, List.set_cons_succ]
  obtain ⟨w3, rfl⟩ : ∃ x, x = w4 := ⟨_, rfl⟩
  refine wpAnyE_one (i := 11) (by kernel_rfl) (by simp only [List.getElem?_toArray, List.getElem?_cons_succ, List.getElem?_cons_zero]; rfl) (fun K' hK => ?_)
  go_simp
  refine (specSumA_is K.at hz1 HZ.out).mono ?_
  rintro e w4 ⟨rfl, hb⟩
  replace K := K.later hb
  clear hb
  clear hH
  refine hK.out _ _ ⟨K.vg, K.vr⟩ (fun hH => ?_)
  clear hK K'
  try simp only [Act.put, List.setIfInBounds_toArray, List.set_cons_zero, List.set_cons_succ]
  obtain ⟨w3, rfl⟩ : ∃ x, x = w4 := ⟨_, rfl⟩
  refine wpAnyE_pure (i := 12) (v := ?vr12) (by simp only [List.getElem?_toArray, List.getElem?_cons_succ, List.getElem?_cons_zero]; rfl) (by kernel_rfl) (by kernel_rfl) (by kernel_rfl) (by exact fun _ _ _ h => h) (by kernel_rfl) (Or.inl ⟨by rfl, ?yr12⟩) hH ?rr12
  case yr12 => (intro w' hSw; (try dsimp only at hSw); go_simp; try with_reducible rfl)
  try simp only [Act.put, List.setIfInBounds_toArray, List.set_cons_zero, List.set_cons_succ]
  refine wpAnyE_end (i := 13) (by kernel_rfl) (by simp only [List.getElem?_toArray, List.getElem?_cons_succ, List.getElem?_cons_zero]; rfl) (by kernel_rfl) (fun K' hK => ?_)
  go_simp
  refine hK.out _ _ ⟨K.vg, K.vr⟩ ?_
  clear hK K'
  try simp only [Act.put, List.setIfInBounds_toArray, List.set_cons_zero, List.set_cons_succ]
  clear hH
  go_upto_region 6 with fail
  obtain ⟨A7, n7, c7, hu⟩ := rowC_form K.own
  subst hu
  obtain ⟨q0, q1, q2, q3, q4, q5, q6, q7, q8⟩ := Box.nine (v0 := .int .i64 d.r1) (v1 := .int .i64 d.r2) (v2 := .int .i64 d.r3) (v3 := .int .i64 d.r4) (v4 := .int .i64 d.r5) (v5 := .int .i64 d.r6) (v6 := .int .i64 d.r7) (v7 := .slice A7 n7 c7) (v8 := .int .i64 d.r8) K.vr
  go_wp2_with fail
  refine (newRec_is d.r1 d.r2 d.r3 d.r4 d.r5 d.r6 d.r7 _ d.ps w3 (by omega) K.slc).mono ?_
  rintro e w4 ⟨CX, rfl, L, hb⟩
  clear q0 q1 q2 q3 q4 q5 q6 q7 q8
  replace K := K.later hb
  clear hb
  obtain ⟨dx, hdx⟩ : ∃ dx : RecD, (⟨d.r1, d.r2, d.r3, d.r4, d.r5, d.r6, d.r7, d.ps, sumN d.r1 d.r2 d.r3 d.r4 d.r5 d.r6 d.r7 d.ps⟩ : RecD) = dx := ⟨_, rfl⟩
  rw [hdx] at L
  have hx8 : dx.r8 = z := by rw [← hdx]; exact HZ.out
  have hxs : dx.sum = z := by rw [← hdx]; exact HZ.out
  have hxz : dx.sz ≤ 1048576 := by rw [← hdx]; exact hz1
  have OX := Lib.hid (oneC L.at)
  have SX := Lib.hid (sizeCI L.at)
  have hb := bel_new_row w4 #[.int .i64 0, .int .i64 0, .int .i64 0, .int .i64 0, .int .i64 0, .int .i64 0, .int .i64 0, .slice none 0 0, .int .i64 0] 31 CX
  have hV : w1.heap.size + 1 < w4.heap.size := K.vr.lt
  have X := var_new_row (keepsLC dx) (Z := #[.int .i64 0, .int .i64 0, .int .i64 0, .int .i64 0, .int .i64 0, .int .i64 0, .int .i64 0, .slice none 0 0, .int .i64 0]) 31 L (fun b hb => hb.2)
  have ZB := Box.new w4 31 #[.int .i64 0, .int .i64 0, .int .i64 0, .int .i64 0, .int .i64 0, .int .i64 0, .int .i64 0, .slice none 0 0, .int .i64 0]
  replace K := K.later hb
  clear hb
  generalize w3.heap.size = N3 at X
  go_upto_region 7 with (refine wpList_store_row rfl 31 _ _ rfl w4.heap.size _ rfl rfl 31 #[.int .i64 0, .int .i64 0, .int .i64 0, .int .i64 0, .int .i64 0, .int .i64 0, .int .i64 0, .slice none 0 0, .int .i64 0] ZB SX.out OX.out.1.symm OX.out.2 ?_)
  clear ZB L
  generalize ((w4.alloc _).setRow _ _ : World) = w2 at K X ⊢
  generalize w4.heap.size = VX at X hV ⊢
  have hVX := X.box.lt
  have hb := bel_new_row w2 #[.int .i64 0, .int .i64 0, .int .i64 0, .int .i64 0, .int .i64 0, .int .i64 0, .int .i64 0, .slice none 0 0, .int .i64 0] 31 CX
  have ZB := Box.new w2 31 #[.int .i64 0, .int .i64 0, .int .i64 0, .int .i64 0, .int .i64 0, .int .i64 0, .int .i64 0, .slice none 0 0, .int .i64 0]
  have Y0 : VarOf (LieC dx) 31 ((w2.alloc (.cells #[.int .i64 0, .int .i64 0, .int .i64 0, .int .i64 0, .int .i64 0, .int .i64 0, .int .i64 0, .slice none 0 0, .int .i64 0] 31)).setRow w2.heap.size CX) (Iv N3 VX) w2.heap.size CX := VarOf.put (keepsLC dx) ZB ((keepsLC dx).later X.dat (bel_alloc w2 _)) (fun h => by have := h.2; omega)
  have XB := X.box
  replace K := K.later hb
  replace X := X.later (keepsLC dx) hb
  clear hb
  go_upto_region 8 with (first | (refine wpList_load_box 31 _ rfl (VX) rfl 31 CX XB _ Try.underlying31 rfl SX.out (by first | rfl | simp [Region.wanted, yielded] | (simp [Region.wanted, yielded, Act.put] <;> omega)) ?_) | (refine wpList_store_row rfl 31 _ _ rfl w2.heap.size _ rfl rfl 31 #[.int .i64 0, .int .i64 0, .int .i64 0, .int .i64 0, .int .i64 0, .int .i64 0, .int .i64 0, .slice none 0 0, .int .i64 0] ZB SX.out OX.out.1.symm OX.out.2 ?_))
  clear ZB XB
  generalize ((w2.alloc _).setRow _ _ : World) = w3 at K X Y0 ⊢
  generalize w2.heap.size = VY at Y0 hVX ⊢
  obtain ⟨ux, hux, ox⟩ := Y0.dat
  injection hux with hux
  have c8 : w3.cell? ⟨VX, 8, none⟩ = some (.int .i64 z) := by rw [X.box.cell 8, hux, ← hx8]; rfl
  have y8 : w3.cell? ⟨VY, 8, none⟩ = some (.int .i64 z) := by rw [Y0.box.cell 8, hux, ← hx8]; rfl
  have fy := Y0.box.frozen
  have hbd : Bd z := by rw [← HZ.out]; exact sumN_bd _ _ _ _ _ _ _ _
  unfold Bd at hbd
  have hw : IntKind.i64.wrap (z + 1) = z + 1 := IntWalk.i64_in _ (by omega)
  have ht := turns_setCell w3 VY 8 (.int .i64 (z + 1))
  obtain ⟨dy, hdy⟩ : ∃ dy : RecD, (⟨dx.r1, dx.r2, dx.r3, dx.r4, dx.r5, dx.r6, dx.r7, dx.ps, z + 1⟩ : RecD) = dy := ⟨_, rfl⟩
  have hcy : CX.setIfInBounds 8 (.int .i64 (z + 1)) = dy.cells ux := by rw [hux, ← hdy]; rfl
  have Y : VarOf (LieC dy) 31 _ (Iv N3 VX) VY (dy.cells ux) := ⟨hcy ▸ Y0.box.set 8 _, Y0.far, ux, rfl, by rw [← hdy]; exact OwnP.turn ox ht (fun b hb e => by have := hb.2; omega)⟩
  replace K := K.turn ht (fun b hb => by omega)
  replace X := X.turn (keepsLC dx) ht (by omega) (fun b hb e => by have := hb.2; omega)
  have hyz : dy.sz ≤ 1048576 := by rw [← hdy]; exact hxz
  have HY : Hid (rokD gd dy = false) := Lib.hid (by rw [← hdy, ← hdx]; exact rok_bad gd d z HZ.out)
  have SY := Lib.hid (sizeCI Y.dat.at)
  clear ht hux ox Y0 hcy
  go_upto_region 9 with fail
  clear y8 fy hw hbd c8
  generalize (w3.setCell _ _ : World) = w2 at K X Y ⊢
  have hq8 : CX[8]? = some (.int .i64 z) := by
    obtain ⟨ux, hux, -⟩ := X.dat
    injection hux with hux
    rw [hux, ← hx8]; rfl
  have HX := Lib.hid hxs
  have hzt : (z == z) = true := by simp
  refine wp_region_sink 42 (fun w' => Box w' (w1.heap.size) 26 G ∧ Box w' (w1.heap.size + 1) 31 (d.cells (.slice A7 n7 c7)) ∧ Box w' VX 31 CX ∧ Box w' VY 31 (dy.cells ux)) (by kernel_rfl) ⟨K.vg, K.vr, X.box, Y.box⟩ (fun hH => ?_)
  have hb := (Below.refl w2.heap.size w2).drew
  replace K := K.later hb
  replace X := X.later (keepsLC dx) hb
  replace Y := Y.later (keepsLC dy) hb
  clear hb
  generalize w2.drew = w3 at K X Y hH ⊢
  refine wpAnyE_pure (i := 0) (v := ?vs0) (by simp only [List.getElem?_toArray, List.getElem?_cons_zero]; rfl) (by kernel_rfl) (by kernel_rfl) (by kernel_rfl) (by exact fun _ _ _ h => h) (by kernel_rfl) (Or.inl ⟨by rfl, ?ys0⟩) hH ?rs0
  case ys0 => (intro w' hSw; (try dsimp only at hSw); go_simp; try with_reducible rfl)
  try simp only [Act.put, List.setIfInBounds_toArray, List.set_cons_zero, List.set_cons_succ]
  refine wpAnyE_takeS (i := 1) (v := .int .i64 z) (by simp only [List.getElem?_toArray, List.getElem?_cons_succ, List.getElem?_cons_zero]; rfl) (by kernel_rfl) (by kernel_rfl) (by kernel_rfl) (by exact fun _ _ _ h => h) (by kernel_rfl) ?yc1 hH ?_
  case yc1 => exact .inl ⟨(by first | rfl | simp [Region.wanted, yielded] | (simp [Region.wanted, yielded, Act.put] <;> omega)), fun w' hSw => (by have hcc : w'.cell? ⟨VX, 8, none⟩ = some (.int .i64 z) := ((hSw.2.2.1).cell 8).trans hq8; clear hSw; go_simp; try with_reducible rfl)⟩
  try simp only [Act.put, List.setIfInBounds_toArray, List.set_cons_zero, List.set_cons_succ]
  refine wpAnyE_takeS (i := 2) (v := .agg CX) (by simp only [List.getElem?_toArray, List.getElem?_cons_succ, List.getElem?_cons_zero]; rfl) (by kernel_rfl) (by kernel_rfl) (by kernel_rfl) (by exact fun _ _ _ h => h) (by kernel_rfl) ?ys2 hH ?_
  case ys2 => exact yields_box 31 _ rfl (VX) rfl 31 CX (fun _ h => h.2.2.1) _ Try.underlying31 rfl SX.out (by first | rfl | simp [Region.wanted, yielded] | (simp [Region.wanted, yielded, Act.put] <;> omega))
  try simp only [Act.put, List.setIfInBounds_toArray, List.set_cons_zero, List.set_cons_succ]
  refine wpAnyE_one (i := 3) (by kernel_rfl) (by simp only [List.getElem?_toArray, List.getElem?_cons_succ, List.getElem?_cons_zero]; rfl) (fun K' hK => ?_)
  go_simp
  refine (sumA_is X.dat.at hxz HX.out).mono ?_
  rintro e w4 ⟨rfl, hb⟩
  replace K := K.later hb
  replace X := X.later (keepsLC dx) hb
  replace Y := Y.later (keepsLC dy) hb
  clear hb
  clear hH
  refine hK.out _ _ ⟨K.vg, K.vr, X.box, Y.box⟩ (fun hH => ?_)
  clear hK K'
  try simp only [Act.put, List.setIfInBounds_toArray, List.set_cons_zero, List.set_cons_succ]
  obtain ⟨w3, rfl⟩ : ∃ x, x = w4 := ⟨_, rfl⟩
  refine wpAnyE_pure (i := 4) (v := ?vs4) (by simp only [List.getElem?_toArray, List.getElem?_cons_succ, List.getElem?_cons_zero]; rfl) (by kernel_rfl) (by kernel_rfl) (by kernel_rfl) (by exact fun _ _ _ h => h) (by kernel_rfl) (Or.inl ⟨by rfl, ?ys4⟩) hH ?rs4
  case ys4 => (intro w' hSw; (try dsimp only at hSw); go_simp; try with_reducible rfl)
  try simp only [Act.put, List.setIfInBounds_toArray, List.set_cons_zero, List.set_cons_succ]
  refine wpAnyE_pure (i := 5) (v := ?vs5) (by simp only [List.getElem?_toArray, List.getElem?_cons_succ, List.getElem?_cons_zero]; rfl) (by kernel_rfl) (by kernel_rfl) (by kernel_rfl) (by exact fun _ _ _ h => h) (by kernel_rfl) (Or.inl ⟨by rfl, ?ys5⟩) hH ?rs5
  case ys5 => (intro w' hSw; (try dsimp only at hSw); go_simp; try with_reducible rfl)
  try simp only [Act.put, List.setIfInBounds_toArray, List.set_cons_zero, List.set_cons_succ]
  refine wpAnyE_takeS (i := 6) (v := .agg G) (by simp only [List.getElem?_toArray, List.getElem?_cons_succ, List.getElem?_cons_zero]; rfl) (by kernel_rfl) (by kernel_rfl) (by kernel_rfl) (by exact fun _ _ _ h => h) (by kernel_rfl) ?ys6 hH ?_
  case ys6 => exact yields_box 26 _ rfl ((w1.heap.size)) rfl 26 G (fun _ h => h.1) _ Try.underlying26 rfl SG.out (by first | rfl | simp [Region.wanted, yielded] | (simp [Region.wanted, yielded, Act.put] <;> omega))
  try simp only [Act.put, List.setIfInBounds_toArray, List.set_cons_zero, List.set_cons_succ]
  refine wpAnyE_takeS (i := 7) (v := .agg (dy.cells ux)) (by simp only [List.getElem?_toArray, List.getElem?_cons_succ, List.getElem?_cons_zero]; rfl) (by kernel_rfl) (by kernel_rfl) (by kernel_rfl) (by exact fun _ _ _ h => h) (by kernel_rfl) ?ys7 hH ?_
  case ys7 => exact yields_box 31 _ rfl (VY) rfl 31 (dy.cells ux) (fun _ h => h.2.2.2) _ Try.underlying31 rfl SY.out (by first | rfl | simp [Region.wanted, yielded] | (simp [Region.wanted, yielded, Act.put] <;> omega))
  try simp only [Act.put, List.setIfInBounds_toArray, List.set_cons_zero, List.set_cons_succ]
  refine wpAnyE_one (i := 8) (by kernel_rfl) (by simp only [List.getElem?_toArray, List.getElem?_cons_succ, List.getElem?_cons_zero]; rfl) (fun K' hK => ?_)
  go_simp
  refine (recOkA_is K.grp Y.dat.at hyz HY.out).mono ?_
  rintro e w4 ⟨rfl, hb⟩
  replace K := K.later hb
  replace X := X.later (keepsLC dx) hb
  replace Y := Y.later (keepsLC dy) hb
  clear hb
  clear hH
  refine hK.out _ _ ⟨K.vg, K.vr, X.box, Y.box⟩ (fun hH => ?_)
  clear hK K'
  try simp only [Act.put, List.setIfInBounds_toArray, List.set_cons_zero, List.set_cons_succ]
  obtain ⟨w3, rfl⟩ : ∃ x, x = w4 := ⟨_, rfl⟩
  refine wpAnyE_pure (i := 9) (v := ?vs9) (by simp only [List.getElem?_toArray, List.getElem?_cons_succ, List.getElem?_cons_zero]; rfl) (by kernel_rfl) (by kernel_rfl) (by kernel_rfl) (by exact fun _ _ _ h => h) (by kernel_rfl) (Or.inl ⟨by rfl, ?ys9⟩) hH ?rs9
  case ys9 => (intro w' hSw; (try dsimp only at hSw); go_simp; try with_reducible rfl)
  try simp only [Act.put, List.setIfInBounds_toArray, List.set_cons_zero, List.set_cons_succ]
  refine wpAnyE_pure (i := 10) (v := ?vs10) (by simp only [List.getElem?_toArray, List.getElem?_cons_succ, List.getElem?_cons_zero]; rfl) (by kernel_rfl) (by kernel_rfl) (by kernel_rfl) (by exact fun _ _ _ h => h) (by kernel_rfl) (Or.inl ⟨by rfl, ?ys10⟩) hH ?rs10
  case ys10 => (intro w' hSw; (try dsimp only at hSw); go_simp; try with_reducible rfl)
  try simp only [Act.put, List.setIfInBounds_toArray, List.set_cons_zero, List.set_cons_succ]
  refine wpAnyE_pure (i := 11) (v := ?vs11) (by simp only [List.getElem?_toArray, List.getElem?_cons_succ, List.getElem?_cons_zero]; rfl) (by kernel_rfl) (by kernel_rfl) (by kernel_rfl) (by exact fun _ _ _ h => h) (by kernel_rfl) (Or.inl ⟨by rfl, ?ys11⟩) hH ?rs11
  case ys11 => (intro w' hSw; (try dsimp only at hSw); go_simp; try with_reducible rfl)
  try simp only [Act.put, List.setIfInBounds_toArray, List.set_cons_zero, List.set_cons_succ]
  refine wpAnyE_takeS (i := 12) (v := .agg CX) (by simp only [List.getElem?_toArray, List.getElem?_cons_succ, List.getElem?_cons_zero]; rfl) (by kernel_rfl) (by kernel_rfl) (by kernel_rfl) (by exact fun _ _ _ h => h) (by kernel_rfl) ?ys12 hH ?_
  case ys12 => exact yields_box 31 _ rfl (VX) rfl 31 CX (fun _ h => h.2.2.1) _ Try.underlying31 rfl SX.out (by first | rfl | simp [Region.wanted, yielded] | (simp [Region.wanted, yielded, Act.put] <;> omega))
  try simp only [Act.put, List.setIfInBounds_toArray, List.set_cons_zero, List.set_cons_succ]
  refine wpAnyE_pure (i := 13) (v := ?vs13) (by simp only [List.getElem?_toArray, List.getElem?_cons_succ, List.getElem?_cons_zero]; rfl) (by kernel_rfl) (by kernel_rfl) (by kernel_rfl) (by exact fun _ _ _ h => h) (by kernel_rfl) (Or.inl ⟨by rfl, ?ys13⟩) hH ?rs13
  case ys13 => (intro w' hSw; (try dsimp only at hSw); go_simp; try with_reducible rfl)
  try simp only [Act.put, List.setIfInBounds_toArray, List.set_cons_zero, List.set_cons_succ]
  refine wpAnyE_pure (i := 15) (v := ?vs15) (by simp only [List.getElem?_toArray, List.getElem?_cons_succ, List.getElem?_cons_zero]; rfl) (by kernel_rfl) (by kernel_rfl) (by kernel_rfl) (by exact fun _ _ _ h => h) (by kernel_rfl) (Or.inl ⟨by rfl, ?ys15⟩) hH ?rs15
  case ys15 => (intro w' hSw; (try dsimp only at hSw); go_simp; try with_reducible rfl)
  try simp only [Act.put, List.setIfInBounds_toArray, List.set_cons_zero, List.set_cons_succ]
  refine wpAnyE_pure (i := 17) (v := ?vs17) (by simp only [List.getElem?_toArray, List.getElem?_cons_succ, List.getElem?_cons_zero]; rfl) (by kernel_rfl) (by kernel_rfl) (by kernel_rfl) (by exact fun _ _ _ h => h) (by kernel_rfl) (Or.inl ⟨by rfl, ?ys17⟩) hH ?rs17
  case ys17 => (intro w' hSw; (try dsimp only at hSw); go_simp; try with_reducible rfl)
  try simp only [Act.put, List.setIfInBounds_toArray, List.set_cons_zero, List.set_cons_succ]
  refine wpAnyE_pure (i := 19) (v := ?vs19) (by simp only [List.getElem?_toArray, List.getElem?_cons_succ, List.getElem?_cons_zero]; rfl) (by kernel_rfl) (by kernel_rfl) (by kernel_rfl) (by exact fun _ _ _ h => h) (by kernel_rfl) (Or.inl ⟨by rfl, ?ys19⟩) hH ?rs19
  case ys19 => (intro w' hSw; (try dsimp only at hSw); go_simp; try with_reducible rfl)
  try simp only [Act.put, List.setIfInBounds_toArray, List.set_cons_zero, List.set_cons_succ]
  refine wpAnyE_pure (i := 21) (v := ?vs21) (by simp only [List.getElem?_toArray, List.getElem?_cons_succ, List.getElem?_cons_zero]; rfl) (by kernel_rfl) (by kernel_rfl) (by kernel_rfl) (by exact fun _ _ _ h => h) (by kernel_rfl) (Or.inl ⟨by rfl, ?ys21⟩) hH ?rs21
  case ys21 => (intro w' hSw; (try dsimp only at hSw); go_simp; try with_reducible rfl)
  try simp only [Act.put, List.setIfInBounds_toArray, List.set_cons_zero, List.set_cons_succ]
  refine wpAnyE_pure (i := 23) (v := ?vs23) (by simp only [List.getElem?_toArray, List.getElem?_cons_succ, List.getElem?_cons_zero]; rfl) (by kernel_rfl) (by kernel_rfl) (by kernel_rfl) (by exact fun _ _ _ h => h) (by kernel_rfl) (Or.inl ⟨by rfl, ?ys23⟩) hH ?rs23
  case ys23 => (intro w' hSw; (try dsimp only at hSw); go_simp; try with_reducible rfl)
  try simp only [Act.put, List.setIfInBounds_toArray, List.set_cons_zero, List.set_cons_succ]
  refine wpAnyE_pure (i := 25) (v := ?vs25) (by simp only [List.getElem?_toArray, List.getElem?_cons_succ, List.getElem?_cons_zero]; rfl) (by kernel_rfl) (by kernel_rfl) (by kernel_rfl) (by exact fun _ _ _ h => h) (by kernel_rfl) (Or.inl ⟨by rfl, ?ys25⟩) hH ?rs25
  case ys25 => (intro w' hSw; (try dsimp only at hSw); go_simp; try with_reducible rfl)
  try simp only [Act.put, List.setIfInBounds_toArray, List.set_cons_zero, List.set_cons_succ]
  refine wpAnyE_takeS (i := 14) (v := .int .i64 d.r1) (by simp only [List.getElem?_toArray, List.getElem?_cons_succ, List.getElem?_cons_zero]; rfl) (by kernel_rfl) (by kernel_rfl) (by kernel_rfl) (by exact fun _ _ _ h => h) (by kernel_rfl) ?yc14 hH ?_
  case yc14 => exact .inl ⟨(by first | rfl | simp [Region.wanted, yielded] | (simp [Region.wanted, yielded, Act.put] <;> omega)), fun w' hSw => (by have hcc : w'.cell? ⟨w1.heap.size + 1, 0, none⟩ = some (.int .i64 d.r1) := (hSw.2.1).cell 0; clear hSw; go_simp; try with_reducible rfl)⟩
  try simp only [Act.put, List.setIfInBounds_toArray, List.set_cons_zero, List.set_cons_succ]
  refine wpAnyE_takeS (i := 16) (v := .int .i64 d.r2) (by simp only [List.getElem?_toArray, List.getElem?_cons_succ, List.getElem?_cons_zero]; rfl) (by kernel_rfl) (by kernel_rfl) (by kernel_rfl) (by exact fun _ _ _ h => h) (by kernel_rfl) ?yc16 hH ?_
  case yc16 => exact .inl ⟨(by first | rfl | simp [Region.wanted, yielded] | (simp [Region.wanted, yielded, Act.put] <;> omega)), fun w' hSw => (by have hcc : w'.cell? ⟨w1.heap.size + 1, 1, none⟩ = some (.int .i64 d.r2) := (hSw.2.1).cell 1; clear hSw; go_simp; try with_reducible rfl)⟩
  try simp only [Act.put, List.setIfInBounds_toArray, List.set_cons_zero, List.set_cons_succ]
  refine wpAnyE_takeS (i := 18) (v := .int .i64 d.r3) (by simp only [List.getElem?_toArray, List.getElem?_cons_succ, List.getElem?_cons_zero]; rfl) (by kernel_rfl) (by kernel_rfl) (by kernel_rfl) (by exact fun _ _ _ h => h) (by kernel_rfl) ?yc18 hH ?_
  case yc18 => exact .inl ⟨(by first | rfl | simp [Region.wanted, yielded] | (simp [Region.wanted, yielded, Act.put] <;> omega)), fun w' hSw => (by have hcc : w'.cell? ⟨w1.heap.size + 1, 2, none⟩ = some (.int .i64 d.r3) := (hSw.2.1).cell 2; clear hSw; go_simp; try with_reducible rfl)⟩
  try simp only [Act.put, List.setIfInBounds_toArray, List.set_cons_zero, List.set_cons_succ]
  refine wpAnyE_takeS (i := 20) (v := .int .i64 d.r4) (by simp only [List.getElem?_toArray, List.getElem?_cons_succ, List.getElem?_cons_zero]; rfl) (by kernel_rfl) (by kernel_rfl) (by kernel_rfl) (by exact fun _ _ _ h => h) (by kernel_rfl) ?yc20 hH ?_
  case yc20 => exact .inl ⟨(by first | rfl | simp [Region.wanted, yielded] | (simp [Region.wanted, yielded, Act.put] <;> omega)), fun w' hSw => (by have hcc : w'.cell? ⟨w1.heap.size + 1, 3, none⟩ = some (.int .i64 d.r4) := (hSw.2.1).cell 3; clear hSw; go_simp; try with_reducible rfl)⟩
  try simp only [Act.put, List.setIfInBounds_toArray, List.set_cons_zero, List.set_cons_succ]
  refine wpAnyE_takeS (i := 24) (v := .int .i64 d.r7) (by simp only [List.getElem?_toArray, List.getElem?_cons_succ, List.getElem?_cons_zero]; rfl) (by kernel_rfl) (by kernel_rfl) (by kernel_rfl) (by exact fun _ _ _ h => h) (by kernel_rfl) ?yc24 hH ?_
  case yc24 => exact .inl ⟨(by first | rfl | simp [Region.wanted, yielded] | (simp [Region.wanted, yielded, Act.put] <;> omega)), fun w' hSw => (by have hcc : w'.cell? ⟨w1.heap.size + 1, 6, none⟩ = some (.int .i64 d.r7) := (hSw.2.1).cell 6; clear hSw; go_simp; try with_reducible rfl)⟩
  try simp only [Act.put, List.setIfInBounds_toArray, List.set_cons_zero, List.set_cons_succ]
  refine wpAnyE_takeS (i := 26) (v := .slice A7 n7 c7) (by simp only [List.getElem?_toArray, List.getElem?_cons_succ, List.getElem?_cons_zero]; rfl) (by kernel_rfl) (by kernel_rfl) (by kernel_rfl) (by exact fun _ _ _ h => h) (by kernel_rfl) ?yc26 hH ?_
  case yc26 => exact .inl ⟨(by first | rfl | simp [Region.wanted, yielded] | (simp [Region.wanted, yielded, Act.put] <;> omega)), fun w' hSw => (by have hcc : w'.cell? ⟨w1.heap.size + 1, 7, none⟩ = some (.slice A7 n7 c7) := (hSw.2.1).cell 7; clear hSw; go_simp; try with_reducible rfl)⟩
  try simp only [Act.put, List.setIfInBounds_toArray, List.set_cons_zero, List.set_cons_succ]
  refine wpAnyE_takeS (i := 22) (v := .agg #[.int .i64 d.r5, .int .i64 d.r6]) (by simp only [List.getElem?_toArray, List.getElem?_cons_succ, List.getElem?_cons_zero]; rfl) (by kernel_rfl) (by kernel_rfl) (by kernel_rfl) (by exact fun _ _ _ h => h) (by kernel_rfl) ?yc22 hH ?_
  case yc22 => exact .inl ⟨(by first | rfl | simp [Region.wanted, yielded] | (simp [Region.wanted, yielded, Act.put] <;> omega)), fun w' hSw => (by have hc4 : w'.cell? ⟨w1.heap.size + 1, 4, none⟩ = some (.int .i64 d.r5) := (hSw.2.1).cell 4; have hc5 : w'.cell? ⟨w1.heap.size + 1, 5, none⟩ = some (.int .i64 d.r6) := (hSw.2.1).cell 5; clear hSw; go_simp; try with_reducible rfl)⟩
  try simp only [Act.put, List.setIfInBounds_toArray, List.set_cons_zero, List.set_cons_succ]
  refine wpAnyE_one (i := 27) (by kernel_rfl) (by simp only [List.getElem?_toArray, List.getElem?_cons_succ, List.getElem?_cons_zero]; rfl) (fun K' hK => ?_)
  go_simp
  refine (specNewRec_is d.r1 d.r2 d.r3 d.r4 d.r5 d.r6 d.r7 _ d.ps w3 (by omega) K.slc).mono ?_
  rintro e w4 ⟨CN, rfl, LN, hb⟩
  rw [hdx] at LN
  replace K := K.later hb
  replace X := X.later (keepsLC dx) hb
  replace Y := Y.later (keepsLC dy) hb
  clear hb
  clear hH
  refine hK.out _ _ ⟨K.vg, K.vr, X.box, Y.box⟩ (fun hH => ?_)
  clear hK K'
  try simp only [Act.put, List.setIfInBounds_toArray, List.set_cons_zero, List.set_cons_succ]
  generalize w3.heap.size = N4 at LN
  generalize hN5 : w4.heap.size = N5 at LN
  clear hN5
  obtain ⟨w3, rfl⟩ : ∃ x, x = w4 := ⟨_, rfl⟩
  refine wpAnyE_one (i := 28) (by kernel_rfl) (by simp only [List.getElem?_toArray, List.getElem?_cons_succ, List.getElem?_cons_zero]; rfl) (fun K' hK => ?_)
  go_simp
  refine (likeC_is X.dat.at LN.at hxz).mono ?_
  rintro e w4 ⟨rfl, hb⟩
  replace K := K.later hb
  replace X := X.later (keepsLC dx) hb
  replace Y := Y.later (keepsLC dy) hb
  clear hb
  clear hH
  refine hK.out _ _ ⟨K.vg, K.vr, X.box, Y.box⟩ (fun hH => ?_)
  clear hK K'
  try simp only [Act.put, List.setIfInBounds_toArray, List.set_cons_zero, List.set_cons_succ]
  obtain ⟨w3, rfl⟩ : ∃ x, x = w4 := ⟨_, rfl⟩
  clear LN
  refine wpAnyE_pure (i := 29) (v := ?vs29) (by simp only [List.getElem?_toArray, List.getElem?_cons_succ, List.getElem?_cons_zero]; rfl) (by kernel_rfl) (by kernel_rfl) (by kernel_rfl) (by exact fun _ _ _ h => h) (by kernel_rfl) (Or.inl ⟨by rfl, ?ys29⟩) hH ?rs29
  case ys29 => (intro w' hSw; (try dsimp only at hSw); go_simp; try with_reducible rfl)
  try simp only [Act.put, List.setIfInBounds_toArray, List.set_cons_zero, List.set_cons_succ]
  refine wpAnyE_pure (i := 30) (v := ?vs30) (by simp only [List.getElem?_toArray, List.getElem?_cons_succ, List.getElem?_cons_zero]; rfl) (by kernel_rfl) (by kernel_rfl) (by kernel_rfl) (by exact fun _ _ _ h => h) (by kernel_rfl) (Or.inl ⟨by rfl, ?ys30⟩) hH ?rs30
  case ys30 => (intro w' hSw; (try dsimp only at hSw); go_simp; try with_reducible rfl)
  try simp only [Act.put, List.setIfInBounds_toArray, List.set_cons_zero, List.set_cons_succ]
  refine wpAnyE_takeS (i := 31) (v := .agg G) (by simp only [List.getElem?_toArray, List.getElem?_cons_succ, List.getElem?_cons_zero]; rfl) (by kernel_rfl) (by kernel_rfl) (by kernel_rfl) (by exact fun _ _ _ h => h) (by kernel_rfl) ?ys31 hH ?_
  case ys31 => exact yields_box 26 _ rfl ((w1.heap.size)) rfl 26 G (fun _ h => h.1) _ Try.underlying26 rfl SG.out (by first | rfl | simp [Region.wanted, yielded] | (simp [Region.wanted, yielded, Act.put] <;> omega))
  try simp only [Act.put, List.setIfInBounds_toArray, List.set_cons_zero, List.set_cons_succ]
  refine wpAnyE_takeS (i := 32) (v := .agg (d.cells (.slice A7 n7 c7))) (by simp only [List.getElem?_toArray, List.getElem?_cons_succ, List.getElem?_cons_zero]; rfl) (by kernel_rfl) (by kernel_rfl) (by kernel_rfl) (by exact fun _ _ _ h => h) (by kernel_rfl) ?ys32 hH ?_
  case ys32 => exact yields_box 31 _ rfl ((w1.heap.size + 1)) rfl 31 (d.cells (.slice A7 n7 c7)) (fun _ h => h.2.1) _ Try.underlying31 rfl SC.out (by first | rfl | simp [Region.wanted, yielded] | (simp [Region.wanted, yielded, Act.put] <;> omega))
  try simp only [Act.put, List.setIfInBounds_toArray, List.set_cons_zero, List.set_cons_succ]
  refine wpAnyE_one (i := 33) (by kernel_rfl) (by simp only [List.getElem?_toArray, List.getElem?_cons_succ, List.getElem?_cons_zero]; rfl) (fun K' hK => ?_)
  go_simp
  refine (specRecOkA_is K.grp K.at hz1 HB.out).mono ?_
  rintro e w4 ⟨rfl, hb⟩
  replace K := K.later hb
  replace X := X.later (keepsLC dx) hb
  replace Y := Y.later (keepsLC dy) hb
  clear hb
  clear hH
  refine hK.out _ _ ⟨K.vg, K.vr, X.box, Y.box⟩ (fun hH => ?_)
  clear hK K'
  try simp only [Act.put, List.setIfInBounds_toArray, List.set_cons_zero, List.set_cons_succ]
  obtain ⟨w3, rfl⟩ : ∃ x, x = w4 := ⟨_, rfl⟩
  rcases b with _ | _
  · skip
    refine wpAnyE_pure (i := 34) (v := ?vf034) (by simp only [List.getElem?_toArray, List.getElem?_cons_succ, List.getElem?_cons_zero]; rfl) (by kernel_rfl) (by kernel_rfl) (by kernel_rfl) (by exact fun _ _ _ h => h) (by kernel_rfl) (Or.inl ⟨by rfl, ?yf034⟩) hH ?rf034
    case yf034 => (intro w' hSw; (try dsimp only at hSw); go_simp; try with_reducible rfl)
    try simp only [Act.put, List.setIfInBounds_toArray, List.set_cons_zero, List.set_cons_succ]
    refine wpAnyE_pure (i := 35) (v := ?vf035) (by simp only [List.getElem?_toArray, List.getElem?_cons_succ, List.getElem?_cons_zero]; rfl) (by kernel_rfl) (by kernel_rfl) (by kernel_rfl) (by exact fun _ _ _ h => h) (by kernel_rfl) (Or.inl ⟨by rfl, ?yf035⟩) hH ?rf035
    case yf035 => (intro w' hSw; (try dsimp only at hSw); go_simp; try with_reducible rfl)
    try simp only [Act.put, List.setIfInBounds_toArray, List.set_cons_zero, List.set_cons_succ]
    refine wpAnyE_takeS (i := 36) (v := undef) (by simp only [List.getElem?_toArray, List.getElem?_cons_succ, List.getElem?_cons_zero]; rfl) (by kernel_rfl) (by kernel_rfl) (by kernel_rfl) (by exact fun _ _ _ h => h) (by kernel_rfl) ?yna hH ?_
    case yna => exact .inr ⟨(by first | rfl | simp [Region.wanted, yielded] | (simp [Region.wanted, yielded, Act.put] <;> omega)), rfl⟩
    try simp only [Act.put, List.setIfInBounds_toArray, List.set_cons_zero, List.set_cons_succ]
    refine wpAnyE_takeS (i := 37) (v := undef) (by simp only [List.getElem?_toArray, List.getElem?_cons_succ, List.getElem?_cons_zero]; rfl) (by kernel_rfl) (by kernel_rfl) (by kernel_rfl) (by exact fun _ _ _ h => h) (by kernel_rfl) ?ynb hH ?_
    case ynb => exact .inr ⟨(by first | rfl | simp [Region.wanted, yielded] | (simp [Region.wanted, yielded, Act.put] <;> omega)), rfl⟩
    try simp only [Act.put, List.setIfInBounds_toArray, List.set_cons_zero, List.set_cons_succ]
    refine wpAnyE_takeS (i := 38) (v := undef) (by simp only [List.getElem?_toArray, List.getElem?_cons_succ, List.getElem?_cons_zero]; rfl) (by kernel_rfl) (by kernel_rfl) (by kernel_rfl) (by exact fun _ _ _ h => h) (by kernel_rfl) ?ync hH ?_
    case ync => exact .inr ⟨(by first | rfl | simp [Region.wanted, yielded] | (simp [Region.wanted, yielded, Act.put] <;> omega)), rfl⟩
    try simp only [Act.put, List.setIfInBounds_toArray, List.set_cons_zero, List.set_cons_succ]
    refine wpAnyE_pure (i := 39) (v := ?vf039) (by simp only [List.getElem?_toArray, List.getElem?_cons_succ, List.getElem?_cons_zero]; rfl) (by kernel_rfl) (by kernel_rfl) (by kernel_rfl) (by exact fun _ _ _ h => h) (by kernel_rfl) (Or.inl ⟨by rfl, ?yf039⟩) hH ?rf039
    case yf039 => (intro w' hSw; (try dsimp only at hSw); go_simp; try with_reducible rfl)
    try simp only [Act.put, List.setIfInBounds_toArray, List.set_cons_zero, List.set_cons_succ]
    refine wpAnyE_pure (i := 40) (v := ?vf040) (by simp only [List.getElem?_toArray, List.getElem?_cons_succ, List.getElem?_cons_zero]; rfl) (by kernel_rfl) (by kernel_rfl) (by kernel_rfl) (by exact fun _ _ _ h => h) (by kernel_rfl) (Or.inl ⟨by rfl, ?yf040⟩) hH ?rf040
    case yf040 => (intro w' hSw; (try dsimp only at hSw); go_simp; try with_reducible rfl)
    try simp only [Act.put, List.setIfInBounds_toArray, List.set_cons_zero, List.set_cons_succ]
    refine wpAnyE_end (i := 41) (by kernel_rfl) (by simp only [List.getElem?_toArray, List.getElem?_cons_succ, List.getElem?_cons_zero]; rfl) (by kernel_rfl) (fun K' hK => ?_)
    go_simp
    refine hK.out _ _ ⟨K.vg, K.vr, X.box, Y.box⟩ ?_
    clear hK K'
    try simp only [Act.put, List.setIfInBounds_toArray, List.set_cons_zero, List.set_cons_succ]
    have E := bel_trans E0.out K.bel
    clear hH K X Y
    go_wp2
    go_ret
    exact ⟨rfl, E⟩
  · skip
    refine wpAnyE_pure (i := 34) (v := ?vf134) (by simp only [List.getElem?_toArray, List.getElem?_cons_succ, List.getElem?_cons_zero]; rfl) (by kernel_rfl) (by kernel_rfl) (by kernel_rfl) (by exact fun _ _ _ h => h) (by kernel_rfl) (Or.inl ⟨by rfl, ?yf134⟩) hH ?rf134
    case yf134 => (intro w' hSw; (try dsimp only at hSw); go_simp; try with_reducible rfl)
    try simp only [Act.put, List.setIfInBounds_toArray, List.set_cons_zero, List.set_cons_succ]
    refine wpAnyE_pure (i := 35) (v := ?vf135) (by simp only [List.getElem?_toArray, List.getElem?_cons_succ, List.getElem?_cons_zero]; rfl) (by kernel_rfl) (by kernel_rfl) (by kernel_rfl) (by exact fun _ _ _ h => h) (by kernel_rfl) (Or.inl ⟨by rfl, ?yf135⟩) hH ?rf135
    case yf135 => (intro w' hSw; (try dsimp only at hSw); go_simp; try with_reducible rfl)
    try simp only [Act.put, List.setIfInBounds_toArray, List.set_cons_zero, List.set_cons_succ]
    refine wpAnyE_takeS (i := 36) (v := .agg CX) (by simp only [List.getElem?_toArray, List.getElem?_cons_succ, List.getElem?_cons_zero]; rfl) (by kernel_rfl) (by kernel_rfl) (by kernel_rfl) (by exact fun _ _ _ h => h) (by kernel_rfl) ?yf136 hH ?_
    case yf136 => exact yields_box 31 _ rfl (VX) rfl 31 CX (fun _ h => h.2.2.1) _ Try.underlying31 rfl SX.out (by first | rfl | simp [Region.wanted, yielded] | (simp [Region.wanted, yielded, Act.put] <;> omega))
    try simp only [Act.put, List.setIfInBounds_toArray, List.set_cons_zero, List.set_cons_succ]
    refine wpAnyE_takeS (i := 37) (v := .agg (d.cells (.slice A7 n7 c7))) (by simp only [List.getElem?_toArray, List.getElem?_cons_succ, List.getElem?_cons_zero]; rfl) (by kernel_rfl) (by kernel_rfl) (by kernel_rfl) (by exact fun _ _ _ h => h) (by kernel_rfl) ?yf137 hH ?_
    case yf137 => exact yields_box 31 _ rfl ((w1.heap.size + 1)) rfl 31 (d.cells (.slice A7 n7 c7)) (fun _ h => h.2.1) _ Try.underlying31 rfl SC.out (by first | rfl | simp [Region.wanted, yielded] | (simp [Region.wanted, yielded, Act.put] <;> omega))
    try simp only [Act.put, List.setIfInBounds_toArray, List.set_cons_zero, List.set_cons_succ]
    have hd8 : dx = d := by rw [← hdx]; exact rok_same HB.out
    have XA : AtC d w3 (Iv N3 VX) (.agg CX) := hd8 ▸ X.dat.at
    refine wpAnyE_one (i := 38) (by kernel_rfl) (by simp only [List.getElem?_toArray, List.getElem?_cons_succ, List.getElem?_cons_zero]; rfl) (fun K' hK => ?_)
    go_simp
    refine (likeC_is XA K.at hz1).mono ?_
    rintro e w4 ⟨rfl, hb⟩
    replace K := K.later hb
    replace X := X.later (keepsLC dx) hb
    replace Y := Y.later (keepsLC dy) hb
    clear hb
    clear hH
    refine hK.out _ _ ⟨K.vg, K.vr, X.box, Y.box⟩ (fun hH => ?_)
    clear hK K'
    try simp only [Act.put, List.setIfInBounds_toArray, List.set_cons_zero, List.set_cons_succ]
    obtain ⟨w3, rfl⟩ : ∃ x, x = w4 := ⟨_, rfl⟩
    skip
    refine wpAnyE_pure (i := 39) (v := ?vf139) (by simp only [List.getElem?_toArray, List.getElem?_cons_succ, List.getElem?_cons_zero]; rfl) (by kernel_rfl) (by kernel_rfl) (by kernel_rfl) (by exact fun _ _ _ h => h) (by kernel_rfl) (Or.inl ⟨by rfl, ?yf139⟩) hH ?rf139
    case yf139 => (intro w' hSw; (try dsimp only at hSw); go_simp; try with_reducible rfl)
    try simp only [Act.put, List.setIfInBounds_toArray, List.set_cons_zero, List.set_cons_succ]
    refine wpAnyE_pure (i := 40) (v := ?vf140) (by simp only [List.getElem?_toArray, List.getElem?_cons_succ, List.getElem?_cons_zero]; rfl) (by kernel_rfl) (by kernel_rfl) (by kernel_rfl) (by exact fun _ _ _ h => h) (by kernel_rfl) (Or.inl ⟨by rfl, ?yf140⟩) hH ?rf140
    case yf140 => (intro w' hSw; (try dsimp only at hSw); go_simp; try with_reducible rfl)
    try simp only [Act.put, List.setIfInBounds_toArray, List.set_cons_zero, List.set_cons_succ]
    refine wpAnyE_end (i := 41) (by kernel_rfl) (by simp only [List.getElem?_toArray, List.getElem?_cons_succ, List.getElem?_cons_zero]; rfl) (by kernel_rfl) (fun K' hK => ?_)
    go_simp
    refine hK.out _ _ ⟨K.vg, K.vr, X.box, Y.box⟩ ?_
    clear hK K'
    try simp only [Act.put, List.setIfInBounds_toArray, List.set_cons_zero, List.set_cons_succ]
    have E := bel_trans E0.out K.bel
    clear hH K X Y
    go_wp2
    go_ret
    exact ⟨rfl, E⟩

end Go.Proofs.Ythpccmckjmmicaa
