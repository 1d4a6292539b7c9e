/- FnNoted: whatever bytes it is given, the law answers true and leaves them alone; no condition beyond the given row's own. -/
import Derived.Test.YtjdepjpjjgkmbaaGreatNotedSeg2
import Derived.Test.YtjdepjpjjgkmbaaGreatNotedSeg3
import Derived.Laws.CopyOwn
import Derived.Test.YtjdepjpjjgkmbaaGreatNotedSeg1
import Derived.Test.YtjdepjpjjgkmbaaGreatNotedSeg0
import Derived.Test.YtjdepjpjjgkmbaaGreatBase
import Derived.Test.YtjdepjpjjgkmbaaGreatRows
import Derived.Test.YtjdepjpjjgkmbaaGreatReadsBytes
import Derived.WalkKit
import Derived.ProofKit
import Derived.OpenShut
import Derived.ShutString
import Derived.ChangeOld
import Derived.Below
import Derived.Carry
import Derived.Laws.Rows

/- All records of a journal, in one list; a journal that is right: what it and the model answer (written by jour_ok.py); conditions: the sizes. -/
namespace Go.Proofs.YtjdepjpjjgkmbaaGreat
open Go Go.RowKit

/-- A journal whose lists lie somewhere. -/
def AtS9 (d : JourD) (w : World) (F : Nat → Prop) (v : Value) : Prop := ∃ u u', v = .agg #[u, u'] ∧ ListS d.ks w F u ∧ ListS d.ls w F u'
theorem keepsS9 (d : JourD) : Keeps (AtS9 d) := ⟨fun ⟨u, u', e, h1, h2⟩ ht hd => ⟨u, u', e, h1.turn ht hd, h2.turn ht hd⟩, fun ⟨u, u', e, h1, h2⟩ hs => ⟨u, u', e, h1.sub hs, h2.sub hs⟩⟩
theorem LieJ.somewhere {d : JourD} {w : World} {F : Nat → Prop} {v : Value} (h : LieJ d w F v) : AtS9 d w F v := by
  obtain ⟨u, u', F1, F2, e, h1, h2, s1, s2, -⟩ := h
  exact ⟨u, u', e, h1.list.sub s1, h2.list.sub s2⟩
theorem AtS9.at {d : JourD} {w : World} {F : Nat → Prop} {v : Value} (h : AtS9 d w F v) : AtJ d w F v := by
  obtain ⟨u, u', rfl, h1, h2⟩ := h
  obtain ⟨A, c, rfl, m1, r1⟩ := h1.at
  obtain ⟨A', c', rfl, m2, r2⟩ := h2.at
  exact ⟨A, _, c, A', _, c', rfl, m1, m2, r1, r2⟩
theorem totC_app (a b : List RecD) : totC (a ++ b) = totC a + totC b := by
  unfold totC
  rw [List.map_append, List.sum_append]
/-- Whether a journal is right. -/
def jokD (g : GrpD) (d : JourD) : Bool := (replD g (d.ks ++ d.ls)).2
theorem allAt_of {g : GrpD} {ds : List RecD} (h : allAt g ds = true) : ∀ i, i < ds.length → isAt g ds i = true := fun i hi => by
  cases e : isAt g ds i
  · rw [allAt_false hi e] at h
    cases h
  · rfl
theorem rok_no {g : GrpD} {d : RecD} (h : rokD g d = true) : 1 ≤ d.r1 ∧ d.r1 ≤ 400 := by
  simp only [rokD, rokB, Bool.and_eq_true, inB, decide_eq_true_eq] at h
  omega
theorem repl_len400 {g : GrpD} {ds : List RecD} (h : (replD g ds).2 = true) : ds.length ≤ 400 := by
  unfold replD at h
  split at h
  · rename_i hc
    rw [Bool.and_eq_true] at hc
    rcases Nat.eq_zero_or_pos ds.length with h0 | h0
    · omega
    · have h1 := allAt_of hc.2 (ds.length - 1) (by omega)
      rw [isAt_lt (by omega), Bool.and_eq_true, decide_eq_true_eq] at h1
      have h2 := rok_no h1.2
      omega
  · cases h
/-- The list of a row of one's own, two lists one behind the other. -/
theorem row_two {w w' : World} {u : Value} {ms ms' : List (RecD × Value)} {ks ls : List RecD} {F : Nat → Prop} {t : TypeId} (hm : ms.map (·.1) = ks) (hm' : ms'.map (·.1) = ls) (h : w'.ownsRow w.heap.size t 9 u (ks.length + ls.length) (flatC ms ++ flatC ms')) (h1 : CertsF w F ms) (h2 : CertsF w F ms') (hb : Below w.heap.size w w') : ListS (ks ++ ls) w' (fun b => F b ∨ w.heap.size ≤ b) u := by
  have hc := ((h1.app h2).later hb).sub (F' := fun b => F b ∨ w.heap.size ≤ b) (fun b hb => .inl hb)
  have e : (ms ++ ms').map (·.1) = ks ++ ls := by rw [List.map_append, hm, hm']
  rw [← flatC_app] at h
  rw [← e]
  exact row_list h (by rw [← List.length_map (f := fun x : RecD × Value => x.1), e, List.length_append]) hc (fun b hb _ => .inr hb)

set_option maxRecDepth 100000 in
set_option maxHeartbeats 4000000 in
theorem l10All_is {d : JourD} {w : World} {F : Nat → Prop} {C : Array Value} (h : AtS9 d w F (.agg C)) (hs : d.sz ≤ 2097152) :
    Calls Tryz.prog 72 #[.agg C] w fun e w' => ∃ u, e = .returned u ∧ ListS (d.ks ++ d.ls) w' (· < w'.heap.size) u ∧ Below w.heap.size w w' := by
  obtain ⟨i0, hi0, hz0, hz1, hz2⟩ := info_parts Tryz.infoRecI
  obtain ⟨u, u', e, h1, h2⟩ := h
  injection e with e
  subst e
  obtain ⟨ms, hm, hc, hx⟩ := h1.lt.src
  obtain ⟨ms', hm', hc', hx'⟩ := h2.lt.src
  have hl1 : d.ks.length ≤ 2097152 := by have := totC_len d.ks; unfold JourD.sz at hs; omega
  have hl2 : d.ks.length + d.ls.length ≤ 2097152 := by have := totC_len d.ks; have := totC_len d.ls; unfold JourD.sz at hs; omega
  have hf := Lib.hid hm
  have hf' := Lib.hid hm'
  have HC := Lib.hid hc
  have HC' := Lib.hid hc'
  have hE : ∃ K, flatC ms = K := ⟨_, rfl⟩
  obtain ⟨X, hX⟩ := hE
  obtain ⟨X', hX'⟩ : ∃ K, flatC ms' = K := ⟨_, rfl⟩
  rw [hX] at hx
  rw [hX'] at hx'
  have HX := Lib.hid hX
  have HX' := Lib.hid hX'
  have hb0 := bel_alloc w (.cells #[u, u'] 29)
  have D := Box.new w 29 #[u, u']
  have S1 := hx.later hb0
  have S2 := hx'.later hb0
  clear hm hm' hc hc' hx hx' hX hX' h1 h2
  go_enter Tryz.func72, Tryz.ntmps72
  go_upto_region 1 with fail
  generalize (w.alloc _ : World) = w0 at hb0 D S1 S2 ⊢
  have hw0 := hb0.size
  have HB := Below.refl w0.heap.size w0
  refine wp_region_sink 8 (fun w' => Box w' w.heap.size 29 #[u, u']) (by kernel_rfl) D (fun hH => ?_)
  have hb := (Below.refl w0.heap.size w0).drew
  replace HB := bel_trans HB hb
  replace D := D.later hb D.lt
  clear hb
  generalize w0.drew = w3 at D HB hH ⊢
  refine wpAnyE_pure (i := 1) (v := ?vp1) (by simp only [List.getElem?_toArray, List.getElem?_cons_succ, List.getElem?_cons_zero]; rfl) (by kernel_rfl) (by kernel_rfl) (by kernel_rfl) (by exact fun _ _ _ h => h) (by kernel_rfl) (Or.inl ⟨by rfl, ?yp1⟩) hH ?rp1
  case yp1 => (intro w' hSw; (try dsimp only at hSw); go_simp; try with_reducible rfl)
  try simp only [Act.put, List.setIfInBounds_toArray, List.set_cons_zero, List.set_cons_succ]
  refine wpAnyE_takeS (i := 2) (v := u) (by simp only [List.getElem?_toArray, List.getElem?_cons_succ, List.getElem?_cons_zero]; rfl) (by kernel_rfl) (by kernel_rfl) (by kernel_rfl) (by exact fun _ _ _ h => h) (by kernel_rfl) ?yc2 hH ?_
  case yc2 => exact .inl ⟨(by first | rfl | simp [Region.wanted, yielded] | (simp [Region.wanted, yielded, Act.put] <;> omega)), fun w' hSw => by (try dsimp only at hSw); have hc := (Box.two hSw).1; go_simp; try with_reducible rfl⟩
  try simp only [Act.put, List.setIfInBounds_toArray, List.set_cons_zero, List.set_cons_succ]
  refine wpAnyE_pure (i := 4) (v := ?vp4) (by simp only [List.getElem?_toArray, List.getElem?_cons_succ, List.getElem?_cons_zero]; rfl) (by kernel_rfl) (by kernel_rfl) (by kernel_rfl) (by exact fun _ _ _ h => h) (by kernel_rfl) (Or.inl ⟨by rfl, ?yp4⟩) hH ?rp4
  case yp4 => (intro w' hSw; (try dsimp only at hSw); go_simp; try with_reducible rfl)
  try simp only [Act.put, List.setIfInBounds_toArray, List.set_cons_zero, List.set_cons_succ]
  refine wpAnyE_takeS (i := 5) (v := u') (by simp only [List.getElem?_toArray, List.getElem?_cons_succ, List.getElem?_cons_zero]; rfl) (by kernel_rfl) (by kernel_rfl) (by kernel_rfl) (by exact fun _ _ _ h => h) (by kernel_rfl) ?yc5 hH ?_
  case yc5 => exact .inl ⟨(by first | rfl | simp [Region.wanted, yielded] | (simp [Region.wanted, yielded, Act.put] <;> omega)), fun w' hSw => by (try dsimp only at hSw); have hc := (Box.two hSw).2; go_simp; try with_reducible rfl⟩
  try simp only [Act.put, List.setIfInBounds_toArray, List.set_cons_zero, List.set_cons_succ]
  refine wpAnyE_one (i := 0) (by kernel_rfl) (by simp only [List.getElem?_toArray, List.getElem?_cons_zero]; rfl) (fun K hK => ?_)
  go_simp
  have hn := bel_alloc w3 (.cells #[] 46)
  have O3 := own_new w3 46 9
  have hw3 := HB.size
  have hDl := D.lt
  replace D := D.alloc (.cells #[] 46)
  replace HB := bel_trans HB hn
  clear hH
  refine hK.out _ _ D (fun hH => ?_)
  clear hK K
  try simp only [Act.put, List.setIfInBounds_toArray, List.set_cons_zero, List.set_cons_succ]
  have hz3 : w3.heap.size < (w3.alloc (.cells #[] 46)).heap.size := by simp
  clear hn
  generalize (w3.alloc _ : World) = w5 at D HB O3 hH hz3 hDl ⊢
  refine wpAnyE_one (i := 3) (by kernel_rfl) (by simp only [List.getElem?_toArray, List.getElem?_cons_succ, List.getElem?_cons_zero]; rfl) (fun K hK => ?_)
  refine step_append_srcN (by rfl) _ _ _ (by rfl) w3.heap.size 46 i0 _ 9 88 Tryz.underlying27 hi0 hz0 hz1 hz2 rfl (by omega) (.slice (some ⟨w3.heap.size, 0, none⟩) 0 0) 0 [] (by rfl) O3 (by simp) _ d.ks.length X (by rfl) (S1.later HB) d.ks.length X (Nat.zero_add _) (List.nil_append _) (by unfold maxLen; omega) (by omega) (by omega) ?_
  intro g1 cap1 w4 hown4 hgrow hbg hlg
  replace hgrow : w5.grownBy w4 (some w3.heap.size) := hgrow
  have D4 := D.kept hgrow (by intro e; injection e with e; omega)
  have HB4 := bel_grown HB hgrow (by omega)
  clear hH
  refine hK.out _ _ D4 (fun hH => ?_)
  clear hK K
  try simp only [Act.put, List.setIfInBounds_toArray, List.set_cons_zero, List.set_cons_succ]
  clear O3 hgrow D HB
  refine wpAnyE_one (i := 6) (by kernel_rfl) (by simp only [List.getElem?_toArray, List.getElem?_cons_succ, List.getElem?_cons_zero]; rfl) (fun K hK => ?_)
  refine step_append_srcN (by rfl) _ _ _ (by rfl) w3.heap.size 46 i0 _ 9 88 Tryz.underlying27 hi0 hz0 hz1 hz2 rfl (by omega) (.slice (some ⟨g1, 0, none⟩) d.ks.length cap1) d.ks.length X (by rfl) hown4 (by simp) _ d.ls.length X' (by rfl) (S2.later HB4) (d.ks.length + d.ls.length) (X ++ X') rfl rfl (by unfold maxLen; omega) (by omega) (by omega) ?_
  intro g2 cap2 w6 hown6 hgrow hbg2 hlg2
  replace hgrow : w4.grownBy w6 (some g1) := hgrow
  have D6 := D4.kept hgrow (by intro e; injection e with e; omega)
  have HB6 := bel_grown HB4 hgrow (by omega)
  clear hH
  refine hK.out _ _ D6 (fun hH => ?_)
  clear hK K
  try simp only [Act.put, List.setIfInBounds_toArray, List.set_cons_zero, List.set_cons_succ]
  clear hown4 hgrow D4 HB4
  refine wpAnyE_end (i := 7) (by kernel_rfl) (by simp only [List.getElem?_toArray, List.getElem?_cons_succ, List.getElem?_cons_zero]; rfl) (by kernel_rfl) (fun K hK => ?_)
  go_simp
  refine hK.out _ _ D6 ?_
  clear hK K hH
  try simp only [Act.put, List.setIfInBounds_toArray, List.set_cons_zero, List.set_cons_succ]
  have HO := Lib.hid hown6
  have E6 := bel_trans hb0 HB6
  clear hown6 D6
  go_wp2
  go_ret
  refine ⟨_, rfl, ?_, E6⟩
  have HOW := HO.out
  rw [← HX.out, ← HX'.out] at HOW
  have hL := row_two hf.out hf'.out (ownLow HOW hw3) (HC.out.later hb0) (HC'.out.later hb0) HB6
  exact hL.lt.sub (fun b hb => hb.2)
set_option maxRecDepth 100000 in
set_option maxHeartbeats 4000000 in
theorem specJournalOk_is {g : GrpD} {d : JourD} {w : World} {F0 F1 : Nat → Prop} {C0 C1 : Array Value} {z : Bool} (h0 : AtG g w F0 (.agg C0)) (h1 : AtS9 d w F1 (.agg C1)) (hs : d.sz ≤ 1048576) (hz : jokD g d = z) :
    Calls Tryz.prog 18 #[.agg C0, .agg C1] w fun e w' => e = .returned (.bool z) ∧ Below w.heap.size w w' := by
  have HZ := Lib.hid hz
  have hst : totC (d.ks ++ d.ls) ≤ 1048576 := by rw [totC_app]; exact hs
  have J0 := Lib.hid (sizeG h0).2
  have J1 := Lib.hid (show (Tryz.prog.info? 29).map (·.size) = some C1.size from (sizeJ h1.at).2)
  have hb0 := bel_trans (bel_alloc w (.cells C0 26)) (bel_alloc _ (.cells C1 29))
  have G := (Box.new w 26 C0).alloc (.cells C1 29)
  have J := Box.new (w.alloc (.cells C0 26)) 29 C1
  simp only [World.size_alloc] at J
  have H0 := Lib.hid ((keepsG g).later h0 hb0)
  have H1 := (keepsS9 d).later h1 hb0
  clear h0 h1 hz
  go_enter Tryz.func18, Tryz.ntmps18
  go_upto_region 1 with fail
  generalize ((w.alloc _).alloc _ : World) = w0 at hb0 G J H0 H1 ⊢
  go_wp2_with (refine wpList_load_box 29 _ rfl (w.heap.size + 1) rfl 29 C1 J _ Tryz.underlying29 rfl J1.out (by first | rfl | simp [Region.wanted, yielded] | (simp [Region.wanted, yielded, Act.put] <;> omega)) ?_)
  refine (l10All_is H1 (by omega)).mono ?_
  rintro e w1 ⟨u, rfl, hL, hb⟩
  replace G := G.later hb G.lt
  have K0 := Lib.hid ((keepsG g).later H0.out hb)
  have E := bel_trans hb0 hb
  clear hb hb0 H0 H1 J
  obtain ⟨A, c, rfl, hm, hr⟩ := hL.at
  generalize hln : (d.ks ++ d.ls).length = ln at hm hr ⊢
  clear hL
  have HR := Lib.hid hr
  clear hr
  go_wp2_with (refine wpList_load_box 26 _ rfl (w.heap.size) rfl 26 C0 G _ Tryz.underlying26 rfl J0.out (by first | rfl | simp [Region.wanted, yielded] | (simp [Region.wanted, yielded, Act.put] <;> omega)) ?_)
  refine (specReplayed8_is K0.out HR.out hst).mono ?_
  rintro e w2 ⟨GG, cg, rfl, -, hb⟩
  have E2 := bel_trans E hb
  clear hb E G
  have hok : (replD g (d.ks ++ d.ls)).2 = z := HZ.out
  rw [hok]
  cases z
  · go_wp2
    go_ret
    exact ⟨rfl, E2⟩
  · have hl4 := repl_len400 hok
    rw [hln] at hl4
    have hle : ((ln : Nat) : Int) ≤ 400 := by omega
    clear hok
    go_wp2
    go_ret
    exact ⟨rfl, E2⟩
set_option maxRecDepth 100000 in
set_option maxHeartbeats 4000000 in
theorem regs_is {g : GrpD} {d : JourD} {w : World} {F0 F1 : Nat → Prop} {C0 C1 : Array Value} (h0 : AtG g w F0 (.agg C0)) (h1 : AtS9 d w F1 (.agg C1)) (hs : d.sz ≤ 1048576) {rr : List RegD × Bool} (hrr : replD g (d.ks ++ d.ls) = rr) :
    Calls Tryz.prog 73 #[.agg C1, .agg C0] w (MadeReps LieE rr.1 rr.2 w) := by
  have HRR := Lib.hid hrr
  clear hrr
  have hst : totC (d.ks ++ d.ls) ≤ 1048576 := by rw [totC_app]; exact hs
  have J0 := Lib.hid (sizeG h0).2
  have hb0 := bel_trans (bel_alloc w (.cells C1 29)) (bel_alloc _ (.cells C0 26))
  have J := (Box.new w 29 C1).alloc (.cells C0 26)
  have G := Box.new (w.alloc (.cells C1 29)) 26 C0
  simp only [World.size_alloc] at G
  have H0 := Lib.hid ((keepsG g).later h0 hb0)
  have H1 := (keepsS9 d).later h1 hb0
  clear h0 h1
  obtain ⟨u, u', e, h2, h3⟩ := H1
  injection e with e
  subst e
  obtain ⟨ms, hm, hc, hx⟩ := h2.lt.src
  obtain ⟨ms', hm', hc', hx'⟩ := h3.lt.src
  obtain ⟨A1, c1, rfl, -, -⟩ := h2.at
  obtain ⟨A2, c2, rfl, -, -⟩ := h3.at
  have hl2 : d.ks.length + d.ls.length ≤ 2097152 := by have := totC_len d.ks; have := totC_len d.ls; unfold JourD.sz at hs; omega
  have hf := Lib.hid hm
  have hf' := Lib.hid hm'
  have HC := Lib.hid hc
  have HC' := Lib.hid hc'
  obtain ⟨X, hX⟩ : ∃ K, flatC ms = K := ⟨_, rfl⟩
  obtain ⟨X', hX'⟩ : ∃ K, flatC ms' = K := ⟨_, rfl⟩
  rw [hX] at hx
  rw [hX'] at hx'
  have HX := Lib.hid hX
  have HX' := Lib.hid hX'
  clear hm hm' hc hc' hX hX' h2 h3
  go_enter Tryz.func73, Tryz.ntmps73
  go_upto_region 1 with fail
  generalize ((w.alloc _).alloc _ : World) = w0 at hb0 G J H0 HC HC' hx hx' ⊢
  have hw0 := hb0.size
  have HB := Below.refl w0.heap.size w0
  refine wp_region_sink 12 (fun w' => Box w' (w.heap.size + 1) 26 C0 ∧ Box w' w.heap.size 29 #[.slice A1 d.ks.length c1, .slice A2 d.ls.length c2]) (by kernel_rfl) ⟨G, J⟩ (fun hH => ?_)
  have hb := (Below.refl w0.heap.size w0).drew
  replace HB := bel_trans HB hb
  replace G := G.later hb G.lt
  replace J := J.later hb J.lt
  clear hb
  generalize w0.drew = w3 at G J HB hH ⊢
  refine wpAnyE_takeS (i := 0) (v := .agg C0) (by simp only [List.getElem?_toArray, List.getElem?_cons_zero]; rfl) (by kernel_rfl) (by kernel_rfl) (by kernel_rfl) (by exact fun _ _ _ h => h) (by kernel_rfl) ?yg0 hH ?_
  case yg0 => exact yields_box 26 _ rfl ((w.heap.size + 1)) rfl 26 C0 (fun _ h => h.1) _ Tryz.underlying26 rfl J0.out (by first | rfl | simp [Region.wanted, yielded] | (simp [Region.wanted, yielded, Act.put] <;> omega))
  try simp only [Act.put, List.setIfInBounds_toArray, List.set_cons_zero, List.set_cons_succ]
  refine wpAnyE_pure (i := 1) (v := ?vp1) (by simp only [List.getElem?_toArray, List.getElem?_cons_succ, List.getElem?_cons_zero]; rfl) (by kernel_rfl) (by kernel_rfl) (by kernel_rfl) (by exact fun _ _ _ h => h) (by kernel_rfl) (Or.inl ⟨by rfl, ?yp1⟩) hH ?rp1
  case yp1 => (intro w' hSw; (try dsimp only at hSw); go_simp; try with_reducible rfl)
  try simp only [Act.put, List.setIfInBounds_toArray, List.set_cons_zero, List.set_cons_succ]
  refine wpAnyE_takeS (i := 2) (v := (.slice A1 d.ks.length c1)) (by simp only [List.getElem?_toArray, List.getElem?_cons_succ, List.getElem?_cons_zero]; rfl) (by kernel_rfl) (by kernel_rfl) (by kernel_rfl) (by exact fun _ _ _ h => h) (by kernel_rfl) ?yc2 hH ?_
  case yc2 => exact .inl ⟨(by first | rfl | simp [Region.wanted, yielded] | (simp [Region.wanted, yielded, Act.put] <;> omega)), fun w' hSw => by (try dsimp only at hSw); have hc := (Box.two hSw.2).1; go_simp; try with_reducible rfl⟩
  try simp only [Act.put, List.setIfInBounds_toArray, List.set_cons_zero, List.set_cons_succ]
  refine wpAnyE_pure (i := 3) (v := ?vp3) (by simp only [List.getElem?_toArray, List.getElem?_cons_succ, List.getElem?_cons_zero]; rfl) (by kernel_rfl) (by kernel_rfl) (by kernel_rfl) (by exact fun _ _ _ h => h) (by kernel_rfl) (Or.inl ⟨by rfl, ?yp3⟩) hH ?rp3
  case yp3 => (intro w' hSw; (try dsimp only at hSw); go_simp; try with_reducible rfl)
  try simp only [Act.put, List.setIfInBounds_toArray, List.set_cons_zero, List.set_cons_succ]
  refine wpAnyE_takeS (i := 4) (v := (.slice A2 d.ls.length c2)) (by simp only [List.getElem?_toArray, List.getElem?_cons_succ, List.getElem?_cons_zero]; rfl) (by kernel_rfl) (by kernel_rfl) (by kernel_rfl) (by exact fun _ _ _ h => h) (by kernel_rfl) ?yc4 hH ?_
  case yc4 => exact .inl ⟨(by first | rfl | simp [Region.wanted, yielded] | (simp [Region.wanted, yielded, Act.put] <;> omega)), fun w' hSw => by (try dsimp only at hSw); have hc := (Box.two hSw.2).2; go_simp; try with_reducible rfl⟩
  try simp only [Act.put, List.setIfInBounds_toArray, List.set_cons_zero, List.set_cons_succ]
  refine wpAnyE_one (i := 5) (by kernel_rfl) (by simp only [List.getElem?_toArray, List.getElem?_cons_succ, List.getElem?_cons_zero]; rfl) (fun K hK => ?_)
  go_simp
  have hn := bel_alloc w3 (.cells #[.slice A1 d.ks.length c1, .slice A2 d.ls.length c2] 27)
  have Q := Box.new w3 27 #[.slice A1 d.ks.length c1, .slice A2 d.ls.length c2]
  replace G := G.alloc (.cells #[.slice A1 d.ks.length c1, .slice A2 d.ls.length c2] 27)
  replace J := J.alloc (.cells #[.slice A1 d.ks.length c1, .slice A2 d.ls.length c2] 27)
  replace HB := bel_trans HB hn
  clear hn
  clear hH
  refine hK.out _ _ ⟨G, J⟩ (fun hH => ?_)
  clear hK K
  try simp only [Act.put, List.setIfInBounds_toArray, List.set_cons_zero, List.set_cons_succ]
  generalize w3.heap.size = q at Q ⊢
  generalize (w3.alloc _ : World) = w5 at G J HB Q hH ⊢
  refine wpAnyE_one (i := 6) (by kernel_rfl) (by simp only [List.getElem?_toArray, List.getElem?_cons_succ, List.getElem?_cons_zero]; rfl) (fun K hK => ?_)
  go_simp
  refine (concatRec_is _ _ _ _ _ X X' w5 hl2 Q (hx.later HB) (hx'.later HB)).mono ?_
  rintro e w6 ⟨v, rfl, hown, hb⟩
  replace G := G.later hb G.lt
  replace J := J.later hb J.lt
  have hw5 := HB.size
  have HB2 := bel_trans HB hb
  rw [← HX.out, ← HX'.out] at hown
  have hL := row_two hf.out hf'.out (ownLow hown hw5) HC.out HC'.out HB2
  have hL2 := hL.lt.sub (F' := (· < w6.heap.size)) (fun b hb => hb.2)
  obtain ⟨A, c, rfl, hmx, hr⟩ := hL2.at
  clear hL hL2 hown Q hb HB
  clear hH
  refine hK.out _ _ ⟨G, J⟩ (fun hH => ?_)
  clear hK K
  try simp only [Act.put, List.setIfInBounds_toArray, List.set_cons_zero, List.set_cons_succ]
  generalize (d.ks ++ d.ls).length = ln at hmx hr ⊢
  refine wpAnyE_one (i := 7) (by kernel_rfl) (by simp only [List.getElem?_toArray, List.getElem?_cons_succ, List.getElem?_cons_zero]; rfl) (fun K hK => ?_)
  go_simp
  have K0 := (keepsG g).later H0.out HB2
  refine (replayed8_is K0 hr hst).mono ?_
  rintro e w7 ⟨GG, cg, rfl, hO, hb⟩
  replace G := G.later hb G.lt
  replace J := J.later hb J.lt
  have E := bel_trans (bel_trans hb0 HB2) hb
  have O := Lib.hid (hO.low (bel_trans hb0 HB2).size)
  clear hb HB2 hr K0 hO
  rw [HRR.out] at O ⊢
  clear hH
  refine hK.out _ _ ⟨G, J⟩ (fun hH => ?_)
  clear hK K
  try simp only [Act.put, List.setIfInBounds_toArray, List.set_cons_zero, List.set_cons_succ]
  refine wpAnyE_pure (i := 8) (v := ?vq8) (by simp only [List.getElem?_toArray, List.getElem?_cons_succ, List.getElem?_cons_zero]; rfl) (by kernel_rfl) (by kernel_rfl) (by kernel_rfl) (by exact fun _ _ _ h => h) (by kernel_rfl) (Or.inl ⟨by rfl, ?yq8⟩) hH ?rq8
  case yq8 => (intro w' hSw; (try dsimp only at hSw); go_simp; try with_reducible rfl)
  try simp only [Act.put, List.setIfInBounds_toArray, List.set_cons_zero, List.set_cons_succ]
  refine wpAnyE_pure (i := 9) (v := ?vq9) (by simp only [List.getElem?_toArray, List.getElem?_cons_succ, List.getElem?_cons_zero]; rfl) (by kernel_rfl) (by kernel_rfl) (by kernel_rfl) (by exact fun _ _ _ h => h) (by kernel_rfl) (Or.inl ⟨by rfl, ?yq9⟩) hH ?rq9
  case yq9 => (intro w' hSw; (try dsimp only at hSw); go_simp; try with_reducible rfl)
  try simp only [Act.put, List.setIfInBounds_toArray, List.set_cons_zero, List.set_cons_succ]
  refine wpAnyE_pure (i := 10) (v := ?vq10) (by simp only [List.getElem?_toArray, List.getElem?_cons_succ, List.getElem?_cons_zero]; rfl) (by kernel_rfl) (by kernel_rfl) (by kernel_rfl) (by exact fun _ _ _ h => h) (by kernel_rfl) (Or.inl ⟨by rfl, ?yq10⟩) hH ?rq10
  case yq10 => (intro w' hSw; (try dsimp only at hSw); go_simp; try with_reducible rfl)
  try simp only [Act.put, List.setIfInBounds_toArray, List.set_cons_zero, List.set_cons_succ]
  refine wpAnyE_end (i := 11) (by kernel_rfl) (by simp only [List.getElem?_toArray, List.getElem?_cons_succ, List.getElem?_cons_zero]; rfl) (by kernel_rfl) (fun K hK => ?_)
  go_simp
  refine hK.out _ _ ⟨G, J⟩ ?_
  clear hK K hH G J
  try simp only [Act.put, List.setIfInBounds_toArray, List.set_cons_zero, List.set_cons_succ]
  go_wp2
  exact bodyPost_ret (v := .tuple #[.slice (some ⟨GG, 0, none⟩) rr.1.length cg, .bool rr.2]) (by simp [results, Tryz.results73, go_sem]) rfl ⟨_, _, rfl, O.out, E⟩
set_option maxRecDepth 100000 in
set_option maxHeartbeats 4000000 in
theorem journalOk_is {g : GrpD} {d : JourD} {w : World} {F0 F1 : Nat → Prop} {C0 C1 : Array Value} {z : Bool} (h0 : AtG g w F0 (.agg C0)) (h1 : AtS9 d w F1 (.agg C1)) (hs : d.sz ≤ 1048576) (hz : jokD g d = z) :
    Calls Tryz.prog 17 #[.agg C0, .agg C1] w fun e w' => e = .returned (.bool z) ∧ Below w.heap.size w w' := by
  have HZ := Lib.hid hz
  have hst : totC (d.ks ++ d.ls) ≤ 1048576 := by rw [totC_app]; exact hs
  have J0 := Lib.hid (sizeG h0).2
  have J1 := Lib.hid (show (Tryz.prog.info? 29).map (·.size) = some C1.size from (sizeJ h1.at).2)
  have hb0 := bel_trans (bel_alloc w (.cells C0 26)) (bel_alloc _ (.cells C1 29))
  have G := (Box.new w 26 C0).alloc (.cells C1 29)
  have J := Box.new (w.alloc (.cells C0 26)) 29 C1
  simp only [World.size_alloc] at J
  have H0 := Lib.hid ((keepsG g).later h0 hb0)
  have H1 := (keepsS9 d).later h1 hb0
  clear h0 h1 hz
  go_enter Tryz.func17, Tryz.ntmps17
  go_upto_region 1 with fail
  generalize ((w.alloc _).alloc _ : World) = w0 at hb0 G J H0 H1 ⊢
  go_wp2_with (first | (refine wpList_load_box 29 _ rfl (w.heap.size + 1) rfl 29 C1 J _ Tryz.underlying29 rfl J1.out (by first | rfl | simp [Region.wanted, yielded] | (simp [Region.wanted, yielded, Act.put] <;> omega)) ?_) | (refine wpList_load_box 26 _ rfl (w.heap.size) rfl 26 C0 G _ Tryz.underlying26 rfl J0.out (by first | rfl | simp [Region.wanted, yielded] | (simp [Region.wanted, yielded, Act.put] <;> omega)) ?_))
  refine (regs_is H0.out H1 hs rfl).mono ?_
  rintro e w2 ⟨GG, cg, rfl, -, hb⟩
  have E := bel_trans hb0 hb
  clear hb hb0 H0 H1 J G
  rw [show (replD g (d.ks ++ d.ls)).2 = z from HZ.out]
  generalize (replD g (d.ks ++ d.ls)).1 = rs
  go_wp2
  go_ret
  exact ⟨rfl, E⟩

end Go.Proofs.YtjdepjpjjgkmbaaGreat

/- The builtin copy over elements of any number of cells, into a row that is known whole; conditions: the places. -/
namespace Go.Proofs.YtjdepjpjjgkmbaaGreat
open Go Go.RowKit

section
variable {P : Program}
theorem run_copy_none_w (w : World) (dT sT ty elem : TypeId) (k : Nat) (d a : Option Addr) (dLen dCap sLen sCap : Nat) (hu : P.underlying dT = some (.slice elem)) (hs : (P.info? elem).map (·.size) = some k) (hn : Nat.min sLen dLen = 0) :
    (Builtin.copy_ #[dT, sT] ty #[.slice d dLen dCap, .slice a sLen sCap]).run P w = .ok (goInt 0) w := by
  cases hq : P.info? elem with
  | none => simp [hq] at hs
  | some i =>
    have hl : ∀ (x : Addr), (loadCells x 0).run P w = .ok #[] w := fun x => by simpa using run_loadCells_list (P := P) w x [] (by simp)
    cases d <;> cases a <;> simp [Builtin.copy_, run_underlying hu, Builtin.lenOf, Builtin.firstCells, sizeOf, typeInfo, hq, hn, storeCells, hl]
theorem run_copy_row_w (w : World) (dT sT ty elem : TypeId) (k : Nat) (g o dLen dCap : Nat) (a : Addr) (sLen sCap : Nat) (cur : Array Value) (t : TypeId) (cs : List Value)
    (hu : P.underlying dT = some (.slice elem)) (hs : (P.info? elem).map (·.size) = some k)
    (hg : w.heap[g]? = some (.cells cur t (0, 0))) (hn : cs.length = Nat.min sLen dLen * k)
    (hsrc : ∀ j v, cs[j]? = some v → w.cell? (a.add j) = some v) (hfit : o + cs.length ≤ cur.size) (h1 : ∀ v ∈ cs, v.oneCell' = true) :
    (Builtin.copy_ #[dT, sT] ty #[.slice (some ⟨g, o, none⟩) dLen dCap, .slice (some a) sLen sCap]).run P w =
      .ok (goInt (Nat.min sLen dLen)) (w.setRow g (cur.toList.take o ++ cs ++ cur.toList.drop (o + cs.length)).toArray) := by
  have hl := run_loadCells_list (P := P) w a cs hsrc
  have hst := run_storeCells_at P g o t cs 0 cur w hg (by simpa using hfit) h1
  cases hq : P.info? elem with
  | none => simp [hq] at hs
  | some i =>
    have hi : i.size = k := by simpa [hq] using hs
    simp [Builtin.copy_, run_underlying hu, Builtin.lenOf, Builtin.firstCells, sizeOf, typeInfo, hq, hi, ← hn, hl, hst]
theorem wpList_copy_wide {w : World} {ops : Array Oper} {rest : List Oper} {o : Oper} {a : Act} {Q : Exit → Act → World → Prop} (hgd : o.guard = none) (d s : Operand) (dT sT : TypeId)
    (ho : o.op = .call { callee := .builtin .copy, args := #[d, s], argTypes := #[dT, sT] }) (elem : TypeId) (k : Nat) (hu : P.underlying dT = some (.slice elem)) (hsz : (P.info? elem).map (·.size) = some k)
    (dp sp : Option Addr) (dLen dCap sLen sCap : Nat) (hd : a.eval d = .slice dp dLen dCap) (hs : a.eval s = .slice sp sLen sCap)
    (g off : Nat) (cur : List Value) (t : TypeId) (hg : w.heap[g]? = some (.cells cur.toArray t (0, 0))) (m : Nat) (hm : Nat.min sLen dLen = m) (cs : List Value) (hn : cs.length = m * k)
    (hpos : 0 < m → dp = some ⟨g, off, none⟩ ∧ ∃ ad, sp = some ad ∧ ∀ j v, cs[j]? = some v → w.cell? (ad.add j) = some v)
    (hfit : off + cs.length ≤ cur.length) (h1 : ∀ v ∈ cs, v.oneCell' = true) (B : Nat) (w0 : World) (hb : Below B w0 w) (hBg : B ≤ g)
    (h : ∀ w', Hid (w'.heap[g]? = some (.cells (splice cur off cs).toArray t (0, 0))) → Below B w0 w' → wpList P ops Q rest (a.put o.dst (goInt m)) w') :
    wpList P ops Q (o :: rest) a w := by
  refine wpList_plain hgd fun K hK => ?_
  subst hm
  by_cases h0 : Nat.min sLen dLen = 0
  · rw [h0, Nat.zero_mul] at hn
    obtain rfl : cs = [] := List.eq_nil_of_length_eq_zero hn
    have hrun := run_copy_none_w (P := P) w dT sT o.type elem k dp sp dLen dCap sLen sCap hu hsz h0
    unfold Oper.wp
    simp [execOp, ho, resolve, invoke, builtin, hd, hs, hrun, Result.andThen]
    rw [h0] at h
    exact hK _ _ (h w (show _ = _ by simpa [splice] using hg) hb)
  · obtain ⟨rfl, ad, rfl, hsrc⟩ := hpos (by omega)
    have hrun := run_copy_row_w (P := P) w dT sT o.type elem k g off dLen dCap ad sLen sCap cur.toArray t cs hu hsz hg hn hsrc (by simpa using hfit) h1
    unfold Oper.wp
    simp [execOp, ho, resolve, invoke, builtin, hd, hs, hrun, Result.andThen]
    exact hK _ _ (h _ (show _ = _ by simpa [splice] using setRow_heap w g _ _ t _ hg) (below_setRow hb hBg _))
end
end Go.Proofs.YtjdepjpjjgkmbaaGreat

/- Two lists of records, one behind the other, in memory of their own, each record with its list in a block of its own; conditions: the sizes. -/
namespace Go.Proofs.YtjdepjpjjgkmbaaGreat
open Go Go.RowKit Go.Deep

theorem farJ (w : World) (g : Nat) (v : Value) {a b : Nat} (h : a ≠ b) : (w.setCell ⟨g, a, none⟩ v).cell? ⟨g, b, none⟩ = w.cell? ⟨g, b, none⟩ := World.cell?_setCell_other _ _ _ _ (fun e => h (by injection e))
/-- Of the records in the block G the first k have lists of their own. -/
structure JoinK (w wr : World) (ds : List RecD) (k G : Nat) (Fs : Nat → Nat → Prop) : Prop where
  bel : Below w.heap.size w wr
  lo : w.heap.size ≤ G
  lt : G < wr.heap.size
  fr : ∀ o, wr.frozen? ⟨G, o, none⟩ = false
  own : ∀ i (h : i < ds.length), i < k → ∃ u, wr.rangeAt G (i * 9) ((ds[i]).cells u).toList ∧ OwnP wr (Fs i) u (ds[i]).ps
  rest : ∀ i (h : i < ds.length), k ≤ i → ∃ u, wr.rangeAt G (i * 9) ((ds[i]).cells u).toList ∧ SlcF wr (· < w.heap.size) u (ds[i]).ps
  far : ∀ i, i < k → ∀ b, Fs i b → w.heap.size ≤ b ∧ b < wr.heap.size ∧ b ≠ G
  two : ∀ i j, i < k → j < k → i ≠ j → ∀ b, Fs i b → ¬ Fs j b
theorem set_cells (d : RecD) (u u' : Value) : (d.cells u').toList = (d.cells u).toList.set 7 u' := rfl
/-- The next one's list was copied (w2) and laid into its place. -/
theorem JoinK.next {w wr w2 : World} {ds : List RecD} {k G : Nat} {Fs : Nat → Nat → Prop} {u' : Value} (h : JoinK w wr ds k G Fs) (hk : k < ds.length) (hb : Below wr.heap.size wr w2) (hu : OwnP w2 (Iv wr.heap.size w2.heap.size) u' (ds[k]).ps) :
    JoinK w (w2.setCell ⟨G, k * 9 + 7, none⟩ u') ds (k + 1) G (fun i => if i = k then Iv wr.heap.size w2.heap.size else Fs i) := by
  have hs := hb.size
  have hlt := h.lt
  have hlo := h.lo
  have hbw := h.bel.size
  have ht := turns_setCells9.turns_cell9 w2 G (k * 9 + 7) u'
  have hsz : (w2.setCell ⟨G, k * 9 + 7, none⟩ u').heap.size = w2.heap.size := size_set _ _ _
  have cellb : ∀ o x, wr.cell? ⟨G, o, none⟩ = some x → w2.cell? ⟨G, o, none⟩ = some x := fun o x hx => (hb.cell (p := ⟨G, o, none⟩) hlt).trans hx
  have rows : ∀ i, i ≠ k → ∀ vs : List Value, vs.length = 9 → wr.rangeAt G (i * 9) vs → (w2.setCell ⟨G, k * 9 + 7, none⟩ u').rangeAt G (i * 9) vs := fun i hi vs hl hr p y hy => by
    have hp : p < 9 := by
      have := (List.getElem?_eq_some_iff.1 hy).1
      omega
    exact (farJ w2 G u' (by omega)).trans (cellb _ _ (hr p y hy))
  refine ⟨(bel_trans h.bel hb).setCell (p := ⟨G, k * 9 + 7, none⟩) (by show w.heap.size ≤ G; exact hlo) _, hlo, by omega, fun o => ?_, fun i hi hik => ?_, fun i hi hik => ?_, fun i hi b hbi => ?_, fun i j hi hj hij b hbi hbj => ?_⟩
  · refine (World.frozen?_setCell _ _ _ _).trans ?_
    exact (hb.frozen (p := ⟨G, o, none⟩) hlt).trans (h.fr o)
  · by_cases e : i = k
    · subst e
      obtain ⟨u, h1, -⟩ := h.rest i hi (Nat.le_refl _)
      refine ⟨u', fun p y hy => ?_, ?_⟩
      · rw [set_cells (ds[i]) u u'] at hy
        by_cases hp : p = 7
        · subst hp
          rw [List.getElem?_set_self (by rw [cells_len]; omega)] at hy
          injection hy with hy
          subst hy
          exact World.cell?_setCell_same' _ _ _ (by rw [cellb _ _ (h1 7 u rfl)]; rfl)
        · rw [List.getElem?_set_ne (Ne.symm hp)] at hy
          exact (farJ w2 G u' (by omega)).trans (cellb _ _ (h1 p y hy))
      · simp only [if_true]
        exact hu.turn ht (fun b hb e => by have := hb.1; omega)
    · have hlk : i < k := by omega
      obtain ⟨u, h1, h2⟩ := h.own i hi hlk
      refine ⟨u, rows i e _ (cells_len _ _) h1, ?_⟩
      simp only [if_neg e]
      exact (OwnP.turn h2 (T := fun _ => False) (Turns.of_below hb) (fun _ _ h => h)).turn ht (fun b hb e => (h.far i hlk b hb).2.2 e)
  · obtain ⟨u, h1, h2⟩ := h.rest i hi (by omega)
    exact ⟨u, rows i (by omega) _ (cells_len _ _) h1, (SlcF.turn h2 (T := fun _ => False) (Turns.of_below hb) (fun _ _ h => h)).turn ht (fun b hb e => by have h3 : b < w.heap.size := hb; omega)⟩
  · by_cases e : i = k
    · simp only [if_pos e] at hbi
      have h1 := hbi.1
      have h2 := hbi.2
      exact ⟨by omega, by omega, by omega⟩
    · simp only [if_neg e] at hbi
      have := h.far i (by omega) b hbi
      exact ⟨this.1, by omega, this.2.2⟩
  · by_cases e : i = k
    · by_cases e2 : j = k
      · omega
      · simp only [if_pos e] at hbi
        simp only [if_neg e2] at hbj
        have := h.far j (by omega) b hbj
        have := hbi.1
        omega
    · simp only [if_neg e] at hbi
      by_cases e2 : j = k
      · simp only [if_pos e2] at hbj
        have := h.far i (by omega) b hbi
        have := hbj.1
        omega
      · simp only [if_neg e2] at hbj
        exact h.two i j (by omega) (by omega) hij b hbi hbj
theorem JoinK.done {w wr : World} {ds : List RecD} {G n : Nat} {Fs : Nat → Nat → Prop} (h : JoinK w wr ds n G Fs) (hn : ds.length = n) (hm : n ≤ maxLen) : OwnCS ds wr (Iv w.heap.size wr.heap.size) (.slice (some ⟨G, 0, none⟩) n n) := by
  subst hn
  refine .inr ⟨G, _, Fs, ⟨h.lo, h.lt⟩, rfl, Nat.le_refl _, hm, ⟨h.lt, h.fr, fun i hi => ?_, fun i hi b hb => (h.far i hi b hb).2.2, h.two⟩, fun i hi b hb => ⟨⟨(h.far i hi b hb).1, (h.far i hi b hb).2.1⟩, (h.far i hi b hb).2.1⟩⟩
  obtain ⟨u, h1, h2⟩ := h.own i hi hi
  rw [recsK_at rfl hi]
  exact ⟨u, h1, u, rfl, h2⟩
theorem splice_two {α : Type} (Z X X' : List α) (h : Z.length = X.length + X'.length) : splice (splice Z 0 X) X.length X' = X ++ X' := by
  have e : splice Z 0 X = X ++ Z.drop X.length := by simp [splice]
  rw [e]
  unfold splice
  rw [List.take_left, List.drop_append]
  simp
  omega
/-- Before the first one: the cells were copied. -/
theorem JoinK.start {w wr : World} {G : Nat} {ks ls : List RecD} {ms ms' : List (RecD × Value)} {t : TypeId} (hb : Below w.heap.size w wr) (hG : w.heap.size ≤ G) (hm : ms.map (·.1) = ks) (hm' : ms'.map (·.1) = ls) (hc : CertsF w (· < w.heap.size) ms) (hc' : CertsF w (· < w.heap.size) ms') (hbox : Box wr G t (flatC ms ++ flatC ms').toArray) : JoinK w wr (ks ++ ls) 0 G (fun _ _ => False) := by
  have hm2 : (ms ++ ms').map (·.1) = ks ++ ls := by rw [List.map_append, hm, hm']
  rw [← flatC_app] at hbox
  have hcc := (hc.app hc').later hb
  refine ⟨hb, hG, hbox.lt, hbox.frozen, fun i hi h0 => absurd h0 (by omega), fun i hi _ => ?_, fun i hi => absurd hi (by omega), fun i j hi => absurd hi (by omega)⟩
  obtain ⟨hi', ed⟩ := map_at hm2 hi
  refine ⟨((ms ++ ms')[i]).2, fun j x hx => ?_, ?_⟩
  · have hj : j < 9 := by
      have := (List.getElem?_eq_some_iff.1 hx).1
      rwa [cells_len] at this
    refine (hbox.cell _).trans ?_
    rw [List.getElem?_toArray, flatC_at hi' hj, ed]
    exact hx
  · have h2 := hcc _ (List.getElem_mem hi')
    rwa [ed] at h2
theorem Own.inIv {w w' : World} {v : Value} {ps : List (Int × Int)} (h : Own w v ps w') {B : Nat} (hB : B ≤ w.heap.size) : OwnP w' (Iv B w'.heap.size) v ps := by
  rcases h.1 with h | ⟨g, cap, hg, h0, h1, h2, h3⟩
  · exact .inl h
  · exact .inr ⟨g, cap, ⟨Nat.le_trans hB hg, h3.lt⟩, h0, h1, h2, h3⟩
set_option maxRecDepth 100000 in
set_option maxHeartbeats 8000000 in
theorem joined_is {ks ls : List RecD} {w : World} {F : Nat → Prop} {v v' : Value} (h : ListS ks w F v) (h' : ListS ls w F v') (hs : totC ks + totC ls ≤ 1048576) :
    Calls Tryz.prog 69 #[v, v'] w fun e w' => ∃ G, e = .returned (.slice (some ⟨G, 0, none⟩) (ks.length + ls.length) (ks.length + ls.length)) ∧ OwnCS (ks ++ ls) w' (Iv w.heap.size w'.heap.size) (.slice (some ⟨G, 0, none⟩) (ks.length + ls.length) (ks.length + ls.length)) ∧ Below w.heap.size w w' := by
  have hl1 : ks.length ≤ totC ks := by have := totC_rest ks 0; rw [totC_zero] at this; omega
  have hl2 : ls.length ≤ totC ls := by have := totC_rest ls 0; rw [totC_zero] at this; omega
  obtain ⟨ms, hm, hc, hx⟩ := h.lt.src
  obtain ⟨ms', hm', hc', hx'⟩ := h'.lt.src
  obtain ⟨A, c, rfl, -, -⟩ := h.at
  obtain ⟨A', c', rfl, -, -⟩ := h'.at
  clear h h'
  have HD := Lib.hid (fun k (hk : k < (ks ++ ls).length) => totC_mem (ks ++ ls) hk)
  have htot : totC (ks ++ ls) = totC ks + totC ls := by unfold totC; rw [List.map_append, List.sum_append]
  rw [htot] at HD
  have hlen : (ks ++ ls).length = ks.length + ls.length := List.length_append
  have hX : (flatC ms).length = ks.length * 9 := by rw [flatC_len, ← hm, List.length_map]
  have hX' : (flatC ms').length = ls.length * 9 := by rw [flatC_len, ← hm', List.length_map]
  have ONE := Lib.hid (flatC_one hc.one)
  have ONE' := Lib.hid (flatC_one hc'.one)
  have ST := fun (wr : World) (G : Nat) (t : TypeId) (hb : Below w.heap.size w wr) (hG : w.heap.size ≤ G) => JoinK.start (t := t) hb hG hm hm' (hc.sub (fun b hb => hb.2)) (hc'.sub (fun b hb => hb.2))
  have HST := Lib.hid ST
  clear ST hm hm' hc hc'
  generalize flatC ms = X at hx hX ONE HST
  generalize flatC ms' = X' at hx' hX' ONE' HST
  generalize ks.length = n at *
  generalize ls.length = n' at *
  generalize ks ++ ls = ds at *
  obtain ⟨s, hs1, hs2⟩ : ∃ s : Nat, (n : Int) + (n' : Int) = (s : Int) ∧ n + n' = s := ⟨n + n', by omega, rfl⟩
  rw [hs2] at hlen ⊢
  have hmk := fun W => run_make_recs (P := Tryz.prog) 27 46 Tryz.underlying27 Tryz.infoRec9 s (by omega) W
  have SX := Lib.hid hx
  have SX' := Lib.hid hx'
  have hb1 := bel_alloc w (.cells (madeCells (zeroC.cells (.slice none 0 0)) (s * 9)) 46)
  have B0 := Box.new w 46 (madeCells (zeroC.cells (.slice none 0 0)) (s * 9))
  have hZl : (madeCells (zeroC.cells (.slice none 0 0)) (s * 9)).toList.length = s * 9 := by simp [size_madeCells]
  have HL := Lib.hid hlen
  clear hx hx' hlen
  go_enter Tryz.func69, Tryz.ntmps69
  go_upto_region 2 with fail
  clear hmk
  have HP := Lib.hid (show ∀ w', Below w.heap.size w w' → 0 < n → ∃ ad, A = some ad ∧ ∀ j v, X[j]? = some v → w'.cell? (ad.add j) = some v from fun w' hb h0 => by
    rcases SX.out.later hb with ⟨_, e, _⟩ | ⟨ad, c2, e, _, h2, _⟩
    · omega
    · injection e with e _ _
      exact ⟨ad, e, h2⟩)
  have HP' := Lib.hid (show ∀ w', Below w.heap.size w w' → 0 < n' → ∃ ad, A' = some ad ∧ ∀ j v, X'[j]? = some v → w'.cell? (ad.add j) = some v from fun w' hb h0 => by
    rcases SX'.out.later hb with ⟨_, e, _⟩ | ⟨ad, c2, e, _, h2, _⟩
    · omega
    · injection e with e _ _
      exact ⟨ad, e, h2⟩)
  obtain ⟨Z, hZ⟩ : ∃ Z, (madeCells (zeroC.cells (.slice none 0 0)) (s * 9)).toList = Z := ⟨_, rfl⟩
  rw [hZ] at hZl
  have B1 : (w.alloc (.cells (madeCells (zeroC.cells (.slice none 0 0)) (s * 9)) 46)).heap[w.heap.size]? = some (.cells Z.toArray 46 (0, 0)) := by rw [← hZ]; exact B0
  have HB1 := Lib.hid B1
  clear B0 B1 hZ SX SX'
  have hm1 : Nat.min n s = n := Nat.min_eq_left (by omega)
  have hm2 : Nat.min n' n' = n' := Nat.min_self n'
  have hsn : s - n = n' := by omega
  generalize (w.alloc _ : World) = w1 at hb1 HB1 ⊢
  have hsp := Lib.hid (splice_two Z X X' (by rw [hZl, hX, hX']; omega))
  rw [hX] at hsp
  have hfit := Lib.hid (show n * 9 + n' * 9 ≤ (splice Z 0 X).length by rw [length_splice _ _ _ (by omega)]; omega)
  go_upto_region 3 with (first | (refine wpList_copy_wide rfl _ _ _ _ rfl 46 9 Tryz.underlying27 (by kernel_rfl) _ _ _ _ _ _ rfl rfl w.heap.size 0 Z 46 HB1.out n hm1 X hX (fun h0 => ⟨rfl, HP.out _ hb1 h0⟩) (by omega) ONE.out w.heap.size w hb1 (Nat.le_refl _) ?_; intro w2 HB2 hb2) | (refine wpList_copy_wide rfl _ _ _ _ rfl 46 9 Tryz.underlying27 (by kernel_rfl) _ _ _ _ _ _ rfl rfl w.heap.size (n * 9) (splice Z 0 X) 46 HB2.out n' hm2 X' hX' (fun h0 => ⟨by rw [if_neg (by omega)], HP'.out _ hb2 h0⟩) (Nat.le_trans (Nat.le_of_eq (by rw [hX'])) hfit.out) ONE'.out w.heap.size w hb2 (Nat.le_refl _) ?_; intro w3 HB3 hb3))
  rw [hsp.out] at HB3
  have K0 := Lib.hid (HST.out w3 w.heap.size _ hb3 (Nat.le_refl _) HB3.out)
  clear HB1 HB2 HB3 hb1 hb2 hfit hsp HP HP' HST ONE ONE' hZl hX hX' hb3
  try simp only [Act.put]
  generalize (ite (s = n) _ _ : Option Addr) = AD
  go_wp2
  go_loopw [23] (fun i wr => ∃ (k : Nat) (Fs : Nat → Nat → Prop), k ≤ s ∧ i = .int .i64 k ∧ JoinK w wr ds k w.heap.size Fs) (fun i _ => s - (intOf i).toNat)
  case atStart => exact ⟨0, _, Nat.zero_le _, rfl, K0.out⟩
  case round =>
    clear K0
    obtain ⟨k, Fs, hk, rfl, K⟩ := hrel
    by_cases hlt : k < s
    · have hkd : k < ds.length := by have := HL.out; omega
      obtain ⟨u, hrow, hsl⟩ := K.rest k hkd (Nat.le_refl _)
      have hdk := HD.out k hkd
      have hnx := fun (w2 : World) (u' : Value) => K.next (w2 := w2) (u' := u') hkd
      obtain ⟨d, hd⟩ : ∃ d : RecD, ds[k] = d := ⟨_, rfl⟩
      rw [hd] at hrow hsl hnx hdk
      have NX := Lib.hid hnx
      obtain ⟨L, m, mc, rfl, -, -⟩ := hsl.at
      have HSL := Lib.hid hsl.slc
      have c0 := hrow 0 _ rfl
      rw [Nat.add_zero] at c0
      have c1 := hrow 1 _ rfl
      have c2 := hrow 2 _ rfl
      have c3 := hrow 3 _ rfl
      have c4 := hrow 4 _ rfl
      have c5 := hrow 5 _ rfl
      have c6 := hrow 6 _ rfl
      have c7 := hrow 7 _ rfl
      have c8 := hrow 8 _ rfl
      have hps : d.ps.length ≤ 4194304 := by omega
      have hltI : (k : Int) < (s : Int) := by omega
      have hkw : IntKind.i64.wrap ((k : Int) + 1) = (k : Int) + 1 := IntWalk.i64_in _ (by omega)
      have hGl := K.lt
      have hfr := K.fr (k * 9 + 7)
      clear hnx hrow hd hsl hdk
      have ZB := Box.new wr 46 #[.int .i64 0, .int .i64 0, .int .i64 0, .int .i64 0, .int .i64 0, .int .i64 0, .int .i64 0, .slice none 0 0, .int .i64 0]
      have VX := (Box.new wr 46 #[.int .i64 0, .int .i64 0, .int .i64 0, .int .i64 0, .int .i64 0, .int .i64 0, .int .i64 0, .slice none 0 0, .int .i64 0]).setRow #[.int .i64 d.r1, .int .i64 d.r2, .int .i64 d.r3, .int .i64 d.r4, .int .i64 d.r5, .int .i64 d.r6, .int .i64 d.r7, .slice L m mc, .int .i64 d.r8]
      have hn := bel_new_row wr #[.int .i64 0, .int .i64 0, .int .i64 0, .int .i64 0, .int .i64 0, .int .i64 0, .int .i64 0, .slice none 0 0, .int .i64 0] 46 #[.int .i64 d.r1, .int .i64 d.r2, .int .i64 d.r3, .int .i64 d.r4, .int .i64 d.r5, .int .i64 d.r6, .int .i64 d.r7, .slice L m mc, .int .i64 d.r8]
      go_upto_region 6 with (refine wpList_store_row rfl 46 _ _ rfl wr.heap.size _ rfl rfl 46 #[.int .i64 0, .int .i64 0, .int .i64 0, .int .i64 0, .int .i64 0, .int .i64 0, .int .i64 0, .slice none 0 0, .int .i64 0] ZB (by kernel_rfl) rfl (by simp [Value.oneCell']) ?_)
      clear ZB c0 c1 c2 c3 c4 c5 c6 c8
      try simp only [Act.put]
      generalize ((wr.alloc _).setRow _ _ : World) = w1 at VX hn ⊢
      obtain ⟨v0, v1, v2, v3, v4, v5, v6, v7, v8⟩ := VX.nine
      have hVl := VX.lt
      have hs1 := hn.size
      have HS1 := Lib.hid (HSL.out.later hn)
      go_wp2_with (go_at_call 129; refine (cloneSeals_is _ d.ps _ hps HS1.out).mono ?_; rintro e w2 ⟨u', rfl, hO⟩; obtain ⟨A1, m1, c1, rfl⟩ := slc_form hO.slc; have hb2 := bel_trans hn hO.2; have hO2 := Lib.hid (hO.inIv hs1); have d7 := (hb2.cell (p := ⟨w.heap.size, k * 9 + 7, none⟩) hGl).trans c7; have fd := (hb2.frozen (p := ⟨w.heap.size, k * 9 + 7, none⟩) hGl).trans hfr; have HB := Lib.hid hb2; clear hO hb2)
      have KN := Lib.hid (NX.out w2 _ HB.out hO2.out)
      clear d7 fd
      go_roundw
      case rel => exact ⟨k + 1, _, by omega, by go_num, KN.out⟩
      case measure => simp [intOf]; omega
    · have hkn : k = s := by omega
      subst hkn
      have hd := K.done HL.out (by unfold maxLen; omega)
      have HDN := Lib.hid hd
      have E := K.bel
      clear K hd
      go_wp2
      go_ret
      exact ⟨w.heap.size, rfl, HDN.out, E⟩
end Go.Proofs.YtjdepjpjjgkmbaaGreat

/- Which of the loose records are left: lists of bools read, the library's Index, leftOf; conditions: the sizes. -/
namespace Go.Proofs.YtjdepjpjjgkmbaaGreat
open Go Go.RowKit

/-- A list of bools in memory, read through blocks of F. -/
def BoolF (w : World) (F : Nat → Prop) (A : Option Addr) (n : Nat) (bs : List Bool) : Prop :=
  bs.length = n ∧ (0 < n → ∃ b o, A = some ⟨b, o, none⟩ ∧ F b ∧ b < w.heap.size ∧ ∀ i (h : i < bs.length), w.cell? ⟨b, o + i, none⟩ = some (.bool bs[i]))
theorem BoolF.turn {T : Nat → Prop} {w w' : World} {F : Nat → Prop} {A : Option Addr} {n : Nat} {bs : List Bool} (h : BoolF w F A n bs) (ht : Turns T w w') (hd : ∀ b, F b → ¬ T b) : BoolF w' F A n bs := by
  refine ⟨h.1, fun hn => ?_⟩
  obtain ⟨b, o, hA, hF, hb, hc⟩ := h.2 hn
  exact ⟨b, o, hA, hF, Nat.lt_of_lt_of_le hb ht.size, fun i hi => (ht.cell hb (hd b hF) _).trans (hc i hi)⟩
theorem BoolF.later {w w' : World} {F : Nat → Prop} {A : Option Addr} {n : Nat} {bs : List Bool} (h : BoolF w F A n bs) (hb : Below w.heap.size w w') : BoolF w' F A n bs := h.turn (T := fun _ => False) (Turns.of_below hb) (fun _ _ h => h)
theorem BoolF.sub {w : World} {F F' : Nat → Prop} {A : Option Addr} {n : Nat} {bs : List Bool} (h : BoolF w F A n bs) (hs : ∀ b, F b → F' b) : BoolF w F' A n bs := by
  refine ⟨h.1, fun hn => ?_⟩
  obtain ⟨b, o, hA, hF, hb, hc⟩ := h.2 hn
  exact ⟨b, o, hA, hs b hF, hb, hc⟩
theorem BoolF.nil (w : World) (F : Nat → Prop) : BoolF w F none 0 [] := ⟨rfl, fun h => absurd h (by omega)⟩
/-- A part of a list, from its beginning. -/
theorem ListS.take {ds : List RecD} {w : World} {F : Nat → Prop} {A : Option Addr} {n c : Nat} (h : ListS ds w F (.slice A n c)) {k : Nat} (hk : k ≤ ds.length) {c' : Nat} (hc : k ≤ c') (hm : c' ≤ maxLen) (h0 : A = none → c' = 0) : ListS (ds.take k) w F (.slice A k c') := by
  have hl : (ds.take k).length = k := by rw [List.length_take]; omega
  rcases h with ⟨e, rfl⟩ | ⟨b, o, c1, e, h1, h2, h3, ms, hms, hcs, hx⟩
  · injection e with e _ _
    subst e
    have := h0 rfl
    subst this
    obtain rfl : k = 0 := by omega
    exact .inl ⟨rfl, by simp⟩
  · injection e with e _ _
    subst e
    refine .inr ⟨b, o, c', by rw [hl], by rw [hl]; exact hc, hm, fun hn => h3 (by rw [hl] at hn; omega), ms.take k, ?_, fun p hp => hcs p (List.mem_of_mem_take hp), fun j x hj => hx j x ?_⟩
    · rw [List.map_take, hms]
    · have hjl := flatC_lt hj
      rw [show flatC ms = flatC (ms.take k) ++ flatC (ms.drop k) by rw [← flatC_app, List.take_append_drop]]
      rw [List.getElem?_append_left (by rw [flatC_len]; exact hjl)]
      exact hj
end Go.Proofs.YtjdepjpjjgkmbaaGreat

/- The laws' sizes, copies and comparisons of journals as data; conditions: the sizes. -/
namespace Go.Proofs.YtjdepjpjjgkmbaaGreat
open Go Go.RowKit

end Go.Proofs.YtjdepjpjjgkmbaaGreat

/- Crashed and Synced, the program's and the model's: what is left of a journal, in memory of its own (written by jour_crash.py); conditions: the sizes. -/
namespace Go.Proofs.YtjdepjpjjgkmbaaGreat
open Go Go.RowKit

theorem zeroJ (w : World) (F : Nat → Prop) : LieJ ⟨[], []⟩ w F (.agg #[.slice none 0 0, .slice none 0 0]) := ⟨_, _, fun _ => False, fun _ => False, rfl, .inl ⟨rfl, rfl⟩, .inl ⟨rfl, rfl⟩, fun _ h => h.elim, fun _ h => h.elim, fun _ h => h.elim⟩
theorem turns_row9 (w : World) (V : Nat) (C : Array Value) : Turns (· = V) w (w.setRow V C) := turns_setRow w V C

end Go.Proofs.YtjdepjpjjgkmbaaGreat

/- Crashed of the model: what is left of a journal, in memory of its own (written by jour_crash2.py); conditions: the sizes. -/
namespace Go.Proofs.YtjdepjpjjgkmbaaGreat
open Go Go.RowKit

end Go.Proofs.YtjdepjpjjgkmbaaGreat

/- What the model's draw of a journal leaves: a list cut in two, its rest in memory of its own (written by jour_draw.py). -/
namespace Go.Proofs.YtjdepjpjjgkmbaaGreat
open Go Go.RowKit Go.Deep

theorem flatC_cut (ms : List (RecD × Value)) {k : Nat} (hk : k ≤ ms.length) : flatC (ms.take k) = (flatC ms).take (k * 9) ∧ flatC (ms.drop k) = (flatC ms).drop (k * 9) := by
  have h := flatC_app (ms.take k) (ms.drop k)
  rw [List.take_append_drop] at h
  have hl : (flatC (ms.take k)).length = k * 9 := by rw [flatC_len, List.length_take]; congr 1; omega
  rw [h, ← hl, List.take_left, List.drop_left]
  exact ⟨rfl, rfl⟩
/-- The first of them are a row too. -/
theorem RowR.cut {base : Nat} {wr : World} {k g cap : Nat} {ms : List (RecD × Value)} {Fs : Nat → Nat → Prop} (h : RowR base wr k g cap ms Fs) {j : Nat} (hj : j ≤ k) : RowR base wr j g cap (ms.take j) Fs := by
  have hc := h.count
  refine ⟨⟨by rw [flatC_len, List.length_take]; congr 1; omega, ?_⟩, fun i hi => ?_, fun i hi => ?_, fun i hi => h.far i (by omega), fun i i' hi hi' => h.two i i' (by omega) (by omega)⟩
  · rcases h.own.2 with ⟨e, _⟩ | ⟨g', cap', cur, e, hb, hgg, h1, h2, h3, h4⟩
    · cases e
    · injection e with e1 _ e3
      injection e1 with e1
      injection e1 with e1 _ _
      subst e1 e3
      refine .inr ⟨g, cap, cur, rfl, hb, hgg, by omega, h2, h3, ?_⟩
      rw [(flatC_cut ms (by omega)).1, ← h4, List.take_take]
      congr 1
      omega
  · rw [List.length_take] at hi
    rw [List.getElem_take]
    exact h.cert i (by omega)
  · rw [List.length_take] at hi
    rw [List.getElem_take]
    exact h.len i (by omega)
/-- The rest of them, copied, is a row; the lists of the records are the same. -/
theorem RowR.rest {base : Nat} {w2 w3 : World} {k g cap g' cap' : Nat} {ms : List (RecD × Value)} {Fs : Nat → Nat → Prop} (h : RowR base w2 k g cap ms Fs) {j : Nat} (hj : j ≤ k) (hown : w3.ownsRow base 46 9 (.slice (some ⟨g', 0, none⟩) (k - j) cap') (k - j) (flatC (ms.drop j))) (hb : Below w2.heap.size w2 w3) (hg : ∀ i, i < k → ∀ b, Fs i b → b ≠ g') :
    RowR base w3 (k - j) g' cap' (ms.drop j) (fun i => Fs (j + i)) := by
  have hc := h.count
  have hs := hb.size
  refine ⟨hown, fun i hi => ?_, fun i hi => ?_, fun i hi b hbi => ⟨(h.far (j + i) (by omega) b hbi).1, Nat.lt_of_lt_of_le (h.far (j + i) (by omega) b hbi).2.1 hs, hg (j + i) (by omega) b hbi⟩, fun i i' hi hi' hne => h.two (j + i) (j + i') (by omega) (by omega) (by omega)⟩
  · rw [List.length_drop] at hi
    rw [List.getElem_drop]
    exact (keepsRow _).later (h.cert (j + i) (by omega)) hb
  · rw [List.length_drop] at hi
    rw [List.getElem_drop]
    exact h.len (j + i) (by omega)
theorem rowLow {base base' : Nat} {wr : World} {k g cap : Nat} {ms : List (RecD × Value)} {Fs : Nat → Nat → Prop} (h : RowR base wr k g cap ms Fs) (hb : base' ≤ base) : RowR base' wr k g cap ms Fs :=
  ⟨ownLow h.own hb, h.cert, h.len, fun i hi b hbi => ⟨Nat.le_trans hb (h.far i hi b hbi).1, (h.far i hi b hbi).2⟩, h.two⟩
/-- The rest of a row's slice, read: where nothing is left the address stays. -/
theorem RowR.srcRest {base : Nat} {wr : World} {k g cap : Nat} {ms : List (RecD × Value)} {Fs : Nat → Nat → Prop} (h : RowR base wr k g cap ms Fs) {j : Nat} (hj : j ≤ k) : Src wr (.slice (if cap = j then some ⟨g, 0, none⟩ else some ⟨g, j * 9, none⟩) (k - j) (cap - j)) (k - j) 9 (flatC (ms.drop j)) := by
  have hc := h.count
  have hcap := h.caps.1
  have hone : ∀ x ∈ flatC (ms.drop j), x.oneCell' = true := flatC_one (fun p hp => by
    obtain ⟨i, hi, e⟩ := List.getElem_of_mem (List.mem_of_mem_drop hp)
    obtain ⟨gq, cq, _, eu, _⟩ := h.cert i hi
    rw [← e, eu]
    rfl)
  have hl : (flatC (ms.drop j)).length = (k - j) * 9 := by rw [flatC_len, List.length_drop, hc]
  by_cases e : cap = j
  · rw [if_pos e]
    refine .inr ⟨⟨g, 0, none⟩, _, rfl, hl, fun i x hi => ?_, hone⟩
    have := (List.getElem?_eq_some_iff.1 hi).1
    rw [hl] at this
    omega
  · rw [if_neg e]
    refine .inr ⟨⟨g, j * 9, none⟩, _, rfl, hl, fun i x hi => ?_, hone⟩
    rw [(flatC_cut ms (by omega)).2, List.getElem?_drop] at hi
    have h2 := h.cells _ x hi
    rw [Nat.zero_add] at h2
    rw [show (⟨g, j * 9, none⟩ : Addr).add i = ⟨g, j * 9 + i, none⟩ by unfold Addr.add; split <;> simp_all]
    exact h2
/-- A journal was drawn: what is kept is the list's first part, what is not a row of its own. -/
def DrawnJ (g : Nat) (A : Option Addr) (n cap : Nat) (w : World) (e : Ending) (w' : World) : Prop :=
  ∃ (k j gl lc g2 c2 : Nat) (ms : List (RecD × Value)) (Fs : Nat → Nat → Prop), e = .returned (.agg #[.slice (some ⟨gl, 0, none⟩) j lc, .slice (some ⟨g2, 0, none⟩) (k - j) c2]) ∧ j ≤ k ∧ k < 9 ∧ RowR w.heap.size w' j gl lc (ms.take j) Fs ∧ RowR w.heap.size w' (k - j) g2 c2 (ms.drop j) (fun i => Fs (j + i)) ∧ gl ≠ g2 ∧ (∀ i, i < k → ∀ b, Fs i b → b ≠ gl ∧ b ≠ g2) ∧ (∀ i i', i < k → i' < k → i ≠ i' → ∀ b, Fs i b → ¬ Fs i' b) ∧ Cur w' 169 .i64 g A n cap ∧ w.grownBy w' (some g)

set_option maxRecDepth 100000 in
set_option maxHeartbeats 8000000 in
theorem l10Draw_any (g : Nat) (A : Option Addr) (n cap : Nat) (s l c sh : Int) (q o m cap' : Nat) (zs : List Int) (w : World) (hm : m ≤ maxLen) (hc1 : 1 ≤ c) (hc6 : c ≤ 6) (hs0 : 0 ≤ s) (hs9 : s ≤ 10) (hh1 : 1 ≤ sh) (hh4 : sh ≤ 4) (hc : Cur w 169 .i64 g A n cap) (hr : Row w w.heap.size (some ⟨q, o, none⟩) m zs) (hgq : g ≠ q) (hqw : q < w.heap.size) :
    Calls Tryz.prog 127 #[.pointer (some ⟨g, 0, none⟩), .agg #[.int .i64 s, .int .i64 l, .int .i64 c, .int .i64 sh, .slice (some ⟨q, o, none⟩) m cap']] w (DrawnJ g A n cap w) := by
  obtain ⟨i0, hi0, hz0, hz1, hz2⟩ := info_parts Tryz.infoRecI
  have hgl := hc.lt
  have hb0 := bel_trans (bel_alloc w (.cells #[.int .i64 s, .int .i64 l, .int .i64 c, .int .i64 sh, .slice (some ⟨q, o, none⟩) m cap'] 26)) (bel_alloc _ (.cells #[.slice none 0 0, .slice none 0 0] 29))
  have B := (Box.new w 26 #[.int .i64 s, .int .i64 l, .int .i64 c, .int .i64 sh, .slice (some ⟨q, o, none⟩) m cap']).alloc (.cells #[.slice none 0 0, .slice none 0 0] 29)
  have R := Box.new (w.alloc (.cells #[.int .i64 s, .int .i64 l, .int .i64 c, .int .i64 sh, .slice (some ⟨q, o, none⟩) m cap'] 26)) 29 #[.slice none 0 0, .slice none 0 0]
  simp only [World.size_alloc] at R
  have C0 := hc.kept (grown_bel hb0 none) (fun q hq => by cases hq)
  have G0 := grown_bel hb0 (some g)
  skip
  have HM := Lib.hid hm
  clear hm hc
  go_enter Tryz.func127, Tryz.ntmps127
  go_upto_region 1 with fail
  have HRW : Hid (Row ((w.alloc (.cells #[.int .i64 s, .int .i64 l, .int .i64 c, .int .i64 sh, .slice (some ⟨q, o, none⟩) m cap'] 26)).alloc (.cells #[.slice none 0 0, .slice none 0 0] 29)) ((w.alloc (.cells #[.int .i64 s, .int .i64 l, .int .i64 c, .int .i64 sh, .slice (some ⟨q, o, none⟩) m cap'] 26)).alloc (.cells #[.slice none 0 0, .slice none 0 0] 29)).heap.size (some ⟨q, o, none⟩) m zs) := Lib.hid ((hr.below hb0 (Nat.le_refl _)).more hb0.size)
  clear hr
  have hsw0 := hb0.size
  have hRlt := R.lt
  generalize ((w.alloc _).alloc _ : World) = w0 at hb0 B R C0 G0 HRW hsw0 hRlt ⊢
  go_wp2_with (refine wpList_load_box 26 _ rfl w.heap.size rfl 26 #[.int .i64 s, .int .i64 l, .int .i64 c, .int .i64 sh, .slice (some ⟨q, o, none⟩) m cap'] B _ Tryz.underlying26 rfl (by kernel_rfl) (by first | rfl | simp [Region.wanted, yielded] | (simp [Region.wanted, yielded, Act.put] <;> omega)) ?_)
  refine (l9DrawList_any g A n cap s l c sh q o m cap' zs w0 HM.out hc1 hc6 hs0 hs9 hh1 hh4 C0 HRW.out hgq (by omega)).mono ?_
  rintro e w1 ⟨k, gl, lc, ms, Fs, rfl, RL, hk9, C1, hg1⟩
  have G1 := grown_trans G0 hg1
  replace R := R.kept hg1 (by intro e; injection e with e; omega)
  clear C0 G0 hg1 B HRW
  have hk63 : IntKind.i64.wrap ((k : Int) + 1) = (k : Int) + 1 := IntWalk.i64_in _ (by omega)
  have hbl := RL.gl
  have hcnt := RL.count
  go_wp2_with fail
  refine (l1Below_any g A n cap ((k : Int) + 1) w1 (by omega) C1).mono ?_
  rintro e w2 ⟨r, ⟨hr0, hrk⟩, rfl, C2, hg2⟩
  obtain ⟨j, rfl⟩ : ∃ j : Nat, r = (j : Int) := ⟨r.toNat, by omega⟩
  have hjk : j ≤ k := by omega
  have G2 := grown_trans G1 hg2
  replace R := R.kept hg2 (by intro e; injection e with e; omega)
  replace RL := RL.turn (Turns.of_grown hg2) (by omega) (fun i hi b hb e => by have := (RL.far i hi b hb).1; have e : b = g := e; omega)
  clear C1 G1 hg2 hr0 hrk
  have hcap : k ≤ lc ∧ lc ≤ maxLen := RL.caps
  unfold maxLen at hcap
  have hjkI : (j : Int) ≤ (k : Int) := by omega
  have hbl := RL.gl
  go_upto_region 3 with fail
  refine wp_region_sink 10 (fun _ => True) (by kernel_rfl) trivial (fun hH => ?_)
  have hd := (Below.refl w2.heap.size w2).drew
  replace R := R.later hd R.lt
  replace RL := RL.later hd
  replace C2 := C2.kept (grown_bel hd none) (fun q hq => by cases hq)
  replace G2 := grown_trans G2 (grown_bel hd (some g))
  clear hd
  generalize w2.drew = w3 at R RL C2 G2 hH ⊢
  refine wpAnyE_pure (i := 0) (v := ?vp0) (by simp only [List.getElem?_toArray, List.getElem?_cons_zero]; rfl) (by kernel_rfl) (by kernel_rfl) (by kernel_rfl) (by exact fun _ _ _ h => h) (by kernel_rfl) (Or.inl ⟨by rfl, ?yp0⟩) hH ?rp0
  case yp0 => (intro w' hSw; (try dsimp only at hSw); go_simp; try with_reducible rfl)
  try simp only [Act.put, List.setIfInBounds_toArray, List.set_cons_zero, List.set_cons_succ]
  refine wpAnyE_pure (i := 1) (v := ?vp1) (by simp only [List.getElem?_toArray, List.getElem?_cons_succ, List.getElem?_cons_zero]; rfl) (by kernel_rfl) (by kernel_rfl) (by kernel_rfl) (by exact fun _ _ _ h => h) (by kernel_rfl) (Or.inl ⟨by rfl, ?yp1⟩) hH ?rp1
  case yp1 => (intro w' hSw; (try dsimp only at hSw); go_simp; try with_reducible rfl)
  try simp only [Act.put, List.setIfInBounds_toArray, List.set_cons_zero, List.set_cons_succ]
  refine wpAnyE_pure (i := 4) (v := ?vp4) (by simp only [List.getElem?_toArray, List.getElem?_cons_succ, List.getElem?_cons_zero]; rfl) (by kernel_rfl) (by kernel_rfl) (by kernel_rfl) (by exact fun _ _ _ h => h) (by kernel_rfl) (Or.inl ⟨by rfl, ?yp4⟩) hH ?rp4
  case yp4 => (intro w' hSw; (try dsimp only at hSw); go_simp; try with_reducible rfl)
  try simp only [Act.put, List.setIfInBounds_toArray, List.set_cons_zero, List.set_cons_succ]
  refine wpAnyE_pure (i := 5) (v := ?vp5) (by simp only [List.getElem?_toArray, List.getElem?_cons_succ, List.getElem?_cons_zero]; rfl) (by kernel_rfl) (by kernel_rfl) (by kernel_rfl) (by exact fun _ _ _ h => h) (by kernel_rfl) (Or.inl ⟨by rfl, ?yp5⟩) hH ?rp5
  case yp5 => (intro w' hSw; (try dsimp only at hSw); go_simp; try with_reducible rfl)
  try simp only [Act.put, List.setIfInBounds_toArray, List.set_cons_zero, List.set_cons_succ]
  obtain ⟨AX, hAX⟩ : ∃ AX : Option Addr, (if lc = j then some ⟨gl, 0, none⟩ else some ⟨gl, j * 9, none⟩) = AX := ⟨_, rfl⟩
  have HAX := Lib.hid hAX
  clear hAX
  refine wpAnyE_takeS (i := 2) (v := .slice (some ⟨gl, 0, none⟩) j lc) (by simp only [List.getElem?_toArray, List.getElem?_cons_succ, List.getElem?_cons_zero]; rfl) (by kernel_rfl) (by kernel_rfl) (by kernel_rfl) (by exact fun _ _ _ h => h) (by kernel_rfl) ?ys2 hH ?_
  case ys2 => exact .inl ⟨(by first | rfl | simp [Region.wanted, yielded] | (simp [Region.wanted, yielded, Act.put] <;> omega)), fun w' hSw => by (clear hSw; go_simp; intro h9; omega)⟩
  try simp only [Act.put, List.setIfInBounds_toArray, List.set_cons_zero, List.set_cons_succ]
  refine wpAnyE_takeS (i := 6) (v := .slice AX (k - j) (lc - j)) (by simp only [List.getElem?_toArray, List.getElem?_cons_succ, List.getElem?_cons_zero]; rfl) (by kernel_rfl) (by kernel_rfl) (by kernel_rfl) (by exact fun _ _ _ h => h) (by kernel_rfl) ?ys6 hH ?_
  case ys6 => exact .inl ⟨(by first | rfl | simp [Region.wanted, yielded] | (simp [Region.wanted, yielded, Act.put] <;> omega)), fun w' hSw => by (clear hSw; rw [← HAX.out]; go_simp)⟩
  try simp only [Act.put, List.setIfInBounds_toArray, List.set_cons_zero, List.set_cons_succ]
  refine wpAnyE_one (i := 3) (by kernel_rfl) (by simp only [List.getElem?_toArray, List.getElem?_cons_succ, List.getElem?_cons_zero]; rfl) (fun K hK => ?_)
  go_simp
  have hn := bel_alloc w3 (.cells #[] 46)
  have O3 := own_new w3 46 9
  have hRl3 := R.lt
  replace R := R.alloc (.cells #[] 46)
  clear hH
  refine hK.out _ _ trivial (fun hH => ?_)
  clear hK K
  try simp only [Act.put, List.setIfInBounds_toArray, List.set_cons_zero, List.set_cons_succ]
  have hz3 : w3.heap.size < (w3.alloc (.cells #[] 46)).heap.size := by simp
  have SR := (RL.srcRest hjk).later hn
  rw [HAX.out] at SR
  generalize (w3.alloc _ : World) = w4 at R O3 hH hn hz3 SR ⊢
  refine wpAnyE_one (i := 7) (by kernel_rfl) (by simp only [List.getElem?_toArray, List.getElem?_cons_succ, List.getElem?_cons_zero]; rfl) (fun K hK => ?_)
  refine step_append_srcN (by rfl) _ _ _ (by rfl) w3.heap.size 46 i0 _ 9 88 Tryz.underlying27 hi0 hz0 hz1 hz2 rfl (by omega) (.slice (some ⟨w3.heap.size, 0, none⟩) 0 0) 0 [] (by rfl) O3 (by simp) _ (k - j) (flatC (ms.drop j)) (by rfl) SR (k - j) (flatC (ms.drop j)) (Nat.zero_add _) (List.nil_append _) (by unfold maxLen; omega) (by omega) (by omega) ?_
  intro g2 c2 w5 hown hgrow hbg hlg
  replace hgrow : w4.grownBy w5 (some w3.heap.size) := hgrow
  replace R := R.kept hgrow (by intro e; injection e with e; omega)
  have hb5 := bel_grown hn hgrow (Nat.le_refl _)
  clear hH
  refine hK.out _ _ trivial (fun hH => ?_)
  clear hK K
  try simp only [Act.put, List.setIfInBounds_toArray, List.set_cons_zero, List.set_cons_succ]
  refine wpAnyE_pure (i := 8) (v := ?vp8) (by simp only [List.getElem?_toArray, List.getElem?_cons_succ, List.getElem?_cons_zero]; rfl) (by kernel_rfl) (by kernel_rfl) (by kernel_rfl) (by exact fun _ _ _ h => h) (by kernel_rfl) (Or.inl ⟨by rfl, ?yp8⟩) hH ?rp8
  case yp8 => (intro w' hSw; (try dsimp only at hSw); go_simp; try with_reducible rfl)
  try simp only [Act.put, List.setIfInBounds_toArray, List.set_cons_zero, List.set_cons_succ]
  have hfar : ∀ i, i < k → ∀ b, Fs i b → b ≠ gl ∧ b ≠ g2 := fun i hi b hb => by
    have h1 := RL.far i hi b hb
    exact ⟨h1.2.2, by omega⟩
  have hs5 := hb5.size
  have hbl3 := RL.gl
  have R5 := RL.later hb5
  have R6 := RL.rest hjk (ownLow hown (by omega)) hb5 (fun i hi b hb => (hfar i hi b hb).2)
  replace R5 := R5.cut hjk
  have hcut : ∀ i i', i < k → i' < k → i ≠ i' → ∀ b, Fs i b → ¬ Fs i' b := RL.two
  have hF3 : ∀ i, i < k → ∀ b, Fs i b → w0.heap.size ≤ b := fun i hi b hb => (RL.far i hi b hb).1
  have C5 := C2.kept (grown_bel hb5 none) (fun q hq => by cases hq)
  have G5 := grown_trans G2 (grown_bel hb5 (some g))
  clear RL hown hgrow hn O3 SR C2 G2
  refine wpAnyE_end (i := 9) (by kernel_rfl) (by simp only [List.getElem?_toArray, List.getElem?_cons_succ, List.getElem?_cons_zero]; rfl) (by kernel_rfl) (fun K hK => ?_)
  rw [if_pos (by first | rfl | kernel_rfl | simp [Region.wanted, yielded])]
  have ht := turns_row9 w5 (w.heap.size + 1) #[.slice (some ⟨gl, 0, none⟩) j lc, .slice (some ⟨g2, 0, none⟩) (k - j) c2]
  refine wp_store_row 29 _ _ rfl (w.heap.size + 1) _ rfl rfl 29 #[.slice none 0 0, .slice none 0 0] R (by kernel_rfl) rfl (by simp [Value.oneCell']) ?_
  refine hK.out _ _ trivial ?_
  clear hK K hH
  try simp only [Act.put]
  have hg : w5.grownBy (w5.setRow (w.heap.size + 1) #[.slice (some ⟨gl, 0, none⟩) j lc, .slice (some ⟨g2, 0, none⟩) (k - j) c2]) (some (w.heap.size + 1)) := ⟨ht.os, ht.tape, ht.output, ht.size, fun i hi hne => ht.block i hi (fun e => hne (by rw [e]))⟩
  have R2 := R.setRow #[.slice (some ⟨gl, 0, none⟩) j lc, .slice (some ⟨g2, 0, none⟩) (k - j) c2]
  have R7 := Lib.hid (R5.turn ht (by have := R5.gl; omega) (fun i hi b hb => by have := hF3 i (by omega) b hb; omega))
  have R8 := Lib.hid (R6.turn ht (by omega) (fun i hi b hb => by have := hF3 (j + i) (by omega) b hb; omega))
  have C6 := Lib.hid (C5.kept hg (fun q hq => by injection hq with hq; omega))
  have G6 := Lib.hid (grown_far G5 hg (fun q hq => by injection hq with hq; omega))
  clear R R5 R6 C5 G5 hg ht
  generalize (w5.setRow _ _ : World) = w6 at R2 R7 R8 C6 G6 ⊢
  obtain ⟨r0, r1⟩ := R2.two
  clear R2
  go_wp2
  exact bodyPost_ret (v := .agg #[.slice (some ⟨gl, 0, none⟩) j lc, .slice (some ⟨g2, 0, none⟩) (k - j) c2]) (by simp [results, Tryz.results127, go_sem, r0, r1]) rfl ⟨k, j, gl, lc, g2, c2, ms, Fs, rfl, hjk, hk9, rowLow R7.out (by omega), rowLow R8.out (by omega), by omega, hfar, hcut, C6.out, G6.out⟩

end Go.Proofs.YtjdepjpjjgkmbaaGreat

/- What the model's draw of a group and a journal leaves (written by jour_draw2.py). -/
namespace Go.Proofs.YtjdepjpjjgkmbaaGreat
open Go Go.RowKit Go.Deep

/-- A group and a journal were drawn. -/
def MadeDJ (g : Nat) (A : Option Addr) (n cap : Nat) (w : World) (e : Ending) (w' : World) : Prop := ∃ (G C : Array Value) (gd : GrpD) (d : JourD), e = .returned (.tuple #[.agg G, .agg C]) ∧ AtG gd w' (w.heap.size ≤ ·) (.agg G) ∧ AtS9 d w' (w.heap.size ≤ ·) (.agg C) ∧ okG gd = true ∧ Short d.ks ∧ Short d.ls ∧ Cur w' 169 .i64 g A n cap ∧ w.grownBy w' (some g)
/-- The state at its end. -/
structure DF (w wr : World) (g : Nat) (A : Option Addr) (n cap VG VJ : Nat) (gd : GrpD) (G C : Array Value) (d : JourD) : Prop where
  grow : w.grownBy wr (some g)
  cur : Cur wr 169 .i64 g A n cap
  r2 : Box wr w.heap.size 26 #[.int .i64 0, .int .i64 0, .int .i64 0, .int .i64 0, .slice none 0 0]
  r3 : Box wr (w.heap.size + 1) 29 #[.slice none 0 0, .slice none 0 0]
  vg : Box wr VG 26 G
  vj : Box wr VJ 29 C
  grp : AtG gd wr (w.heap.size + 1 < ·) (.agg G)
  jr : AtS9 d wr (w.heap.size + 1 < ·) (.agg C)
  ok : okG gd = true
  sk : Short d.ks
  sl : Short d.ls
  gl : g < w.heap.size
  hG : w.heap.size + 1 < VG
  hJ : w.heap.size + 1 < VJ
theorem DF.drew {w wr : World} {g : Nat} {A : Option Addr} {n cap VG VJ : Nat} {gd : GrpD} {G C : Array Value} {d : JourD} (h : DF w wr g A n cap VG VJ gd G C d) : DF w wr.drew g A n cap VG VJ gd G C d := by
  have hb := (Below.refl wr.heap.size wr).drew
  exact ⟨grown_trans h.grow (grown_bel hb _), h.cur.kept (grown_bel hb none) (fun q hq => by cases hq), h.r2.later hb h.r2.lt, h.r3.later hb h.r3.lt, h.vg.later hb h.vg.lt, h.vj.later hb h.vj.lt, (keepsG gd).later h.grp hb, (keepsS9 d).later h.jr hb, h.ok, h.sk, h.sl, h.gl, h.hG, h.hJ⟩
theorem DF.fin {w wr w' : World} {g : Nat} {A : Option Addr} {n cap VG VJ : Nat} {gd : GrpD} {G C : Array Value} {d : JourD} (h : DF w wr g A n cap VG VJ gd G C d) (e : w' = (wr.setRow w.heap.size G).setRow (w.heap.size + 1) C) :
    Box w' w.heap.size 26 G ∧ Box w' (w.heap.size + 1) 29 C ∧ MadeDJ g A n cap w (.returned (.tuple #[.agg G, .agg C])) w' := by
  subst e
  have t1 := turns_setRow wr w.heap.size G
  have t2 := turns_setRow (wr.setRow w.heap.size G) (w.heap.size + 1) C
  have g1 : wr.grownBy (wr.setRow w.heap.size G) (some w.heap.size) := ⟨t1.os, t1.tape, t1.output, t1.size, fun i hi hne => t1.block i hi (fun e => hne (by rw [e]))⟩
  have g2 : (wr.setRow w.heap.size G).grownBy ((wr.setRow w.heap.size G).setRow (w.heap.size + 1) C) (some (w.heap.size + 1)) := ⟨t2.os, t2.tape, t2.output, t2.size, fun i hi hne => t2.block i hi (fun e => hne (by rw [e]))⟩
  have hg := h.gl
  exact ⟨(h.r2.setRow G).turn t2 (by omega), (h.r3.turn t1 (by omega)).setRow C, G, C, gd, d, rfl, (keepsG gd).sub ((keepsG gd).turn ((keepsG gd).turn h.grp t1 (fun b (hb : w.heap.size + 1 < b) e => by omega)) t2 (fun b (hb : w.heap.size + 1 < b) e => by omega)) (fun b (hb : w.heap.size + 1 < b) => by show w.heap.size ≤ b; omega),
    (keepsS9 d).sub ((keepsS9 d).turn ((keepsS9 d).turn h.jr t1 (fun b (hb : w.heap.size + 1 < b) e => by omega)) t2 (fun b (hb : w.heap.size + 1 < b) e => by omega)) (fun b (hb : w.heap.size + 1 < b) => by show w.heap.size ≤ b; omega), h.ok, h.sk, h.sl,
    (h.cur.kept g1 (fun q hq => by injection hq with hq; omega)).kept g2 (fun q hq => by injection hq with hq; omega), grown_far (grown_far h.grow g1 (fun q hq => by injection hq with hq; omega)) g2 (fun q hq => by injection hq with hq; omega)⟩
/-- The state on the way. -/
structure DD (w wr : World) (g : Nat) (A : Option Addr) (n cap VG VJ : Nat) (gd : GrpD) (G : Array Value) (q k j gl lc g2 c2 : Nat) (ms : List (RecD × Value)) (Fs : Nat → Nat → Prop) (base : Nat) : Prop where
  grow : w.grownBy wr (some g)
  cur : Cur wr 169 .i64 g A n cap
  r2 : Box wr w.heap.size 26 #[.int .i64 0, .int .i64 0, .int .i64 0, .int .i64 0, .slice none 0 0]
  r3 : Box wr (w.heap.size + 1) 29 #[.slice none 0 0, .slice none 0 0]
  vg : Box wr VG 26 G
  vj : Box wr VJ 29 #[.slice (some ⟨gl, 0, none⟩) j lc, .slice (some ⟨g2, 0, none⟩) (k - j) c2]
  grp : AtG gd wr (· = q) (.agg G)
  ok : okG gd = true
  rk : RowR base wr j gl lc (ms.take j) Fs
  rl : RowR base wr (k - j) g2 c2 (ms.drop j) (fun i => Fs (j + i))
  ne : gl ≠ g2
  far : ∀ i, i < k → ∀ b, Fs i b → b ≠ gl ∧ b ≠ g2
  two : ∀ i i', i < k → i' < k → i ≠ i' → ∀ b, Fs i b → ¬ Fs i' b
  jk : j ≤ k
  k9 : k < 9
  gl' : g < w.heap.size
  gq : w.heap.size + 1 < q
  qV : q < VG
  VB : VG < base
  hi : gl < VJ ∧ g2 < VJ
  hF : ∀ i, i < k → ∀ b, Fs i b → base ≤ b ∧ b < VJ
theorem DD.draw {w wr w' : World} {g : Nat} {A : Option Addr} {n cap VG VJ : Nat} {gd : GrpD} {G : Array Value} {q k j gl lc g2 c2 : Nat} {ms : List (RecD × Value)} {Fs : Nat → Nat → Prop} {base : Nat} (h : DD w wr g A n cap VG VJ gd G q k j gl lc g2 c2 ms Fs base) (hg : wr.grownBy w' (some g)) (hc : Cur w' 169 .i64 g A n cap) : DD w w' g A n cap VG VJ gd G q k j gl lc g2 c2 ms Fs base := by
  have ht := Turns.of_grown hg
  have h1 := h.gl'
  have h2 := h.gq
  have h3 := h.qV
  have h4 := h.VB
  have h5 := h.rk.gl
  have h6 := h.rl.gl
  have h7 := h.hi
  have h8 := h.jk
  exact ⟨grown_trans h.grow hg, hc, h.r2.turn ht (by omega), h.r3.turn ht (by omega), h.vg.turn ht (by omega), h.vj.turn ht (by omega), (keepsG gd).turn h.grp ht (fun b (hb : b = q) (e : b = g) => by omega), h.ok, h.rk.turn ht (by omega) (fun i hi b hb (e : b = g) => by have := (h.hF i (by omega) b hb).1; omega), h.rl.turn ht (by omega) (fun i hi b hb (e : b = g) => by have := (h.hF (j + i) (by omega) b hb).1; omega), h.ne, h.far, h.two, h.jk, h.k9, h1, h2, h3, h4, h7, h.hF⟩
theorem RowR.listF {base : Nat} {wr : World} {k g cap : Nat} {ms : List (RecD × Value)} {Fs : Nat → Nat → Prop} (h : RowR base wr k g cap ms Fs) {lo : Nat} (hl : lo < base) : ListS (ms.map (·.1)) wr (lo < ·) (.slice (some ⟨g, 0, none⟩) k cap) := h.list.sub (fun b (hb : base ≤ b) => by show lo < b; omega)
/-- Nothing is bent. -/
theorem DD.fin {w wr : World} {g : Nat} {A : Option Addr} {n cap VG VJ : Nat} {gd : GrpD} {G : Array Value} {q k j gl lc g2 c2 : Nat} {ms : List (RecD × Value)} {Fs : Nat → Nat → Prop} {base : Nat} (h : DD w wr g A n cap VG VJ gd G q k j gl lc g2 c2 ms Fs base) : DF w wr g A n cap VG VJ gd G #[.slice (some ⟨gl, 0, none⟩) j lc, .slice (some ⟨g2, 0, none⟩) (k - j) c2] ⟨(ms.take j).map (·.1), (ms.drop j).map (·.1)⟩ := by
  have h2 := h.gq
  have h3 := h.qV
  have h4 := h.VB
  have h5 := h.rk.gl
  have h7 := h.hi
  have h8 := h.jk
  have h9 := h.k9
  exact ⟨h.grow, h.cur, h.r2, h.r3, h.vg, h.vj, (keepsG gd).sub h.grp (fun b (hb : b = q) => by show w.heap.size + 1 < b; omega), ⟨_, _, rfl, h.rk.listF (by omega), h.rl.listF (by omega)⟩, h.ok, h.rk.short (by omega), h.rl.short (by omega), h.gl', by omega, by omega⟩
/-- The lists are swapped. -/
theorem DD.swap {w wr : World} {g : Nat} {A : Option Addr} {n cap VG VJ : Nat} {gd : GrpD} {G : Array Value} {q k j gl lc g2 c2 : Nat} {ms : List (RecD × Value)} {Fs : Nat → Nat → Prop} {base : Nat} (h : DD w wr g A n cap VG VJ gd G q k j gl lc g2 c2 ms Fs base) : DF w (wr.setRow VJ #[.slice (some ⟨g2, 0, none⟩) (k - j) c2, .slice (some ⟨gl, 0, none⟩) j lc]) g A n cap VG VJ gd G #[.slice (some ⟨g2, 0, none⟩) (k - j) c2, .slice (some ⟨gl, 0, none⟩) j lc] ⟨(ms.drop j).map (·.1), (ms.take j).map (·.1)⟩ := by
  have t1 := turns_setRow wr VJ #[.slice (some ⟨g2, 0, none⟩) (k - j) c2, .slice (some ⟨gl, 0, none⟩) j lc]
  have g1 : wr.grownBy (wr.setRow VJ #[.slice (some ⟨g2, 0, none⟩) (k - j) c2, .slice (some ⟨gl, 0, none⟩) j lc]) (some VJ) := ⟨t1.os, t1.tape, t1.output, t1.size, fun i hi hne => t1.block i hi (fun e => hne (by rw [e]))⟩
  have h1 := h.gl'
  have h2 := h.gq
  have h3 := h.qV
  have h4 := h.VB
  have h5 := h.rk.gl
  have h7 := h.hi
  have h8 := h.jk
  have h9 := h.k9
  have k1 := h.rk.turn t1 (by omega) (fun i hi b hb e => by have := (h.hF i (by omega) b hb).2; omega)
  have k2 := h.rl.turn t1 (by omega) (fun i hi b hb e => by have := (h.hF (j + i) (by omega) b hb).2; omega)
  exact ⟨grown_far h.grow g1 (fun q hq => by injection hq with hq; omega), h.cur.kept g1 (fun q hq => by injection hq with hq; omega), h.r2.turn t1 (by omega), h.r3.turn t1 (by omega), h.vg.turn t1 (by omega), h.vj.setRow _, (keepsG gd).sub ((keepsG gd).turn h.grp t1 (fun b (hb : b = q) e => by omega)) (fun b (hb : b = q) => by show w.heap.size + 1 < b; omega), ⟨_, _, rfl, k2.listF (by omega), k1.listF (by omega)⟩, h.ok, k2.short (by omega), k1.short (by omega), h1, by omega, by omega⟩
/-- One record of a row is written anew, its list another. -/
theorem RowR.bent {base : Nat} {wr : World} {k g cap : Nat} {ms : List (RecD × Value)} {Fs : Nat → Nat → Prop} (h : RowR base wr k g cap ms Fs) {i : Nat} (hi : i < ms.length) {w8 : World} {T : Nat → Prop} (ht : Turns T wr w8) (hTg : ¬ T g) (hT : ∀ i', i' < k → i' ≠ i → ∀ b, Fs i' b → ¬ T b) {d' : RecD} {u' : Value} {F' : Nat → Prop} (hR : RowC d'.ps w8 F' u') (hF' : ∀ b, F' b → base ≤ b ∧ b ≠ g) (hk : k < 9) (hl : d'.ps.length ≤ 21) :
    w8.there g (i * 9) 9 ∧ ListS ((ms.set i (d', u')).map (·.1)) (w8.setCells g (i * 9) (d'.cells u').toList) (base ≤ ·) (.slice (some ⟨g, 0, none⟩) k cap) ∧ Short ((ms.set i (d', u')).map (·.1)) := by
  have hcnt := h.count
  have hgl := h.gl
  have CC7 : CellsAt w8 g 0 ms := fun j x hj => (ht.cell hgl.2 hTg _).trans (h.cells j x hj)
  have HF7 : ∀ o, w8.frozen? ⟨g, o, none⟩ = false := fun o => (ht.frozen hgl.2 hTg o).trans (h.frozen o)
  have CC8 := cells_put hi CC7 HF7 d' u'
  have t8 := turns_setCells9 g (d'.cells u').toList (i * 9) w8
  have hml : (ms.set i (d', u')).length = k := by rw [List.length_set, hcnt]
  have hl2 : ((ms.set i (d', u')).map (·.1)).length = k := by rw [List.length_map, hml]
  refine ⟨cells_there hi CC7 HF7, .inr ⟨g, 0, cap, by rw [hl2], by rw [hl2]; exact h.caps.1, h.caps.2, fun _ => ⟨hgl.1, Nat.lt_of_lt_of_le hgl.2 (Nat.le_trans ht.size t8.size)⟩, _, rfl, fun p hp => ?_, CC8⟩, ⟨by rw [List.length_map, hml]; omega, fun x hx => ?_⟩⟩
  · obtain ⟨j, hj, rfl⟩ := List.mem_iff_getElem.1 hp
    rw [hml] at hj
    by_cases e : j = i
    · subst e
      rw [List.getElem_set_self]
      exact (SlcF.turn hR.somewhere t8 (fun b hb e => (hF' b hb).2 e)).sub (fun b hb => (hF' b hb).1)
    · rw [List.getElem_set_ne (Ne.symm e)]
      have hjf := h.far j hj
      exact (SlcF.turn (SlcF.turn (h.cert j (by omega)).somewhere ht (fun b hb h2 => hT j hj e b hb h2)) t8 (fun b hb h2 => (hjf b hb).2.2 h2)).sub (fun b hb => (hjf b hb).1)
  · obtain ⟨p, hp, rfl⟩ := List.mem_map.1 hx
    obtain ⟨j, hj, rfl⟩ := List.mem_iff_getElem.1 hp
    rw [hml] at hj
    by_cases e : j = i
    · subst e
      rw [List.getElem_set_self]
      exact hl
    · rw [List.getElem_set_ne (Ne.symm e)]
      have := h.len j (by omega)
      omega
/-- The first of the loose ones is bent. -/
theorem DD.bent {w wr w8 : World} {g : Nat} {A : Option Addr} {n cap VG VJ : Nat} {gd : GrpD} {G : Array Value} {q k j gl lc g2 c2 : Nat} {ms : List (RecD × Value)} {Fs : Nat → Nat → Prop} {base : Nat} (h : DD w wr g A n cap VG VJ gd G q k j gl lc g2 c2 ms Fs base) (h0 : 0 < (ms.drop j).length) (ht : Turns (fun b => b = g ∨ Fs j b) wr w8) (hc : Cur w8 169 .i64 g A n cap) {d' : RecD} {u' : Value} (hR : RowC d'.ps w8 (fun b => Fs j b ∨ wr.heap.size + 1 < b) u') (hl : d'.ps.length ≤ 21) :
    w8.there g2 0 9 ∧ DF w (w8.setCells g2 0 (d'.cells u').toList) g A n cap VG VJ gd G #[.slice (some ⟨gl, 0, none⟩) j lc, .slice (some ⟨g2, 0, none⟩) (k - j) c2] ⟨(ms.take j).map (·.1), ((ms.drop j).set 0 (d', u')).map (·.1)⟩ := by
  have h1 := h.gl'
  have h2 := h.gq
  have h3 := h.qV
  have h4 := h.VB
  have h5 := h.rk.gl
  have h6 := h.rl.gl
  have h7 := h.hi
  have h8 := h.jk
  have h9 := h.k9
  have hcl := h.rl.count
  have hjk : j < k := by omega
  have hVJ := h.vj.lt
  have hfj := h.far j hjk
  have hFj := h.hF j hjk
  obtain ⟨b1, b2, b3⟩ := h.rl.bent h0 ht (fun e => by rcases e with e | e; omega; exact (hfj _ e).2 rfl) (fun i' hi' hne b hb e => by
    rcases e with e | e
    · have := (h.hF (j + i') (by omega) b hb).1; omega
    · exact h.two (j + i') j (by omega) hjk (by omega) b hb e) hR (fun b hb => by
    rcases hb with hb | hb
    · exact ⟨(hFj b hb).1, (hfj b hb).2⟩
    · exact ⟨by omega, by omega⟩) (by omega) hl
  rw [Nat.zero_mul] at b1 b2
  have t8 := turns_setCells9 g2 (d'.cells u').toList 0 w8
  have g8 : w8.grownBy (w8.setCells g2 0 (d'.cells u').toList) (some g2) := ⟨t8.os, t8.tape, t8.output, t8.size, fun i hi hne => t8.block i hi (fun e => hne (by rw [e]))⟩
  have g7 : w.grownBy w8 (some g) := ⟨ht.os.trans h.grow.os, ht.tape.trans h.grow.tape, ht.output.trans h.grow.output, Nat.le_trans h.grow.size ht.size, fun i hi hne => (ht.block i (Nat.lt_of_lt_of_le hi h.grow.size) (fun e => by rcases e with e | e; exact hne (by rw [e]); have := (hFj i e).1; omega)).trans (h.grow.block i hi hne)⟩
  have off : ∀ x, x ≠ g → (x < base ∨ x = VJ) → ¬ (x = g ∨ Fs j x) := fun x hx hxb e => by
    rcases e with e | e
    · exact hx e
    · have := hFj x e; omega
  refine ⟨b1, grown_far g7 g8 (fun q hq => by injection hq with hq; omega), hc.kept g8 (fun q hq => by injection hq with hq; omega), (h.r2.turn ht (off _ (by omega) (.inl (by omega)))).turn t8 (by omega), (h.r3.turn ht (off _ (by omega) (.inl (by omega)))).turn t8 (by omega), (h.vg.turn ht (off _ (by omega) (.inl (by omega)))).turn t8 (by omega), (h.vj.turn ht (off _ (by omega) (.inr rfl))).turn t8 (by omega), ?_, ⟨_, _, rfl, ?_, b2.sub (fun b (hb : base ≤ b) => by show w.heap.size + 1 < b; omega)⟩, h.ok, h.rk.short (by omega), b3, h1, by omega, by omega⟩
  · exact (keepsG gd).sub ((keepsG gd).turn ((keepsG gd).turn h.grp ht (fun b (hb : b = q) => off b (by omega) (.inl (by omega)))) t8 (fun b (hb : b = q) e => by omega)) (fun b (hb : b = q) => by show w.heap.size + 1 < b; omega)
  · have k1 := h.rk.turn ht (fun e => by rcases e with e | e; omega; exact (hfj _ e).1 rfl) (fun i hi b hb e => by
      rcases e with e | e
      · have := (h.hF i (by omega) b hb).1; omega
      · exact h.two i j (by omega) hjk (by omega) b hb e)
    have k2 := k1.turn t8 h.ne (fun i hi b hb e => (h.far i (by omega) b hb).2 e)
    exact k2.listF (by omega)
set_option maxRecDepth 100000 in
set_option maxHeartbeats 16000000 in
theorem l10DrawAny_any (g : Nat) (A : Option Addr) (n cap : Nat) (w : World) (hc : Cur w 169 .i64 g A n cap) :
    Calls Tryz.prog 66 #[.pointer (some ⟨g, 0, none⟩)] w (MadeDJ g A n cap w) := by
  have hgl := hc.lt
  have hb0 := bel_trans (bel_alloc w (.cells #[.int .i64 0, .int .i64 0, .int .i64 0, .int .i64 0, .slice none 0 0] 26)) (bel_alloc _ (.cells #[.slice none 0 0, .slice none 0 0] 29))
  have R2 := (Box.new w 26 #[.int .i64 0, .int .i64 0, .int .i64 0, .int .i64 0, .slice none 0 0]).alloc (.cells #[.slice none 0 0, .slice none 0 0] 29)
  have R3 := Box.new (w.alloc (.cells #[.int .i64 0, .int .i64 0, .int .i64 0, .int .i64 0, .slice none 0 0] 26)) 29 #[.slice none 0 0, .slice none 0 0]
  simp only [World.size_alloc] at R3
  have C0 := hc.kept (grown_bel hb0 none) (fun q hq => by cases hq)
  have G0 := grown_bel hb0 (some g)
  clear hc
  go_enter Tryz.func66, Tryz.ntmps66
  go_upto_region 1 with fail
  generalize ((w.alloc _).alloc _ : World) = w0 at hb0 R2 R3 C0 G0 ⊢
  clear hb0
  have hR3l := R3.lt
  go_wp2_with fail
  refine (l1DrawGroup_any g A n cap w0 C0).mono ?_
  rintro e w2 ⟨s, l, c, sh, q, cap', zs, rfl, hown, hok, hs6, hc3, hc2, hg2⟩
  have hq := hown.lt q rfl
  have hrow := own_row hown
  obtain ⟨p1, p2, p3, p4, p5, p6⟩ := okB_parts hok
  obtain ⟨hh1, hh4⟩ := okB_sh hok
  have hzl : zs.length ≤ 100 := by
    have hk := okB_len9 hok
    omega
  replace R2 := R2.kept hg2 (by intro e; injection e with e; omega)
  replace R3 := R3.kept hg2 (by intro e; injection e with e; omega)
  have G2 := grown_trans G0 hg2
  clear hown hg2 C0 G0
  have hbn := bel_new_row w2 #[.int .i64 0, .int .i64 0, .int .i64 0, .int .i64 0, .slice none 0 0] 26 #[.int .i64 s, .int .i64 l, .int .i64 c, .int .i64 sh, .slice (some ⟨q, 0, none⟩) zs.length cap']
  have VG := (Box.new w2 26 #[.int .i64 0, .int .i64 0, .int .i64 0, .int .i64 0, .slice none 0 0]).setRow #[.int .i64 s, .int .i64 l, .int .i64 c, .int .i64 sh, .slice (some ⟨q, 0, none⟩) zs.length cap']
  have ZB := Box.new w2 26 #[.int .i64 0, .int .i64 0, .int .i64 0, .int .i64 0, .slice none 0 0]
  have HGR : AtG ⟨s, l, c, sh, zs⟩ ((w2.alloc (.cells #[.int .i64 0, .int .i64 0, .int .i64 0, .int .i64 0, .slice none 0 0] 26)).setRow w2.heap.size #[.int .i64 s, .int .i64 l, .int .i64 c, .int .i64 sh, .slice (some ⟨q, 0, none⟩) zs.length cap']) (· = q) (.agg #[.int .i64 s, .int .i64 l, .int .i64 c, .int .i64 sh, .slice (some ⟨q, 0, none⟩) zs.length cap']) := (keepsG _).later ⟨_, _, cap', rfl, by unfold maxLen; omega, hrow, fun _ b o e => by injection e with e; injection e with e; exact e.symm⟩ hbn
  replace R2 := R2.later hbn R2.lt
  replace R3 := R3.later hbn R3.lt
  have C3 := hc2.kept (grown_bel hbn none) (fun q hq => by cases hq)
  replace G2 := grown_trans G2 (grown_bel hbn (some g))
  go_upto_region 2 with (refine wpList_store_row rfl 26 _ _ rfl w2.heap.size _ rfl rfl 26 #[.int .i64 0, .int .i64 0, .int .i64 0, .int .i64 0, .slice none 0 0] ZB (by kernel_rfl) rfl (by simp [Value.oneCell']) ?_)
  clear ZB hbn hrow hc2
  generalize ((w2.alloc _).setRow _ _ : World) = w3 at R2 R3 VG HGR C3 G2 ⊢
  have hVl := VG.lt
  generalize w2.heap.size = vg at VG hq hVl ⊢
  try simp only [Act.put]
  go_wp2_with (refine wpList_load_box 26 _ rfl vg rfl 26 #[.int .i64 s, .int .i64 l, .int .i64 c, .int .i64 sh, .slice (some ⟨q, 0, none⟩) zs.length cap'] VG _ Tryz.underlying26 rfl (by kernel_rfl) (by first | rfl | simp [Region.wanted, yielded] | (simp [Region.wanted, yielded, Act.put] <;> omega)) ?_)
  refine (l10Draw_any g A n cap s l c sh q 0 zs.length cap' zs w3 (by unfold maxLen; omega) (by omega) (by omega) (by omega) (by omega) (by omega) (by omega) C3 (rowG_of HGR) (by omega) (by omega)).mono ?_
  rintro e w4 ⟨k, j, gl, lc, g2, c2, ms, Fs, rfl, hjk, hk9, RK, RL, hne, hfar, htwo, hc4, hg4⟩
  have ht4 := Turns.of_grown hg4
  replace R2 := R2.turn ht4 (by omega)
  replace R3 := R3.turn ht4 (by omega)
  replace VG := VG.turn ht4 (by omega)
  replace HGR := (keepsG _).turn HGR ht4 (fun b (hb : b = q) (e : b = g) => by omega)
  replace G2 := grown_trans G2 hg4
  generalize w3.heap.size = base at RK RL hVl
  have hk1 := RK.gl
  have hk2 := RL.gl
  have hF4 : ∀ i, i < k → ∀ b, Fs i b → base ≤ b ∧ b < w4.heap.size := fun i hi b hb => by
    by_cases h : i < j
    · exact ⟨(RK.far i h b hb).1, (RK.far i h b hb).2.1⟩
    · have h2 := RL.far (i - j) (by omega) b (by rw [show j + (i - j) = i by omega]; exact hb)
      exact ⟨h2.1, h2.2.1⟩
  have hbn := bel_new_row w4 #[.slice none 0 0, .slice none 0 0] 29 #[.slice (some ⟨gl, 0, none⟩) j lc, .slice (some ⟨g2, 0, none⟩) (k - j) c2]
  have VJ := (Box.new w4 29 #[.slice none 0 0, .slice none 0 0]).setRow #[.slice (some ⟨gl, 0, none⟩) j lc, .slice (some ⟨g2, 0, none⟩) (k - j) c2]
  have ZB := Box.new w4 29 #[.slice none 0 0, .slice none 0 0]
  have K : DD w ((w4.alloc (.cells #[.slice none 0 0, .slice none 0 0] 29)).setRow w4.heap.size #[.slice (some ⟨gl, 0, none⟩) j lc, .slice (some ⟨g2, 0, none⟩) (k - j) c2]) g A n cap vg w4.heap.size ⟨s, l, c, sh, zs⟩ #[.int .i64 s, .int .i64 l, .int .i64 c, .int .i64 sh, .slice (some ⟨q, 0, none⟩) zs.length cap'] q k j gl lc g2 c2 ms Fs base := ⟨grown_trans G2 (grown_bel hbn (some g)), hc4.kept (grown_bel hbn none) (fun q hq => by cases hq), R2.later hbn R2.lt, R3.later hbn R3.lt, VG.later hbn VG.lt, VJ, (keepsG _).later HGR hbn, hok, RK.later hbn, RL.later hbn, hne, hfar, htwo, hjk, hk9, hgl, by omega, by omega, by omega, ⟨hk1.2, hk2.2⟩, hF4⟩
  go_upto_region 3 with (refine wpList_store_row rfl 29 _ _ rfl w4.heap.size _ rfl rfl 29 #[.slice none 0 0, .slice none 0 0] ZB (by kernel_rfl) rfl (by simp [Value.oneCell']) ?_)
  clear ZB hbn VJ R2 R3 VG HGR G2 RK RL hfar htwo hF4 hg4 ht4 hc4 C3
  generalize ((w4.alloc _).setRow _ _ : World) = w5 at K ⊢
  generalize w4.heap.size = vj at K hk1 hk2 ⊢
  try simp only [Act.put]
  go_wp2_with fail
  refine (l1Once_any g A n cap 6 w5 (by omega) K.cur).mono ?_
  rintro e w6 ⟨b6, rfl, hc6, hg6⟩
  replace K := K.draw hg6 hc6
  clear hg6 hc6
  cases b6
  · skip
    have D := K.fin
    go_upto_region 7 with fail
    refine wp_region_sink 4 (fun w' => Box w' vg 26 #[.int .i64 s, .int .i64 l, .int .i64 c, .int .i64 sh, .slice (some ⟨q, 0, none⟩) zs.length cap'] ∧ Box w' vj 29 #[.slice (some ⟨gl, 0, none⟩) j lc, .slice (some ⟨g2, 0, none⟩) (k - j) c2]) (by kernel_rfl) ⟨D.vg, D.vj⟩ (fun hH => ?_)
    replace D := D.drew
    generalize w6.drew = wz at D hH ⊢
    refine wpAnyE_takeS (i := 0) (v := .agg #[.int .i64 s, .int .i64 l, .int .i64 c, .int .i64 sh, .slice (some ⟨q, 0, none⟩) zs.length cap']) (by simp only [List.getElem?_toArray, List.getElem?_cons_zero]; rfl) (by kernel_rfl) (by kernel_rfl) (by kernel_rfl) (by exact fun _ _ _ h => h) (by kernel_rfl) ?yag hH ?_
    case yag => exact yields_box 26 _ rfl (vg) rfl 26 #[.int .i64 s, .int .i64 l, .int .i64 c, .int .i64 sh, .slice (some ⟨q, 0, none⟩) zs.length cap'] (fun _ h => h.1) _ Tryz.underlying26 rfl (by kernel_rfl) (by first | rfl | simp [Region.wanted, yielded] | (simp [Region.wanted, yielded, Act.put] <;> omega))
    try simp only [Act.put, List.setIfInBounds_toArray, List.set_cons_zero, List.set_cons_succ]
    refine wpAnyE_takeS (i := 1) (v := .agg #[.slice (some ⟨gl, 0, none⟩) j lc, .slice (some ⟨g2, 0, none⟩) (k - j) c2]) (by simp only [List.getElem?_toArray, List.getElem?_cons_succ, List.getElem?_cons_zero]; rfl) (by kernel_rfl) (by kernel_rfl) (by kernel_rfl) (by exact fun _ _ _ h => h) (by kernel_rfl) ?yaj hH ?_
    case yaj => exact yields_box 29 _ rfl (vj) rfl 29 #[.slice (some ⟨gl, 0, none⟩) j lc, .slice (some ⟨g2, 0, none⟩) (k - j) c2] (fun _ h => h.2) _ Tryz.underlying29 rfl (by kernel_rfl) (by first | rfl | simp [Region.wanted, yielded] | (simp [Region.wanted, yielded, Act.put] <;> omega))
    try simp only [Act.put, List.setIfInBounds_toArray, List.set_cons_zero, List.set_cons_succ]
    have h2 := D.hG
    have h3 := D.hJ
    have t1 := turns_setRow wz w.heap.size #[.int .i64 s, .int .i64 l, .int .i64 c, .int .i64 sh, .slice (some ⟨q, 0, none⟩) zs.length cap']
    have y := D.r3.turn t1 (by omega)
    have v1 := D.vg.turn t1 (by omega)
    have v2 := D.vj.turn t1 (by omega)
    have t2 := turns_setRow (wz.setRow w.heap.size #[.int .i64 s, .int .i64 l, .int .i64 c, .int .i64 sh, .slice (some ⟨q, 0, none⟩) zs.length cap']) (w.heap.size + 1) #[.slice (some ⟨gl, 0, none⟩) j lc, .slice (some ⟨g2, 0, none⟩) (k - j) c2]
    refine wpAnyE_one (i := 2) (by kernel_rfl) (by simp only [List.getElem?_toArray, List.getElem?_cons_succ, List.getElem?_cons_zero]; rfl) (fun K0 hK => ?_)
    rw [if_pos (by first | rfl | kernel_rfl | simp [Region.wanted, yielded])]
    refine wp_store_row 26 _ _ rfl (w.heap.size) #[.int .i64 s, .int .i64 l, .int .i64 c, .int .i64 sh, .slice (some ⟨q, 0, none⟩) zs.length cap'] rfl rfl 26 #[.int .i64 0, .int .i64 0, .int .i64 0, .int .i64 0, .slice none 0 0] D.r2 (by kernel_rfl) rfl (by simp [Value.oneCell']) ?_
    clear hH
    refine hK.out _ _ ⟨v1, v2⟩ (fun hH => ?_)
    clear hK K0
    try simp only [Act.put]
    refine wpAnyE_end (i := 3) (by kernel_rfl) (by simp only [List.getElem?_toArray, List.getElem?_cons_succ, List.getElem?_cons_zero]; rfl) (by kernel_rfl) (fun K0 hK => ?_)
    rw [if_pos (by first | rfl | kernel_rfl | simp [Region.wanted, yielded])]
    refine wp_store_row 29 _ _ rfl (w.heap.size + 1) #[.slice (some ⟨gl, 0, none⟩) j lc, .slice (some ⟨g2, 0, none⟩) (k - j) c2] rfl rfl 29 #[.slice none 0 0, .slice none 0 0] y (by kernel_rfl) rfl (by simp [Value.oneCell']) ?_
    refine hK.out _ _ ⟨v1.turn t2 (by omega), v2.turn t2 (by omega)⟩ ?_
    clear hK K0
    try simp only [Act.put]
    clear hH t1 t2 y v1 v2
    obtain ⟨y2, y3, M⟩ := D.fin (w' := (wz.setRow w.heap.size #[.int .i64 s, .int .i64 l, .int .i64 c, .int .i64 sh, .slice (some ⟨q, 0, none⟩) zs.length cap']).setRow (w.heap.size + 1) #[.slice (some ⟨gl, 0, none⟩) j lc, .slice (some ⟨g2, 0, none⟩) (k - j) c2]) rfl
    clear D
    replace y2 := Lib.hid y2
    replace y3 := Lib.hid y3
    replace M := Lib.hid M
    go_wp2
    exact bodyPost_ret (v := .tuple #[.agg #[.int .i64 s, .int .i64 l, .int .i64 c, .int .i64 sh, .slice (some ⟨q, 0, none⟩) zs.length cap'], .agg #[.slice (some ⟨gl, 0, none⟩) j lc, .slice (some ⟨g2, 0, none⟩) (k - j) c2]]) (results_two9 (Tryz.results66) _ _ w.heap.size (w.heap.size + 1) 26 29 #[.int .i64 s, .int .i64 l, .int .i64 c, .int .i64 sh, .slice (some ⟨q, 0, none⟩) zs.length cap'] #[.slice (some ⟨gl, 0, none⟩) j lc, .slice (some ⟨g2, 0, none⟩) (k - j) c2] _ _ rfl rfl y2.out y3.out Tryz.underlying26 rfl (by kernel_rfl) Tryz.underlying29 rfl (by kernel_rfl)) rfl M.out
  · skip
    go_wp2_with fail
    refine (l1Once_any g A n cap 2 w6 (by omega) K.cur).mono ?_
    rintro e w7 ⟨b7, rfl, hc7, hg7⟩
    replace K := K.draw hg7 hc7
    clear hg7 hc7
    by_cases hbk : b7 = true ∧ 0 < k - j
    · skip
      obtain ⟨rfl, hk0⟩ := hbk
      have hkI : (0 : Int) < ((k - j : Nat) : Int) := by omega
      have hm0 : 0 < (ms.drop j).length := by rw [K.rl.count]; exact hk0
      have HRA := flatC_row K.rl.cells hm0
      have hcert : RowC ((ms.drop j)[0]).1.ps w7 (Fs j) ((ms.drop j)[0]).2 := K.rl.cert 0 hm0
      have hlen := K.rl.len 0 hm0
      obtain ⟨d, hd⟩ : ∃ d, ((ms.drop j)[0]).1 = d := ⟨_, rfl⟩
      obtain ⟨u, hu⟩ : ∃ u, ((ms.drop j)[0]).2 = u := ⟨_, rfl⟩
      rw [hd, hu] at hcert HRA
      rw [hd] at hlen
      simp only [Nat.zero_mul, Nat.add_zero] at HRA
      clear hd hu
      (obtain ⟨v0, v1⟩ := K.vj.two; go_upto_region 5 with fail; clear v0 v1)
      refine wp_region_sink 9 (fun w' => Box w' vj 29 #[.slice (some ⟨gl, 0, none⟩) j lc, .slice (some ⟨g2, 0, none⟩) (k - j) c2] ∧ RecAt w' g2 0 d u) (by kernel_rfl) ⟨K.vj, HRA⟩ (fun hH => ?_)
      have hdw := (Below.refl w7.heap.size w7).drew
      replace HRA := HRA.turn K.rl.gl.2 (Turns.of_below (T := fun _ => False) hdw) (fun h => h)
      replace hcert := (keepsRow _).later hcert hdw
      replace K := K.draw (grown_bel hdw (some g)) (K.cur.kept (grown_bel hdw none) (fun q hq => by cases hq))
      clear hdw
      generalize w7.drew = w8 at K hcert HRA hH ⊢
      refine wpAnyE_pure (i := 0) (v := ?vb0) (by simp only [List.getElem?_toArray, List.getElem?_cons_zero]; rfl) (by kernel_rfl) (by kernel_rfl) (by kernel_rfl) (by exact fun _ _ _ h => h) (by kernel_rfl) (Or.inl ⟨by rfl, ?yb0⟩) hH ?rb0
      case yb0 => (intro w' hSw; (try dsimp only at hSw); go_simp; try with_reducible rfl)
      try simp only [Act.put, List.setIfInBounds_toArray, List.set_cons_zero, List.set_cons_succ]
      refine wpAnyE_take (i := 1) (v := (.slice (some ⟨g2, 0, none⟩) (k - j) c2)) (by simp only [List.getElem?_toArray, List.getElem?_cons_succ, List.getElem?_cons_zero]; rfl) (by kernel_rfl) (by kernel_rfl) (by kernel_rfl) (by exact fun _ _ _ h => h) (by kernel_rfl) ?yb1 hH ?_
      case yb1 => exact .inl ⟨(by first | rfl | simp [Region.wanted, yielded] | (simp [Region.wanted, yielded, Act.put] <;> omega)), fun w' hSw => by (try dsimp only at hSw); have hc := (Box.two hSw.1).2; go_simp; try with_reducible rfl⟩
      try simp only [Act.put, List.setIfInBounds_toArray, List.set_cons_zero, List.set_cons_succ]
      refine wpAnyE_pure (i := 2) (v := ?vb2) (by simp only [List.getElem?_toArray, List.getElem?_cons_succ, List.getElem?_cons_zero]; rfl) (by kernel_rfl) (by kernel_rfl) (by kernel_rfl) (by exact fun _ _ _ h => h) (by kernel_rfl) (Or.inl ⟨by rfl, ?yb2⟩) hH ?rb2
      case yb2 => (intro w' hSw; (try dsimp only at hSw); go_simp; try with_reducible rfl)
      try simp only [Act.put, List.setIfInBounds_toArray, List.set_cons_zero, List.set_cons_succ]
      refine wpAnyE_pure (i := 3) (v := ?vb3) (by simp only [List.getElem?_toArray, List.getElem?_cons_succ, List.getElem?_cons_zero]; rfl) (by kernel_rfl) (by kernel_rfl) (by kernel_rfl) (by exact fun _ _ _ h => h) (by kernel_rfl) (Or.inl ⟨by rfl, ?yb3⟩) hH ?rb3
      case yb3 => (intro w' hSw; (try dsimp only at hSw); go_simp; try with_reducible rfl)
      try simp only [Act.put, List.setIfInBounds_toArray, List.set_cons_zero, List.set_cons_succ]
      refine wpAnyE_take (i := 4) (v := (.slice (some ⟨g2, 0, none⟩) (k - j) c2)) (by simp only [List.getElem?_toArray, List.getElem?_cons_succ, List.getElem?_cons_zero]; rfl) (by kernel_rfl) (by kernel_rfl) (by kernel_rfl) (by exact fun _ _ _ h => h) (by kernel_rfl) ?yb4 hH ?_
      case yb4 => exact .inl ⟨(by first | rfl | simp [Region.wanted, yielded] | (simp [Region.wanted, yielded, Act.put] <;> omega)), fun w' hSw => by (try dsimp only at hSw); have hc := (Box.two hSw.1).2; go_simp; try with_reducible rfl⟩
      try simp only [Act.put, List.setIfInBounds_toArray, List.set_cons_zero, List.set_cons_succ]
      refine wpAnyE_take (i := 5) (v := .pointer (some ⟨g2, 0, none⟩)) (by simp only [List.getElem?_toArray, List.getElem?_cons_succ, List.getElem?_cons_zero]; rfl) (by kernel_rfl) (by kernel_rfl) (by kernel_rfl) (by exact fun _ _ _ h => h) (by kernel_rfl) ?yb5 hH ?_
      case yb5 => exact .inl ⟨(by first | rfl | simp [Region.wanted, yielded] | (simp [Region.wanted, yielded, Act.put] <;> omega)), fun w' hSw => by (clear hSw; go_simp; try with_reducible rfl)⟩
      try simp only [Act.put, List.setIfInBounds_toArray, List.set_cons_zero, List.set_cons_succ]
      refine wpAnyE_take (i := 6) (v := .agg #[.int .i64 d.r1, .int .i64 d.r2, .int .i64 d.r3, .int .i64 d.r4, .int .i64 d.r5, .int .i64 d.r6, .int .i64 d.r7, u, .int .i64 d.r8]) (by simp only [List.getElem?_toArray, List.getElem?_cons_succ, List.getElem?_cons_zero]; rfl) (by kernel_rfl) (by kernel_rfl) (by kernel_rfl) (by exact fun _ _ _ h => h) (by kernel_rfl) ?yb6 hH ?_
      case yb6 => exact .inl ⟨(by first | rfl | simp [Region.wanted, yielded] | (simp [Region.wanted, yielded, Act.put] <;> omega)), fun w' hSw => by (obtain ⟨-, z0, z1, z2, z3, z4, z5, z6, z7, z8⟩ := hSw; simp only [Nat.zero_add] at z1 z2 z3 z4 z5 z6 z7 z8; go_simp; try with_reducible rfl)⟩
      try simp only [Act.put, List.setIfInBounds_toArray, List.set_cons_zero, List.set_cons_succ]
      refine wpAnyE_one (i := 7) (by kernel_rfl) (by simp only [List.getElem?_toArray, List.getElem?_cons_succ, List.getElem?_cons_zero]; rfl) (fun K' hK => ?_)
      go_simp
      have hjk2 : j < k := by omega
      have h5 := K.gl'
      have h6 := K.gq
      have h7 := K.qV
      have h8 := K.VB
      have h9 := K.vj.lt
      have h10 := K.rl.gl
      refine (l9Bend_any g A n cap (Fs j) _ d w8 K.cur ⟨u, rfl, hcert⟩ hlen (fun b hb => by have := K.hF j hjk2 b hb; exact ⟨by omega, by omega⟩)).mono ?_
      rintro e w9 ⟨C', d', rfl, hL', hdl', hc9, ht9⟩
      obtain ⟨u', eC', hR'⟩ := hL'
      injection eC' with eC'
      subst eC'
      obtain ⟨gq', cq', hFq', eu', hown'⟩ := hR'
      subst eu'
      have hR' : RowC d'.ps w9 (fun b => Fs j b ∨ w8.heap.size + 1 < b) (.slice (some ⟨gq', 0, none⟩) d'.ps.length cq') := ⟨gq', cq', hFq', rfl, hown'⟩
      have hng : ¬ (g2 = g ∨ Fs j g2) := fun e => by
        rcases e with e | e
        · omega
        · exact (K.far j hjk2 _ e).2 rfl
      have hnv : ¬ (vj = g ∨ Fs j vj) := fun e => by
        rcases e with e | e
        · have := K.hi; omega
        · have := K.hF j hjk2 _ e; omega
      obtain ⟨b1, D0⟩ := K.bent hm0 ht9 hc9 hR' hdl'
      clear hH
      refine hK.out _ _ ⟨K.vj.turn ht9 hnv, HRA.turn h10.2 ht9 hng⟩ (fun hH => ?_)
      clear hK K' K HRA hcert hR' hown' hFq' ht9 hc9 hng hnv
      try simp only [Act.put, List.setIfInBounds_toArray, List.set_cons_zero, List.set_cons_succ]
      refine wpAnyE_take (i := 8) (v := .pointer (some ⟨g2, 0, none⟩)) (by simp only [List.getElem?_toArray, List.getElem?_cons_succ, List.getElem?_cons_zero]; rfl) (by kernel_rfl) (by kernel_rfl) (by kernel_rfl) (by exact fun _ _ _ h => h) (by kernel_rfl) ?yb8 hH ?_
      case yb8 => exact .inl ⟨(by first | rfl | simp [Region.wanted, yielded] | (simp [Region.wanted, yielded, Act.put] <;> omega)), fun w' hSw => by (clear hSw; go_simp; try with_reducible rfl)⟩
      try simp only [Act.put, List.setIfInBounds_toArray, List.set_cons_zero, List.set_cons_succ]
      refine wpAnyE_last (by kernel_rfl) (by simp only [List.getElem?_toArray, List.getElem?_cons_succ, List.getElem?_cons_zero]; rfl) (by kernel_rfl) (fun K' hK => ?_)
      rw [if_pos (by first | rfl | kernel_rfl | simp [Region.wanted, yielded])]
      refine wp_store_mid 46 _ _ rfl g2 0 (d'.cells (.slice (some ⟨gq', 0, none⟩) d'.ps.length cq')) rfl rfl b1 (by kernel_rfl) (by simp [RecD.cells, Value.oneCell']) ?_
      refine hK.out _ _ ?_
      clear hK K' hH b1
      try simp only [Act.put]
      generalize (World.setCells w9 _ _ _) = w10 at D0 ⊢
      have D := D0
      go_upto_region 7 with fail
      refine wp_region_sink 4 (fun w' => Box w' vg 26 #[.int .i64 s, .int .i64 l, .int .i64 c, .int .i64 sh, .slice (some ⟨q, 0, none⟩) zs.length cap'] ∧ Box w' vj 29 #[.slice (some ⟨gl, 0, none⟩) j lc, .slice (some ⟨g2, 0, none⟩) (k - j) c2]) (by kernel_rfl) ⟨D.vg, D.vj⟩ (fun hH => ?_)
      replace D := D.drew
      generalize w10.drew = wz at D hH ⊢
      refine wpAnyE_takeS (i := 0) (v := .agg #[.int .i64 s, .int .i64 l, .int .i64 c, .int .i64 sh, .slice (some ⟨q, 0, none⟩) zs.length cap']) (by simp only [List.getElem?_toArray, List.getElem?_cons_zero]; rfl) (by kernel_rfl) (by kernel_rfl) (by kernel_rfl) (by exact fun _ _ _ h => h) (by kernel_rfl) ?ycg hH ?_
      case ycg => exact yields_box 26 _ rfl (vg) rfl 26 #[.int .i64 s, .int .i64 l, .int .i64 c, .int .i64 sh, .slice (some ⟨q, 0, none⟩) zs.length cap'] (fun _ h => h.1) _ Tryz.underlying26 rfl (by kernel_rfl) (by first | rfl | simp [Region.wanted, yielded] | (simp [Region.wanted, yielded, Act.put] <;> omega))
      try simp only [Act.put, List.setIfInBounds_toArray, List.set_cons_zero, List.set_cons_succ]
      refine wpAnyE_takeS (i := 1) (v := .agg #[.slice (some ⟨gl, 0, none⟩) j lc, .slice (some ⟨g2, 0, none⟩) (k - j) c2]) (by simp only [List.getElem?_toArray, List.getElem?_cons_succ, List.getElem?_cons_zero]; rfl) (by kernel_rfl) (by kernel_rfl) (by kernel_rfl) (by exact fun _ _ _ h => h) (by kernel_rfl) ?ycj hH ?_
      case ycj => exact yields_box 29 _ rfl (vj) rfl 29 #[.slice (some ⟨gl, 0, none⟩) j lc, .slice (some ⟨g2, 0, none⟩) (k - j) c2] (fun _ h => h.2) _ Tryz.underlying29 rfl (by kernel_rfl) (by first | rfl | simp [Region.wanted, yielded] | (simp [Region.wanted, yielded, Act.put] <;> omega))
      try simp only [Act.put, List.setIfInBounds_toArray, List.set_cons_zero, List.set_cons_succ]
      have h2 := D.hG
      have h3 := D.hJ
      have t1 := turns_setRow wz w.heap.size #[.int .i64 s, .int .i64 l, .int .i64 c, .int .i64 sh, .slice (some ⟨q, 0, none⟩) zs.length cap']
      have y := D.r3.turn t1 (by omega)
      have v1 := D.vg.turn t1 (by omega)
      have v2 := D.vj.turn t1 (by omega)
      have t2 := turns_setRow (wz.setRow w.heap.size #[.int .i64 s, .int .i64 l, .int .i64 c, .int .i64 sh, .slice (some ⟨q, 0, none⟩) zs.length cap']) (w.heap.size + 1) #[.slice (some ⟨gl, 0, none⟩) j lc, .slice (some ⟨g2, 0, none⟩) (k - j) c2]
      refine wpAnyE_one (i := 2) (by kernel_rfl) (by simp only [List.getElem?_toArray, List.getElem?_cons_succ, List.getElem?_cons_zero]; rfl) (fun K0 hK => ?_)
      rw [if_pos (by first | rfl | kernel_rfl | simp [Region.wanted, yielded])]
      refine wp_store_row 26 _ _ rfl (w.heap.size) #[.int .i64 s, .int .i64 l, .int .i64 c, .int .i64 sh, .slice (some ⟨q, 0, none⟩) zs.length cap'] rfl rfl 26 #[.int .i64 0, .int .i64 0, .int .i64 0, .int .i64 0, .slice none 0 0] D.r2 (by kernel_rfl) rfl (by simp [Value.oneCell']) ?_
      clear hH
      refine hK.out _ _ ⟨v1, v2⟩ (fun hH => ?_)
      clear hK K0
      try simp only [Act.put]
      refine wpAnyE_end (i := 3) (by kernel_rfl) (by simp only [List.getElem?_toArray, List.getElem?_cons_succ, List.getElem?_cons_zero]; rfl) (by kernel_rfl) (fun K0 hK => ?_)
      rw [if_pos (by first | rfl | kernel_rfl | simp [Region.wanted, yielded])]
      refine wp_store_row 29 _ _ rfl (w.heap.size + 1) #[.slice (some ⟨gl, 0, none⟩) j lc, .slice (some ⟨g2, 0, none⟩) (k - j) c2] rfl rfl 29 #[.slice none 0 0, .slice none 0 0] y (by kernel_rfl) rfl (by simp [Value.oneCell']) ?_
      refine hK.out _ _ ⟨v1.turn t2 (by omega), v2.turn t2 (by omega)⟩ ?_
      clear hK K0
      try simp only [Act.put]
      clear hH t1 t2 y v1 v2
      obtain ⟨y2, y3, M⟩ := D.fin (w' := (wz.setRow w.heap.size #[.int .i64 s, .int .i64 l, .int .i64 c, .int .i64 sh, .slice (some ⟨q, 0, none⟩) zs.length cap']).setRow (w.heap.size + 1) #[.slice (some ⟨gl, 0, none⟩) j lc, .slice (some ⟨g2, 0, none⟩) (k - j) c2]) rfl
      clear D
      replace y2 := Lib.hid y2
      replace y3 := Lib.hid y3
      replace M := Lib.hid M
      go_wp2
      exact bodyPost_ret (v := .tuple #[.agg #[.int .i64 s, .int .i64 l, .int .i64 c, .int .i64 sh, .slice (some ⟨q, 0, none⟩) zs.length cap'], .agg #[.slice (some ⟨gl, 0, none⟩) j lc, .slice (some ⟨g2, 0, none⟩) (k - j) c2]]) (results_two9 (Tryz.results66) _ _ w.heap.size (w.heap.size + 1) 26 29 #[.int .i64 s, .int .i64 l, .int .i64 c, .int .i64 sh, .slice (some ⟨q, 0, none⟩) zs.length cap'] #[.slice (some ⟨gl, 0, none⟩) j lc, .slice (some ⟨g2, 0, none⟩) (k - j) c2] _ _ rfl rfl y2.out y3.out Tryz.underlying26 rfl (by kernel_rfl) Tryz.underlying29 rfl (by kernel_rfl)) rfl M.out
    · have D0 := K.swap
      have hk8 : b7 = true → ¬ ((0 : Int) < ((k - j : Nat) : Int)) := fun h1 h2 => hbk ⟨h1, by omega⟩
      clear hbk
      obtain ⟨v0, v1⟩ := K.vj.two
      cases b7
      · skip
        clear hk8
        go_upto_region 7 with (refine wpList_store_row rfl 29 _ _ rfl vj _ rfl rfl 29 #[.slice (some ⟨gl, 0, none⟩) j lc, .slice (some ⟨g2, 0, none⟩) (k - j) c2] K.vj (by kernel_rfl) rfl (by simp [Value.oneCell']) ?_)
        clear K v0 v1
        try simp only [Act.put]
        generalize (w7.setRow _ _ : World) = w8 at D0 ⊢
        have D := D0
        skip
        refine wp_region_sink 4 (fun w' => Box w' vg 26 #[.int .i64 s, .int .i64 l, .int .i64 c, .int .i64 sh, .slice (some ⟨q, 0, none⟩) zs.length cap'] ∧ Box w' vj 29 #[.slice (some ⟨g2, 0, none⟩) (k - j) c2, .slice (some ⟨gl, 0, none⟩) j lc]) (by kernel_rfl) ⟨D.vg, D.vj⟩ (fun hH => ?_)
        replace D := D.drew
        generalize w8.drew = wz at D hH ⊢
        refine wpAnyE_takeS (i := 0) (v := .agg #[.int .i64 s, .int .i64 l, .int .i64 c, .int .i64 sh, .slice (some ⟨q, 0, none⟩) zs.length cap']) (by simp only [List.getElem?_toArray, List.getElem?_cons_zero]; rfl) (by kernel_rfl) (by kernel_rfl) (by kernel_rfl) (by exact fun _ _ _ h => h) (by kernel_rfl) ?ydg hH ?_
        case ydg => exact yields_box 26 _ rfl (vg) rfl 26 #[.int .i64 s, .int .i64 l, .int .i64 c, .int .i64 sh, .slice (some ⟨q, 0, none⟩) zs.length cap'] (fun _ h => h.1) _ Tryz.underlying26 rfl (by kernel_rfl) (by first | rfl | simp [Region.wanted, yielded] | (simp [Region.wanted, yielded, Act.put] <;> omega))
        try simp only [Act.put, List.setIfInBounds_toArray, List.set_cons_zero, List.set_cons_succ]
        refine wpAnyE_takeS (i := 1) (v := .agg #[.slice (some ⟨g2, 0, none⟩) (k - j) c2, .slice (some ⟨gl, 0, none⟩) j lc]) (by simp only [List.getElem?_toArray, List.getElem?_cons_succ, List.getElem?_cons_zero]; rfl) (by kernel_rfl) (by kernel_rfl) (by kernel_rfl) (by exact fun _ _ _ h => h) (by kernel_rfl) ?ydj hH ?_
        case ydj => exact yields_box 29 _ rfl (vj) rfl 29 #[.slice (some ⟨g2, 0, none⟩) (k - j) c2, .slice (some ⟨gl, 0, none⟩) j lc] (fun _ h => h.2) _ Tryz.underlying29 rfl (by kernel_rfl) (by first | rfl | simp [Region.wanted, yielded] | (simp [Region.wanted, yielded, Act.put] <;> omega))
        try simp only [Act.put, List.setIfInBounds_toArray, List.set_cons_zero, List.set_cons_succ]
        have h2 := D.hG
        have h3 := D.hJ
        have t1 := turns_setRow wz w.heap.size #[.int .i64 s, .int .i64 l, .int .i64 c, .int .i64 sh, .slice (some ⟨q, 0, none⟩) zs.length cap']
        have y := D.r3.turn t1 (by omega)
        have v1 := D.vg.turn t1 (by omega)
        have v2 := D.vj.turn t1 (by omega)
        have t2 := turns_setRow (wz.setRow w.heap.size #[.int .i64 s, .int .i64 l, .int .i64 c, .int .i64 sh, .slice (some ⟨q, 0, none⟩) zs.length cap']) (w.heap.size + 1) #[.slice (some ⟨g2, 0, none⟩) (k - j) c2, .slice (some ⟨gl, 0, none⟩) j lc]
        refine wpAnyE_one (i := 2) (by kernel_rfl) (by simp only [List.getElem?_toArray, List.getElem?_cons_succ, List.getElem?_cons_zero]; rfl) (fun K0 hK => ?_)
        rw [if_pos (by first | rfl | kernel_rfl | simp [Region.wanted, yielded])]
        refine wp_store_row 26 _ _ rfl (w.heap.size) #[.int .i64 s, .int .i64 l, .int .i64 c, .int .i64 sh, .slice (some ⟨q, 0, none⟩) zs.length cap'] rfl rfl 26 #[.int .i64 0, .int .i64 0, .int .i64 0, .int .i64 0, .slice none 0 0] D.r2 (by kernel_rfl) rfl (by simp [Value.oneCell']) ?_
        clear hH
        refine hK.out _ _ ⟨v1, v2⟩ (fun hH => ?_)
        clear hK K0
        try simp only [Act.put]
        refine wpAnyE_end (i := 3) (by kernel_rfl) (by simp only [List.getElem?_toArray, List.getElem?_cons_succ, List.getElem?_cons_zero]; rfl) (by kernel_rfl) (fun K0 hK => ?_)
        rw [if_pos (by first | rfl | kernel_rfl | simp [Region.wanted, yielded])]
        refine wp_store_row 29 _ _ rfl (w.heap.size + 1) #[.slice (some ⟨g2, 0, none⟩) (k - j) c2, .slice (some ⟨gl, 0, none⟩) j lc] rfl rfl 29 #[.slice none 0 0, .slice none 0 0] y (by kernel_rfl) rfl (by simp [Value.oneCell']) ?_
        refine hK.out _ _ ⟨v1.turn t2 (by omega), v2.turn t2 (by omega)⟩ ?_
        clear hK K0
        try simp only [Act.put]
        clear hH t1 t2 y v1 v2
        obtain ⟨y2, y3, M⟩ := D.fin (w' := (wz.setRow w.heap.size #[.int .i64 s, .int .i64 l, .int .i64 c, .int .i64 sh, .slice (some ⟨q, 0, none⟩) zs.length cap']).setRow (w.heap.size + 1) #[.slice (some ⟨g2, 0, none⟩) (k - j) c2, .slice (some ⟨gl, 0, none⟩) j lc]) rfl
        clear D
        replace y2 := Lib.hid y2
        replace y3 := Lib.hid y3
        replace M := Lib.hid M
        go_wp2
        exact bodyPost_ret (v := .tuple #[.agg #[.int .i64 s, .int .i64 l, .int .i64 c, .int .i64 sh, .slice (some ⟨q, 0, none⟩) zs.length cap'], .agg #[.slice (some ⟨g2, 0, none⟩) (k - j) c2, .slice (some ⟨gl, 0, none⟩) j lc]]) (results_two9 (Tryz.results66) _ _ w.heap.size (w.heap.size + 1) 26 29 #[.int .i64 s, .int .i64 l, .int .i64 c, .int .i64 sh, .slice (some ⟨q, 0, none⟩) zs.length cap'] #[.slice (some ⟨g2, 0, none⟩) (k - j) c2, .slice (some ⟨gl, 0, none⟩) j lc] _ _ rfl rfl y2.out y3.out Tryz.underlying26 rfl (by kernel_rfl) Tryz.underlying29 rfl (by kernel_rfl)) rfl M.out
      · skip
        have hk9 := hk8 rfl
        clear hk8
        go_upto_region 7 with (refine wpList_store_row rfl 29 _ _ rfl vj _ rfl rfl 29 #[.slice (some ⟨gl, 0, none⟩) j lc, .slice (some ⟨g2, 0, none⟩) (k - j) c2] K.vj (by kernel_rfl) rfl (by simp [Value.oneCell']) ?_)
        clear K v0 v1
        try simp only [Act.put]
        generalize (w7.setRow _ _ : World) = w8 at D0 ⊢
        have D := D0
        skip
        refine wp_region_sink 4 (fun w' => Box w' vg 26 #[.int .i64 s, .int .i64 l, .int .i64 c, .int .i64 sh, .slice (some ⟨q, 0, none⟩) zs.length cap'] ∧ Box w' vj 29 #[.slice (some ⟨g2, 0, none⟩) (k - j) c2, .slice (some ⟨gl, 0, none⟩) j lc]) (by kernel_rfl) ⟨D.vg, D.vj⟩ (fun hH => ?_)
        replace D := D.drew
        generalize w8.drew = wz at D hH ⊢
        refine wpAnyE_takeS (i := 0) (v := .agg #[.int .i64 s, .int .i64 l, .int .i64 c, .int .i64 sh, .slice (some ⟨q, 0, none⟩) zs.length cap']) (by simp only [List.getElem?_toArray, List.getElem?_cons_zero]; rfl) (by kernel_rfl) (by kernel_rfl) (by kernel_rfl) (by exact fun _ _ _ h => h) (by kernel_rfl) ?yeg hH ?_
        case yeg => exact yields_box 26 _ rfl (vg) rfl 26 #[.int .i64 s, .int .i64 l, .int .i64 c, .int .i64 sh, .slice (some ⟨q, 0, none⟩) zs.length cap'] (fun _ h => h.1) _ Tryz.underlying26 rfl (by kernel_rfl) (by first | rfl | simp [Region.wanted, yielded] | (simp [Region.wanted, yielded, Act.put] <;> omega))
        try simp only [Act.put, List.setIfInBounds_toArray, List.set_cons_zero, List.set_cons_succ]
        refine wpAnyE_takeS (i := 1) (v := .agg #[.slice (some ⟨g2, 0, none⟩) (k - j) c2, .slice (some ⟨gl, 0, none⟩) j lc]) (by simp only [List.getElem?_toArray, List.getElem?_cons_succ, List.getElem?_cons_zero]; rfl) (by kernel_rfl) (by kernel_rfl) (by kernel_rfl) (by exact fun _ _ _ h => h) (by kernel_rfl) ?yej hH ?_
        case yej => exact yields_box 29 _ rfl (vj) rfl 29 #[.slice (some ⟨g2, 0, none⟩) (k - j) c2, .slice (some ⟨gl, 0, none⟩) j lc] (fun _ h => h.2) _ Tryz.underlying29 rfl (by kernel_rfl) (by first | rfl | simp [Region.wanted, yielded] | (simp [Region.wanted, yielded, Act.put] <;> omega))
        try simp only [Act.put, List.setIfInBounds_toArray, List.set_cons_zero, List.set_cons_succ]
        have h2 := D.hG
        have h3 := D.hJ
        have t1 := turns_setRow wz w.heap.size #[.int .i64 s, .int .i64 l, .int .i64 c, .int .i64 sh, .slice (some ⟨q, 0, none⟩) zs.length cap']
        have y := D.r3.turn t1 (by omega)
        have v1 := D.vg.turn t1 (by omega)
        have v2 := D.vj.turn t1 (by omega)
        have t2 := turns_setRow (wz.setRow w.heap.size #[.int .i64 s, .int .i64 l, .int .i64 c, .int .i64 sh, .slice (some ⟨q, 0, none⟩) zs.length cap']) (w.heap.size + 1) #[.slice (some ⟨g2, 0, none⟩) (k - j) c2, .slice (some ⟨gl, 0, none⟩) j lc]
        refine wpAnyE_one (i := 2) (by kernel_rfl) (by simp only [List.getElem?_toArray, List.getElem?_cons_succ, List.getElem?_cons_zero]; rfl) (fun K0 hK => ?_)
        rw [if_pos (by first | rfl | kernel_rfl | simp [Region.wanted, yielded])]
        refine wp_store_row 26 _ _ rfl (w.heap.size) #[.int .i64 s, .int .i64 l, .int .i64 c, .int .i64 sh, .slice (some ⟨q, 0, none⟩) zs.length cap'] rfl rfl 26 #[.int .i64 0, .int .i64 0, .int .i64 0, .int .i64 0, .slice none 0 0] D.r2 (by kernel_rfl) rfl (by simp [Value.oneCell']) ?_
        clear hH
        refine hK.out _ _ ⟨v1, v2⟩ (fun hH => ?_)
        clear hK K0
        try simp only [Act.put]
        refine wpAnyE_end (i := 3) (by kernel_rfl) (by simp only [List.getElem?_toArray, List.getElem?_cons_succ, List.getElem?_cons_zero]; rfl) (by kernel_rfl) (fun K0 hK => ?_)
        rw [if_pos (by first | rfl | kernel_rfl | simp [Region.wanted, yielded])]
        refine wp_store_row 29 _ _ rfl (w.heap.size + 1) #[.slice (some ⟨g2, 0, none⟩) (k - j) c2, .slice (some ⟨gl, 0, none⟩) j lc] rfl rfl 29 #[.slice none 0 0, .slice none 0 0] y (by kernel_rfl) rfl (by simp [Value.oneCell']) ?_
        refine hK.out _ _ ⟨v1.turn t2 (by omega), v2.turn t2 (by omega)⟩ ?_
        clear hK K0
        try simp only [Act.put]
        clear hH t1 t2 y v1 v2
        obtain ⟨y2, y3, M⟩ := D.fin (w' := (wz.setRow w.heap.size #[.int .i64 s, .int .i64 l, .int .i64 c, .int .i64 sh, .slice (some ⟨q, 0, none⟩) zs.length cap']).setRow (w.heap.size + 1) #[.slice (some ⟨g2, 0, none⟩) (k - j) c2, .slice (some ⟨gl, 0, none⟩) j lc]) rfl
        clear D
        replace y2 := Lib.hid y2
        replace y3 := Lib.hid y3
        replace M := Lib.hid M
        go_wp2
        exact bodyPost_ret (v := .tuple #[.agg #[.int .i64 s, .int .i64 l, .int .i64 c, .int .i64 sh, .slice (some ⟨q, 0, none⟩) zs.length cap'], .agg #[.slice (some ⟨g2, 0, none⟩) (k - j) c2, .slice (some ⟨gl, 0, none⟩) j lc]]) (results_two9 (Tryz.results66) _ _ w.heap.size (w.heap.size + 1) 26 29 #[.int .i64 s, .int .i64 l, .int .i64 c, .int .i64 sh, .slice (some ⟨q, 0, none⟩) zs.length cap'] #[.slice (some ⟨g2, 0, none⟩) (k - j) c2, .slice (some ⟨gl, 0, none⟩) j lc] _ _ rfl rfl y2.out y3.out Tryz.underlying26 rfl (by kernel_rfl) Tryz.underlying29 rfl (by kernel_rfl)) rfl M.out

end Go.Proofs.YtjdepjpjjgkmbaaGreat

/- What the model's DrawCrashed leaves: a group, a journal, a list of booleans (written by jour_draw3.py); conditions: the bytes can be read. -/
namespace Go.Proofs.YtjdepjpjjgkmbaaGreat
open Go Go.RowKit Go.Deep

theorem AtG.lt {d : GrpD} {w : World} {F : Nat → Prop} {v : Value} (h : AtG d w F v) : AtG d w (fun b => F b ∧ b < w.heap.size) v := by
  obtain ⟨A, n, c, e, hn, hr⟩ := h
  exact ⟨A, n, c, e, hn, hr.1, fun h0 b o e => ⟨hr.2 h0 b o e, hr.1.all.2 h0 b o e⟩⟩
theorem AtS9.lt {d : JourD} {w : World} {F : Nat → Prop} {v : Value} (h : AtS9 d w F v) : AtS9 d w (fun b => F b ∧ b < w.heap.size) v := by
  obtain ⟨u, u', e, h1, h2⟩ := h
  exact ⟨u, u', e, h1.lt, h2.lt⟩
/-- The state on the way. -/
structure DL (w wr : World) (g : Nat) (A : Option Addr) (n cap VG VJ : Nat) (gd : GrpD) (G C : Array Value) (d : JourD) (lo hi : Nat) : Prop where
  bel : Below w.heap.size w wr
  cur : Cur wr 169 .i64 g A n cap
  r2 : Box wr w.heap.size 26 #[.int .i64 0, .int .i64 0, .int .i64 0, .int .i64 0, .slice none 0 0]
  r3 : Box wr (w.heap.size + 1) 29 #[.slice none 0 0, .slice none 0 0]
  vg : Box wr VG 26 G
  vj : Box wr VJ 29 C
  grp : AtG gd wr (Iv lo hi) (.agg G)
  jr : AtS9 d wr (Iv lo hi) (.agg C)
  gl : w.heap.size + 1 < g
  gV : g < lo
  hV : hi ≤ VG ∧ VG < VJ
theorem DL.turn {w wr w' : World} {g : Nat} {A : Option Addr} {n cap VG VJ : Nat} {gd : GrpD} {G C : Array Value} {d : JourD} {lo hi : Nat} {T : Nat → Prop} (h : DL w wr g A n cap VG VJ gd G C d lo hi) (ht : Turns T wr w') (hc : Cur w' 169 .i64 g A n cap) (hT : ∀ b, T b → b = g ∨ VJ < b) (hlh : lo ≤ VG) : DL w w' g A n cap VG VJ gd G C d lo hi := by
  have h1 := h.gl
  have h2 := h.gV
  have h3 := h.hV
  exact ⟨ht.below h.bel (fun i hi => by have := hT i hi; omega), hc, h.r2.turn ht (fun hi => by have := hT _ hi; omega), h.r3.turn ht (fun hi => by have := hT _ hi; omega), h.vg.turn ht (fun hi => by have := hT _ hi; omega), h.vj.turn ht (fun hi => by have := hT _ hi; omega), (keepsG gd).turn h.grp ht (fun b hb hi => by have h5 := hT b hi; have h6 := hb.1; have h7 := hb.2; omega), (keepsS9 d).turn h.jr ht (fun b hb hi => by have h5 := hT b hi; have h6 := hb.1; have h7 := hb.2; omega), h1, h2, h3⟩
end Go.Proofs.YtjdepjpjjgkmbaaGreat

/- What the model's DrawNoted leaves: a group, a journal, and what to note (written by jour_draw4.py); conditions: the bytes can be read. -/
namespace Go.Proofs.YtjdepjpjjgkmbaaGreat
open Go Go.RowKit Go.Deep

/-- What DrawNoted leaves. -/
def MadeDN (w : World) (e : Ending) (w' : World) : Prop := ∃ (G C : Array Value) (gd : GrpD) (d : JourD) (r : RecD) (u : Value), e = .returned (.tuple #[.agg G, .agg C, .int .i64 r.r2, .int .i64 r.r3, .int .i64 r.r4, .agg #[.int .i64 r.r5, .int .i64 r.r6], .int .i64 r.r7, u]) ∧ AtG gd w' (w.heap.size ≤ ·) (.agg G) ∧ AtS9 d w' (w.heap.size ≤ ·) (.agg C) ∧ okG gd = true ∧ Short d.ks ∧ Short d.ls ∧ RowC r.ps w' (w.heap.size ≤ ·) u ∧ r.ps.length ≤ 21 ∧ Below w.heap.size w w'
/-- The state on the way. -/
structure DNA (w wr : World) (g : Nat) (A : Option Addr) (n cap VG VJ : Nat) (gd : GrpD) (G C : Array Value) (d : JourD) (lo hi : Nat) : Prop where
  bel : Below w.heap.size w wr
  cur : Cur wr 169 .i64 g A n cap
  r2 : Box wr w.heap.size 26 #[.int .i64 0, .int .i64 0, .int .i64 0, .int .i64 0, .slice none 0 0]
  r3 : Box wr (w.heap.size + 1) 29 #[.slice none 0 0, .slice none 0 0]
  r4 : Box wr (w.heap.size + 1 + 1) 39 #[.int .i64 0, .int .i64 0]
  vg : Box wr VG 26 G
  vj : Box wr VJ 29 C
  grp : AtG gd wr (Iv lo hi) (.agg G)
  jr : AtS9 d wr (Iv lo hi) (.agg C)
  gl : w.heap.size + 2 < g
  gV : g < lo
  hV : hi ≤ VG ∧ VG < VJ
theorem DNA.turn {w wr w' : World} {g : Nat} {A : Option Addr} {n cap VG VJ : Nat} {gd : GrpD} {G C : Array Value} {d : JourD} {lo hi : Nat} {T : Nat → Prop} (h : DNA w wr g A n cap VG VJ gd G C d lo hi) (ht : Turns T wr w') (hc : Cur w' 169 .i64 g A n cap) (hT : ∀ b, T b → b = g ∨ VJ < b) (hlh : lo ≤ VG) : DNA w w' g A n cap VG VJ gd G C d lo hi := by
  have h1 := h.gl
  have h2 := h.gV
  have h3 := h.hV
  exact ⟨ht.below h.bel (fun i hi => by have := hT i hi; omega), hc, h.r2.turn ht (fun hi => by have := hT _ hi; omega), h.r3.turn ht (fun hi => by have := hT _ hi; omega), h.r4.turn ht (fun hi => by have := hT _ hi; omega), h.vg.turn ht (fun hi => by have := hT _ hi; omega), h.vj.turn ht (fun hi => by have := hT _ hi; omega), (keepsG gd).turn h.grp ht (fun b hb hi => by have h5 := hT b hi; have h6 := hb.1; have h7 := hb.2; omega), (keepsS9 d).turn h.jr ht (fun b hb hi => by have h5 := hT b hi; have h6 := hb.1; have h7 := hb.2; omega), h1, h2, h3⟩
/-- And the record. -/
structure DNB (w wr : World) (g : Nat) (A : Option Addr) (n cap VG VJ : Nat) (gd : GrpD) (G C : Array Value) (d : JourD) (lo hi VR : Nat) (r : RecD) (u : Value) (F : Nat → Prop) : Prop where
  o : DNA w wr g A n cap VG VJ gd G C d lo hi
  vr : Box wr VR 46 (r.cells u)
  rc : RowC r.ps wr F u
  len : r.ps.length ≤ 21
  hR : VJ < VR
  hF : ∀ b, F b → VJ < b ∧ b ≠ VR ∧ b < wr.heap.size
theorem DNB.turn {w wr w' : World} {g : Nat} {A : Option Addr} {n cap VG VJ : Nat} {gd : GrpD} {G C : Array Value} {d : JourD} {lo hi : Nat} {VR : Nat} {r : RecD} {u : Value} {F : Nat → Prop} {T : Nat → Prop} (h : DNB w wr g A n cap VG VJ gd G C d lo hi VR r u F) (ht : Turns T wr w') (hc : Cur w' 169 .i64 g A n cap) (hT : ∀ b, T b → b = g ∨ wr.heap.size ≤ b) (hlh : lo ≤ VG) : DNB w w' g A n cap VG VJ gd G C d lo hi VR r u F := by
  have h1 := h.hR
  have h2 := h.o.gV
  have h3 := h.o.hV
  have h4 := h.vr.lt
  have h5 := h.o.vj.lt
  exact ⟨h.o.turn ht hc (fun b hb => by have := hT b hb; omega) hlh, h.vr.turn ht (fun hb => by have := hT _ hb; omega), (keepsRow _).turn h.rc ht (fun b hb e => by have := hT b e; have := h.hF b hb; omega), h.len, h1, fun b hb => by have := h.hF b hb; have := ht.size; omega⟩
/-- The record is laid into its variable. -/
theorem dnb_put {w wr : World} {g : Nat} {A : Option Addr} {n cap VG VJ : Nat} {gd : GrpD} {G C : Array Value} {d : JourD} {lo hi : Nat} {VR : Nat} {r : RecD} {u : Value} {F : Nat → Prop} {C0 : Array Value} (h : DNA w wr g A n cap VG VJ gd G C d lo hi) (hB : Box wr VR 46 C0) (hL : RowC r.ps wr F u) (hl : r.ps.length ≤ 21) (hR : VJ < VR) (hF : ∀ b, F b → VJ < b ∧ b ≠ VR ∧ b < wr.heap.size) (hlh : lo ≤ VG) :
    DNB w (wr.setRow VR (r.cells u)) g A n cap VG VJ gd G C d lo hi VR r u F := by
  have ht := turns_setRow wr VR (r.cells u)
  have hg : wr.grownBy (wr.setRow VR (r.cells u)) (some VR) := ⟨ht.os, ht.tape, ht.output, ht.size, fun i hi hne => ht.block i hi (fun e => hne (by rw [e]))⟩
  have h2 := h.gV
  have h3 := h.hV
  exact ⟨h.turn ht (h.cur.kept hg (fun q hq => by injection hq with hq; omega)) (fun b hb => by omega) hlh, hB.setRow _, (keepsRow _).turn hL ht (fun b hb e => (hF b hb).2.1 e), hl, hR, fun b hb => by have := hF b hb; rw [size_setRow]; exact this⟩
/-- The record is bent: what was kept is kept. -/
theorem DNB.bent {w wr w' : World} {g : Nat} {A : Option Addr} {n cap VG VJ : Nat} {gd : GrpD} {G C : Array Value} {d : JourD} {lo hi : Nat} {VR : Nat} {r : RecD} {u : Value} {F : Nat → Prop} (h : DNB w wr g A n cap VG VJ gd G C d lo hi VR r u F) (ht : Turns (fun b => b = g ∨ F b) wr w') (hc : Cur w' 169 .i64 g A n cap) (hlh : lo ≤ VG) : DNA w w' g A n cap VG VJ gd G C d lo hi ∧ Box w' VR 46 (r.cells u) := by
  have h1 := h.hR
  have h2 := h.o.gV
  have h3 := h.o.hV
  exact ⟨h.o.turn ht hc (fun b hb => by rcases hb with e | e; exact .inl e; exact .inr (h.hF b e).1) hlh, h.vr.turn ht (fun hb => by rcases hb with e | e; omega; exact (h.hF _ e).2.1 rfl)⟩

set_option maxRecDepth 100000 in
set_option maxHeartbeats 16000000 in
theorem drawNoted_any (A : Option Addr) (n cap : Nat) (w : World) (hn : n ≤ 4096) (hB : Bytes w w.heap.size A n) :
    Calls Tryz.prog 21 #[.slice A n cap] w (MadeDN w) := by
  have hb0 := bel_trans (bel_trans (bel_alloc w (.cells #[.int .i64 0, .int .i64 0, .int .i64 0, .int .i64 0, .slice none 0 0] 26)) (bel_alloc _ (.cells #[.slice none 0 0, .slice none 0 0] 29))) (bel_alloc _ (.cells #[.int .i64 0, .int .i64 0] 39))
  have R2 := ((Box.new w 26 #[.int .i64 0, .int .i64 0, .int .i64 0, .int .i64 0, .slice none 0 0]).alloc (.cells #[.slice none 0 0, .slice none 0 0] 29)).alloc (.cells #[.int .i64 0, .int .i64 0] 39)
  have R3 := (Box.new (w.alloc (.cells #[.int .i64 0, .int .i64 0, .int .i64 0, .int .i64 0, .slice none 0 0] 26)) 29 #[.slice none 0 0, .slice none 0 0]).alloc (.cells #[.int .i64 0, .int .i64 0] 39)
  have R4 := Box.new ((w.alloc (.cells #[.int .i64 0, .int .i64 0, .int .i64 0, .int .i64 0, .slice none 0 0] 26)).alloc (.cells #[.slice none 0 0, .slice none 0 0] 29)) 39 #[.int .i64 0, .int .i64 0]
  simp only [World.size_alloc] at R3 R4
  have HB := Lib.hid hB
  clear hB
  go_enter Tryz.func21, Tryz.ntmps21
  go_upto_region 1 with fail
  generalize (((w.alloc _).alloc _).alloc _ : World) = w0 at hb0 R2 R3 R4 ⊢
  have hR4 := R4.lt
  go_wp2_with fail
  refine (l1New_any A n cap w0 hn ((HB.out.below hb0 (Nat.le_refl _)).more hb0.size)).mono ?_
  rintro e w1 ⟨g, hg, rfl, hc1, hb1⟩
  replace R2 := R2.later hb1 R2.lt
  replace R3 := R3.later hb1 R3.lt
  replace R4 := R4.later hb1 R4.lt
  replace hb0 := bel_trans hb0 hb1
  have hgl1 := hc1.lt
  have hgw : w.heap.size + 2 < g := Nat.lt_of_lt_of_le hR4 hg
  clear hb1 HB hn
  go_wp2_with fail
  refine (l10DrawAny_any g A n cap w1 hc1).mono ?_
  rintro e w2 ⟨G, C, gd, d, rfl, hG, hJ, hok, hsk, hsl, hc2, hg2⟩
  replace R2 := R2.kept hg2 (by intro e; injection e with e; omega)
  replace R3 := R3.kept hg2 (by intro e; injection e with e; omega)
  replace R4 := R4.kept hg2 (by intro e; injection e with e; omega)
  have E2 := bel_grown hb0 hg2 (by omega)
  have hs2 := hg2.size
  clear hc1 hb0 hg2
  obtain ⟨u1, u2, eC, l1, l2⟩ := hJ
  injection eC with eC
  subst eC
  obtain ⟨A1, c1, rfl, -, -⟩ := l1.at
  obtain ⟨A2, c2, rfl, -, -⟩ := l2.at
  have hJ : AtS9 d w2 (w1.heap.size ≤ ·) (.agg #[.slice A1 d.ks.length c1, .slice A2 d.ls.length c2]) := ⟨_, _, rfl, l1, l2⟩
  clear l1 l2
  obtain ⟨p1, p2, p3, p4, p5, p6⟩ := okB_parts hok
  obtain ⟨hh1, hh4⟩ := okB_sh hok
  have hzl := okB_len9 hok
  obtain ⟨GA, gn, gc, eG, hgm, hgr⟩ := hG
  injection eG with eG
  subst eG
  have hgn : gd.zs.length = gn := hgr.1.1
  obtain ⟨q, o, rfl, -, -⟩ := hgr.1.2 (by omega)
  have hG : AtG gd w2 (w1.heap.size ≤ ·) (.agg #[.int .i64 gd.s, .int .i64 gd.l, .int .i64 gd.c, .int .i64 gd.sh, .slice (some ⟨q, o, none⟩) gn gc]) := ⟨_, _, _, rfl, hgm, hgr⟩
  have hql : w1.heap.size ≤ q := hgr.2 (by omega) q o rfl
  clear hgr
  have e0 := bel_trans (bel_alloc w2 (.cells #[.int .i64 0, .int .i64 0, .int .i64 0, .int .i64 0, .slice none 0 0] 26)) (bel_alloc _ (.cells #[.slice none 0 0, .slice none 0 0] 29))
  have V2 := (Box.new w2 26 #[.int .i64 0, .int .i64 0, .int .i64 0, .int .i64 0, .slice none 0 0]).alloc (.cells #[.slice none 0 0, .slice none 0 0] 29)
  have V3 := Box.new (w2.alloc (.cells #[.int .i64 0, .int .i64 0, .int .i64 0, .int .i64 0, .slice none 0 0] 26)) 29 #[.slice none 0 0, .slice none 0 0]
  simp only [World.size_alloc] at V3
  have t1 := turns_setRow ((w2.alloc (.cells #[.int .i64 0, .int .i64 0, .int .i64 0, .int .i64 0, .slice none 0 0] 26)).alloc (.cells #[.slice none 0 0, .slice none 0 0] 29)) w2.heap.size #[.int .i64 gd.s, .int .i64 gd.l, .int .i64 gd.c, .int .i64 gd.sh, .slice (some ⟨q, o, none⟩) gn gc]
  have t2 := turns_setRow (((w2.alloc (.cells #[.int .i64 0, .int .i64 0, .int .i64 0, .int .i64 0, .slice none 0 0] 26)).alloc (.cells #[.slice none 0 0, .slice none 0 0] 29)).setRow w2.heap.size #[.int .i64 gd.s, .int .i64 gd.l, .int .i64 gd.c, .int .i64 gd.sh, .slice (some ⟨q, o, none⟩) gn gc]) (w2.heap.size + 1) #[.slice A1 d.ks.length c1, .slice A2 d.ls.length c2]
  have X3 := V3.turn t1 (by omega)
  have hbw := t2.below (t1.below e0 (fun i hi => by omega)) (fun i hi => by omega)
  have hgV := hc2.lt
  have K : DNA w ((((w2.alloc (.cells #[.int .i64 0, .int .i64 0, .int .i64 0, .int .i64 0, .slice none 0 0] 26)).alloc (.cells #[.slice none 0 0, .slice none 0 0] 29)).setRow w2.heap.size #[.int .i64 gd.s, .int .i64 gd.l, .int .i64 gd.c, .int .i64 gd.sh, .slice (some ⟨q, o, none⟩) gn gc]).setRow (w2.heap.size + 1) #[.slice A1 d.ks.length c1, .slice A2 d.ls.length c2]) g A n cap w2.heap.size (w2.heap.size + 1) gd #[.int .i64 gd.s, .int .i64 gd.l, .int .i64 gd.c, .int .i64 gd.sh, .slice (some ⟨q, o, none⟩) gn gc] #[.slice A1 d.ks.length c1, .slice A2 d.ls.length c2] d w1.heap.size w2.heap.size := ⟨bel_trans E2 hbw, hc2.kept (grown_bel hbw none) (fun q hq => by cases hq), R2.later hbw R2.lt, R3.later hbw R3.lt, R4.later hbw R4.lt, (V2.setRow #[.int .i64 gd.s, .int .i64 gd.l, .int .i64 gd.c, .int .i64 gd.sh, .slice (some ⟨q, o, none⟩) gn gc]).turn t2 (by omega), X3.setRow _, (keepsG gd).later hG.lt hbw, (keepsS9 d).later hJ.lt hbw, by omega, hgl1, ⟨Nat.le_refl _, by omega⟩⟩
  go_upto_region 3 with (first | (refine wpList_store_row rfl 26 _ _ rfl w2.heap.size _ rfl rfl 26 _ V2 (by kernel_rfl) rfl (by simp [Value.oneCell']) ?_) | (refine wpList_store_row rfl 29 _ _ rfl (w2.heap.size + 1) _ rfl rfl 29 _ X3 (by kernel_rfl) rfl (by simp [Value.oneCell']) ?_))
  clear V2 V3 X3 e0 t1 t2 hbw hG hJ hc2 E2 R2 R3 R4
  generalize ((((w2.alloc _).alloc _).setRow _ _).setRow _ _ : World) = w3 at K ⊢
  have hlh : w1.heap.size ≤ w2.heap.size := hs2
  generalize w2.heap.size = vg at K hlh hgV ⊢
  generalize w1.heap.size = lo at K hlh hgl1 hql ⊢
  try simp only [Act.put]
  go_wp2_with (refine wpList_load_box 26 _ rfl vg rfl 26 #[.int .i64 gd.s, .int .i64 gd.l, .int .i64 gd.c, .int .i64 gd.sh, .slice (some ⟨q, o, none⟩) gn gc] K.vg _ Tryz.underlying26 rfl (by kernel_rfl) (by first | rfl | simp [Region.wanted, yielded] | (simp [Region.wanted, yielded, Act.put] <;> omega)) ?_)
  refine (l9Draw_any g A n cap gd.s gd.l gd.c gd.sh q o gn gc gd.zs 1 w3 hgm (by omega) (by omega) (by omega) (by omega) (by omega) (by omega) K.cur (rowG_of K.grp) (by omega)).mono ?_
  rintro e w4 ⟨CR, r, rfl, hL, hrl, hc4, hg4⟩
  have hvj := K.vj.lt
  replace K := K.turn (Turns.of_grown hg4) hc4 (fun b hb => .inl hb) hlh
  clear hc4 hg4
  obtain ⟨u, eu, hL⟩ := hL
  injection eu with eu
  subst eu
  have hbn := bel_alloc w4 (.cells #[.int .i64 0, .int .i64 0, .int .i64 0, .int .i64 0, .int .i64 0, .int .i64 0, .int .i64 0, .slice none 0 0, .int .i64 0] 46)
  have ZB := Box.new w4 46 #[.int .i64 0, .int .i64 0, .int .i64 0, .int .i64 0, .int .i64 0, .int .i64 0, .int .i64 0, .slice none 0 0, .int .i64 0]
  have hw4 := K.vj.lt
  replace K := K.turn (Turns.of_below (T := fun _ => False) hbn) (K.cur.kept (grown_bel hbn none) (fun q hq => by cases hq)) (fun b hb => hb.elim) hlh
  replace hL := (keepsRow r.ps).later hL hbn
  have KB := dnb_put (F := Iv w3.heap.size w4.heap.size) K ZB hL (by omega) hw4 (fun b hb => by have h1 := hb.1; have h2 := hb.2; exact ⟨by omega, by omega, by simp only [World.size_alloc]; omega⟩) hlh
  have IS := Lib.hid (show (Tryz.prog.info? 46).map (·.size) = some (r.cells u).size from by kernel_rfl)
  obtain ⟨ua, un, uc, eu⟩ := rowC_form hL
  subst eu
  go_upto_region 4 with (refine wpList_store_row rfl 46 _ _ rfl w4.heap.size _ rfl rfl 46 #[.int .i64 0, .int .i64 0, .int .i64 0, .int .i64 0, .int .i64 0, .int .i64 0, .int .i64 0, .slice none 0 0, .int .i64 0] ZB (by kernel_rfl) rfl (by simp [RecD.cells, Value.oneCell']) ?_)
  clear K ZB hbn hL
  generalize ((w4.alloc _).setRow _ _ : World) = w5 at KB ⊢
  generalize (Iv w3.heap.size w4.heap.size) = F at KB
  generalize w4.heap.size = vr at KB hw4 ⊢
  try simp only [Act.put]
  go_wp2_with fail
  refine (l1Once_any g A n cap 6 w5 (by omega) KB.o.cur).mono ?_
  rintro e w6 ⟨b6, rfl, hc6, hg6⟩
  replace KB := KB.turn (Turns.of_grown hg6) hc6 (fun b hb => .inl hb) hlh
  clear hg6 hc6
  cases b6
  · skip
    go_upto_region 6 with fail
    refine wp_region_sink 22 (fun w' => Box w' vg 26 #[.int .i64 gd.s, .int .i64 gd.l, .int .i64 gd.c, .int .i64 gd.sh, .slice (some ⟨q, o, none⟩) gn gc] ∧ Box w' (vg + 1) 29 #[.slice A1 d.ks.length c1, .slice A2 d.ls.length c2] ∧ Box w' vr 46 (r.cells (.slice ua un uc))) (by kernel_rfl) ⟨KB.o.vg, KB.o.vj, KB.vr⟩ (fun hH => ?_)
    have hdw := (Below.refl w6.heap.size w6).drew
    replace KB := KB.turn (Turns.of_below (T := fun _ => False) hdw) (KB.o.cur.kept (grown_bel hdw none) (fun q hq => by cases hq)) (fun b hb => hb.elim) hlh
    clear hdw
    generalize w6.drew = wz at KB hH ⊢
    refine wpAnyE_takeS (i := 0) (v := .agg #[.int .i64 gd.s, .int .i64 gd.l, .int .i64 gd.c, .int .i64 gd.sh, .slice (some ⟨q, o, none⟩) gn gc]) (by simp only [List.getElem?_toArray, List.getElem?_cons_zero]; rfl) (by kernel_rfl) (by kernel_rfl) (by kernel_rfl) (by exact fun _ _ _ h => h) (by kernel_rfl) ?yfg hH ?_
    case yfg => exact yields_box 26 _ rfl (vg) rfl 26 #[.int .i64 gd.s, .int .i64 gd.l, .int .i64 gd.c, .int .i64 gd.sh, .slice (some ⟨q, o, none⟩) gn gc] (fun _ h => h.1) _ Tryz.underlying26 rfl (by kernel_rfl) (by first | rfl | simp [Region.wanted, yielded] | (simp [Region.wanted, yielded, Act.put] <;> omega))
    try simp only [Act.put, List.setIfInBounds_toArray, List.set_cons_zero, List.set_cons_succ]
    refine wpAnyE_takeS (i := 1) (v := .agg #[.slice A1 d.ks.length c1, .slice A2 d.ls.length c2]) (by simp only [List.getElem?_toArray, List.getElem?_cons_succ, List.getElem?_cons_zero]; rfl) (by kernel_rfl) (by kernel_rfl) (by kernel_rfl) (by exact fun _ _ _ h => h) (by kernel_rfl) ?yfj hH ?_
    case yfj => exact yields_box 29 _ rfl ((vg + 1)) rfl 29 #[.slice A1 d.ks.length c1, .slice A2 d.ls.length c2] (fun _ h => h.2.1) _ Tryz.underlying29 rfl (by kernel_rfl) (by first | rfl | simp [Region.wanted, yielded] | (simp [Region.wanted, yielded, Act.put] <;> omega))
    try simp only [Act.put, List.setIfInBounds_toArray, List.set_cons_zero, List.set_cons_succ]
    refine wpAnyE_pure (i := 2) (v := ?vfp2) (by simp only [List.getElem?_toArray, List.getElem?_cons_succ, List.getElem?_cons_zero]; rfl) (by kernel_rfl) (by kernel_rfl) (by kernel_rfl) (by exact fun _ _ _ h => h) (by kernel_rfl) (Or.inl ⟨by rfl, ?yfp2⟩) hH ?rfp2
    case yfp2 => (intro w' hSw; (try dsimp only at hSw); go_simp; try with_reducible rfl)
    try simp only [Act.put, List.setIfInBounds_toArray, List.set_cons_zero, List.set_cons_succ]
    refine wpAnyE_takeS (i := 3) (v := (.int .i64 r.r2)) (by simp only [List.getElem?_toArray, List.getElem?_cons_succ, List.getElem?_cons_zero]; rfl) (by kernel_rfl) (by kernel_rfl) (by kernel_rfl) (by exact fun _ _ _ h => h) (by kernel_rfl) ?yf2 hH ?_
    case yf2 => exact .inl ⟨(by first | rfl | simp [Region.wanted, yielded] | (simp [Region.wanted, yielded, Act.put] <;> omega)), fun w' hSw => by (obtain ⟨c0, c1, c2, c3, c4, c5, c6, c7, c8⟩ := Box.nine hSw.2.2; clear hSw; go_simp; try with_reducible rfl)⟩
    try simp only [Act.put, List.setIfInBounds_toArray, List.set_cons_zero, List.set_cons_succ]
    refine wpAnyE_pure (i := 4) (v := ?vfp4) (by simp only [List.getElem?_toArray, List.getElem?_cons_succ, List.getElem?_cons_zero]; rfl) (by kernel_rfl) (by kernel_rfl) (by kernel_rfl) (by exact fun _ _ _ h => h) (by kernel_rfl) (Or.inl ⟨by rfl, ?yfp4⟩) hH ?rfp4
    case yfp4 => (intro w' hSw; (try dsimp only at hSw); go_simp; try with_reducible rfl)
    try simp only [Act.put, List.setIfInBounds_toArray, List.set_cons_zero, List.set_cons_succ]
    refine wpAnyE_takeS (i := 5) (v := (.int .i64 r.r3)) (by simp only [List.getElem?_toArray, List.getElem?_cons_succ, List.getElem?_cons_zero]; rfl) (by kernel_rfl) (by kernel_rfl) (by kernel_rfl) (by exact fun _ _ _ h => h) (by kernel_rfl) ?yf4 hH ?_
    case yf4 => exact .inl ⟨(by first | rfl | simp [Region.wanted, yielded] | (simp [Region.wanted, yielded, Act.put] <;> omega)), fun w' hSw => by (obtain ⟨c0, c1, c2, c3, c4, c5, c6, c7, c8⟩ := Box.nine hSw.2.2; clear hSw; go_simp; try with_reducible rfl)⟩
    try simp only [Act.put, List.setIfInBounds_toArray, List.set_cons_zero, List.set_cons_succ]
    refine wpAnyE_pure (i := 6) (v := ?vfp6) (by simp only [List.getElem?_toArray, List.getElem?_cons_succ, List.getElem?_cons_zero]; rfl) (by kernel_rfl) (by kernel_rfl) (by kernel_rfl) (by exact fun _ _ _ h => h) (by kernel_rfl) (Or.inl ⟨by rfl, ?yfp6⟩) hH ?rfp6
    case yfp6 => (intro w' hSw; (try dsimp only at hSw); go_simp; try with_reducible rfl)
    try simp only [Act.put, List.setIfInBounds_toArray, List.set_cons_zero, List.set_cons_succ]
    refine wpAnyE_takeS (i := 7) (v := (.int .i64 r.r4)) (by simp only [List.getElem?_toArray, List.getElem?_cons_succ, List.getElem?_cons_zero]; rfl) (by kernel_rfl) (by kernel_rfl) (by kernel_rfl) (by exact fun _ _ _ h => h) (by kernel_rfl) ?yf6 hH ?_
    case yf6 => exact .inl ⟨(by first | rfl | simp [Region.wanted, yielded] | (simp [Region.wanted, yielded, Act.put] <;> omega)), fun w' hSw => by (obtain ⟨c0, c1, c2, c3, c4, c5, c6, c7, c8⟩ := Box.nine hSw.2.2; clear hSw; go_simp; try with_reducible rfl)⟩
    try simp only [Act.put, List.setIfInBounds_toArray, List.set_cons_zero, List.set_cons_succ]
    refine wpAnyE_pure (i := 8) (v := ?vfp8) (by simp only [List.getElem?_toArray, List.getElem?_cons_succ, List.getElem?_cons_zero]; rfl) (by kernel_rfl) (by kernel_rfl) (by kernel_rfl) (by exact fun _ _ _ h => h) (by kernel_rfl) (Or.inl ⟨by rfl, ?yfp8⟩) hH ?rfp8
    case yfp8 => (intro w' hSw; (try dsimp only at hSw); go_simp; try with_reducible rfl)
    try simp only [Act.put, List.setIfInBounds_toArray, List.set_cons_zero, List.set_cons_succ]
    refine wpAnyE_takeS (i := 9) (v := (.agg #[.int .i64 r.r5, .int .i64 r.r6])) (by simp only [List.getElem?_toArray, List.getElem?_cons_succ, List.getElem?_cons_zero]; rfl) (by kernel_rfl) (by kernel_rfl) (by kernel_rfl) (by exact fun _ _ _ h => h) (by kernel_rfl) ?yf8 hH ?_
    case yf8 => exact .inl ⟨(by first | rfl | simp [Region.wanted, yielded] | (simp [Region.wanted, yielded, Act.put] <;> omega)), fun w' hSw => by (obtain ⟨c0, c1, c2, c3, c4, c5, c6, c7, c8⟩ := Box.nine hSw.2.2; clear hSw; go_simp; try with_reducible rfl)⟩
    try simp only [Act.put, List.setIfInBounds_toArray, List.set_cons_zero, List.set_cons_succ]
    refine wpAnyE_pure (i := 10) (v := ?vfp10) (by simp only [List.getElem?_toArray, List.getElem?_cons_succ, List.getElem?_cons_zero]; rfl) (by kernel_rfl) (by kernel_rfl) (by kernel_rfl) (by exact fun _ _ _ h => h) (by kernel_rfl) (Or.inl ⟨by rfl, ?yfp10⟩) hH ?rfp10
    case yfp10 => (intro w' hSw; (try dsimp only at hSw); go_simp; try with_reducible rfl)
    try simp only [Act.put, List.setIfInBounds_toArray, List.set_cons_zero, List.set_cons_succ]
    refine wpAnyE_takeS (i := 11) (v := (.int .i64 r.r7)) (by simp only [List.getElem?_toArray, List.getElem?_cons_succ, List.getElem?_cons_zero]; rfl) (by kernel_rfl) (by kernel_rfl) (by kernel_rfl) (by exact fun _ _ _ h => h) (by kernel_rfl) ?yf10 hH ?_
    case yf10 => exact .inl ⟨(by first | rfl | simp [Region.wanted, yielded] | (simp [Region.wanted, yielded, Act.put] <;> omega)), fun w' hSw => by (obtain ⟨c0, c1, c2, c3, c4, c5, c6, c7, c8⟩ := Box.nine hSw.2.2; clear hSw; go_simp; try with_reducible rfl)⟩
    try simp only [Act.put, List.setIfInBounds_toArray, List.set_cons_zero, List.set_cons_succ]
    refine wpAnyE_pure (i := 12) (v := ?vfp12) (by simp only [List.getElem?_toArray, List.getElem?_cons_succ, List.getElem?_cons_zero]; rfl) (by kernel_rfl) (by kernel_rfl) (by kernel_rfl) (by exact fun _ _ _ h => h) (by kernel_rfl) (Or.inl ⟨by rfl, ?yfp12⟩) hH ?rfp12
    case yfp12 => (intro w' hSw; (try dsimp only at hSw); go_simp; try with_reducible rfl)
    try simp only [Act.put, List.setIfInBounds_toArray, List.set_cons_zero, List.set_cons_succ]
    refine wpAnyE_takeS (i := 13) (v := (.slice ua un uc)) (by simp only [List.getElem?_toArray, List.getElem?_cons_succ, List.getElem?_cons_zero]; rfl) (by kernel_rfl) (by kernel_rfl) (by kernel_rfl) (by exact fun _ _ _ h => h) (by kernel_rfl) ?yf12 hH ?_
    case yf12 => exact .inl ⟨(by first | rfl | simp [Region.wanted, yielded] | (simp [Region.wanted, yielded, Act.put] <;> omega)), fun w' hSw => by (obtain ⟨c0, c1, c2, c3, c4, c5, c6, c7, c8⟩ := Box.nine hSw.2.2; clear hSw; go_simp; try with_reducible rfl)⟩
    try simp only [Act.put, List.setIfInBounds_toArray, List.set_cons_zero, List.set_cons_succ]
    have k1 := KB.o.gl
    have k2 := KB.o.gV
    have k3 := KB.o.hV
    have k4 := KB.hR
    have t1 := turns_setRow wz w.heap.size #[.int .i64 gd.s, .int .i64 gd.l, .int .i64 gd.c, .int .i64 gd.sh, .slice (some ⟨q, o, none⟩) gn gc]
    have t2 := turns_setRow (wz.setRow w.heap.size #[.int .i64 gd.s, .int .i64 gd.l, .int .i64 gd.c, .int .i64 gd.sh, .slice (some ⟨q, o, none⟩) gn gc]) (w.heap.size + 1) #[.slice A1 d.ks.length c1, .slice A2 d.ls.length c2]
    have t3 := turns_setRow ((wz.setRow w.heap.size #[.int .i64 gd.s, .int .i64 gd.l, .int .i64 gd.c, .int .i64 gd.sh, .slice (some ⟨q, o, none⟩) gn gc]).setRow (w.heap.size + 1) #[.slice A1 d.ks.length c1, .slice A2 d.ls.length c2]) (w.heap.size + 1 + 1) #[.int .i64 r.r5, .int .i64 r.r6]
    have v1 := KB.o.vg.turn t1 (by omega)
    have v2 := v1.turn t2 (by omega)
    have v3 := v2.turn t3 (by omega)
    have j1 := KB.o.vj.turn t1 (by omega)
    have j2 := j1.turn t2 (by omega)
    have j3 := j2.turn t3 (by omega)
    have r1 := KB.vr.turn t1 (by omega)
    have r2 := r1.turn t2 (by omega)
    have r3 := r2.turn t3 (by omega)
    have y3 := KB.o.r3.turn t1 (by omega)
    have y4 := (KB.o.r4.turn t1 (by omega)).turn t2 (by omega)
    refine wpAnyE_one (i := 14) (by kernel_rfl) (by simp only [List.getElem?_toArray, List.getElem?_cons_succ, List.getElem?_cons_zero]; rfl) (fun K0 hK => ?_)
    rw [if_pos (by first | rfl | kernel_rfl | simp [Region.wanted, yielded])]
    refine wp_store_row 26 _ _ rfl w.heap.size #[.int .i64 gd.s, .int .i64 gd.l, .int .i64 gd.c, .int .i64 gd.sh, .slice (some ⟨q, o, none⟩) gn gc] rfl rfl 26 #[.int .i64 0, .int .i64 0, .int .i64 0, .int .i64 0, .slice none 0 0] KB.o.r2 (by kernel_rfl) rfl (by simp [Value.oneCell']) ?_
    clear hH
    refine hK.out _ _ ⟨v1, j1, r1⟩ (fun hH => ?_)
    clear hK K0
    try simp only [Act.put]
    refine wpAnyE_one (i := 15) (by kernel_rfl) (by simp only [List.getElem?_toArray, List.getElem?_cons_succ, List.getElem?_cons_zero]; rfl) (fun K0 hK => ?_)
    rw [if_pos (by first | rfl | kernel_rfl | simp [Region.wanted, yielded])]
    refine wp_store_row 29 _ _ rfl (w.heap.size + 1) #[.slice A1 d.ks.length c1, .slice A2 d.ls.length c2] rfl rfl 29 #[.slice none 0 0, .slice none 0 0] y3 (by kernel_rfl) rfl (by simp [Value.oneCell']) ?_
    clear hH
    refine hK.out _ _ ⟨v2, j2, r2⟩ (fun hH => ?_)
    clear hK K0
    try simp only [Act.put]
    refine wpAnyE_pure (i := 16) (v := ?vfa16) (by simp only [List.getElem?_toArray, List.getElem?_cons_succ, List.getElem?_cons_zero]; rfl) (by kernel_rfl) (by kernel_rfl) (by kernel_rfl) (by exact fun _ _ _ h => h) (by kernel_rfl) (Or.inl ⟨by rfl, ?yfa16⟩) hH ?rfa16
    case yfa16 => (intro w' hSw; (try dsimp only at hSw); go_simp; try with_reducible rfl)
    try simp only [Act.put, List.setIfInBounds_toArray, List.set_cons_zero, List.set_cons_succ]
    refine wpAnyE_pure (i := 17) (v := ?vfa17) (by simp only [List.getElem?_toArray, List.getElem?_cons_succ, List.getElem?_cons_zero]; rfl) (by kernel_rfl) (by kernel_rfl) (by kernel_rfl) (by exact fun _ _ _ h => h) (by kernel_rfl) (Or.inl ⟨by rfl, ?yfa17⟩) hH ?rfa17
    case yfa17 => (intro w' hSw; (try dsimp only at hSw); go_simp; try with_reducible rfl)
    try simp only [Act.put, List.setIfInBounds_toArray, List.set_cons_zero, List.set_cons_succ]
    refine wpAnyE_pure (i := 18) (v := ?vfa18) (by simp only [List.getElem?_toArray, List.getElem?_cons_succ, List.getElem?_cons_zero]; rfl) (by kernel_rfl) (by kernel_rfl) (by kernel_rfl) (by exact fun _ _ _ h => h) (by kernel_rfl) (Or.inl ⟨by rfl, ?yfa18⟩) hH ?rfa18
    case yfa18 => (intro w' hSw; (try dsimp only at hSw); go_simp; try with_reducible rfl)
    try simp only [Act.put, List.setIfInBounds_toArray, List.set_cons_zero, List.set_cons_succ]
    refine wpAnyE_one (i := 19) (by kernel_rfl) (by simp only [List.getElem?_toArray, List.getElem?_cons_succ, List.getElem?_cons_zero]; rfl) (fun K0 hK => ?_)
    rw [if_pos (by first | rfl | kernel_rfl | simp [Region.wanted, yielded])]
    refine wp_store_row 39 _ _ rfl (w.heap.size + 1 + 1) #[.int .i64 r.r5, .int .i64 r.r6] rfl rfl 39 #[.int .i64 0, .int .i64 0] y4 (by kernel_rfl) rfl (by simp [Value.oneCell']) ?_
    clear hH
    refine hK.out _ _ ⟨v3, j3, r3⟩ (fun hH => ?_)
    clear hK K0
    try simp only [Act.put]
    refine wpAnyE_pure (i := 20) (v := ?vfa20) (by simp only [List.getElem?_toArray, List.getElem?_cons_succ, List.getElem?_cons_zero]; rfl) (by kernel_rfl) (by kernel_rfl) (by kernel_rfl) (by exact fun _ _ _ h => h) (by kernel_rfl) (Or.inl ⟨by rfl, ?yfa20⟩) hH ?rfa20
    case yfa20 => (intro w' hSw; (try dsimp only at hSw); go_simp; try with_reducible rfl)
    try simp only [Act.put, List.setIfInBounds_toArray, List.set_cons_zero, List.set_cons_succ]
    refine wpAnyE_end (i := 21) (by kernel_rfl) (by simp only [List.getElem?_toArray, List.getElem?_cons_succ, List.getElem?_cons_zero]; rfl) (by kernel_rfl) (fun K0 hK => ?_)
    go_simp
    refine hK.out _ _ ⟨v3, j3, r3⟩ ?_
    clear hK K0
    try simp only [Act.put, List.setIfInBounds_toArray, List.set_cons_zero, List.set_cons_succ]
    clear hH v1 v2 v3 j1 j2 j3 r1 r2 r3 y3 y4
    have y2 := ((KB.o.r2.setRow #[.int .i64 gd.s, .int .i64 gd.l, .int .i64 gd.c, .int .i64 gd.sh, .slice (some ⟨q, o, none⟩) gn gc]).turn t2 (by omega)).turn t3 (by omega)
    have y3 := ((KB.o.r3.turn t1 (by omega)).setRow #[.slice A1 d.ks.length c1, .slice A2 d.ls.length c2]).turn t3 (by omega)
    have y4 := ((KB.o.r4.turn t1 (by omega)).turn t2 (by omega)).setRow #[.int .i64 r.r5, .int .i64 r.r6]
    have E := Lib.hid (t3.below (t2.below (t1.below KB.o.bel (fun i hi => by have e : i = w.heap.size := hi; omega)) (fun i hi => by have e : i = w.heap.size + 1 := hi; omega)) (fun i hi => by have e : i = w.heap.size + 1 + 1 := hi; omega))
    have FG := Lib.hid ((keepsG gd).sub (F' := (w.heap.size ≤ ·)) ((keepsG gd).turn ((keepsG gd).turn ((keepsG gd).turn KB.o.grp t1 (fun b hb e => by have := hb.1; omega)) t2 (fun b hb e => by have := hb.1; omega)) t3 (fun b hb e => by have := hb.1; omega)) (fun b hb => by have := hb.1; show w.heap.size ≤ b; omega))
    have FJ := Lib.hid ((keepsS9 d).sub (F' := (w.heap.size ≤ ·)) ((keepsS9 d).turn ((keepsS9 d).turn ((keepsS9 d).turn KB.o.jr t1 (fun b hb e => by have := hb.1; omega)) t2 (fun b hb e => by have := hb.1; omega)) t3 (fun b hb e => by have := hb.1; omega)) (fun b hb => by have := hb.1; show w.heap.size ≤ b; omega))
    have FR := Lib.hid ((keepsRow r.ps).sub (F' := (w.heap.size ≤ ·)) ((keepsRow r.ps).turn ((keepsRow r.ps).turn ((keepsRow r.ps).turn KB.rc t1 (fun b hb e => by have := KB.hF b hb; omega)) t2 (fun b hb e => by have := KB.hF b hb; omega)) t3 (fun b hb e => by have := KB.hF b hb; omega)) (fun b hb => by have := KB.hF b hb; show w.heap.size ≤ b; omega))
    have hlr := KB.len
    clear KB t1 t2 t3
    generalize (((wz.setRow _ _).setRow _ _).setRow _ _ : World) = wy at y2 y3 y4 E FG FJ FR ⊢
    obtain ⟨r0, r1, r2, r3, r4⟩ := y2.five
    obtain ⟨q0, q1⟩ := y3.two
    obtain ⟨s0, s1⟩ := y4.two
    clear y2 y3 y4
    go_wp2
    exact bodyPost_ret (v := .tuple #[.agg #[.int .i64 gd.s, .int .i64 gd.l, .int .i64 gd.c, .int .i64 gd.sh, .slice (some ⟨q, o, none⟩) gn gc], .agg #[.slice A1 d.ks.length c1, .slice A2 d.ls.length c2], .int .i64 r.r2, .int .i64 r.r3, .int .i64 r.r4, .agg #[.int .i64 r.r5, .int .i64 r.r6], .int .i64 r.r7, .slice ua un uc]) (by simp [results, Tryz.results21, go_sem, r0, r1, r2, r3, r4, q0, q1, s0, s1]) rfl ⟨_, _, gd, d, r, _, rfl, FG.out, FJ.out, hok, hsk, hsl, FR.out, hlr, E.out⟩
  · skip
    have hrl20 := hrl
    go_wp2_with (refine wpList_load_box 46 _ rfl vr rfl 46 (r.cells (.slice ua un uc)) KB.vr _ Tryz.underlying46 rfl (by kernel_rfl) (by first | rfl | simp [Region.wanted, yielded] | (simp [Region.wanted, yielded, Act.put] <;> omega)) ?_)
    have k2 := KB.o.gV
    have k3 := KB.o.hV
    have k4 := KB.hR
    have k5 := KB.vr.lt
    refine (l9Bend_any g A n cap F _ r w6 KB.o.cur ⟨_, rfl, KB.rc⟩ hrl20 (fun b hb => by have := KB.hF b hb; exact ⟨by omega, by omega⟩)).mono ?_
    rintro e w7 ⟨CR, r', rfl, hL, hrl', hc7, ht7⟩
    obtain ⟨KA, VB⟩ := KB.bent ht7 hc7 hlh
    obtain ⟨u', eu, hL⟩ := hL
    injection eu with eu
    subst eu
    replace hL := rowC_lt hL
    have KC := dnb_put KA VB hL hrl' k4 (fun b hb => by rcases hb.1 with h | h; (have := KB.hF b h; exact ⟨this.1, this.2.1, hb.2⟩); exact ⟨by omega, by omega, hb.2⟩) hlh
    clear KB KA ht7 hc7
    obtain ⟨ub, um, ud, eu⟩ := rowC_form hL
    subst eu
    clear hL
    go_upto_region 6 with (refine wpList_store_row rfl 46 _ _ rfl vr _ rfl rfl 46 _ VB (by kernel_rfl) rfl (by simp [RecD.cells, Value.oneCell']) ?_)
    clear VB
    generalize (w7.setRow _ _ : World) = w8 at KC ⊢
    obtain ⟨KB, -⟩ : _ ∧ True := ⟨KC, trivial⟩
    clear KC
    clear hrl hrl20 hrl'
    obtain ⟨ua, rfl⟩ : ∃ x, x = ub := ⟨_, rfl⟩
    obtain ⟨un, rfl⟩ : ∃ x, x = um := ⟨_, rfl⟩
    obtain ⟨uc, rfl⟩ : ∃ x, x = ud := ⟨_, rfl⟩
    try simp only [Act.put]
    skip
    refine wp_region_sink 22 (fun w' => Box w' vg 26 #[.int .i64 gd.s, .int .i64 gd.l, .int .i64 gd.c, .int .i64 gd.sh, .slice (some ⟨q, o, none⟩) gn gc] ∧ Box w' (vg + 1) 29 #[.slice A1 d.ks.length c1, .slice A2 d.ls.length c2] ∧ Box w' vr 46 (r'.cells (.slice ua un uc))) (by kernel_rfl) ⟨KB.o.vg, KB.o.vj, KB.vr⟩ (fun hH => ?_)
    have hdw := (Below.refl w8.heap.size w8).drew
    replace KB := KB.turn (Turns.of_below (T := fun _ => False) hdw) (KB.o.cur.kept (grown_bel hdw none) (fun q hq => by cases hq)) (fun b hb => hb.elim) hlh
    clear hdw
    generalize w8.drew = wz at KB hH ⊢
    refine wpAnyE_takeS (i := 0) (v := .agg #[.int .i64 gd.s, .int .i64 gd.l, .int .i64 gd.c, .int .i64 gd.sh, .slice (some ⟨q, o, none⟩) gn gc]) (by simp only [List.getElem?_toArray, List.getElem?_cons_zero]; rfl) (by kernel_rfl) (by kernel_rfl) (by kernel_rfl) (by exact fun _ _ _ h => h) (by kernel_rfl) ?ygg hH ?_
    case ygg => exact yields_box 26 _ rfl (vg) rfl 26 #[.int .i64 gd.s, .int .i64 gd.l, .int .i64 gd.c, .int .i64 gd.sh, .slice (some ⟨q, o, none⟩) gn gc] (fun _ h => h.1) _ Tryz.underlying26 rfl (by kernel_rfl) (by first | rfl | simp [Region.wanted, yielded] | (simp [Region.wanted, yielded, Act.put] <;> omega))
    try simp only [Act.put, List.setIfInBounds_toArray, List.set_cons_zero, List.set_cons_succ]
    refine wpAnyE_takeS (i := 1) (v := .agg #[.slice A1 d.ks.length c1, .slice A2 d.ls.length c2]) (by simp only [List.getElem?_toArray, List.getElem?_cons_succ, List.getElem?_cons_zero]; rfl) (by kernel_rfl) (by kernel_rfl) (by kernel_rfl) (by exact fun _ _ _ h => h) (by kernel_rfl) ?ygj hH ?_
    case ygj => exact yields_box 29 _ rfl ((vg + 1)) rfl 29 #[.slice A1 d.ks.length c1, .slice A2 d.ls.length c2] (fun _ h => h.2.1) _ Tryz.underlying29 rfl (by kernel_rfl) (by first | rfl | simp [Region.wanted, yielded] | (simp [Region.wanted, yielded, Act.put] <;> omega))
    try simp only [Act.put, List.setIfInBounds_toArray, List.set_cons_zero, List.set_cons_succ]
    refine wpAnyE_pure (i := 2) (v := ?vgp2) (by simp only [List.getElem?_toArray, List.getElem?_cons_succ, List.getElem?_cons_zero]; rfl) (by kernel_rfl) (by kernel_rfl) (by kernel_rfl) (by exact fun _ _ _ h => h) (by kernel_rfl) (Or.inl ⟨by rfl, ?ygp2⟩) hH ?rgp2
    case ygp2 => (intro w' hSw; (try dsimp only at hSw); go_simp; try with_reducible rfl)
    try simp only [Act.put, List.setIfInBounds_toArray, List.set_cons_zero, List.set_cons_succ]
    refine wpAnyE_takeS (i := 3) (v := (.int .i64 r'.r2)) (by simp only [List.getElem?_toArray, List.getElem?_cons_succ, List.getElem?_cons_zero]; rfl) (by kernel_rfl) (by kernel_rfl) (by kernel_rfl) (by exact fun _ _ _ h => h) (by kernel_rfl) ?yg2 hH ?_
    case yg2 => exact .inl ⟨(by first | rfl | simp [Region.wanted, yielded] | (simp [Region.wanted, yielded, Act.put] <;> omega)), fun w' hSw => by (obtain ⟨c0, c1, c2, c3, c4, c5, c6, c7, c8⟩ := Box.nine hSw.2.2; clear hSw; go_simp; try with_reducible rfl)⟩
    try simp only [Act.put, List.setIfInBounds_toArray, List.set_cons_zero, List.set_cons_succ]
    refine wpAnyE_pure (i := 4) (v := ?vgp4) (by simp only [List.getElem?_toArray, List.getElem?_cons_succ, List.getElem?_cons_zero]; rfl) (by kernel_rfl) (by kernel_rfl) (by kernel_rfl) (by exact fun _ _ _ h => h) (by kernel_rfl) (Or.inl ⟨by rfl, ?ygp4⟩) hH ?rgp4
    case ygp4 => (intro w' hSw; (try dsimp only at hSw); go_simp; try with_reducible rfl)
    try simp only [Act.put, List.setIfInBounds_toArray, List.set_cons_zero, List.set_cons_succ]
    refine wpAnyE_takeS (i := 5) (v := (.int .i64 r'.r3)) (by simp only [List.getElem?_toArray, List.getElem?_cons_succ, List.getElem?_cons_zero]; rfl) (by kernel_rfl) (by kernel_rfl) (by kernel_rfl) (by exact fun _ _ _ h => h) (by kernel_rfl) ?yg4 hH ?_
    case yg4 => exact .inl ⟨(by first | rfl | simp [Region.wanted, yielded] | (simp [Region.wanted, yielded, Act.put] <;> omega)), fun w' hSw => by (obtain ⟨c0, c1, c2, c3, c4, c5, c6, c7, c8⟩ := Box.nine hSw.2.2; clear hSw; go_simp; try with_reducible rfl)⟩
    try simp only [Act.put, List.setIfInBounds_toArray, List.set_cons_zero, List.set_cons_succ]
    refine wpAnyE_pure (i := 6) (v := ?vgp6) (by simp only [List.getElem?_toArray, List.getElem?_cons_succ, List.getElem?_cons_zero]; rfl) (by kernel_rfl) (by kernel_rfl) (by kernel_rfl) (by exact fun _ _ _ h => h) (by kernel_rfl) (Or.inl ⟨by rfl, ?ygp6⟩) hH ?rgp6
    case ygp6 => (intro w' hSw; (try dsimp only at hSw); go_simp; try with_reducible rfl)
    try simp only [Act.put, List.setIfInBounds_toArray, List.set_cons_zero, List.set_cons_succ]
    refine wpAnyE_takeS (i := 7) (v := (.int .i64 r'.r4)) (by simp only [List.getElem?_toArray, List.getElem?_cons_succ, List.getElem?_cons_zero]; rfl) (by kernel_rfl) (by kernel_rfl) (by kernel_rfl) (by exact fun _ _ _ h => h) (by kernel_rfl) ?yg6 hH ?_
    case yg6 => exact .inl ⟨(by first | rfl | simp [Region.wanted, yielded] | (simp [Region.wanted, yielded, Act.put] <;> omega)), fun w' hSw => by (obtain ⟨c0, c1, c2, c3, c4, c5, c6, c7, c8⟩ := Box.nine hSw.2.2; clear hSw; go_simp; try with_reducible rfl)⟩
    try simp only [Act.put, List.setIfInBounds_toArray, List.set_cons_zero, List.set_cons_succ]
    refine wpAnyE_pure (i := 8) (v := ?vgp8) (by simp only [List.getElem?_toArray, List.getElem?_cons_succ, List.getElem?_cons_zero]; rfl) (by kernel_rfl) (by kernel_rfl) (by kernel_rfl) (by exact fun _ _ _ h => h) (by kernel_rfl) (Or.inl ⟨by rfl, ?ygp8⟩) hH ?rgp8
    case ygp8 => (intro w' hSw; (try dsimp only at hSw); go_simp; try with_reducible rfl)
    try simp only [Act.put, List.setIfInBounds_toArray, List.set_cons_zero, List.set_cons_succ]
    refine wpAnyE_takeS (i := 9) (v := (.agg #[.int .i64 r'.r5, .int .i64 r'.r6])) (by simp only [List.getElem?_toArray, List.getElem?_cons_succ, List.getElem?_cons_zero]; rfl) (by kernel_rfl) (by kernel_rfl) (by kernel_rfl) (by exact fun _ _ _ h => h) (by kernel_rfl) ?yg8 hH ?_
    case yg8 => exact .inl ⟨(by first | rfl | simp [Region.wanted, yielded] | (simp [Region.wanted, yielded, Act.put] <;> omega)), fun w' hSw => by (obtain ⟨c0, c1, c2, c3, c4, c5, c6, c7, c8⟩ := Box.nine hSw.2.2; clear hSw; go_simp; try with_reducible rfl)⟩
    try simp only [Act.put, List.setIfInBounds_toArray, List.set_cons_zero, List.set_cons_succ]
    refine wpAnyE_pure (i := 10) (v := ?vgp10) (by simp only [List.getElem?_toArray, List.getElem?_cons_succ, List.getElem?_cons_zero]; rfl) (by kernel_rfl) (by kernel_rfl) (by kernel_rfl) (by exact fun _ _ _ h => h) (by kernel_rfl) (Or.inl ⟨by rfl, ?ygp10⟩) hH ?rgp10
    case ygp10 => (intro w' hSw; (try dsimp only at hSw); go_simp; try with_reducible rfl)
    try simp only [Act.put, List.setIfInBounds_toArray, List.set_cons_zero, List.set_cons_succ]
    refine wpAnyE_takeS (i := 11) (v := (.int .i64 r'.r7)) (by simp only [List.getElem?_toArray, List.getElem?_cons_succ, List.getElem?_cons_zero]; rfl) (by kernel_rfl) (by kernel_rfl) (by kernel_rfl) (by exact fun _ _ _ h => h) (by kernel_rfl) ?yg10 hH ?_
    case yg10 => exact .inl ⟨(by first | rfl | simp [Region.wanted, yielded] | (simp [Region.wanted, yielded, Act.put] <;> omega)), fun w' hSw => by (obtain ⟨c0, c1, c2, c3, c4, c5, c6, c7, c8⟩ := Box.nine hSw.2.2; clear hSw; go_simp; try with_reducible rfl)⟩
    try simp only [Act.put, List.setIfInBounds_toArray, List.set_cons_zero, List.set_cons_succ]
    refine wpAnyE_pure (i := 12) (v := ?vgp12) (by simp only [List.getElem?_toArray, List.getElem?_cons_succ, List.getElem?_cons_zero]; rfl) (by kernel_rfl) (by kernel_rfl) (by kernel_rfl) (by exact fun _ _ _ h => h) (by kernel_rfl) (Or.inl ⟨by rfl, ?ygp12⟩) hH ?rgp12
    case ygp12 => (intro w' hSw; (try dsimp only at hSw); go_simp; try with_reducible rfl)
    try simp only [Act.put, List.setIfInBounds_toArray, List.set_cons_zero, List.set_cons_succ]
    refine wpAnyE_takeS (i := 13) (v := (.slice ua un uc)) (by simp only [List.getElem?_toArray, List.getElem?_cons_succ, List.getElem?_cons_zero]; rfl) (by kernel_rfl) (by kernel_rfl) (by kernel_rfl) (by exact fun _ _ _ h => h) (by kernel_rfl) ?yg12 hH ?_
    case yg12 => exact .inl ⟨(by first | rfl | simp [Region.wanted, yielded] | (simp [Region.wanted, yielded, Act.put] <;> omega)), fun w' hSw => by (obtain ⟨c0, c1, c2, c3, c4, c5, c6, c7, c8⟩ := Box.nine hSw.2.2; clear hSw; go_simp; try with_reducible rfl)⟩
    try simp only [Act.put, List.setIfInBounds_toArray, List.set_cons_zero, List.set_cons_succ]
    have k1 := KB.o.gl
    have k2 := KB.o.gV
    have k3 := KB.o.hV
    have k4 := KB.hR
    have t1 := turns_setRow wz w.heap.size #[.int .i64 gd.s, .int .i64 gd.l, .int .i64 gd.c, .int .i64 gd.sh, .slice (some ⟨q, o, none⟩) gn gc]
    have t2 := turns_setRow (wz.setRow w.heap.size #[.int .i64 gd.s, .int .i64 gd.l, .int .i64 gd.c, .int .i64 gd.sh, .slice (some ⟨q, o, none⟩) gn gc]) (w.heap.size + 1) #[.slice A1 d.ks.length c1, .slice A2 d.ls.length c2]
    have t3 := turns_setRow ((wz.setRow w.heap.size #[.int .i64 gd.s, .int .i64 gd.l, .int .i64 gd.c, .int .i64 gd.sh, .slice (some ⟨q, o, none⟩) gn gc]).setRow (w.heap.size + 1) #[.slice A1 d.ks.length c1, .slice A2 d.ls.length c2]) (w.heap.size + 1 + 1) #[.int .i64 r'.r5, .int .i64 r'.r6]
    have v1 := KB.o.vg.turn t1 (by omega)
    have v2 := v1.turn t2 (by omega)
    have v3 := v2.turn t3 (by omega)
    have j1 := KB.o.vj.turn t1 (by omega)
    have j2 := j1.turn t2 (by omega)
    have j3 := j2.turn t3 (by omega)
    have r1 := KB.vr.turn t1 (by omega)
    have r2 := r1.turn t2 (by omega)
    have r3 := r2.turn t3 (by omega)
    have y3 := KB.o.r3.turn t1 (by omega)
    have y4 := (KB.o.r4.turn t1 (by omega)).turn t2 (by omega)
    refine wpAnyE_one (i := 14) (by kernel_rfl) (by simp only [List.getElem?_toArray, List.getElem?_cons_succ, List.getElem?_cons_zero]; rfl) (fun K0 hK => ?_)
    rw [if_pos (by first | rfl | kernel_rfl | simp [Region.wanted, yielded])]
    refine wp_store_row 26 _ _ rfl w.heap.size #[.int .i64 gd.s, .int .i64 gd.l, .int .i64 gd.c, .int .i64 gd.sh, .slice (some ⟨q, o, none⟩) gn gc] rfl rfl 26 #[.int .i64 0, .int .i64 0, .int .i64 0, .int .i64 0, .slice none 0 0] KB.o.r2 (by kernel_rfl) rfl (by simp [Value.oneCell']) ?_
    clear hH
    refine hK.out _ _ ⟨v1, j1, r1⟩ (fun hH => ?_)
    clear hK K0
    try simp only [Act.put]
    refine wpAnyE_one (i := 15) (by kernel_rfl) (by simp only [List.getElem?_toArray, List.getElem?_cons_succ, List.getElem?_cons_zero]; rfl) (fun K0 hK => ?_)
    rw [if_pos (by first | rfl | kernel_rfl | simp [Region.wanted, yielded])]
    refine wp_store_row 29 _ _ rfl (w.heap.size + 1) #[.slice A1 d.ks.length c1, .slice A2 d.ls.length c2] rfl rfl 29 #[.slice none 0 0, .slice none 0 0] y3 (by kernel_rfl) rfl (by simp [Value.oneCell']) ?_
    clear hH
    refine hK.out _ _ ⟨v2, j2, r2⟩ (fun hH => ?_)
    clear hK K0
    try simp only [Act.put]
    refine wpAnyE_pure (i := 16) (v := ?vga16) (by simp only [List.getElem?_toArray, List.getElem?_cons_succ, List.getElem?_cons_zero]; rfl) (by kernel_rfl) (by kernel_rfl) (by kernel_rfl) (by exact fun _ _ _ h => h) (by kernel_rfl) (Or.inl ⟨by rfl, ?yga16⟩) hH ?rga16
    case yga16 => (intro w' hSw; (try dsimp only at hSw); go_simp; try with_reducible rfl)
    try simp only [Act.put, List.setIfInBounds_toArray, List.set_cons_zero, List.set_cons_succ]
    refine wpAnyE_pure (i := 17) (v := ?vga17) (by simp only [List.getElem?_toArray, List.getElem?_cons_succ, List.getElem?_cons_zero]; rfl) (by kernel_rfl) (by kernel_rfl) (by kernel_rfl) (by exact fun _ _ _ h => h) (by kernel_rfl) (Or.inl ⟨by rfl, ?yga17⟩) hH ?rga17
    case yga17 => (intro w' hSw; (try dsimp only at hSw); go_simp; try with_reducible rfl)
    try simp only [Act.put, List.setIfInBounds_toArray, List.set_cons_zero, List.set_cons_succ]
    refine wpAnyE_pure (i := 18) (v := ?vga18) (by simp only [List.getElem?_toArray, List.getElem?_cons_succ, List.getElem?_cons_zero]; rfl) (by kernel_rfl) (by kernel_rfl) (by kernel_rfl) (by exact fun _ _ _ h => h) (by kernel_rfl) (Or.inl ⟨by rfl, ?yga18⟩) hH ?rga18
    case yga18 => (intro w' hSw; (try dsimp only at hSw); go_simp; try with_reducible rfl)
    try simp only [Act.put, List.setIfInBounds_toArray, List.set_cons_zero, List.set_cons_succ]
    refine wpAnyE_one (i := 19) (by kernel_rfl) (by simp only [List.getElem?_toArray, List.getElem?_cons_succ, List.getElem?_cons_zero]; rfl) (fun K0 hK => ?_)
    rw [if_pos (by first | rfl | kernel_rfl | simp [Region.wanted, yielded])]
    refine wp_store_row 39 _ _ rfl (w.heap.size + 1 + 1) #[.int .i64 r'.r5, .int .i64 r'.r6] rfl rfl 39 #[.int .i64 0, .int .i64 0] y4 (by kernel_rfl) rfl (by simp [Value.oneCell']) ?_
    clear hH
    refine hK.out _ _ ⟨v3, j3, r3⟩ (fun hH => ?_)
    clear hK K0
    try simp only [Act.put]
    refine wpAnyE_pure (i := 20) (v := ?vga20) (by simp only [List.getElem?_toArray, List.getElem?_cons_succ, List.getElem?_cons_zero]; rfl) (by kernel_rfl) (by kernel_rfl) (by kernel_rfl) (by exact fun _ _ _ h => h) (by kernel_rfl) (Or.inl ⟨by rfl, ?yga20⟩) hH ?rga20
    case yga20 => (intro w' hSw; (try dsimp only at hSw); go_simp; try with_reducible rfl)
    try simp only [Act.put, List.setIfInBounds_toArray, List.set_cons_zero, List.set_cons_succ]
    refine wpAnyE_end (i := 21) (by kernel_rfl) (by simp only [List.getElem?_toArray, List.getElem?_cons_succ, List.getElem?_cons_zero]; rfl) (by kernel_rfl) (fun K0 hK => ?_)
    go_simp
    refine hK.out _ _ ⟨v3, j3, r3⟩ ?_
    clear hK K0
    try simp only [Act.put, List.setIfInBounds_toArray, List.set_cons_zero, List.set_cons_succ]
    clear hH v1 v2 v3 j1 j2 j3 r1 r2 r3 y3 y4
    have y2 := ((KB.o.r2.setRow #[.int .i64 gd.s, .int .i64 gd.l, .int .i64 gd.c, .int .i64 gd.sh, .slice (some ⟨q, o, none⟩) gn gc]).turn t2 (by omega)).turn t3 (by omega)
    have y3 := ((KB.o.r3.turn t1 (by omega)).setRow #[.slice A1 d.ks.length c1, .slice A2 d.ls.length c2]).turn t3 (by omega)
    have y4 := ((KB.o.r4.turn t1 (by omega)).turn t2 (by omega)).setRow #[.int .i64 r'.r5, .int .i64 r'.r6]
    have E := Lib.hid (t3.below (t2.below (t1.below KB.o.bel (fun i hi => by have e : i = w.heap.size := hi; omega)) (fun i hi => by have e : i = w.heap.size + 1 := hi; omega)) (fun i hi => by have e : i = w.heap.size + 1 + 1 := hi; omega))
    have FG := Lib.hid ((keepsG gd).sub (F' := (w.heap.size ≤ ·)) ((keepsG gd).turn ((keepsG gd).turn ((keepsG gd).turn KB.o.grp t1 (fun b hb e => by have := hb.1; omega)) t2 (fun b hb e => by have := hb.1; omega)) t3 (fun b hb e => by have := hb.1; omega)) (fun b hb => by have := hb.1; show w.heap.size ≤ b; omega))
    have FJ := Lib.hid ((keepsS9 d).sub (F' := (w.heap.size ≤ ·)) ((keepsS9 d).turn ((keepsS9 d).turn ((keepsS9 d).turn KB.o.jr t1 (fun b hb e => by have := hb.1; omega)) t2 (fun b hb e => by have := hb.1; omega)) t3 (fun b hb e => by have := hb.1; omega)) (fun b hb => by have := hb.1; show w.heap.size ≤ b; omega))
    have FR := Lib.hid ((keepsRow r'.ps).sub (F' := (w.heap.size ≤ ·)) ((keepsRow r'.ps).turn ((keepsRow r'.ps).turn ((keepsRow r'.ps).turn KB.rc t1 (fun b hb e => by have := KB.hF b hb; omega)) t2 (fun b hb e => by have := KB.hF b hb; omega)) t3 (fun b hb e => by have := KB.hF b hb; omega)) (fun b hb => by have := KB.hF b hb; show w.heap.size ≤ b; omega))
    have hlr := KB.len
    clear KB t1 t2 t3
    generalize (((wz.setRow _ _).setRow _ _).setRow _ _ : World) = wy at y2 y3 y4 E FG FJ FR ⊢
    obtain ⟨r0, r1, r2, r3, r4⟩ := y2.five
    obtain ⟨q0, q1⟩ := y3.two
    obtain ⟨s0, s1⟩ := y4.two
    clear y2 y3 y4
    go_wp2
    exact bodyPost_ret (v := .tuple #[.agg #[.int .i64 gd.s, .int .i64 gd.l, .int .i64 gd.c, .int .i64 gd.sh, .slice (some ⟨q, o, none⟩) gn gc], .agg #[.slice A1 d.ks.length c1, .slice A2 d.ls.length c2], .int .i64 r'.r2, .int .i64 r'.r3, .int .i64 r'.r4, .agg #[.int .i64 r'.r5, .int .i64 r'.r6], .int .i64 r'.r7, .slice ua un uc]) (by simp [results, Tryz.results21, go_sem, r0, r1, r2, r3, r4, q0, q1, s0, s1]) rfl ⟨_, _, gd, d, r', _, rfl, FG.out, FJ.out, hok, hsk, hsl, FR.out, hlr, E.out⟩

end Go.Proofs.YtjdepjpjjgkmbaaGreat

/- A journal copied into memory of its own, with records more behind it (written by jour_with.py); conditions: the sizes. -/
namespace Go.Proofs.YtjdepjpjjgkmbaaGreat
open Go Go.RowKit

theorem twoJ {w : World} {F1 F2 : Nat → Prop} {ks ls : List RecD} {u u' : Value} (h1 : OwnCS ks w F1 u) (h2 : OwnCS ls w F2 u') (ha : ∀ b, F1 b → ¬ F2 b) {F : Nat → Prop} (s1 : ∀ b, F1 b → F b) (s2 : ∀ b, F2 b → F b) : LieJ ⟨ks, ls⟩ w F (.agg #[u, u']) := ⟨u, u', F1, F2, rfl, h1, h2, s1, s2, ha⟩

set_option maxRecDepth 100000 in
set_option maxHeartbeats 4000000 in
theorem with_is {d : JourD} {es : List RecD} {w : World} {F F' : Nat → Prop} {C : Array Value} {v : Value} (h : AtS9 d w F (.agg C)) (hm : ListS es w F' v) (hsk : totC d.ks ≤ 1048576) (hsl : totC d.ls + totC es ≤ 1048576) :
    Calls Tryz.prog 80 #[.agg C, v] w (Copied (LieJ ⟨d.ks, d.ls ++ es⟩) w) := by
  obtain ⟨u1, u2, e, hk, hl⟩ := h
  injection e with e
  subst e
  obtain ⟨A1, c1, rfl, -, -⟩ := hk.at
  obtain ⟨A2, c2, rfl, -, -⟩ := hl.at
  obtain ⟨n1, hn1⟩ : ∃ n, d.ks.length = n := ⟨_, rfl⟩
  obtain ⟨n2, hn2⟩ : ∃ n, d.ls.length = n := ⟨_, rfl⟩
  have hk0 : ListS d.ks w F (.slice A1 n1 c1) := by rw [← hn1]; exact hk
  have hl0 : ListS d.ls w F (.slice A2 n2 c2) := by rw [← hn2]; exact hl
  rw [hn1, hn2]
  have HN1 := Lib.hid hn1
  have HN2 := Lib.hid hn2
  clear hk hl hn1 hn2
  have hb0 := bel_trans (bel_alloc w (.cells #[.slice A1 n1 c1, .slice A2 n2 c2] 29)) (bel_alloc _ (.cells #[.slice none 0 0, .slice none 0 0] 29))
  have J := (Box.new w 29 #[.slice A1 n1 c1, .slice A2 n2 c2]).alloc (.cells #[.slice none 0 0, .slice none 0 0] 29)
  have R := Box.new (w.alloc (.cells #[.slice A1 n1 c1, .slice A2 n2 c2] 29)) 29 #[.slice none 0 0, .slice none 0 0]
  simp only [World.size_alloc] at R
  have HK := Lib.hid (hk0.later hb0)
  have HLL := Lib.hid (hl0.later hb0)
  have HM := Lib.hid (hm.later hb0)
  clear hm
  clear hk0 hl0
  go_enter Tryz.func80, Tryz.ntmps80
  go_upto_region 1 with fail
  generalize ((w.alloc _).alloc _ : World) = w0 at hb0 J R HK HLL HM ⊢
  have hw0 := hb0.size
  have hR0 := R.lt
  have HB := Below.refl w0.heap.size w0
  refine wp_region_sink 9 (fun w' => Box w' w.heap.size 29 #[.slice A1 n1 c1, .slice A2 n2 c2]) (by kernel_rfl) J (fun hH => ?_)
  have hb := (Below.refl w0.heap.size w0).drew
  replace HB := bel_trans HB hb
  replace J := J.later hb J.lt
  replace R := R.later hb R.lt
  clear hb
  generalize w0.drew = w3 at J R HB hH ⊢
  have hs3 := HB.size
  refine wpAnyE_pure (i := 0) (v := ?vp0) (by simp only [List.getElem?_toArray, List.getElem?_cons_zero]; rfl) (by kernel_rfl) (by kernel_rfl) (by kernel_rfl) (by exact fun _ _ _ h => h) (by kernel_rfl) (Or.inl ⟨by rfl, ?yp0⟩) hH ?rp0
  case yp0 => (intro w' hSw; (try dsimp only at hSw); go_simp; try with_reducible rfl)
  try simp only [Act.put, List.setIfInBounds_toArray, List.set_cons_zero, List.set_cons_succ]
  refine wpAnyE_takeS (i := 1) (v := (.slice A1 n1 c1)) (by simp only [List.getElem?_toArray, List.getElem?_cons_succ, List.getElem?_cons_zero]; rfl) (by kernel_rfl) (by kernel_rfl) (by kernel_rfl) (by exact fun _ _ _ h => h) (by kernel_rfl) ?yc1 hH ?_
  case yc1 => exact .inl ⟨(by first | rfl | simp [Region.wanted, yielded] | (simp [Region.wanted, yielded, Act.put] <;> omega)), fun w' hSw => by (try dsimp only at hSw); have hc := (Box.two hSw).1; go_simp; try with_reducible rfl⟩
  try simp only [Act.put, List.setIfInBounds_toArray, List.set_cons_zero, List.set_cons_succ]
  refine wpAnyE_pure (i := 3) (v := ?vp2) (by simp only [List.getElem?_toArray, List.getElem?_cons_succ, List.getElem?_cons_zero]; rfl) (by kernel_rfl) (by kernel_rfl) (by kernel_rfl) (by exact fun _ _ _ h => h) (by kernel_rfl) (Or.inl ⟨by rfl, ?yp2⟩) hH ?rp2
  case yp2 => (intro w' hSw; (try dsimp only at hSw); go_simp; try with_reducible rfl)
  try simp only [Act.put, List.setIfInBounds_toArray, List.set_cons_zero, List.set_cons_succ]
  refine wpAnyE_takeS (i := 4) (v := (.slice A2 n2 c2)) (by simp only [List.getElem?_toArray, List.getElem?_cons_succ, List.getElem?_cons_zero]; rfl) (by kernel_rfl) (by kernel_rfl) (by kernel_rfl) (by exact fun _ _ _ h => h) (by kernel_rfl) ?yc3 hH ?_
  case yc3 => exact .inl ⟨(by first | rfl | simp [Region.wanted, yielded] | (simp [Region.wanted, yielded, Act.put] <;> omega)), fun w' hSw => by (try dsimp only at hSw); have hc := (Box.two hSw).2; go_simp; try with_reducible rfl⟩
  try simp only [Act.put, List.setIfInBounds_toArray, List.set_cons_zero, List.set_cons_succ]
  refine wpAnyE_pure (i := 5) (v := ?vp4) (by simp only [List.getElem?_toArray, List.getElem?_cons_succ, List.getElem?_cons_zero]; rfl) (by kernel_rfl) (by kernel_rfl) (by kernel_rfl) (by exact fun _ _ _ h => h) (by kernel_rfl) (Or.inl ⟨by rfl, ?yp4⟩) hH ?rp4
  case yp4 => (intro w' hSw; (try dsimp only at hSw); go_simp; try with_reducible rfl)
  try simp only [Act.put, List.setIfInBounds_toArray, List.set_cons_zero, List.set_cons_succ]
  refine wpAnyE_one (i := 2) (by kernel_rfl) (by simp only [List.getElem?_toArray, List.getElem?_cons_succ, List.getElem?_cons_zero]; rfl) (fun K hK => ?_)
  go_simp
  refine (joined_is (ls := []) ((HK.out.later HB).sub (F' := fun _ => True) (fun _ _ => trivial)) (.inl ⟨rfl, rfl⟩) (by show totC d.ks + 0 ≤ _; omega)).mono ?_
  rintro e w4 ⟨GK, rfl, OK, hb⟩
  have sk := hb.size
  replace J := J.later hb J.lt
  replace R := R.later hb R.lt
  replace HB := bel_trans HB hb
  rw [List.append_nil] at OK
  generalize d.ks.length + ([] : List RecD).length = NK at OK ⊢
  clear hb
  clear hH
  refine hK.out _ _ J (fun hH => ?_)
  clear hK K
  try simp only [Act.put, List.setIfInBounds_toArray, List.set_cons_zero, List.set_cons_succ]
  refine wpAnyE_one (i := 6) (by kernel_rfl) (by simp only [List.getElem?_toArray, List.getElem?_cons_succ, List.getElem?_cons_zero]; rfl) (fun K hK => ?_)
  go_simp
  refine (joined_is ((HLL.out.later HB).sub (F' := fun _ => True) (fun _ _ => trivial)) ((HM.out.later HB).sub (fun _ _ => trivial)) (by omega)).mono ?_
  rintro e w5 ⟨GL, rfl, OL, hb⟩
  have sl := hb.size
  replace J := J.later hb J.lt
  replace R := R.later hb R.lt
  replace HB := bel_trans HB hb
  replace OK := OK.lt.later hb
  generalize d.ls.length + es.length = NL at OL ⊢
  clear hb
  clear hH
  refine hK.out _ _ J (fun hH => ?_)
  clear hK K
  try simp only [Act.put, List.setIfInBounds_toArray, List.set_cons_zero, List.set_cons_succ]
  refine wpAnyE_pure (i := 7) (v := ?vbk) (by simp only [List.getElem?_toArray, List.getElem?_cons_succ, List.getElem?_cons_zero]; rfl) (by kernel_rfl) (by kernel_rfl) (by kernel_rfl) (by exact fun _ _ _ h => h) (by kernel_rfl) (Or.inl ⟨by rfl, ?ybk⟩) hH ?rbk
  case ybk => (intro w' hSw; (try dsimp only at hSw); go_simp; try with_reducible rfl)
  try simp only [Act.put, List.setIfInBounds_toArray, List.set_cons_zero, List.set_cons_succ]
  refine wpAnyE_end (i := 8) (by kernel_rfl) (by simp only [List.getElem?_toArray, List.getElem?_cons_succ, List.getElem?_cons_zero]; rfl) (by kernel_rfl) (fun K hK => ?_)
  rw [if_pos (by first | rfl | kernel_rfl | simp [Region.wanted, yielded])]
  have ht := turns_row9 w5 (w.heap.size + 1) #[.slice (some ⟨GK, 0, none⟩) NK NK, .slice (some ⟨GL, 0, none⟩) NL NL]
  refine wp_store_row 29 _ _ rfl (w.heap.size + 1) _ rfl rfl 29 #[.slice none 0 0, .slice none 0 0] R (by kernel_rfl) rfl (by simp [Value.oneCell']) ?_
  refine hK.out _ _ (J.turn ht (by omega)) ?_
  clear hK K hH
  try simp only [Act.put]
  have R2 := R.setRow #[.slice (some ⟨GK, 0, none⟩) NK NK, .slice (some ⟨GL, 0, none⟩) NL NL]
  have P1 := OK.turn ht (fun b hb => by have := hb.1.1; omega)
  have P2 := OL.turn ht (fun b hb => by have := hb.1; omega)
  have hsz5 := ht.size
  have E := Lib.hid (ht.below (bel_trans hb0 HB) (fun b hb => by omega))
  clear R J ht
  generalize (w5.setRow _ _ : World) = w7 at R2 P1 P2 E hsz5 ⊢
  obtain ⟨r0, r1⟩ := R2.two
  have LJ := Lib.hid (twoJ P1 P2 (fun b hb hb2 => by have := hb.2; have := hb2.1; omega) (F := Iv w.heap.size w7.heap.size) (fun b hb => ⟨by have := hb.1.1; omega, by have := hb.2; omega⟩) (fun b hb => ⟨by have := hb.1; omega, by have := hb.2; omega⟩))
  clear R2 P1 P2 OK OL
  go_wp2
  exact bodyPost_ret (v := .agg #[.slice (some ⟨GK, 0, none⟩) NK NK, .slice (some ⟨GL, 0, none⟩) NL NL]) (by simp [results, Tryz.results80, go_sem, r0, r1]) rfl ⟨_, rfl, LJ.out, E.out⟩
set_option maxRecDepth 100000 in
set_option maxHeartbeats 4000000 in
theorem l10Copy_is {d : JourD} {w : World} {F : Nat → Prop} {C : Array Value} (h : AtS9 d w F (.agg C)) (hsk : totC d.ks ≤ 1048576) (hsl : totC d.ls ≤ 1048576) :
    Calls Tryz.prog 81 #[.agg C] w (Copied (LieJ d) w) := by
  obtain ⟨u1, u2, e, hk, hl⟩ := h
  injection e with e
  subst e
  obtain ⟨A1, c1, rfl, -, -⟩ := hk.at
  obtain ⟨A2, c2, rfl, -, -⟩ := hl.at
  obtain ⟨n1, hn1⟩ : ∃ n, d.ks.length = n := ⟨_, rfl⟩
  obtain ⟨n2, hn2⟩ : ∃ n, d.ls.length = n := ⟨_, rfl⟩
  have hk0 : ListS d.ks w F (.slice A1 n1 c1) := by rw [← hn1]; exact hk
  have hl0 : ListS d.ls w F (.slice A2 n2 c2) := by rw [← hn2]; exact hl
  rw [hn1, hn2]
  have HN1 := Lib.hid hn1
  have HN2 := Lib.hid hn2
  clear hk hl hn1 hn2
  have hb0 := bel_trans (bel_alloc w (.cells #[.slice A1 n1 c1, .slice A2 n2 c2] 29)) (bel_alloc _ (.cells #[.slice none 0 0, .slice none 0 0] 29))
  have J := (Box.new w 29 #[.slice A1 n1 c1, .slice A2 n2 c2]).alloc (.cells #[.slice none 0 0, .slice none 0 0] 29)
  have R := Box.new (w.alloc (.cells #[.slice A1 n1 c1, .slice A2 n2 c2] 29)) 29 #[.slice none 0 0, .slice none 0 0]
  simp only [World.size_alloc] at R
  have HK := Lib.hid (hk0.later hb0)
  have HLL := Lib.hid (hl0.later hb0)
  clear hk0 hl0
  go_enter Tryz.func81, Tryz.ntmps81
  go_upto_region 1 with fail
  generalize ((w.alloc _).alloc _ : World) = w0 at hb0 J R HK HLL ⊢
  have hw0 := hb0.size
  have hR0 := R.lt
  have HB := Below.refl w0.heap.size w0
  refine wp_region_sink 8 (fun w' => Box w' w.heap.size 29 #[.slice A1 n1 c1, .slice A2 n2 c2]) (by kernel_rfl) J (fun hH => ?_)
  have hb := (Below.refl w0.heap.size w0).drew
  replace HB := bel_trans HB hb
  replace J := J.later hb J.lt
  replace R := R.later hb R.lt
  clear hb
  generalize w0.drew = w3 at J R HB hH ⊢
  have hs3 := HB.size
  refine wpAnyE_pure (i := 0) (v := ?vp0) (by simp only [List.getElem?_toArray, List.getElem?_cons_zero]; rfl) (by kernel_rfl) (by kernel_rfl) (by kernel_rfl) (by exact fun _ _ _ h => h) (by kernel_rfl) (Or.inl ⟨by rfl, ?yp0⟩) hH ?rp0
  case yp0 => (intro w' hSw; (try dsimp only at hSw); go_simp; try with_reducible rfl)
  try simp only [Act.put, List.setIfInBounds_toArray, List.set_cons_zero, List.set_cons_succ]
  refine wpAnyE_takeS (i := 1) (v := (.slice A1 n1 c1)) (by simp only [List.getElem?_toArray, List.getElem?_cons_succ, List.getElem?_cons_zero]; rfl) (by kernel_rfl) (by kernel_rfl) (by kernel_rfl) (by exact fun _ _ _ h => h) (by kernel_rfl) ?yc1 hH ?_
  case yc1 => exact .inl ⟨(by first | rfl | simp [Region.wanted, yielded] | (simp [Region.wanted, yielded, Act.put] <;> omega)), fun w' hSw => by (try dsimp only at hSw); have hc := (Box.two hSw).1; go_simp; try with_reducible rfl⟩
  try simp only [Act.put, List.setIfInBounds_toArray, List.set_cons_zero, List.set_cons_succ]
  refine wpAnyE_pure (i := 3) (v := ?vp2) (by simp only [List.getElem?_toArray, List.getElem?_cons_succ, List.getElem?_cons_zero]; rfl) (by kernel_rfl) (by kernel_rfl) (by kernel_rfl) (by exact fun _ _ _ h => h) (by kernel_rfl) (Or.inl ⟨by rfl, ?yp2⟩) hH ?rp2
  case yp2 => (intro w' hSw; (try dsimp only at hSw); go_simp; try with_reducible rfl)
  try simp only [Act.put, List.setIfInBounds_toArray, List.set_cons_zero, List.set_cons_succ]
  refine wpAnyE_takeS (i := 4) (v := (.slice A2 n2 c2)) (by simp only [List.getElem?_toArray, List.getElem?_cons_succ, List.getElem?_cons_zero]; rfl) (by kernel_rfl) (by kernel_rfl) (by kernel_rfl) (by exact fun _ _ _ h => h) (by kernel_rfl) ?yc3 hH ?_
  case yc3 => exact .inl ⟨(by first | rfl | simp [Region.wanted, yielded] | (simp [Region.wanted, yielded, Act.put] <;> omega)), fun w' hSw => by (try dsimp only at hSw); have hc := (Box.two hSw).2; go_simp; try with_reducible rfl⟩
  try simp only [Act.put, List.setIfInBounds_toArray, List.set_cons_zero, List.set_cons_succ]
  refine wpAnyE_one (i := 2) (by kernel_rfl) (by simp only [List.getElem?_toArray, List.getElem?_cons_succ, List.getElem?_cons_zero]; rfl) (fun K hK => ?_)
  go_simp
  refine (l10Recs_is (HK.out.later HB) (by omega)).mono ?_
  rintro e w4 ⟨GK, ck, rfl, OK, hb⟩
  have sk := hb.size
  replace J := J.later hb J.lt
  replace R := R.later hb R.lt
  replace HB := bel_trans HB hb
  generalize d.ks.length = NK at OK ⊢
  clear hb
  clear hH
  refine hK.out _ _ J (fun hH => ?_)
  clear hK K
  try simp only [Act.put, List.setIfInBounds_toArray, List.set_cons_zero, List.set_cons_succ]
  refine wpAnyE_one (i := 5) (by kernel_rfl) (by simp only [List.getElem?_toArray, List.getElem?_cons_succ, List.getElem?_cons_zero]; rfl) (fun K hK => ?_)
  go_simp
  refine (l10Recs_is (HLL.out.later HB) (by omega)).mono ?_
  rintro e w5 ⟨GL, cl, rfl, OL, hb⟩
  have sl := hb.size
  replace J := J.later hb J.lt
  replace R := R.later hb R.lt
  replace HB := bel_trans HB hb
  replace OK := OK.lt.later hb
  generalize d.ls.length = NL at OL ⊢
  clear hb
  clear hH
  refine hK.out _ _ J (fun hH => ?_)
  clear hK K
  try simp only [Act.put, List.setIfInBounds_toArray, List.set_cons_zero, List.set_cons_succ]
  refine wpAnyE_pure (i := 6) (v := ?vbk) (by simp only [List.getElem?_toArray, List.getElem?_cons_succ, List.getElem?_cons_zero]; rfl) (by kernel_rfl) (by kernel_rfl) (by kernel_rfl) (by exact fun _ _ _ h => h) (by kernel_rfl) (Or.inl ⟨by rfl, ?ybk⟩) hH ?rbk
  case ybk => (intro w' hSw; (try dsimp only at hSw); go_simp; try with_reducible rfl)
  try simp only [Act.put, List.setIfInBounds_toArray, List.set_cons_zero, List.set_cons_succ]
  refine wpAnyE_end (i := 7) (by kernel_rfl) (by simp only [List.getElem?_toArray, List.getElem?_cons_succ, List.getElem?_cons_zero]; rfl) (by kernel_rfl) (fun K hK => ?_)
  rw [if_pos (by first | rfl | kernel_rfl | simp [Region.wanted, yielded])]
  have ht := turns_row9 w5 (w.heap.size + 1) #[.slice (some ⟨GK, 0, none⟩) NK ck, .slice (some ⟨GL, 0, none⟩) NL cl]
  refine wp_store_row 29 _ _ rfl (w.heap.size + 1) _ rfl rfl 29 #[.slice none 0 0, .slice none 0 0] R (by kernel_rfl) rfl (by simp [Value.oneCell']) ?_
  refine hK.out _ _ (J.turn ht (by omega)) ?_
  clear hK K hH
  try simp only [Act.put]
  have R2 := R.setRow #[.slice (some ⟨GK, 0, none⟩) NK ck, .slice (some ⟨GL, 0, none⟩) NL cl]
  have P1 := OK.turn ht (fun b hb => by have := hb.1.1; omega)
  have P2 := OL.turn ht (fun b hb => by have := hb.1; omega)
  have hsz5 := ht.size
  have E := Lib.hid (ht.below (bel_trans hb0 HB) (fun b hb => by omega))
  clear R J ht
  generalize (w5.setRow _ _ : World) = w7 at R2 P1 P2 E hsz5 ⊢
  obtain ⟨r0, r1⟩ := R2.two
  have LJ := Lib.hid (twoJ P1 P2 (fun b hb hb2 => by have := hb.2; have := hb2.1; omega) (F := Iv w.heap.size w7.heap.size) (fun b hb => ⟨by have := hb.1.1; omega, by have := hb.2; omega⟩) (fun b hb => ⟨by have := hb.1; omega, by have := hb.2; omega⟩))
  clear R2 P1 P2 OK OL
  go_wp2
  exact bodyPost_ret (v := .agg #[.slice (some ⟨GK, 0, none⟩) NK ck, .slice (some ⟨GL, 0, none⟩) NL cl]) (by simp [results, Tryz.results81, go_sem, r0, r1]) rfl ⟨_, rfl, LJ.out, E.out⟩

end Go.Proofs.YtjdepjpjjgkmbaaGreat

/- Noted of the program: a journal with one record more, in memory of its own (written by jour_noted.py); conditions: the sizes. -/
namespace Go.Proofs.YtjdepjpjjgkmbaaGreat
open Go Go.RowKit

/-- The record that is noted next. -/
def newD (d : JourD) (kd sh cl t1 t2 v : Int) (cs : List (Int × Int)) : RecD := ⟨((d.ks.length + d.ls.length : Nat) : Int) + 1, kd, sh, cl, t1, t2, v, cs, sumN (((d.ks.length + d.ls.length : Nat) : Int) + 1) kd sh cl t1 t2 v cs⟩
/-- What Noted answers. -/
def notedD (g : GrpD) (d : JourD) (r : RecD) : JourD × Bool := if jokD g d = true then (if rokD g r = true then (⟨d.ks, d.ls ++ [r]⟩, true) else (d, false)) else (⟨[], []⟩, false)
theorem recOkN_is {g : GrpD} {d : RecD} {w : World} {F0 F1 : Nat → Prop} {C0 C1 : Array Value} {z : Bool} (h0 : AtG g w F0 (.agg C0)) (h1 : AtC d w F1 (.agg C1)) (z1 : d.sz ≤ 1048576) (hz : rokD g d = z) :
    Calls Tryz.prog 79 #[.agg C0, .agg C1] w fun e w' => e = .returned (.bool z) ∧ Below w.heap.size w w' := by
  obtain ⟨L, m, mc, rfl, hm, hp⟩ := LieC.slc h1 z1
  obtain ⟨A, n, cap, e0, m0, hr⟩ := h0
  injection e0 with e0
  subst e0
  exact recOk_is hz A n cap L m mc w m0 hr.1 hm hp
/-- A journal and whether it was noted. -/
def MadeN (rr : JourD × Bool) (w : World) (e : Ending) (w' : World) : Prop := ∃ C, e = .returned (.tuple #[.agg C, .bool rr.2]) ∧ LieJ rr.1 w' (Iv w.heap.size w'.heap.size) (.agg C) ∧ Below w.heap.size w w'
theorem jok_grp {g : GrpD} {d : JourD} (h : jokD g d = true) : 1 ≤ g.sz := by
  unfold jokD replD at h
  split at h
  · rename_i hc
    rw [Bool.and_eq_true] at hc
    have hok : okB g.s g.l g.c g.sh g.zs = true := hc.1
    simp only [okB, Bool.and_eq_true, decide_eq_true_eq, inB] at hok
    unfold GrpD.sz
    omega
  · cases h
theorem one_rec {w : World} {q : Nat} {r : RecD} {u : Value} {t : TypeId} {F : Nat → Prop} (hq : Box w q t (r.cells u)) (hu : SlcF w F u r.ps) : ListS [r] w (fun b => F b ∨ b = q) (.slice (some ⟨q, 0, none⟩) 1 1) := by
  refine .inr ⟨q, 0, 1, rfl, Nat.le_refl _, by unfold maxLen; omega, fun _ => ⟨.inr rfl, hq.lt⟩, [(r, u)], rfl, fun p hp => ?_, fun j x hj => ?_⟩
  · rw [List.mem_singleton.1 hp]
    exact hu.sub (fun b hb => .inl hb)
  · have hl := flatC_lt hj
    rw [Nat.zero_add]
    refine (hq.cell j).trans ?_
    have e : flatC [(r, u)] = (r.cells u).toList := by simp [flatC]
    rw [e] at hj
    simpa using hj
theorem totC_one (r : RecD) : totC [r] = 1 + r.ps.length := by simp [totC]

set_option maxRecDepth 100000 in
set_option maxHeartbeats 8000000 in
theorem noted_is {g : GrpD} {d : JourD} {w : World} {F0 F1 : Nat → Prop} {C0 C1 : Array Value} (kd sh cl t1 t2 v : Int) {u0 : Value} {cs : List (Int × Int)} (h0 : AtG g w F0 (.agg C0)) (h1 : AtS9 d w F1 (.agg C1)) (hc : Slc w u0 cs) (hs : g.sz + d.sz + cs.length ≤ 1048576) {rr : JourD × Bool} (hr : notedD g d (newD d kd sh cl t1 t2 v cs) = rr) :
    Calls Tryz.prog 22 #[.agg C0, .agg C1, .int .i64 kd, .int .i64 sh, .int .i64 cl, .agg #[.int .i64 t1, .int .i64 t2], .int .i64 v, u0] w (MadeN rr w) := by
  obtain ⟨u1, u2, e, hk, hl⟩ := h1
  injection e with e
  subst e
  obtain ⟨A1, c1, rfl, -, -⟩ := hk.at
  obtain ⟨A2, c2, rfl, -, -⟩ := hl.at
  obtain ⟨A0, n0, c0, rfl⟩ := slc_form hc
  have HZ := Lib.hid hr
  have hsk : totC d.ks + totC d.ls = d.sz := rfl
  obtain ⟨n1, hn1⟩ : ∃ n, d.ks.length = n := ⟨_, rfl⟩
  obtain ⟨n2, hn2⟩ : ∃ n, d.ls.length = n := ⟨_, rfl⟩
  have hk0 : ListS d.ks w F1 (.slice A1 n1 c1) := by rw [← hn1]; exact hk
  have hl0 : ListS d.ls w F1 (.slice A2 n2 c2) := by rw [← hn2]; exact hl
  rw [hn1, hn2]
  have HN1 := Lib.hid hn1
  have HN2 := Lib.hid hn2
  have hnn : n1 + n2 ≤ 1048576 := by have := totC_len d.ks; have := totC_len d.ls; omega
  obtain ⟨s, hs1, hs2⟩ : ∃ s : Nat, (n1 : Int) + (n2 : Int) = (s : Int) ∧ n1 + n2 = s := ⟨n1 + n2, by omega, rfl⟩
  have hw1 : IntKind.i64.wrap ((s : Int) + 1) = (s : Int) + 1 := IntWalk.i64_in _ (by omega)
  have hnd : newD d kd sh cl t1 t2 v cs = ⟨(s : Int) + 1, kd, sh, cl, t1, t2, v, cs, sumN ((s : Int) + 1) kd sh cl t1 t2 v cs⟩ := by unfold newD; rw [hn1, hn2, hs2]
  have HND := Lib.hid hnd
  clear hk hl hr hn1 hn2 hnd
  have J0 := Lib.hid (sizeG h0).2
  have hb0 := bel_trans (bel_trans (bel_trans (bel_alloc w (.cells C0 26)) (bel_alloc _ (.cells #[.slice A1 n1 c1, .slice A2 n2 c2] 29))) (bel_alloc _ (.cells #[.int .i64 t1, .int .i64 t2] 39))) (bel_alloc _ (.cells #[.slice none 0 0, .slice none 0 0] 29))
  have G := (((Box.new w 26 C0).alloc (.cells #[.slice A1 n1 c1, .slice A2 n2 c2] 29)).alloc (.cells #[.int .i64 t1, .int .i64 t2] 39)).alloc (.cells #[.slice none 0 0, .slice none 0 0] 29)
  have J := ((Box.new (w.alloc (.cells C0 26)) 29 #[.slice A1 n1 c1, .slice A2 n2 c2]).alloc (.cells #[.int .i64 t1, .int .i64 t2] 39)).alloc (.cells #[.slice none 0 0, .slice none 0 0] 29)
  have X := (Box.new ((w.alloc (.cells C0 26)).alloc (.cells #[.slice A1 n1 c1, .slice A2 n2 c2] 29)) 39 #[.int .i64 t1, .int .i64 t2]).alloc (.cells #[.slice none 0 0, .slice none 0 0] 29)
  have R := Box.new (((w.alloc (.cells C0 26)).alloc (.cells #[.slice A1 n1 c1, .slice A2 n2 c2] 29)).alloc (.cells #[.int .i64 t1, .int .i64 t2] 39)) 29 #[.slice none 0 0, .slice none 0 0]
  simp only [World.size_alloc] at J X R
  have H0 := Lib.hid ((keepsG g).later h0 hb0)
  have HK := Lib.hid (hk0.later hb0)
  have HLL := Lib.hid (hl0.later hb0)
  have HC := Lib.hid (hc.later hb0)
  clear h0 hk0 hl0 hc
  go_enter Tryz.func22, Tryz.ntmps22
  go_upto_region 1 with fail
  generalize ((((w.alloc _).alloc _).alloc _).alloc _ : World) = w0 at hb0 G J X R H0 HK HLL HC ⊢
  have hw0 := hb0.size
  have hR0 := R.lt
  have HB := Below.refl w0.heap.size w0
  obtain ⟨z, hz⟩ : ∃ z, jokD g d = z := ⟨_, rfl⟩
  have HJ := Lib.hid hz
  clear hz
  go_wp2_with (first | (refine wpList_load_box 26 _ rfl (w.heap.size) rfl 26 C0 G _ Tryz.underlying26 rfl J0.out (by first | rfl | simp [Region.wanted, yielded] | (simp [Region.wanted, yielded, Act.put] <;> omega)) ?_) | (refine wpList_load_box 29 _ rfl (w.heap.size + 1) rfl 29 #[.slice A1 n1 c1, .slice A2 n2 c2] J _ Tryz.underlying29 rfl (by kernel_rfl) (by first | rfl | simp [Region.wanted, yielded] | (simp [Region.wanted, yielded, Act.put] <;> omega)) ?_))
  refine (journalOk_is H0.out ⟨_, _, rfl, HK.out, HLL.out⟩ (by omega) HJ.out).mono ?_
  rintro e w1 ⟨rfl, hb⟩
  replace G := G.later hb G.lt
  replace J := J.later hb J.lt
  replace X := X.later hb X.lt
  replace R := R.later hb R.lt
  replace HB := bel_trans HB hb
  clear hb
  cases z
  · have HD := Lib.hid (show rr = (⟨[], []⟩, false) by rw [← HZ.out]; unfold notedD; rw [HJ.out]; rfl)
    have R2 := R.setRow #[.slice none 0 0, .slice none 0 0]
    have E := Lib.hid (((turns_row9 w1 (w.heap.size + 1 + 1 + 1) #[.slice none 0 0, .slice none 0 0]).below (bel_trans hb0 HB) (fun b hb => by omega)))
    obtain ⟨r0, r1⟩ := R2.two
    clear R2 G J X
    go_wp2_with (refine wpList_store_row rfl 29 _ _ rfl (w.heap.size + 1 + 1 + 1) _ rfl rfl 29 #[.slice none 0 0, .slice none 0 0] R (by kernel_rfl) rfl (by simp [Value.oneCell']) ?_)
    exact bodyPost_ret (v := .tuple #[.agg #[.slice none 0 0, .slice none 0 0], .bool false]) (by simp [results, Tryz.results22, go_sem, r0, r1]) rfl ⟨_, by rw [HD.out], by rw [HD.out]; exact zeroJ _ _, E.out⟩
  · skip
    have hg1 := jok_grp HJ.out
    obtain ⟨j0, j1⟩ := J.two
    go_wp2_with (refine wpList_load_box 39 _ rfl (w.heap.size + 1 + 1) rfl 39 #[.int .i64 t1, .int .i64 t2] X _ Tryz.underlying39 rfl (by kernel_rfl) (by first | rfl | simp [Region.wanted, yielded] | (simp [Region.wanted, yielded, Act.put] <;> omega)) ?_)
    refine (newRec_is ((s : Int) + 1) kd sh cl t1 t2 v _ cs w1 (by omega) (HC.out.later HB)).mono ?_
    rintro e w2 ⟨CR, rfl, hL, hb⟩
    rw [← HND.out] at hL
    obtain ⟨r, hr⟩ : ∃ r, newD d kd sh cl t1 t2 v cs = r := ⟨_, rfl⟩
    have hrp : r.ps = cs := by rw [← hr]; rfl
    have HR := Lib.hid hr
    have HZ2 := Lib.hid HZ.out
    rw [hr] at hL HZ2
    clear hr HZ HND
    have hsV := hb.size
    replace G := G.later hb G.lt
    replace J := J.later hb J.lt
    replace X := X.later hb X.lt
    replace R := R.later hb R.lt
    replace HB := bel_trans HB hb
    obtain ⟨u, eC, hO⟩ := hL
    injection eC with eC
    obtain ⟨A3, m3, c3, rfl⟩ := slc_form hO.somewhere.slc
    subst eC
    have hLC : LieC r w2 (Iv w1.heap.size w2.heap.size) (.agg #[.int .i64 r.r1, .int .i64 r.r2, .int .i64 r.r3, .int .i64 r.r4, .int .i64 r.r5, .int .i64 r.r6, .int .i64 r.r7, .slice A3 m3 c3, .int .i64 r.r8]) := ⟨_, rfl, hO⟩
    unfold RecD.cells
    have O := Lib.hid (oneC hLC.at)
    have JR := Lib.hid (sizeC hLC.at).2
    have hn := bel_new_row w2 #[.int .i64 0, .int .i64 0, .int .i64 0, .int .i64 0, .int .i64 0, .int .i64 0, .int .i64 0, .slice none 0 0, .int .i64 0] 46 #[.int .i64 r.r1, .int .i64 r.r2, .int .i64 r.r3, .int .i64 r.r4, .int .i64 r.r5, .int .i64 r.r6, .int .i64 r.r7, .slice A3 m3 c3, .int .i64 r.r8]
    have NX := var_new_row (keepsLC r) (Z := #[.int .i64 0, .int .i64 0, .int .i64 0, .int .i64 0, .int .i64 0, .int .i64 0, .int .i64 0, .slice none 0 0, .int .i64 0]) 46 hLC (fun b hb => hb.2)
    have ZB := Box.new w2 46 #[.int .i64 0, .int .i64 0, .int .i64 0, .int .i64 0, .int .i64 0, .int .i64 0, .int .i64 0, .slice none 0 0, .int .i64 0]
    have hb := hn
    replace G := G.later hb G.lt
    replace J := J.later hb J.lt
    replace X := X.later hb X.lt
    replace R := R.later hb R.lt
    replace HB := bel_trans HB hb
    have hs1w := HB.size
    clear hb hn hLC hO j0 j1
    go_upto_region 4 with (refine wpList_store_row rfl 46 _ _ rfl w2.heap.size _ rfl rfl 46 #[.int .i64 0, .int .i64 0, .int .i64 0, .int .i64 0, .int .i64 0, .int .i64 0, .int .i64 0, .slice none 0 0, .int .i64 0] ZB JR.out O.out.1.symm O.out.2 ?_)
    clear ZB O
    try simp only [Act.put]
    have hs1 := hsV
    generalize ((w2.alloc _).setRow _ _ : World) = w3 at G J X R HB NX hs1w ⊢
    skip
    obtain ⟨y, hy⟩ : ∃ y, rokD g r = y := ⟨_, rfl⟩
    have HY := Lib.hid hy
    clear hy
    have hrs : r.sz ≤ 1048576 := by unfold RecD.sz; rw [hrp]; omega
    have hVb := NX.box.lt
    go_wp2_with (first | (refine wpList_load_box 26 _ rfl (w.heap.size) rfl 26 C0 G _ Tryz.underlying26 rfl J0.out (by first | rfl | simp [Region.wanted, yielded] | (simp [Region.wanted, yielded, Act.put] <;> omega)) ?_) | (refine wpList_load_box 46 _ rfl (w2.heap.size) rfl 46 #[.int .i64 r.r1, .int .i64 r.r2, .int .i64 r.r3, .int .i64 r.r4, .int .i64 r.r5, .int .i64 r.r6, .int .i64 r.r7, .slice A3 m3 c3, .int .i64 r.r8] NX.box _ Tryz.underlying46 rfl JR.out (by first | rfl | simp [Region.wanted, yielded] | (simp [Region.wanted, yielded, Act.put] <;> omega)) ?_))
    refine (recOkN_is ((keepsG g).later H0.out HB) NX.dat.at hrs HY.out).mono ?_
    rintro e w4 ⟨rfl, hb⟩
    have hs4 := hb.size
    replace G := G.later hb G.lt
    replace J := J.later hb J.lt
    replace X := X.later hb X.lt
    replace R := R.later hb R.lt
    replace HB := bel_trans HB hb
    replace NX := NX.later (keepsLC r) hb
    clear hb
    cases y
    · have HD := Lib.hid (show rr = (d, false) by rw [← HZ2.out]; unfold notedD; rw [HJ.out, HY.out]; rfl)
      have hw4 := HB.size
      go_wp2_with (refine wpList_load_box 29 _ rfl (w.heap.size + 1) rfl 29 #[.slice A1 n1 c1, .slice A2 n2 c2] J _ Tryz.underlying29 rfl (by kernel_rfl) (by first | rfl | simp [Region.wanted, yielded] | (simp [Region.wanted, yielded, Act.put] <;> omega)) ?_)
      refine (with_is (es := []) ⟨_, _, rfl, HK.out.later HB, HLL.out.later HB⟩ (.inl ⟨rfl, rfl⟩ : ListS [] w4 (fun _ => False) _) (by omega) (by show totC d.ls + 0 ≤ _; omega)).mono ?_
      rintro e w5 ⟨C5, rfl, LJ, hb⟩
      rw [List.append_nil] at LJ
      replace G := G.later hb G.lt
      replace J := J.later hb J.lt
      replace X := X.later hb X.lt
      replace R := R.later hb R.lt
      replace HB := bel_trans HB hb
      clear hb
      have JS := Lib.hid (sizeJ LJ.at).2
      have O := Lib.hid (oneJ LJ.at)
      obtain ⟨ua, ub, FA, FB, eC, -⟩ := id LJ
      injection eC with eC
      subst eC
      have ht := turns_row9 w5 (w.heap.size + 1 + 1 + 1) #[ua, ub]
      have R2 := R.setRow #[ua, ub]
      have L2 := Lib.hid ((keepsLJ _).sub ((keepsLJ _).turn LJ ht (fun b hb e => by have := hb.1; omega)) (F' := Iv w.heap.size (w5.setRow (w.heap.size + 1 + 1 + 1) #[ua, ub]).heap.size) (fun b hb => ⟨by have := hb.1; omega, by rw [size_setRow]; exact hb.2⟩))
      have E := Lib.hid (ht.below (bel_trans hb0 HB) (fun b hb => by omega))
      obtain ⟨r0, r1⟩ := R2.two
      clear R2 ht LJ
      go_wp2_with (refine wpList_store_row rfl 29 _ _ rfl (w.heap.size + 1 + 1 + 1) _ rfl rfl 29 #[.slice none 0 0, .slice none 0 0] R JS.out O.out.1.symm O.out.2 ?_)
      exact bodyPost_ret (v := .tuple #[.agg #[ua, ub], .bool false]) (by simp [results, Tryz.results22, go_sem, r0, r1]) rfl ⟨_, by rw [HD.out], by rw [HD.out]; exact L2.out, E.out⟩
    · have HD := Lib.hid (show rr = (⟨d.ks, d.ls ++ [r]⟩, true) by rw [← HZ2.out]; unfold notedD; rw [HJ.out, HY.out]; rfl)
      have hw4 := HB.size
      obtain ⟨u, eC2, hO⟩ := NX.dat
      injection eC2 with eC2
      have eu : u = .slice A3 m3 c3 := by have h9 := congrArg (fun a : Array Value => a[7]?) eC2; simpa [RecD.cells] using h9.symm
      subst eu
      have hb6 := bel_alloc w4 (.cells #[.int .i64 r.r1, .int .i64 r.r2, .int .i64 r.r3, .int .i64 r.r4, .int .i64 r.r5, .int .i64 r.r6, .int .i64 r.r7, .slice A3 m3 c3, .int .i64 r.r8] 46)
      have Q := Box.new w4 46 #[.int .i64 r.r1, .int .i64 r.r2, .int .i64 r.r3, .int .i64 r.r4, .int .i64 r.r5, .int .i64 r.r6, .int .i64 r.r7, .slice A3 m3 c3, .int .i64 r.r8]
      have LS := Lib.hid (one_rec (r := r) (u := .slice A3 m3 c3) Q (SlcF.turn hO.somewhere (T := fun _ => False) (Turns.of_below hb6) (fun _ _ h => h)))
      have HTL := Lib.hid (show totC d.ls + totC [r] ≤ 1048576 by rw [totC_one, hrp]; omega)
      clear Q hO eC2
      have NB := NX.box
      clear NX
      go_wp2_with (first | (refine wpList_load_box 29 _ rfl (w.heap.size + 1) rfl 29 #[.slice A1 n1 c1, .slice A2 n2 c2] J _ Tryz.underlying29 rfl (by kernel_rfl) (by first | rfl | simp [Region.wanted, yielded] | (simp [Region.wanted, yielded, Act.put] <;> omega)) ?_) | (refine wpList_load_box 46 _ rfl (w2.heap.size) rfl 46 #[.int .i64 r.r1, .int .i64 r.r2, .int .i64 r.r3, .int .i64 r.r4, .int .i64 r.r5, .int .i64 r.r6, .int .i64 r.r7, .slice A3 m3 c3, .int .i64 r.r8] NB _ Tryz.underlying46 rfl JR.out (by first | rfl | simp [Region.wanted, yielded] | (simp [Region.wanted, yielded, Act.put] <;> omega)) ?_))
      clear NB
      replace G := G.later hb6 G.lt
      replace J := J.later hb6 J.lt
      replace X := X.later hb6 X.lt
      replace R := R.later hb6 R.lt
      replace HB := bel_trans HB hb6
      generalize (w4.alloc (.cells #[.int .i64 r.r1, .int .i64 r.r2, .int .i64 r.r3, .int .i64 r.r4, .int .i64 r.r5, .int .i64 r.r6, .int .i64 r.r7, .slice A3 m3 c3, .int .i64 r.r8] 46) : World) = w6 at G J X R HB LS ⊢
      have hw6 := HB.size
      clear hb6
      refine (with_is (es := [r]) ⟨_, _, rfl, HK.out.later HB, HLL.out.later HB⟩ LS.out (by omega) HTL.out).mono ?_
      rintro e w5 ⟨C5, rfl, LJ, hb⟩
      replace G := G.later hb G.lt
      replace J := J.later hb J.lt
      replace X := X.later hb X.lt
      replace R := R.later hb R.lt
      replace HB := bel_trans HB hb
      clear hb
      have JS := Lib.hid (sizeJ LJ.at).2
      have O := Lib.hid (oneJ LJ.at)
      obtain ⟨ua, ub, FA, FB, eC, -⟩ := id LJ
      injection eC with eC
      subst eC
      have ht := turns_row9 w5 (w.heap.size + 1 + 1 + 1) #[ua, ub]
      have R2 := R.setRow #[ua, ub]
      have L2 := Lib.hid ((keepsLJ _).sub ((keepsLJ _).turn LJ ht (fun b hb e => by have := hb.1; omega)) (F' := Iv w.heap.size (w5.setRow (w.heap.size + 1 + 1 + 1) #[ua, ub]).heap.size) (fun b hb => ⟨by have := hb.1; omega, by rw [size_setRow]; exact hb.2⟩))
      have E := Lib.hid (ht.below (bel_trans hb0 HB) (fun b hb => by omega))
      obtain ⟨r0, r1⟩ := R2.two
      clear R2 ht LJ
      go_wp2_with (refine wpList_store_row rfl 29 _ _ rfl (w.heap.size + 1 + 1 + 1) _ rfl rfl 29 #[.slice none 0 0, .slice none 0 0] R JS.out O.out.1.symm O.out.2 ?_)
      exact bodyPost_ret (v := .tuple #[.agg #[ua, ub], .bool true]) (by simp [results, Tryz.results22, go_sem, r0, r1]) rfl ⟨_, by rw [HD.out], by rw [HD.out]; exact L2.out, E.out⟩

end Go.Proofs.YtjdepjpjjgkmbaaGreat

/- The model's copy of a journal, its loose list as a row that can grow (written by jour_with.py); conditions: the sizes. -/
namespace Go.Proofs.YtjdepjpjjgkmbaaGreat
open Go Go.RowKit

set_option maxRecDepth 100000 in
set_option maxHeartbeats 4000000 in
theorem l10CopyK_is {d : JourD} {w : World} {F : Nat → Prop} {C : Array Value} (h : AtS9 d w F (.agg C)) (hsk : totC d.ks ≤ 1048576) (hsl : totC d.ls ≤ 1048576) :
    Calls Tryz.prog 81 #[.agg C] w fun e w' => ∃ (GK ck GL cl : Nat) (ms : List (RecD × Value)) (Fs : Nat → Nat → Prop) (lo : Nat), e = .returned (.agg #[.slice (some ⟨GK, 0, none⟩) d.ks.length ck, .slice (some ⟨GL, 0, none⟩) d.ls.length cl]) ∧ OwnCS d.ks w' (Iv w.heap.size lo) (.slice (some ⟨GK, 0, none⟩) d.ks.length ck) ∧ RowK lo w' d.ls d.ls.length GL cl ms Fs ∧ w.heap.size ≤ lo ∧ Below w.heap.size w w' := by
  obtain ⟨u1, u2, e, hk, hl⟩ := h
  injection e with e
  subst e
  obtain ⟨A1, c1, rfl, -, -⟩ := hk.at
  obtain ⟨A2, c2, rfl, -, -⟩ := hl.at
  obtain ⟨n1, hn1⟩ : ∃ n, d.ks.length = n := ⟨_, rfl⟩
  obtain ⟨n2, hn2⟩ : ∃ n, d.ls.length = n := ⟨_, rfl⟩
  have hk0 : ListS d.ks w F (.slice A1 n1 c1) := by rw [← hn1]; exact hk
  have hl0 : ListS d.ls w F (.slice A2 n2 c2) := by rw [← hn2]; exact hl
  rw [hn1, hn2]
  have HN1 := Lib.hid hn1
  have HN2 := Lib.hid hn2
  clear hk hl hn1 hn2
  have hb0 := bel_trans (bel_alloc w (.cells #[.slice A1 n1 c1, .slice A2 n2 c2] 29)) (bel_alloc _ (.cells #[.slice none 0 0, .slice none 0 0] 29))
  have J := (Box.new w 29 #[.slice A1 n1 c1, .slice A2 n2 c2]).alloc (.cells #[.slice none 0 0, .slice none 0 0] 29)
  have R := Box.new (w.alloc (.cells #[.slice A1 n1 c1, .slice A2 n2 c2] 29)) 29 #[.slice none 0 0, .slice none 0 0]
  simp only [World.size_alloc] at R
  have HK := Lib.hid (hk0.later hb0)
  have HLL := Lib.hid (hl0.later hb0)
  clear hk0 hl0
  go_enter Tryz.func81, Tryz.ntmps81
  go_upto_region 1 with fail
  generalize ((w.alloc _).alloc _ : World) = w0 at hb0 J R HK HLL ⊢
  have hw0 := hb0.size
  have hR0 := R.lt
  have HB := Below.refl w0.heap.size w0
  refine wp_region_sink 8 (fun w' => Box w' w.heap.size 29 #[.slice A1 n1 c1, .slice A2 n2 c2]) (by kernel_rfl) J (fun hH => ?_)
  have hb := (Below.refl w0.heap.size w0).drew
  replace HB := bel_trans HB hb
  replace J := J.later hb J.lt
  replace R := R.later hb R.lt
  clear hb
  generalize w0.drew = w3 at J R HB hH ⊢
  have hs3 := HB.size
  refine wpAnyE_pure (i := 0) (v := ?vp0) (by simp only [List.getElem?_toArray, List.getElem?_cons_zero]; rfl) (by kernel_rfl) (by kernel_rfl) (by kernel_rfl) (by exact fun _ _ _ h => h) (by kernel_rfl) (Or.inl ⟨by rfl, ?yp0⟩) hH ?rp0
  case yp0 => (intro w' hSw; (try dsimp only at hSw); go_simp; try with_reducible rfl)
  try simp only [Act.put, List.setIfInBounds_toArray, List.set_cons_zero, List.set_cons_succ]
  refine wpAnyE_takeS (i := 1) (v := (.slice A1 n1 c1)) (by simp only [List.getElem?_toArray, List.getElem?_cons_succ, List.getElem?_cons_zero]; rfl) (by kernel_rfl) (by kernel_rfl) (by kernel_rfl) (by exact fun _ _ _ h => h) (by kernel_rfl) ?yc1 hH ?_
  case yc1 => exact .inl ⟨(by first | rfl | simp [Region.wanted, yielded] | (simp [Region.wanted, yielded, Act.put] <;> omega)), fun w' hSw => by (try dsimp only at hSw); have hc := (Box.two hSw).1; go_simp; try with_reducible rfl⟩
  try simp only [Act.put, List.setIfInBounds_toArray, List.set_cons_zero, List.set_cons_succ]
  refine wpAnyE_pure (i := 3) (v := ?vp2) (by simp only [List.getElem?_toArray, List.getElem?_cons_succ, List.getElem?_cons_zero]; rfl) (by kernel_rfl) (by kernel_rfl) (by kernel_rfl) (by exact fun _ _ _ h => h) (by kernel_rfl) (Or.inl ⟨by rfl, ?yp2⟩) hH ?rp2
  case yp2 => (intro w' hSw; (try dsimp only at hSw); go_simp; try with_reducible rfl)
  try simp only [Act.put, List.setIfInBounds_toArray, List.set_cons_zero, List.set_cons_succ]
  refine wpAnyE_takeS (i := 4) (v := (.slice A2 n2 c2)) (by simp only [List.getElem?_toArray, List.getElem?_cons_succ, List.getElem?_cons_zero]; rfl) (by kernel_rfl) (by kernel_rfl) (by kernel_rfl) (by exact fun _ _ _ h => h) (by kernel_rfl) ?yc3 hH ?_
  case yc3 => exact .inl ⟨(by first | rfl | simp [Region.wanted, yielded] | (simp [Region.wanted, yielded, Act.put] <;> omega)), fun w' hSw => by (try dsimp only at hSw); have hc := (Box.two hSw).2; go_simp; try with_reducible rfl⟩
  try simp only [Act.put, List.setIfInBounds_toArray, List.set_cons_zero, List.set_cons_succ]
  refine wpAnyE_one (i := 2) (by kernel_rfl) (by simp only [List.getElem?_toArray, List.getElem?_cons_succ, List.getElem?_cons_zero]; rfl) (fun K hK => ?_)
  go_simp
  refine (l10Recs_is (HK.out.later HB) (by omega)).mono ?_
  rintro e w4 ⟨GK, ck, rfl, OK, hb⟩
  have sk := hb.size
  replace J := J.later hb J.lt
  replace R := R.later hb R.lt
  replace HB := bel_trans HB hb
  clear hb
  clear hH
  refine hK.out _ _ J (fun hH => ?_)
  clear hK K
  try simp only [Act.put, List.setIfInBounds_toArray, List.set_cons_zero, List.set_cons_succ]
  refine wpAnyE_one (i := 5) (by kernel_rfl) (by simp only [List.getElem?_toArray, List.getElem?_cons_succ, List.getElem?_cons_zero]; rfl) (fun K hK => ?_)
  go_simp
  refine (l10RecsK_is (HLL.out.later HB) (by omega)).mono ?_
  rintro e w5 ⟨GL, cl, ms, Fs, rfl, KL⟩
  have hb := KL.bel
  have OL := KL.row
  have h45 := hb.size
  have sl := hb.size
  replace J := J.later hb J.lt
  replace R := R.later hb R.lt
  replace HB := bel_trans HB hb
  replace OK := OK.lt.later hb
  clear hb
  clear hH
  refine hK.out _ _ J (fun hH => ?_)
  clear hK K
  try simp only [Act.put, List.setIfInBounds_toArray, List.set_cons_zero, List.set_cons_succ]
  refine wpAnyE_pure (i := 6) (v := ?vbk) (by simp only [List.getElem?_toArray, List.getElem?_cons_succ, List.getElem?_cons_zero]; rfl) (by kernel_rfl) (by kernel_rfl) (by kernel_rfl) (by exact fun _ _ _ h => h) (by kernel_rfl) (Or.inl ⟨by rfl, ?ybk⟩) hH ?rbk
  case ybk => (intro w' hSw; (try dsimp only at hSw); go_simp; try with_reducible rfl)
  try simp only [Act.put, List.setIfInBounds_toArray, List.set_cons_zero, List.set_cons_succ]
  refine wpAnyE_end (i := 7) (by kernel_rfl) (by simp only [List.getElem?_toArray, List.getElem?_cons_succ, List.getElem?_cons_zero]; rfl) (by kernel_rfl) (fun K hK => ?_)
  rw [if_pos (by first | rfl | kernel_rfl | simp [Region.wanted, yielded])]
  have ht := turns_row9 w5 (w.heap.size + 1) #[.slice (some ⟨GK, 0, none⟩) d.ks.length ck, .slice (some ⟨GL, 0, none⟩) d.ls.length cl]
  refine wp_store_row 29 _ _ rfl (w.heap.size + 1) _ rfl rfl 29 #[.slice none 0 0, .slice none 0 0] R (by kernel_rfl) rfl (by simp [Value.oneCell']) ?_
  refine hK.out _ _ (J.turn ht (by omega)) ?_
  clear hK K hH
  try simp only [Act.put]
  have R2 := R.setRow #[.slice (some ⟨GK, 0, none⟩) d.ks.length ck, .slice (some ⟨GL, 0, none⟩) d.ls.length cl]
  have P1 := OK.turn ht (fun b hb => by have := hb.1.1; omega)
  have P2 := OL.turn ht (fun b hb => by have hb : b = w.heap.size + 1 := hb; omega)
  have hsz5 := ht.size
  have E := Lib.hid (ht.below (bel_trans hb0 HB) (fun b hb => by omega))
  clear R J ht
  generalize (w5.setRow _ _ : World) = w7 at R2 P1 P2 E hsz5 ⊢
  obtain ⟨r0, r1⟩ := R2.two
  have LJ := Lib.hid (OwnCS.sub P1 (F' := Iv w.heap.size w4.heap.size) (fun b hb => ⟨by have := hb.1.1; omega, hb.1.2⟩))
  have LK := Lib.hid P2
  have hw4 : w.heap.size ≤ w4.heap.size := by omega
  clear R2 P1 P2 OK OL KL
  go_wp2
  exact bodyPost_ret (v := .agg #[.slice (some ⟨GK, 0, none⟩) d.ks.length ck, .slice (some ⟨GL, 0, none⟩) d.ls.length cl]) (by simp [results, Tryz.results81, go_sem, r0, r1]) rfl ⟨GK, ck, GL, cl, ms, Fs, w4.heap.size, by rw [HN1.out, HN2.out], by have h := LJ.out; rw [HN1.out] at h; exact h, by have h := LK.out; rw [HN2.out] at h; exact h, hw4, E.out⟩

end Go.Proofs.YtjdepjpjjgkmbaaGreat

/- Noted of the model: a journal with one record more, in memory of its own (written by jour_noted2.py); conditions: the sizes. -/
namespace Go.Proofs.YtjdepjpjjgkmbaaGreat
open Go Go.RowKit

theorem jok_snoc {g : GrpD} {d : JourD} {r : RecD} (h : jokD g d = true) (hr : r.r1 = ((d.ks.length + d.ls.length : Nat) : Int) + 1) : jokD g ⟨d.ks, d.ls ++ [r]⟩ = rokD g r := by
  have hl : (d.ks ++ (d.ls ++ [r])).length = d.ks.length + d.ls.length + 1 := by simp [Nat.add_assoc]
  have hg : (d.ks ++ (d.ls ++ [r]))[d.ks.length + d.ls.length]'(by omega) = r := by simp
  have h1 : okG g = true ∧ allAt g (d.ks ++ d.ls) = true := by
    unfold jokD replD at h
    split at h
    · rename_i hc
      rwa [Bool.and_eq_true] at hc
    · cases h
  have hold : ∀ i, i < d.ks.length + d.ls.length → isAt g (d.ks ++ (d.ls ++ [r])) i = true := fun i hi => by
    have h2 := allAt_of h1.2 i (by rw [List.length_append]; exact hi)
    rw [isAt_lt (by rw [List.length_append]; exact hi)] at h2
    rw [isAt_lt (by omega)]
    have e : (d.ks ++ (d.ls ++ [r]))[i]'(by omega) = (d.ks ++ d.ls)[i]'(by rw [List.length_append]; exact hi) := by
      simp only [← List.append_assoc]
      rw [List.getElem_append_left (by rw [List.length_append]; exact hi)]
    rw [e]
    exact h2
  have hat : isAt g (d.ks ++ (d.ls ++ [r])) (d.ks.length + d.ls.length) = rokD g r := by
    rw [isAt_lt (by omega), hg, hr]
    simp
  have e : jokD g ⟨d.ks, d.ls ++ [r]⟩ = allAt g (d.ks ++ (d.ls ++ [r])) := by
    unfold jokD replD
    show (if okG g && allAt g (d.ks ++ (d.ls ++ [r])) then (shelves g (d.ks ++ (d.ls ++ [r])), true) else ([], false)).2 = _
    rw [h1.1, Bool.true_and]
    cases allAt g (d.ks ++ (d.ls ++ [r])) <;> rfl
  rw [e]
  cases hy : rokD g r
  · exact allAt_false (i := d.ks.length + d.ls.length) (by omega) (by rw [hat, hy])
  · refine allAt_true (fun i hi => ?_)
    rcases Nat.lt_or_ge i (d.ks.length + d.ls.length) with h2 | h2
    · exact hold i h2
    · obtain rfl : i = d.ks.length + d.ls.length := by omega
      rw [hat, hy]
theorem RowK.turn2 {base : Nat} {wr w' : World} {ds : List RecD} {k g cap : Nat} {ms : List (RecD × Value)} {Fs : Nat → Nat → Prop} {T : Nat → Prop} (h : RowK base wr ds k g cap ms Fs) (ht : Turns T wr w') (hg : ¬ T g) (hF : ∀ i, i < k → ∀ b, Fs i b → ¬ T b) : RowK base w' ds k g cap ms Fs := by
  obtain ⟨g1, g2⟩ := h.gl
  refine ⟨⟨h.own.1, ?_⟩, h.map, fun i hi => (h.cert i hi).turn ht (hF i (by rw [h.len] at hi; exact hi)), fun i hi b hb => ⟨(h.far i hi b hb).1, Nat.lt_of_lt_of_le (h.far i hi b hb).2.1 ht.size, (h.far i hi b hb).2.2⟩, h.two⟩
  rcases h.own.2 with ⟨e, _⟩ | ⟨g', cap', cur, e, hb, hgg, h1, h2, h3, h4⟩
  · cases e
  · injection e with e1 _ e3
    injection e1 with e1
    injection e1 with e1 _ _
    subst e1 e3
    exact .inr ⟨g, cap, cur, rfl, hb, (ht.block g g2 hg).trans hgg, h1, h2, h3, h4⟩

set_option maxRecDepth 100000 in
set_option maxHeartbeats 8000000 in
theorem specNoted_is {g : GrpD} {d : JourD} {w : World} {F0 F1 : Nat → Prop} {C0 C1 : Array Value} (kd sh cl t1 t2 v : Int) {u0 : Value} {cs : List (Int × Int)} (h0 : AtG g w F0 (.agg C0)) (h1 : AtS9 d w F1 (.agg C1)) (hc : Slc w u0 cs) (hs : g.sz + d.sz + cs.length ≤ 1048576) {rr : JourD × Bool} (hr : notedD g d (newD d kd sh cl t1 t2 v cs) = rr) :
    Calls Tryz.prog 23 #[.agg C0, .agg C1, .int .i64 kd, .int .i64 sh, .int .i64 cl, .agg #[.int .i64 t1, .int .i64 t2], .int .i64 v, u0] w (MadeN rr w) := by
  obtain ⟨j0, hj0, hy0, hy1, hy2⟩ := info_parts Tryz.infoRecI
  obtain ⟨u1, u2, e, hk, hl⟩ := h1
  injection e with e
  subst e
  obtain ⟨A1, c1, rfl, -, -⟩ := hk.at
  obtain ⟨A2, c2, rfl, -, -⟩ := hl.at
  obtain ⟨A0, n0, c0, rfl⟩ := slc_form hc
  have HZ := Lib.hid hr
  have hsk : totC d.ks + totC d.ls = d.sz := rfl
  obtain ⟨n1, hn1⟩ : ∃ n, d.ks.length = n := ⟨_, rfl⟩
  obtain ⟨n2, hn2⟩ : ∃ n, d.ls.length = n := ⟨_, rfl⟩
  have hk0 : ListS d.ks w F1 (.slice A1 n1 c1) := by rw [← hn1]; exact hk
  have hl0 : ListS d.ls w F1 (.slice A2 n2 c2) := by rw [← hn2]; exact hl
  rw [hn1, hn2]
  have HN1 := Lib.hid hn1
  have HN2 := Lib.hid hn2
  have hnn : n1 + n2 ≤ 1048576 := by have := totC_len d.ks; have := totC_len d.ls; omega
  obtain ⟨s, hs1, hs2⟩ : ∃ s : Nat, (n1 : Int) + (n2 : Int) = (s : Int) ∧ n1 + n2 = s := ⟨n1 + n2, by omega, rfl⟩
  have hw1 : IntKind.i64.wrap ((s : Int) + 1) = (s : Int) + 1 := IntWalk.i64_in _ (by omega)
  have hnd : newD d kd sh cl t1 t2 v cs = ⟨(s : Int) + 1, kd, sh, cl, t1, t2, v, cs, sumN ((s : Int) + 1) kd sh cl t1 t2 v cs⟩ := by unfold newD; rw [hn1, hn2, hs2]
  have HND := Lib.hid hnd
  clear hk hl hr hn1 hn2 hnd
  have J0 := Lib.hid (sizeG h0).2
  have hb0 := bel_trans (bel_trans (bel_trans (bel_alloc w (.cells C0 26)) (bel_alloc _ (.cells #[.slice A1 n1 c1, .slice A2 n2 c2] 29))) (bel_alloc _ (.cells #[.int .i64 t1, .int .i64 t2] 39))) (bel_alloc _ (.cells #[.slice none 0 0, .slice none 0 0] 29))
  have G := (((Box.new w 26 C0).alloc (.cells #[.slice A1 n1 c1, .slice A2 n2 c2] 29)).alloc (.cells #[.int .i64 t1, .int .i64 t2] 39)).alloc (.cells #[.slice none 0 0, .slice none 0 0] 29)
  have J := ((Box.new (w.alloc (.cells C0 26)) 29 #[.slice A1 n1 c1, .slice A2 n2 c2]).alloc (.cells #[.int .i64 t1, .int .i64 t2] 39)).alloc (.cells #[.slice none 0 0, .slice none 0 0] 29)
  have X := (Box.new ((w.alloc (.cells C0 26)).alloc (.cells #[.slice A1 n1 c1, .slice A2 n2 c2] 29)) 39 #[.int .i64 t1, .int .i64 t2]).alloc (.cells #[.slice none 0 0, .slice none 0 0] 29)
  have R := Box.new (((w.alloc (.cells C0 26)).alloc (.cells #[.slice A1 n1 c1, .slice A2 n2 c2] 29)).alloc (.cells #[.int .i64 t1, .int .i64 t2] 39)) 29 #[.slice none 0 0, .slice none 0 0]
  simp only [World.size_alloc] at J X R
  have H0 := Lib.hid ((keepsG g).later h0 hb0)
  have HK := Lib.hid (hk0.later hb0)
  have HLL := Lib.hid (hl0.later hb0)
  have HC := Lib.hid (hc.later hb0)
  clear h0 hk0 hl0 hc
  go_enter Tryz.func23, Tryz.ntmps23
  go_upto_region 1 with fail
  generalize ((((w.alloc _).alloc _).alloc _).alloc _ : World) = w0 at hb0 G J X R H0 HK HLL HC ⊢
  have hw0 := hb0.size
  have hR0 := R.lt
  have HB := Below.refl w0.heap.size w0
  obtain ⟨z, hz⟩ : ∃ z, jokD g d = z := ⟨_, rfl⟩
  have HJ := Lib.hid hz
  clear hz
  go_wp2_with (first | (refine wpList_load_box 26 _ rfl (w.heap.size) rfl 26 C0 G _ Tryz.underlying26 rfl J0.out (by first | rfl | simp [Region.wanted, yielded] | (simp [Region.wanted, yielded, Act.put] <;> omega)) ?_) | (refine wpList_load_box 29 _ rfl (w.heap.size + 1) rfl 29 #[.slice A1 n1 c1, .slice A2 n2 c2] J _ Tryz.underlying29 rfl (by kernel_rfl) (by first | rfl | simp [Region.wanted, yielded] | (simp [Region.wanted, yielded, Act.put] <;> omega)) ?_))
  refine (specJournalOk_is H0.out ⟨_, _, rfl, HK.out, HLL.out⟩ (by omega) HJ.out).mono ?_
  rintro e w1 ⟨rfl, hb⟩
  replace G := G.later hb G.lt
  replace J := J.later hb J.lt
  replace X := X.later hb X.lt
  replace R := R.later hb R.lt
  replace HB := bel_trans HB hb
  clear hb
  cases z
  · have HD := Lib.hid (show rr = (⟨[], []⟩, false) by rw [← HZ.out]; unfold notedD; rw [HJ.out]; rfl)
    have R2 := R.setRow #[.slice none 0 0, .slice none 0 0]
    have E := Lib.hid (((turns_row9 w1 (w.heap.size + 1 + 1 + 1) #[.slice none 0 0, .slice none 0 0]).below (bel_trans hb0 HB) (fun b hb => by omega)))
    obtain ⟨r0, r1⟩ := R2.two
    clear R2 G J X
    go_wp2_with (refine wpList_store_row rfl 29 _ _ rfl (w.heap.size + 1 + 1 + 1) _ rfl rfl 29 #[.slice none 0 0, .slice none 0 0] R (by kernel_rfl) rfl (by simp [Value.oneCell']) ?_)
    exact bodyPost_ret (v := .tuple #[.agg #[.slice none 0 0, .slice none 0 0], .bool false]) (by simp [results, Tryz.results23, go_sem, r0, r1]) rfl ⟨_, by rw [HD.out], by rw [HD.out]; exact zeroJ _ _, E.out⟩
  · skip
    have hg1 := jok_grp HJ.out
    have hw1s := HB.size
    have hkk : totC d.ks ≤ 1048576 := by omega
    have hll : totC d.ls ≤ 1048576 := by omega
    go_wp2_with (refine wpList_load_box 29 _ rfl (w.heap.size + 1) rfl 29 #[.slice A1 n1 c1, .slice A2 n2 c2] J _ Tryz.underlying29 rfl (by kernel_rfl) (by first | rfl | simp [Region.wanted, yielded] | (simp [Region.wanted, yielded, Act.put] <;> omega)) ?_)
    refine (l10CopyK_is ⟨_, _, rfl, HK.out.later HB, HLL.out.later HB⟩ hkk hll).mono ?_
    rintro e w2 ⟨GK, ck, GL, lcp, ms, Fs, lo, rfl, OK, RL, hlo, hb⟩
    rw [HN1.out] at OK ⊢
    rw [HN2.out] at RL ⊢
    replace G := G.later hb G.lt
    replace J := J.later hb J.lt
    replace X := X.later hb X.lt
    replace R := R.later hb R.lt
    replace HB := bel_trans HB hb
    clear hb
    have hFV : ∀ i, i < n2 → ∀ b, Fs i b → b < w2.heap.size := fun i hi b hb => (RL.far i hi b hb).2.1
    have hGLb := RL.gl
    have hn := bel_new_row w2 #[.slice none 0 0, .slice none 0 0] 29 #[.slice (some ⟨GK, 0, none⟩) n1 ck, .slice (some ⟨GL, 0, none⟩) n2 lcp]
    have OX := (Box.new w2 29 #[.slice none 0 0, .slice none 0 0]).setRow #[.slice (some ⟨GK, 0, none⟩) n1 ck, .slice (some ⟨GL, 0, none⟩) n2 lcp]
    have ZB := Box.new w2 29 #[.slice none 0 0, .slice none 0 0]
    replace G := G.later hn G.lt
    replace J := J.later hn J.lt
    replace X := X.later hn X.lt
    replace R := R.later hn R.lt
    replace HB := bel_trans HB hn
    replace OK := OK.later hn
    replace RL := RL.later hn
    have hw2s := hn.size
    clear hn
    go_upto_region 4 with (refine wpList_store_row rfl 29 _ _ rfl w2.heap.size _ rfl rfl 29 #[.slice none 0 0, .slice none 0 0] ZB (by kernel_rfl) rfl (by simp [Value.oneCell']) ?_)
    clear ZB
    try simp only [Act.put]
    generalize ((w2.alloc _).setRow _ _ : World) = w3 at G J X R HB OX OK RL hw2s ⊢
    generalize w2.heap.size = V at OX hFV hGLb hw2s ⊢
    have hVl := OX.lt
    refine wp_region_sink 20 (fun w' => Box w' V 29 #[.slice (some ⟨GK, 0, none⟩) n1 ck, .slice (some ⟨GL, 0, none⟩) n2 lcp] ∧ Box w' (w.heap.size + 1) 29 #[.slice A1 n1 c1, .slice A2 n2 c2] ∧ Box w' (w.heap.size + 1 + 1) 39 #[.int .i64 t1, .int .i64 t2]) (by kernel_rfl) ⟨OX, J, X⟩ (fun hH => ?_)
    have hb := (Below.refl w3.heap.size w3).drew
    replace G := G.later hb G.lt
    replace J := J.later hb J.lt
    replace X := X.later hb X.lt
    replace R := R.later hb R.lt
    replace HB := bel_trans HB hb
    replace OX := OX.later hb OX.lt
    replace OK := OK.later hb
    replace RL := RL.later hb
    clear hb
    have hszd : w3.heap.size = w3.drew.heap.size := rfl
    rw [hszd] at hVl
    clear hszd hw2s
    generalize w3.drew = w4 at G J X R HB OX OK RL hH hVl ⊢
    have hw4 := HB.size
    have hwS : IntKind.i64.wrap (s : Int) = (s : Int) := IntWalk.i64_in _ (by omega)
    have hadd : IntKind.i64.wrap ((n1 : Int) + (n2 : Int)) = (s : Int) := by rw [hs1]; exact hwS
    refine wpAnyE_pure (i := 0) (v := ?vp0) (by simp only [List.getElem?_toArray, List.getElem?_cons_zero]; rfl) (by kernel_rfl) (by kernel_rfl) (by kernel_rfl) (by exact fun _ _ _ h => h) (by kernel_rfl) (Or.inl ⟨by rfl, ?yp0⟩) hH ?rp0
    case yp0 => (intro w' hSw; (try dsimp only at hSw); go_simp; try with_reducible rfl)
    try simp only [Act.put, List.setIfInBounds_toArray, List.set_cons_zero, List.set_cons_succ]
    refine wpAnyE_take (i := 1) (v := (.slice (some ⟨GL, 0, none⟩) n2 lcp)) (by simp only [List.getElem?_toArray, List.getElem?_cons_succ, List.getElem?_cons_zero]; rfl) (by kernel_rfl) (by kernel_rfl) (by kernel_rfl) (by exact fun _ _ _ h => h) (by kernel_rfl) ?yc1 hH ?_
    case yc1 => exact .inl ⟨(by first | rfl | simp [Region.wanted, yielded] | (simp [Region.wanted, yielded, Act.put] <;> omega)), fun w' hSw => by (try dsimp only at hSw); have hc := (Box.two hSw.1).2; go_simp; try with_reducible rfl⟩
    try simp only [Act.put, List.setIfInBounds_toArray, List.set_cons_zero, List.set_cons_succ]
    refine wpAnyE_pure (i := 2) (v := ?vp2) (by simp only [List.getElem?_toArray, List.getElem?_cons_succ, List.getElem?_cons_zero]; rfl) (by kernel_rfl) (by kernel_rfl) (by kernel_rfl) (by exact fun _ _ _ h => h) (by kernel_rfl) (Or.inl ⟨by rfl, ?yp2⟩) hH ?rp2
    case yp2 => (intro w' hSw; (try dsimp only at hSw); go_simp; try with_reducible rfl)
    try simp only [Act.put, List.setIfInBounds_toArray, List.set_cons_zero, List.set_cons_succ]
    refine wpAnyE_take (i := 3) (v := (.slice A1 n1 c1)) (by simp only [List.getElem?_toArray, List.getElem?_cons_succ, List.getElem?_cons_zero]; rfl) (by kernel_rfl) (by kernel_rfl) (by kernel_rfl) (by exact fun _ _ _ h => h) (by kernel_rfl) ?yc3 hH ?_
    case yc3 => exact .inl ⟨(by first | rfl | simp [Region.wanted, yielded] | (simp [Region.wanted, yielded, Act.put] <;> omega)), fun w' hSw => by (try dsimp only at hSw); have hc := (Box.two hSw.2.1).1; go_simp; try with_reducible rfl⟩
    try simp only [Act.put, List.setIfInBounds_toArray, List.set_cons_zero, List.set_cons_succ]
    refine wpAnyE_pure (i := 4) (v := ?vp4) (by simp only [List.getElem?_toArray, List.getElem?_cons_succ, List.getElem?_cons_zero]; rfl) (by kernel_rfl) (by kernel_rfl) (by kernel_rfl) (by exact fun _ _ _ h => h) (by kernel_rfl) (Or.inl ⟨by rfl, ?yp4⟩) hH ?rp4
    case yp4 => (intro w' hSw; (try dsimp only at hSw); go_simp; try with_reducible rfl)
    try simp only [Act.put, List.setIfInBounds_toArray, List.set_cons_zero, List.set_cons_succ]
    refine wpAnyE_pure (i := 5) (v := ?vp5) (by simp only [List.getElem?_toArray, List.getElem?_cons_succ, List.getElem?_cons_zero]; rfl) (by kernel_rfl) (by kernel_rfl) (by kernel_rfl) (by exact fun _ _ _ h => h) (by kernel_rfl) (Or.inl ⟨by rfl, ?yp5⟩) hH ?rp5
    case yp5 => (intro w' hSw; (try dsimp only at hSw); go_simp; try with_reducible rfl)
    try simp only [Act.put, List.setIfInBounds_toArray, List.set_cons_zero, List.set_cons_succ]
    refine wpAnyE_take (i := 6) (v := (.slice A2 n2 c2)) (by simp only [List.getElem?_toArray, List.getElem?_cons_succ, List.getElem?_cons_zero]; rfl) (by kernel_rfl) (by kernel_rfl) (by kernel_rfl) (by exact fun _ _ _ h => h) (by kernel_rfl) ?yc6 hH ?_
    case yc6 => exact .inl ⟨(by first | rfl | simp [Region.wanted, yielded] | (simp [Region.wanted, yielded, Act.put] <;> omega)), fun w' hSw => by (try dsimp only at hSw); have hc := (Box.two hSw.2.1).2; go_simp; try with_reducible rfl⟩
    try simp only [Act.put, List.setIfInBounds_toArray, List.set_cons_zero, List.set_cons_succ]
    refine wpAnyE_pure (i := 7) (v := ?vp7) (by simp only [List.getElem?_toArray, List.getElem?_cons_succ, List.getElem?_cons_zero]; rfl) (by kernel_rfl) (by kernel_rfl) (by kernel_rfl) (by exact fun _ _ _ h => h) (by kernel_rfl) (Or.inl ⟨by rfl, ?yp7⟩) hH ?rp7
    case yp7 => (intro w' hSw; (try dsimp only at hSw); go_simp; try with_reducible rfl)
    try simp only [Act.put, List.setIfInBounds_toArray, List.set_cons_zero, List.set_cons_succ]
    refine wpAnyE_pure (i := 8) (v := ?vp8) (by simp only [List.getElem?_toArray, List.getElem?_cons_succ, List.getElem?_cons_zero]; rfl) (by kernel_rfl) (by kernel_rfl) (by kernel_rfl) (by exact fun _ _ _ h => h) (by kernel_rfl) (Or.inl ⟨by rfl, ?yp8⟩) hH ?rp8
    case yp8 => (intro w' hSw; (try dsimp only at hSw); go_simp; try with_reducible rfl)
    try simp only [Act.put, List.setIfInBounds_toArray, List.set_cons_zero, List.set_cons_succ]
    refine wpAnyE_pure (i := 9) (v := ?vp9) (by simp only [List.getElem?_toArray, List.getElem?_cons_succ, List.getElem?_cons_zero]; rfl) (by kernel_rfl) (by kernel_rfl) (by kernel_rfl) (by exact fun _ _ _ h => h) (by kernel_rfl) (Or.inl ⟨by rfl, ?yp9⟩) hH ?rp9
    case yp9 => (intro w' hSw; (try dsimp only at hSw); go_simp; try with_reducible rfl)
    try simp only [Act.put, List.setIfInBounds_toArray, List.set_cons_zero, List.set_cons_succ]
    refine wpAnyE_pure (i := 10) (v := ?vp10) (by simp only [List.getElem?_toArray, List.getElem?_cons_succ, List.getElem?_cons_zero]; rfl) (by kernel_rfl) (by kernel_rfl) (by kernel_rfl) (by exact fun _ _ _ h => h) (by kernel_rfl) (Or.inl ⟨by rfl, ?yp10⟩) hH ?rp10
    case yp10 => (intro w' hSw; (try dsimp only at hSw); go_simp; try with_reducible rfl)
    try simp only [Act.put, List.setIfInBounds_toArray, List.set_cons_zero, List.set_cons_succ]
    refine wpAnyE_pure (i := 11) (v := ?vp11) (by simp only [List.getElem?_toArray, List.getElem?_cons_succ, List.getElem?_cons_zero]; rfl) (by kernel_rfl) (by kernel_rfl) (by kernel_rfl) (by exact fun _ _ _ h => h) (by kernel_rfl) (Or.inl ⟨by rfl, ?yp11⟩) hH ?rp11
    case yp11 => (intro w' hSw; (try dsimp only at hSw); go_simp; try with_reducible rfl)
    try simp only [Act.put, List.setIfInBounds_toArray, List.set_cons_zero, List.set_cons_succ]
    refine wpAnyE_pure (i := 12) (v := ?vp12) (by simp only [List.getElem?_toArray, List.getElem?_cons_succ, List.getElem?_cons_zero]; rfl) (by kernel_rfl) (by kernel_rfl) (by kernel_rfl) (by exact fun _ _ _ h => h) (by kernel_rfl) (Or.inl ⟨by rfl, ?yp12⟩) hH ?rp12
    case yp12 => (intro w' hSw; (try dsimp only at hSw); go_simp; try with_reducible rfl)
    try simp only [Act.put, List.setIfInBounds_toArray, List.set_cons_zero, List.set_cons_succ]
    refine wpAnyE_take (i := 13) (v := .agg #[.int .i64 t1, .int .i64 t2]) (by simp only [List.getElem?_toArray, List.getElem?_cons_succ, List.getElem?_cons_zero]; rfl) (by kernel_rfl) (by kernel_rfl) (by kernel_rfl) (by exact fun _ _ _ h => h) (by kernel_rfl) ?yx hH ?_
    case yx => exact yields_box 39 _ rfl (w.heap.size + 1 + 1) rfl 39 #[.int .i64 t1, .int .i64 t2] (fun _ h => h.2.2) _ Tryz.underlying39 rfl (by kernel_rfl) (by first | rfl | simp [Region.wanted, yielded] | (simp [Region.wanted, yielded, Act.put] <;> omega))
    try simp only [Act.put, List.setIfInBounds_toArray, List.set_cons_zero, List.set_cons_succ]
    refine wpAnyE_pure (i := 14) (v := ?vp14) (by simp only [List.getElem?_toArray, List.getElem?_cons_succ, List.getElem?_cons_zero]; rfl) (by kernel_rfl) (by kernel_rfl) (by kernel_rfl) (by exact fun _ _ _ h => h) (by kernel_rfl) (Or.inl ⟨by rfl, ?yp14⟩) hH ?rp14
    case yp14 => (intro w' hSw; (try dsimp only at hSw); go_simp; try with_reducible rfl)
    try simp only [Act.put, List.setIfInBounds_toArray, List.set_cons_zero, List.set_cons_succ]
    refine wpAnyE_pure (i := 15) (v := ?vp15) (by simp only [List.getElem?_toArray, List.getElem?_cons_succ, List.getElem?_cons_zero]; rfl) (by kernel_rfl) (by kernel_rfl) (by kernel_rfl) (by exact fun _ _ _ h => h) (by kernel_rfl) (Or.inl ⟨by rfl, ?yp15⟩) hH ?rp15
    case yp15 => (intro w' hSw; (try dsimp only at hSw); go_simp; try with_reducible rfl)
    try simp only [Act.put, List.setIfInBounds_toArray, List.set_cons_zero, List.set_cons_succ]
    refine wpAnyE_one (i := 16) (by kernel_rfl) (by simp only [List.getElem?_toArray, List.getElem?_cons_succ, List.getElem?_cons_zero]; rfl) (fun K hK => ?_)
    go_simp
    refine (specNewRec_is ((s : Int) + 1) kd sh cl t1 t2 v _ cs w4 (by omega) (HC.out.later HB)).mono ?_
    rintro e w5 ⟨CR, rfl, hL, hb⟩
    rw [← HND.out] at hL
    obtain ⟨r, hr⟩ : ∃ r, newD d kd sh cl t1 t2 v cs = r := ⟨_, rfl⟩
    have hrp : r.ps = cs := by rw [← hr]; rfl
    have hr1 : r.r1 = ((d.ks.length + d.ls.length : Nat) : Int) + 1 := by rw [← hr]; rfl
    have HR1 := Lib.hid hr1
    have HZ2 := Lib.hid HZ.out
    rw [hr] at hL HZ2
    clear hr hr1 HZ HND
    have hsV := hb.size
    obtain ⟨u, eC, hO⟩ := hL
    injection eC with eC
    obtain ⟨A3, m3, c3, rfl⟩ := slc_form hO.somewhere.slc
    subst eC
    unfold RecD.cells
    have hb5 := hb
    have RL4 := Lib.hid RL
    replace G := G.later hb G.lt
    replace J := J.later hb J.lt
    replace X := X.later hb X.lt
    replace R := R.later hb R.lt
    replace HB := bel_trans HB hb
    replace OX := OX.later hb OX.lt
    replace OK := OK.later hb
    replace RL := RL.later hb
    clear hb
    clear hH
    refine hK.out _ _ ⟨OX, J, X⟩ (fun hH => ?_)
    clear hK K
    try simp only [Act.put, List.setIfInBounds_toArray, List.set_cons_zero, List.set_cons_succ]
    refine wpAnyE_one (i := 17) (by kernel_rfl) (by simp only [List.getElem?_toArray, List.getElem?_cons_succ, List.getElem?_cons_zero]; rfl) (fun K hK => ?_)
    go_simp
    have hb := bel_alloc w5 (.cells #[.int .i64 r.r1, .int .i64 r.r2, .int .i64 r.r3, .int .i64 r.r4, .int .i64 r.r5, .int .i64 r.r6, .int .i64 r.r7, .slice A3 m3 c3, .int .i64 r.r8] 46)
    have Q := Box.new w5 46 #[.int .i64 r.r1, .int .i64 r.r2, .int .i64 r.r3, .int .i64 r.r4, .int .i64 r.r5, .int .i64 r.r6, .int .i64 r.r7, .slice A3 m3 c3, .int .i64 r.r8]
    replace G := G.later hb G.lt
    replace J := J.later hb J.lt
    replace X := X.later hb X.lt
    replace R := R.later hb R.lt
    replace HB := bel_trans HB hb
    replace OX := OX.later hb OX.lt
    replace OK := OK.later hb
    replace RL := RL.later hb
    have hb6 := bel_trans hb5 hb
    have hO6 := (OwnP.turn hO (T := fun _ => False) (Turns.of_below hb) (fun _ _ h => h))
    have hq := hb.size
    clear hb hb5 hO
    clear hH
    refine hK.out _ _ ⟨OX, J, X⟩ (fun hH => ?_)
    clear hK K
    try simp only [Act.put, List.setIfInBounds_toArray, List.set_cons_zero, List.set_cons_succ]
    have hq2 : w5.heap.size < (w5.alloc (.cells #[.int .i64 r.r1, .int .i64 r.r2, .int .i64 r.r3, .int .i64 r.r4, .int .i64 r.r5, .int .i64 r.r6, .int .i64 r.r7, .slice A3 m3 c3, .int .i64 r.r8] 46)).heap.size := Q.lt
    generalize hw6 : (w5.alloc _ : World) = w6 at G J X R HB OX OK RL hH Q hb6 hO6 hq hq2 ⊢
    clear hw6
    generalize w5.heap.size = q at Q hO6 hsV hq hq2 ⊢
    have OWN := Lib.hid RL.own
    have hflat : flatC [(r, .slice A3 m3 c3)] = (#[.int .i64 r.r1, .int .i64 r.r2, .int .i64 r.r3, .int .i64 r.r4, .int .i64 r.r5, .int .i64 r.r6, .int .i64 r.r7, .slice A3 m3 c3, .int .i64 r.r8] : Array Value).toList := rfl
    have NEWS := Lib.hid (show ∀ j x, (flatC [(r, .slice A3 m3 c3)])[j]? = some x → w6.cell? ((⟨q, 0, none⟩ : Addr).add j) = some x from fun j x hj => by
      rw [hflat] at hj
      rw [show (⟨q, 0, none⟩ : Addr).add j = ⟨q, j, none⟩ by unfold Addr.add; split <;> simp_all]
      rw [Q.cell j]
      simpa using hj)
    have ONE := Lib.hid (show ∀ x ∈ flatC [(r, .slice A3 m3 c3)], x.oneCell' = true from flatC_one (fun p hp => by rw [List.mem_singleton.1 hp]; rfl))
    clear hflat
    have hlo6 : lo ≤ w6.heap.size := by omega
    refine wpAnyE_one (i := 18) (by kernel_rfl) (by simp only [List.getElem?_toArray, List.getElem?_cons_succ, List.getElem?_cons_zero]; rfl) (fun K hK => ?_)
    refine step_append_lies _ (by rfl) _ _ _ (by rfl) lo 46 j0 _ 9 88 Tryz.underlying27 hj0 hy0 hy1 hy2 rfl (by omega) (.slice (some ⟨GL, 0, none⟩) n2 lcp) n2 (flatC ms) (by rfl) OWN.out ⟨q, 0, none⟩ 1 1 (flatC [(r, .slice A3 m3 c3)]) (by rfl) rfl NEWS.out ONE.out (by omega) (by unfold maxLen; omega) (by omega) hlo6 _ rfl ?_
    intro g' cap' w7 hown hgrow hlie hlg
    replace hgrow : w6.grownBy w7 (some GL) := hgrow
    have hlie2 : g' = GL ∨ w6.heap.size ≤ g' := by
      rcases hlie with h | h
      · injection h with h
        exact .inl h.symm
      · exact .inr (by rw [h]; exact Nat.le_refl _)
    rw [← flatC_app] at hown
    have hk9 : n2 < (d.ls ++ [r]).length := by rw [List.length_append, HN2.out]; simp
    have e9 : (d.ls ++ [r])[n2] = r := by rw [List.getElem_append_right (by rw [HN2.out]; exact Nat.le_refl _)]; simp [HN2.out]
    have RM : RowK lo w4 (d.ls ++ [r]) n2 GL lcp ms Fs := by
      have h := RL4.out
      rw [← HN2.out] at h
      have h2 := h.more [r]
      rw [HN2.out] at h2
      exact h2
    have nx := RM.next (w2 := w6) (w3 := w7) (g' := g') (cap' := cap') (u := .slice A3 m3 c3) hk9 hb6
    rw [e9] at nx
    have RN := nx (hO6.sub (fun b hb => ⟨hb.1, by have := hb.2; omega⟩)) hown hgrow hlie2
    clear nx RM hown hlie hO6 OWN NEWS ONE Q RL e9 hk9
    have ht := Turns.of_grown hgrow
    have hGX : w.heap.size + 1 + 1 + 1 < GL := by omega
    replace G := G.turn ht (by omega)
    replace J := J.turn ht (by omega)
    replace X := X.turn ht (by omega)
    replace R := R.turn ht (by omega)
    replace OX := OX.turn ht (by omega)
    replace OK := OK.turn ht (fun b hb e => by have h1 := hb.2; have e : b = GL := e; omega)
    have hg67 := hgrow.size
    replace HB := bel_grown HB hgrow (by omega)
    clear ht hgrow
    clear hH
    refine hK.out _ _ ⟨OX, J, X⟩ (fun hH => ?_)
    clear hK K
    try simp only [Act.put, List.setIfInBounds_toArray, List.set_cons_zero, List.set_cons_succ]
    clear hlg
    refine wpAnyE_pure (i := 19) (v := ?vp19) (by simp only [List.getElem?_toArray, List.getElem?_cons_succ, List.getElem?_cons_zero]; rfl) (by kernel_rfl) (by kernel_rfl) (by kernel_rfl) (by exact fun _ _ _ h => h) (by kernel_rfl) (Or.inl ⟨by rfl, ?yp19⟩) hH ?rp19
    case yp19 => (intro w' hSw; (try dsimp only at hSw); go_simp; try with_reducible rfl)
    try simp only [Act.put, List.setIfInBounds_toArray, List.set_cons_zero, List.set_cons_succ]
    refine wpAnyE_last (by kernel_rfl) (by simp only [List.getElem?_toArray, List.getElem?_cons_succ, List.getElem?_cons_zero]; rfl) (by kernel_rfl) (fun K hK => ?_)
    rw [if_pos (by first | rfl | kernel_rfl | simp [Region.wanted, yielded])]
    obtain ⟨v0, v1⟩ := OX.two
    have fv := OX.frozen
    go_simp
    refine hK.out _ _ ?_
    clear hK K hH v0 v1 fv
    have tv := turns_setCells9.turns_cell9 w7 V 1 (.slice (some ⟨g', 0, none⟩) (n2 + 1) cap')
    have OX2 : Box (w7.setCell ⟨V, 1, none⟩ (.slice (some ⟨g', 0, none⟩) (n2 + 1) cap')) V 29 #[.slice (some ⟨GK, 0, none⟩) n1 ck, .slice (some ⟨g', 0, none⟩) (n2 + 1) cap'] := OX.set 1 _
    replace G := G.turn tv (by omega)
    replace J := J.turn tv (by omega)
    replace X := X.turn tv (by omega)
    replace R := R.turn tv (by omega)
    replace OK := OK.turn tv (fun b hb e => by have h1 := hb.2; have e : b = V := e; omega)
    have RN2 := RN.turn2 tv (by omega) (fun i hi b hb e => by
      have e : b = V := e
      by_cases ei : i = n2
      · simp only [if_pos ei] at hb
        have := hb.1
        omega
      · simp only [if_neg ei] at hb
        have := hFV i (by omega) b hb
        omega)
    have EV := HB.setCell (p := ⟨V, 1, none⟩) (by show w0.heap.size ≤ V; omega) (.slice (some ⟨g', 0, none⟩) (n2 + 1) cap')
    have hL9 : (d.ls ++ [r]).length = n2 + 1 := by rw [List.length_append, HN2.out]; simp
    rw [← hL9] at RN2
    have LL := RN2.done
    rw [hL9] at LL
    clear RN RN2 OX HB tv hFV
    generalize (w7.setCell _ _ : World) = w8 at G J X R OK OX2 EV LL ⊢
    have hw8 := EV.size
    have hV8 := OX2.lt
    have LJ := twoJ OK LL (fun b hb hb2 => by have h1 := hb.2; have h2 := hb2.1; omega) (F := Iv w0.heap.size w8.heap.size) (fun b hb => ⟨by have := hb.1; omega, by have := hb.2; omega⟩) (fun b hb => ⟨by have := hb.1; omega, hb.2⟩)
    clear OK LL
    obtain ⟨y, hy⟩ : ∃ y, rokD g r = y := ⟨_, rfl⟩
    have HY := Lib.hid hy
    have HJ2 := Lib.hid ((jok_snoc HJ.out HR1.out).trans hy)
    clear hy
    have hsz8 : (⟨d.ks, d.ls ++ [r]⟩ : JourD).sz ≤ 1048576 := by show totC d.ks + totC (d.ls ++ [r]) ≤ _; rw [totC_app, totC_one, hrp]; omega
    have HB := EV
    clear EV
    go_wp2_with (first | (refine wpList_load_box 26 _ rfl (w.heap.size) rfl 26 C0 G _ Tryz.underlying26 rfl J0.out (by first | rfl | simp [Region.wanted, yielded] | (simp [Region.wanted, yielded, Act.put] <;> omega)) ?_) | (refine wpList_load_box 29 _ rfl (V) rfl 29 #[.slice (some ⟨GK, 0, none⟩) n1 ck, .slice (some ⟨g', 0, none⟩) (n2 + 1) cap'] OX2 _ Tryz.underlying29 rfl (by kernel_rfl) (by first | rfl | simp [Region.wanted, yielded] | (simp [Region.wanted, yielded, Act.put] <;> omega)) ?_))
    refine (specJournalOk_is ((keepsG g).later H0.out HB) LJ.somewhere hsz8 HJ2.out).mono ?_
    rintro e w9 ⟨rfl, hb⟩
    replace G := G.later hb G.lt
    replace J := J.later hb J.lt
    replace X := X.later hb X.lt
    replace R := R.later hb R.lt
    replace HB := bel_trans HB hb
    replace OX2 := OX2.later hb OX2.lt
    replace LJ := (keepsLJ _).later LJ hb
    have hw9 := hb.size
    clear hb
    cases y
    · have HD := Lib.hid (show rr = (d, false) by rw [← HZ2.out]; unfold notedD; rw [HJ.out, HY.out]; rfl)
      clear LJ OX2
      have hw9b := HB.size
      go_wp2_with (refine wpList_load_box 29 _ rfl (w.heap.size + 1) rfl 29 #[.slice A1 n1 c1, .slice A2 n2 c2] J _ Tryz.underlying29 rfl (by kernel_rfl) (by first | rfl | simp [Region.wanted, yielded] | (simp [Region.wanted, yielded, Act.put] <;> omega)) ?_)
      refine (l10Copy_is ⟨_, _, rfl, HK.out.later HB, HLL.out.later HB⟩ hkk hll).mono ?_
      rintro e w10 ⟨C5, rfl, LJ, hb⟩
      replace G := G.later hb G.lt
      replace J := J.later hb J.lt
      replace X := X.later hb X.lt
      replace R := R.later hb R.lt
      replace HB := bel_trans HB hb
      clear hb
      have JS := Lib.hid (sizeJ LJ.at).2
      have O := Lib.hid (oneJ LJ.at)
      obtain ⟨ua, ub, FA, FB, eC, -⟩ := id LJ
      injection eC with eC
      subst eC
      have ht := turns_row9 w10 (w.heap.size + 1 + 1 + 1) #[ua, ub]
      have R2 := R.setRow #[ua, ub]
      have L2 := Lib.hid ((keepsLJ _).sub ((keepsLJ _).turn LJ ht (fun b hb e => by have := hb.1; omega)) (F' := Iv w.heap.size (w10.setRow (w.heap.size + 1 + 1 + 1) #[ua, ub]).heap.size) (fun b hb => ⟨by have := hb.1; omega, by rw [size_setRow]; exact hb.2⟩))
      have E := Lib.hid (ht.below (bel_trans hb0 HB) (fun b hb => by omega))
      obtain ⟨r0, r1⟩ := R2.two
      clear R2 ht LJ
      go_wp2_with (refine wpList_store_row rfl 29 _ _ rfl (w.heap.size + 1 + 1 + 1) _ rfl rfl 29 #[.slice none 0 0, .slice none 0 0] R JS.out O.out.1.symm O.out.2 ?_)
      exact bodyPost_ret (v := .tuple #[.agg #[ua, ub], .bool false]) (by simp [results, Tryz.results23, go_sem, r0, r1]) rfl ⟨_, by rw [HD.out], by rw [HD.out]; exact L2.out, E.out⟩
    · have HD := Lib.hid (show rr = (⟨d.ks, d.ls ++ [r]⟩, true) by rw [← HZ2.out]; unfold notedD; rw [HJ.out, HY.out]; rfl)
      have ht := turns_row9 w9 (w.heap.size + 1 + 1 + 1) #[.slice (some ⟨GK, 0, none⟩) n1 ck, .slice (some ⟨g', 0, none⟩) (n2 + 1) cap']
      have R2 := R.setRow #[.slice (some ⟨GK, 0, none⟩) n1 ck, .slice (some ⟨g', 0, none⟩) (n2 + 1) cap']
      have L2 := Lib.hid ((keepsLJ _).sub ((keepsLJ _).turn LJ ht (fun b hb e => by have := hb.1; omega)) (F' := Iv w.heap.size (w9.setRow (w.heap.size + 1 + 1 + 1) #[.slice (some ⟨GK, 0, none⟩) n1 ck, .slice (some ⟨g', 0, none⟩) (n2 + 1) cap']).heap.size) (fun b hb => ⟨by have := hb.1; omega, by rw [size_setRow]; have := hb.2; omega⟩))
      have E := Lib.hid (ht.below (bel_trans hb0 HB) (fun b hb => by omega))
      obtain ⟨r0, r1⟩ := R2.two
      clear R2 ht LJ
      go_wp2_with (first | (refine wpList_load_box 29 _ rfl (V) rfl 29 #[.slice (some ⟨GK, 0, none⟩) n1 ck, .slice (some ⟨g', 0, none⟩) (n2 + 1) cap'] OX2 _ Tryz.underlying29 rfl (by kernel_rfl) (by first | rfl | simp [Region.wanted, yielded] | (simp [Region.wanted, yielded, Act.put] <;> omega)) ?_) | (refine wpList_store_row rfl 29 _ _ rfl (w.heap.size + 1 + 1 + 1) #[.slice (some ⟨GK, 0, none⟩) n1 ck, .slice (some ⟨g', 0, none⟩) (n2 + 1) cap'] rfl rfl 29 #[.slice none 0 0, .slice none 0 0] R (by kernel_rfl) rfl (by simp [Value.oneCell']) ?_))
      exact bodyPost_ret (v := .tuple #[.agg #[.slice (some ⟨GK, 0, none⟩) n1 ck, .slice (some ⟨g', 0, none⟩) (n2 + 1) cap'], .bool true]) (by simp [results, Tryz.results23, go_sem, r0, r1]) rfl ⟨_, by rw [HD.out], by rw [HD.out]; exact L2.out, E.out⟩

end Go.Proofs.YtjdepjpjjgkmbaaGreat

/- Lists of seals, and notes, that are alike: what likeSeals and likeNote answer. -/
namespace Go.Proofs.YtjdepjpjjgkmbaaGreat
open Go.RowKit

set_option maxHeartbeats 1000000 in
theorem like_is (A A' : Option Addr) (n cap cap' : Nat) (ps : List (Int × Int)) (w : World) (hm : n ≤ 1048576) (hr : Pairs w w.heap.size A n ps) (hr' : Pairs w w.heap.size A' n ps) :
    Calls Tryz.prog 110 #[.slice A n cap, .slice A' n cap'] w fun e w' => e = .returned (.bool true) ∧ Below w.heap.size w w' := by
  have HR := Lib.hid hr
  have HR' := Lib.hid hr'
  clear hr hr'
  go_enter Tryz.func110, Tryz.ntmps110
  go_wp2_with fail
  go_loopw [5] (fun i wr => ∃ k : Nat, k ≤ n ∧ i = .int .i64 k ∧ Below w.heap.size w wr) (fun i _ => n - (intOf i).toNat)
  case atStart => exact ⟨0, Nat.zero_le _, rfl, Below.refl _ _⟩
  case round =>
    obtain ⟨k, hk, rfl, hb⟩ := hrel
    by_cases hlt : k < n
    · obtain ⟨b, o, hA, hbB, hcell⟩ := HR.out.2 (by omega)
      obtain ⟨b', o', hA', hbB', hcell'⟩ := HR'.out.2 (by omega)
      subst hA hA'
      obtain ⟨g0, g1⟩ := hcell k hlt
      obtain ⟨h0, h1⟩ := hcell' k hlt
      have hz := hb.size
      have g0 := After.cell (w := wr) (a := ⟨b, o + k * 2, none⟩) (by simp; omega) ((hb.cell (p := ⟨b, o + k * 2, none⟩) hbB).trans g0)
      have g1 := After.cell (w := wr) (a := ⟨b, o + k * 2 + 1, none⟩) (by simp; omega) ((hb.cell (p := ⟨b, o + k * 2 + 1, none⟩) hbB).trans g1)
      have h0 := After.cell (w := wr) (a := ⟨b', o' + k * 2, none⟩) (by simp; omega) ((hb.cell (p := ⟨b', o' + k * 2, none⟩) hbB').trans h0)
      have h1 := After.cell (w := wr) (a := ⟨b', o' + k * 2 + 1, none⟩) (by simp; omega) ((hb.cell (p := ⟨b', o' + k * 2 + 1, none⟩) hbB').trans h1)
      generalize pth ps k = x at g0 g1 h0 h1
      obtain ⟨x, y⟩ := x
      have hlt' : (k : Int) < (n : Int) := by omega
      clear hcell hcell'
      go_wp2_with fail
      refine wp_region_after (by kernel_rfl) (by kernel_rfl) ?_
      repeat (first | go_big_quiet_step (fail) | quiet_step (fail))
      refine wpQuiet_nil ?_
      intro pw
      have E3 := bel_trans hb pw.bel
      go_wp2
      go_roundw
      case rel => exact ⟨k + 1, by omega, by go_num, E3⟩
      case measure => simp [intOf]; omega
    · go_wp2
      go_ret
      exact ⟨rfl, hb⟩

end Go.Proofs.YtjdepjpjjgkmbaaGreat

/- laws.likeRec on two records that read alike; conditions: the size. -/
namespace Go.Proofs.YtjdepjpjjgkmbaaGreat
open Go Go.RowKit

set_option maxRecDepth 100000 in
set_option maxHeartbeats 4000000 in
theorem likeRec_is (r1 r2 r3 r4 r5 r6 r7 : Int) (L : Option Addr) (m mc : Nat) (r8 : Int) (L' : Option Addr) (mc' : Nat) (ps : List (Int × Int)) (w : World) (hp : m ≤ 1048576) (h1 : Pairs w w.heap.size L m ps) (h2 : Pairs w w.heap.size L' m ps) :
    Calls Tryz.prog 75 #[.agg #[.int .i64 r1, .int .i64 r2, .int .i64 r3, .int .i64 r4, .int .i64 r5, .int .i64 r6, .int .i64 r7, .slice L m mc, .int .i64 r8], .agg #[.int .i64 r1, .int .i64 r2, .int .i64 r3, .int .i64 r4, .int .i64 r5, .int .i64 r6, .int .i64 r7, .slice L' m mc', .int .i64 r8]] w fun e w' => e = .returned (.bool true) ∧ Below w.heap.size w w' := by
  have D := (Box.new w 46 #[.int .i64 r1, .int .i64 r2, .int .i64 r3, .int .i64 r4, .int .i64 r5, .int .i64 r6, .int .i64 r7, .slice L m mc, .int .i64 r8]).alloc (.cells #[.int .i64 r1, .int .i64 r2, .int .i64 r3, .int .i64 r4, .int .i64 r5, .int .i64 r6, .int .i64 r7, .slice L' m mc', .int .i64 r8] 46)
  have X := Box.new (w.alloc (.cells #[.int .i64 r1, .int .i64 r2, .int .i64 r3, .int .i64 r4, .int .i64 r5, .int .i64 r6, .int .i64 r7, .slice L m mc, .int .i64 r8] 46)) 46 #[.int .i64 r1, .int .i64 r2, .int .i64 r3, .int .i64 r4, .int .i64 r5, .int .i64 r6, .int .i64 r7, .slice L' m mc', .int .i64 r8]
  have hb0 := bel_trans (bel_alloc w (.cells #[.int .i64 r1, .int .i64 r2, .int .i64 r3, .int .i64 r4, .int .i64 r5, .int .i64 r6, .int .i64 r7, .slice L m mc, .int .i64 r8] 46)) (bel_alloc _ (.cells #[.int .i64 r1, .int .i64 r2, .int .i64 r3, .int .i64 r4, .int .i64 r5, .int .i64 r6, .int .i64 r7, .slice L' m mc', .int .i64 r8] 46))
  simp only [World.size_alloc] at X
  have H1 := Lib.hid (h1.later hb0)
  have H2 := Lib.hid (h2.later hb0)
  clear h1 h2
  go_enter Tryz.func75, Tryz.ntmps75
  go_upto_region 1 with fail
  generalize ((w.alloc _).alloc _ : World) = w0 at D X hb0 H1 H2 ⊢
  obtain ⟨d0, d1, d2, d3, d4, d5, d6, d7, d8⟩ := D.nine
  obtain ⟨x0, x1, x2, x3, x4, x5, x6, x7, x8⟩ := X.nine
  go_wp2_with fail
  refine (like_is L L' m mc mc' ps w0 hp H1.out H2.out).mono ?_
  rintro e w1 ⟨rfl, hb⟩
  have E := bel_trans hb0 hb
  go_wp2
  go_ret
  exact ⟨rfl, E⟩
theorem likeC_is {d : RecD} {w : World} {F F' : Nat → Prop} {C C' : Array Value} (h : AtC d w F (.agg C)) (h' : AtC d w F' (.agg C')) (hs : d.sz ≤ 1048576) :
    Calls Tryz.prog 75 #[.agg C, .agg C'] w fun e w' => e = .returned (.bool true) ∧ Below w.heap.size w w' := by
  obtain ⟨A, n, cap, e, hm, hr⟩ := h
  obtain ⟨A', n', cap', e', hm', hr'⟩ := h'
  injection e with e
  injection e' with e'
  subst e e'
  have hl : d.ps.length = n := hr.1.1
  have hl' : d.ps.length = n' := hr'.1.1
  subst hl hl'
  exact likeRec_is _ _ _ _ _ _ _ A _ cap _ A' cap' d.ps w hs hr.1 hr'.1
end Go.Proofs.YtjdepjpjjgkmbaaGreat

/- Two lists of records, two journals are alike where they read as the same data; conditions: the sizes. -/
namespace Go.Proofs.YtjdepjpjjgkmbaaGreat
open Go Go.RowKit

theorem atAfterC {d : RecD} {w : World} {F : Nat → Prop} {v : Value} (h : AtC d w F v) (pw : After w) : AtC d pw.x F v := (keepsC d).later h pw.bel
set_option maxRecDepth 100000 in
set_option maxHeartbeats 8000000 in
theorem likeRecs_is {ds : List RecD} {w : World} {F F' : Nat → Prop} {A A' : Option Addr} {n cap cap' : Nat} (h : RecsF ds w F A n) (h' : RecsF ds w F' A' n) (hn : n ≤ 1048576) (hz : totC ds ≤ 1048576) :
    Calls Tryz.prog 20 #[.slice A n cap, .slice A' n cap'] w fun e w' => e = .returned (.bool true) ∧ Below w.heap.size w w' := by
  have HL := Lib.hid h.1
  have HH := Lib.hid h
  have HH' := Lib.hid h'
  have HZ := Lib.hid hz
  clear h h' hz
  go_enter Tryz.func20, Tryz.ntmps20
  go_wp2
  go_loopw [5] (fun i wr => ∃ k : Nat, k ≤ n ∧ i = .int .i64 k ∧ Below w.heap.size w wr) (fun i _ => n - (intOf i).toNat)
  case atStart => exact ⟨0, Nat.zero_le _, rfl, Below.refl _ _⟩
  case round =>
    obtain ⟨k, hk, rfl, hb⟩ := hrel
    by_cases hlt : k < n
    · have hkd : k < ds.length := by have := HL.out; omega
      obtain ⟨b, o, hA, -, hbl, hc⟩ := (HH.out.later hb).2 (by omega)
      obtain ⟨b', o', hA', -, hbl', hc'⟩ := (HH'.out.later hb).2 (by omega)
      subst hA hA'
      obtain ⟨L, m, mc, ⟨c0, c1, c2, c3, c4, c5, c6, c7, c8⟩, hm, hp⟩ := hc k hkd
      obtain ⟨L', m', mc', ⟨k0, k1, k2, k3, k4, k5, k6, k7, k8⟩, hm', hp'⟩ := hc' k hkd
      have hzz : (ds[k]).sz ≤ 1048576 := by
        have h1 := totC_snoc ds hkd
        have h2 := totC_take ds (k + 1)
        have h3 := HZ.out
        unfold RecD.sz
        omega
      obtain ⟨d, hd⟩ : ∃ d : RecD, ds[k] = d := ⟨_, rfl⟩
      rw [hd] at c0 c1 c2 c3 c4 c5 c6 c8 hp k0 k1 k2 k3 k4 k5 k6 k8 hp' hzz
      have f0 := After.cell hbl c0
      have f1 := After.cell hbl c1
      have f2 := After.cell hbl c2
      have f3 := After.cell hbl c3
      have f4 := After.cell hbl c4
      have f5 := After.cell hbl c5
      have f6 := After.cell hbl c6
      have f7 := After.cell hbl c7
      have f8 := After.cell hbl c8
      have e0 := After.cell hbl' k0
      have e1 := After.cell hbl' k1
      have e2 := After.cell hbl' k2
      have e3 := After.cell hbl' k3
      have e4 := After.cell hbl' k4
      have e5 := After.cell hbl' k5
      have e6 := After.cell hbl' k6
      have e7 := After.cell hbl' k7
      have e8 := After.cell hbl' k8
      have hltI : (k : Int) < (n : Int) := by omega
      have hkw : IntKind.i64.wrap ((k : Int) + 1) = (k : Int) + 1 := IntWalk.i64_in _ (by omega)
      have HAT : Hid (AtC d wr F (.agg #[.int .i64 d.r1, .int .i64 d.r2, .int .i64 d.r3, .int .i64 d.r4, .int .i64 d.r5, .int .i64 d.r6, .int .i64 d.r7, .slice L m mc, .int .i64 d.r8])) := Lib.hid ⟨L, m, mc, rfl, hm, hp⟩
      have HAT' : Hid (AtC d wr F' (.agg #[.int .i64 d.r1, .int .i64 d.r2, .int .i64 d.r3, .int .i64 d.r4, .int .i64 d.r5, .int .i64 d.r6, .int .i64 d.r7, .slice L' m' mc', .int .i64 d.r8])) := Lib.hid ⟨L', m', mc', rfl, hm', hp'⟩
      have HZZ := Lib.hid hzz
      clear hd hp hp' hzz hc hc' hm hm'
      go_upto_region 6 with fail
      refine wp_region_after (by kernel_rfl) (by kernel_rfl) ?_
      repeat (first | go_big_quiet_step ((go_at_call 75; exact after_of (likeC_is (atAfterC HAT.out _) (atAfterC HAT'.out _) HZZ.out))) | quiet_step ((go_at_call 75; exact after_of (likeC_is (atAfterC HAT.out _) (atAfterC HAT'.out _) HZZ.out))))
      refine wpQuiet_nil ?_
      intro pw
      clear f0 f1 f2 f3 f4 f5 f6 f7 f8 e0 e1 e2 e3 e4 e5 e6 e7 e8
      go_wp2
      go_roundw
      case rel => exact ⟨k + 1, by omega, by go_num, bel_trans hb pw.bel⟩
      case measure => simp [intOf]; omega
    · have hkn : k = n := by omega
      subst hkn
      go_wp2
      go_ret
      exact ⟨rfl, hb⟩
set_option maxRecDepth 100000 in
set_option maxHeartbeats 8000000 in
theorem likeJ_is {d : JourD} {w : World} {F F' : Nat → Prop} {C C' : Array Value} (h : AtJ d w F (.agg C)) (h' : AtJ d w F' (.agg C')) (hz : d.sz ≤ 1048576) :
    Calls Tryz.prog 15 #[.agg C, .agg C'] w fun e w' => e = .returned (.bool true) ∧ Below w.heap.size w w' := by
  obtain ⟨A, n, c, B, m, q, e, -, -, h1, h2⟩ := h
  obtain ⟨A', n', c', B', m', q', e', -, -, h1', h2'⟩ := h'
  injection e with e
  injection e' with e'
  subst e e'
  obtain rfl : n = n' := h1.1.symm.trans h1'.1
  obtain rfl : m = m' := h2.1.symm.trans h2'.1
  have hz1 : totC d.ks ≤ 1048576 := by unfold JourD.sz at hz; omega
  have hz2 : totC d.ls ≤ 1048576 := by unfold JourD.sz at hz; omega
  have hn1 : n ≤ 1048576 := by have := totC_len d.ks; have := h1.1; omega
  have hm1 : m ≤ 1048576 := by have := totC_len d.ls; have := h2.1; omega
  have E0 := bel_trans (bel_alloc w (.cells #[.slice A n c, .slice B m q] 29)) (bel_alloc _ (.cells #[.slice A' n c', .slice B' m q'] 29))
  have X0 := (Box.new w 29 #[.slice A n c, .slice B m q]).alloc (.cells #[.slice A' n c', .slice B' m q'] 29)
  have Y0 := Box.new (w.alloc (.cells #[.slice A n c, .slice B m q] 29)) 29 #[.slice A' n c', .slice B' m q']
  simp only [World.size_alloc] at Y0
  have H1 := Lib.hid (h1.later E0)
  have H2 := Lib.hid (h2.later E0)
  have H1' := Lib.hid (h1'.later E0)
  have H2' := Lib.hid (h2'.later E0)
  clear h1 h2 h1' h2'
  go_enter Tryz.func15, Tryz.ntmps15
  go_upto_region 1 with fail
  generalize ((w.alloc _).alloc _ : World) = w1 at E0 X0 Y0 H1 H2 H1' H2' ⊢
  have x0 := X0.cell 0
  have x1 := X0.cell 1
  have y0 := Y0.cell 0
  have y1 := Y0.cell 1
  have f0 := X0.frozen
  have f1 := Y0.frozen
  go_wp2_with fail
  refine (likeRecs_is H1.out H1'.out hn1 hz1).mono ?_
  rintro e w2 ⟨rfl, hb⟩
  have x1 := (X0.later hb X0.lt).cell 1
  have y1 := (Y0.later hb Y0.lt).cell 1
  have H3 := Lib.hid (H2.out.later hb)
  have H3' := Lib.hid (H2'.out.later hb)
  have E1 := bel_trans E0 hb
  clear hb
  go_wp2_with fail
  refine (likeRecs_is H3.out H3'.out hm1 hz2).mono ?_
  rintro e w3 ⟨rfl, hb⟩
  have E2 := bel_trans E1 hb
  clear hb
  go_wp2
  go_ret
  exact ⟨rfl, E2⟩
end Go.Proofs.YtjdepjpjjgkmbaaGreat

/- What is replayed of a part of a list: it is right, no shelf's stamp is older with a record more, all other shelves stay; no conditions. -/
namespace Go.Proofs.YtjdepjpjjgkmbaaGreat
open Go Go.RowKit

end Go.Proofs.YtjdepjpjjgkmbaaGreat

/- What is left of a journal after a crash: a right journal again, between what was kept and what was noted; no conditions. -/
namespace Go.Proofs.YtjdepjpjjgkmbaaGreat
open Go Go.RowKit

end Go.Proofs.YtjdepjpjjgkmbaaGreat

/- FnCrash: what a crash leaves of a journal: the law's walk (written by crash_law.py); conditions: the bytes can be read. -/
namespace Go.Proofs.YtjdepjpjjgkmbaaGreat
open Go Go.RowKit

/-- What was drawn: a group and a journal in their variables, a list of booleans. -/
structure PC (w wr : World) (gd : GrpD) (d : JourD) (bs : List Bool) (G C : Array Value) (L : Option Addr) (k V : Nat) : Prop where
  bel : Below w.heap.size w wr
  le : w.heap.size ≤ V
  vg : Box wr V 26 G
  vj : Box wr (V + 1) 29 C
  grp : AtG gd wr (· < V) (.agg G)
  jr : AtS9 d wr (· < V) (.agg C)
  bl : BoolF wr (· < V) L k bs
theorem PC.later {w wr w' : World} {gd : GrpD} {d : JourD} {bs : List Bool} {G C : Array Value} {L : Option Addr} {k V : Nat} (h : PC w wr gd d bs G C L k V) (hb : Below wr.heap.size wr w') : PC w w' gd d bs G C L k V :=
  ⟨bel_trans h.bel hb, h.le, h.vg.later hb h.vg.lt, h.vj.later hb h.vj.lt, (keepsG gd).later h.grp hb, (keepsS9 d).later h.jr hb, h.bl.later hb⟩
theorem BoolF.lt {w : World} {F : Nat → Prop} {A : Option Addr} {n : Nat} {bs : List Bool} (h : BoolF w F A n bs) : BoolF w (fun b => F b ∧ b < w.heap.size) A n bs := by
  refine ⟨h.1, fun hn => ?_⟩
  obtain ⟨b, o, hA, hF, hb, hc⟩ := h.2 hn
  exact ⟨b, o, hA, ⟨hF, hb⟩, hb, hc⟩

theorem list_cap9 {ds : List RecD} {w : World} {F : Nat → Prop} {A : Option Addr} {n c : Nat} (h : ListS ds w F (.slice A n c)) : ds.length = n ∧ n ≤ c ∧ c ≤ maxLen ∧ (A = none → c = 0) := by
  rcases h with ⟨e, rfl⟩ | ⟨b, o, c1, e, h1, h2, h3, _⟩
  · injection e with e1 e2 e3
    subst e2 e3
    exact ⟨rfl, Nat.le_refl _, Nat.zero_le _, fun _ => rfl⟩
  · injection e with e1 e2 e3
    subst e2 e3
    exact ⟨rfl, h1, h2, fun h => by rw [e1] at h; cases h⟩
theorem afterRF {ds : List RecD} {w : World} {F : Nat → Prop} {A : Option Addr} {n : Nat} (h : RecsF ds w F A n) (pw : After w) : RecsF ds pw.x F A n := h.later pw.bel
/-- A journal in its variable. -/
structure JV (wr : World) (V : Nat) (d : JourD) (C : Array Value) : Prop where
  box : Box wr V 29 C
  at' : AtJ d wr (· < V) (.agg C)
  s9 : AtS9 d wr (· < V) (.agg C)
theorem JV.later {wr w' : World} {V : Nat} {d : JourD} {C : Array Value} (h : JV wr V d C) (hb : Below wr.heap.size wr w') : JV w' V d C :=
  ⟨h.box.later hb h.box.lt, (keepsJ d).later h.at' hb, (keepsS9 d).later h.s9 hb⟩
theorem JV.new {w3 : World} {d : JourD} {C : Array Value} {F : Nat → Prop} (h : LieJ d w3 F (.agg C)) (hF : ∀ b, F b → b < w3.heap.size) : JV ((w3.alloc (.cells #[.slice none 0 0, .slice none 0 0] 29)).setRow w3.heap.size C) w3.heap.size d C := by
  have hn := bel_new_row w3 #[.slice none 0 0, .slice none 0 0] 29 C
  exact ⟨(Box.new w3 29 #[.slice none 0 0, .slice none 0 0]).setRow C, (keepsJ d).later ((keepsJ d).sub h.at hF) hn, (keepsS9 d).later ((keepsS9 d).sub h.somewhere hF) hn⟩

end Go.Proofs.YtjdepjpjjgkmbaaGreat

/- FnNoted: what is noted is loose, behind all others, or nothing is: the law's walk (written by noted_law.py); conditions: the bytes can be read. -/
namespace Go.Proofs.YtjdepjpjjgkmbaaGreat
open Go Go.RowKit

theorem noted_cases {g : GrpD} {d : JourD} {r : RecD} {rr : JourD × Bool} (h : notedD g d r = rr) : rr.2 = false ∧ (jokD g d = true → rr.1 = d) ∨ rr.2 = true ∧ jokD g d = true ∧ rokD g r = true ∧ rr.1 = ⟨d.ks, d.ls ++ [r]⟩ := by
  subst h
  unfold notedD
  split
  · split
    · exact .inr ⟨rfl, by assumption, by assumption, rfl⟩
    · exact .inl ⟨rfl, fun _ => rfl⟩
  · exact .inl ⟨rfl, fun h => by contradiction⟩
theorem noted_sz {g : GrpD} {d : JourD} {r : RecD} {rr : JourD × Bool} (h : notedD g d r = rr) : rr.1.sz ≤ d.sz + (1 + r.ps.length) := by
  subst h
  unfold notedD
  split
  · split
    · unfold JourD.sz
      show totC d.ks + totC (d.ls ++ [r]) ≤ _
      rw [totC_app, show totC [r] = 1 + r.ps.length by simp [totC]]
      omega
    · exact Nat.le_add_right _ _
  · exact Nat.zero_le _
/-- What was drawn: a group and a journal in their variables, a stamp, a list of seals. -/
structure PN (w wr : World) (gd : GrpD) (d : JourD) (r : RecD) (G C : Array Value) (u : Value) (V : Nat) : Prop where
  bel : Below w.heap.size w wr
  le : w.heap.size ≤ V
  vg : Box wr V 26 G
  vj : Box wr (V + 1) 29 C
  vs : Box wr (V + 1 + 1) 39 #[.int .i64 r.r5, .int .i64 r.r6]
  grp : AtG gd wr (· < V) (.agg G)
  jr : AtS9 d wr (· < V) (.agg C)
  cl : SlcF wr (· < V) u r.ps
theorem PN.later {w wr w' : World} {gd : GrpD} {d : JourD} {r : RecD} {G C : Array Value} {u : Value} {V : Nat} (h : PN w wr gd d r G C u V) (hb : Below wr.heap.size wr w') : PN w w' gd d r G C u V :=
  ⟨bel_trans h.bel hb, h.le, h.vg.later hb h.vg.lt, h.vj.later hb h.vj.lt, h.vs.later hb h.vs.lt, (keepsG gd).later h.grp hb, (keepsS9 d).later h.jr hb, h.cl.turn (T := fun _ => False) (Turns.of_below hb) (fun _ _ h => h)⟩
theorem afterG9 {g : GrpD} {w : World} {F : Nat → Prop} {v : Value} (h : AtG g w F v) (pw : After w) : AtG g pw.x F v := (keepsG g).later h pw.bel
theorem afterS9 {d : JourD} {w : World} {F : Nat → Prop} {v : Value} (h : AtS9 d w F v) (pw : After w) : AtS9 d pw.x F v := (keepsS9 d).later h pw.bel
/-- The first part of a journal's loose list, read. -/
theorem loose_part {d : JourD} {w : World} {F : Nat → Prop} {A B : Option Addr} {n c n' c' : Nat} (h : AtS9 d w F (.agg #[.slice A n c, .slice B n' c'])) {k : Nat} (hk : k ≤ n') : RecsF (d.ls.take k) w F B k ∧ k ≤ c' := by
  obtain ⟨u, u', e, -, h1⟩ := h
  injection e with e
  simp only [Array.mk.injEq, List.cons.injEq, and_true] at e
  obtain ⟨rfl, rfl⟩ := e
  obtain ⟨g1, g2, g3, g4⟩ := list_cap9 h1
  have ht := h1.take (k := k) (c' := c') (by omega) (by omega) g3 g4
  obtain ⟨A', q, e, -, hr⟩ := ht.at
  have hl : (d.ls.take k).length = k := by rw [List.length_take]; omega
  rw [hl] at e hr
  injection e with e
  subst e
  exact ⟨hr, by omega⟩

theorem noted_big (A : Option Addr) (n cap : Nat) (w : World) (hm : n ≤ maxLen) (hb : 4096 < n) :
    Calls Tryz.prog 4 #[.slice A n cap] w fun e w' => e = .returned (.bool true) ∧ Below w.heap.size w w' := by
  have hd : decide (4096 < n) = true := by simpa using hb
  go_enter Tryz.func4, Tryz.ntmps4
  go_wp2_with (go_at_call 12; refine (big_any A n cap _ hm).mono ?_; rintro e w' ⟨rfl, rfl⟩)
  go_ret
  exact ⟨rfl, Below.refl _ _⟩

set_option maxRecDepth 100000 in
set_option maxHeartbeats 16000000 in
theorem noted_small (A : Option Addr) (n cap : Nat) (w : World) (hn : n ≤ 4096) (hB : Bytes w w.heap.size A n) :
    Calls Tryz.prog 4 #[.slice A n cap] w fun e w' => e = .returned (.bool true) ∧ Below w.heap.size w w' := by
  have hd : decide (4096 < n) = false := by simpa using hn
  have HM : Hid (n ≤ maxLen) := by show n ≤ maxLen; unfold maxLen; omega
  have HB := Lib.hid hB
  clear hB
  go_enter Tryz.func4, Tryz.ntmps4
  go_wp2_with fail
  refine (big_any A n cap _ HM.out).mono ?_
  rintro e w' ⟨rfl, rfl⟩
  go_wp2_with fail
  refine (drawNoted_any A n cap w hn HB.out).mono ?_
  rintro e w1 ⟨G, C, gd, d, r, u, rfl, hG, hJ, hok, hsk, hsl, hrc, hrl, E1⟩
  clear hd HB HM hn
  have hz : gd.sz + d.sz + r.ps.length ≤ 1048000 := by
    have h1 := hsk.tot
    have h2 := hsl.tot
    have h3 := okB_len9 hok
    obtain ⟨p1, p2, p3, p4, p5, p6⟩ := okB_parts hok
    unfold JourD.sz GrpD.sz
    omega
  obtain ⟨u1, u2, eC, l1, l2⟩ := hJ
  injection eC with eC
  subst eC
  obtain ⟨A1, c1, rfl, -, -⟩ := l1.at
  obtain ⟨A2, c2, rfl, -, -⟩ := l2.at
  obtain ⟨n1, hn1⟩ : ∃ x, d.ks.length = x := ⟨_, rfl⟩
  obtain ⟨n2, hn2⟩ : ∃ x, d.ls.length = x := ⟨_, rfl⟩
  rw [hn1] at l1 ⊢
  rw [hn2] at l2 ⊢
  have HN1 := Lib.hid hn1
  have HN2 := Lib.hid hn2
  clear hn1 hn2
  have hJ : AtS9 d w1 (w.heap.size ≤ ·) (.agg #[.slice A1 n1 c1, .slice A2 n2 c2]) := ⟨_, _, rfl, l1, l2⟩
  clear l1 l2
  obtain ⟨GA, gn, gc, eG, hgm, hgr⟩ := hG
  injection eG with eG
  subst eG
  have hG : AtG gd w1 (w.heap.size ≤ ·) (.agg #[.int .i64 gd.s, .int .i64 gd.l, .int .i64 gd.c, .int .i64 gd.sh, .slice GA gn gc]) := ⟨_, _, _, rfl, hgm, hgr⟩
  clear hgm hgr
  have SG : Hid ((Tryz.prog.info? 26).map (·.size) = some (#[.int .i64 gd.s, .int .i64 gd.l, .int .i64 gd.c, .int .i64 gd.sh, .slice GA gn gc] : Array Value).size) := Lib.hid (by kernel_rfl)
  obtain ⟨ua, un, uc, eu⟩ := rowC_form hrc
  subst eu
  have hcl := hrc.somewhere.lt
  have e0 := bel_trans (bel_trans (bel_alloc w1 (.cells #[.int .i64 0, .int .i64 0, .int .i64 0, .int .i64 0, .slice none 0 0] 26)) (bel_alloc _ (.cells #[.slice none 0 0, .slice none 0 0] 29))) (bel_alloc _ (.cells #[.int .i64 0, .int .i64 0] 39))
  have V2 := ((Box.new w1 26 #[.int .i64 0, .int .i64 0, .int .i64 0, .int .i64 0, .slice none 0 0]).alloc (.cells #[.slice none 0 0, .slice none 0 0] 29)).alloc (.cells #[.int .i64 0, .int .i64 0] 39)
  have V3 := (Box.new (w1.alloc (.cells #[.int .i64 0, .int .i64 0, .int .i64 0, .int .i64 0, .slice none 0 0] 26)) 29 #[.slice none 0 0, .slice none 0 0]).alloc (.cells #[.int .i64 0, .int .i64 0] 39)
  have V4 := Box.new ((w1.alloc (.cells #[.int .i64 0, .int .i64 0, .int .i64 0, .int .i64 0, .slice none 0 0] 26)).alloc (.cells #[.slice none 0 0, .slice none 0 0] 29)) 39 #[.int .i64 0, .int .i64 0]
  simp only [World.size_alloc] at V3 V4
  have t1 := turns_setRow (((w1.alloc (.cells #[.int .i64 0, .int .i64 0, .int .i64 0, .int .i64 0, .slice none 0 0] 26)).alloc (.cells #[.slice none 0 0, .slice none 0 0] 29)).alloc (.cells #[.int .i64 0, .int .i64 0] 39)) w1.heap.size #[.int .i64 gd.s, .int .i64 gd.l, .int .i64 gd.c, .int .i64 gd.sh, .slice GA gn gc]
  have t2 := turns_setRow ((((w1.alloc (.cells #[.int .i64 0, .int .i64 0, .int .i64 0, .int .i64 0, .slice none 0 0] 26)).alloc (.cells #[.slice none 0 0, .slice none 0 0] 29)).alloc (.cells #[.int .i64 0, .int .i64 0] 39)).setRow w1.heap.size #[.int .i64 gd.s, .int .i64 gd.l, .int .i64 gd.c, .int .i64 gd.sh, .slice GA gn gc]) (w1.heap.size + 1) #[.slice A1 n1 c1, .slice A2 n2 c2]
  have t3 := turns_setRow (((((w1.alloc (.cells #[.int .i64 0, .int .i64 0, .int .i64 0, .int .i64 0, .slice none 0 0] 26)).alloc (.cells #[.slice none 0 0, .slice none 0 0] 29)).alloc (.cells #[.int .i64 0, .int .i64 0] 39)).setRow w1.heap.size #[.int .i64 gd.s, .int .i64 gd.l, .int .i64 gd.c, .int .i64 gd.sh, .slice GA gn gc]).setRow (w1.heap.size + 1) #[.slice A1 n1 c1, .slice A2 n2 c2]) (w1.heap.size + 1 + 1) #[.int .i64 r.r5, .int .i64 r.r6]
  have X3 := V3.turn t1 (by omega)
  have X4 := (V4.turn t1 (by omega)).turn t2 (by omega)
  have hbw := t3.below (t2.below (t1.below e0 (fun i hi => by omega)) (fun i hi => by omega)) (fun i hi => by omega)
  have K : PN w ((((((w1.alloc (.cells #[.int .i64 0, .int .i64 0, .int .i64 0, .int .i64 0, .slice none 0 0] 26)).alloc (.cells #[.slice none 0 0, .slice none 0 0] 29)).alloc (.cells #[.int .i64 0, .int .i64 0] 39)).setRow w1.heap.size #[.int .i64 gd.s, .int .i64 gd.l, .int .i64 gd.c, .int .i64 gd.sh, .slice GA gn gc]).setRow (w1.heap.size + 1) #[.slice A1 n1 c1, .slice A2 n2 c2]).setRow (w1.heap.size + 1 + 1) #[.int .i64 r.r5, .int .i64 r.r6]) gd d r #[.int .i64 gd.s, .int .i64 gd.l, .int .i64 gd.c, .int .i64 gd.sh, .slice GA gn gc] #[.slice A1 n1 c1, .slice A2 n2 c2] (.slice ua un uc) w1.heap.size := ⟨bel_trans E1 hbw, E1.size, ((V2.setRow #[.int .i64 gd.s, .int .i64 gd.l, .int .i64 gd.c, .int .i64 gd.sh, .slice GA gn gc]).turn t2 (by omega)).turn t3 (by omega), (X3.setRow _).turn t3 (by omega), X4.setRow _, (keepsG gd).later ((keepsG gd).sub hG.lt (fun b hb => hb.2)) hbw, (keepsS9 d).later ((keepsS9 d).sub hJ.lt (fun b hb => hb.2)) hbw, (hcl.sub (fun b hb => hb.2)).turn (T := fun _ => False) (Turns.of_below hbw) (fun _ _ h => h)⟩
  have HIg : Hid ((Tryz.prog.info? 26).map (·.size) = some (#[.int .i64 gd.s, .int .i64 gd.l, .int .i64 gd.c, .int .i64 gd.sh, .slice GA gn gc] : Array Value).size) := Lib.hid (by kernel_rfl)
  have HSg : Hid ((#[.int .i64 0, .int .i64 0, .int .i64 0, .int .i64 0, .slice none 0 0] : Array Value).size = (#[.int .i64 gd.s, .int .i64 gd.l, .int .i64 gd.c, .int .i64 gd.sh, .slice GA gn gc] : Array Value).size) := Lib.hid rfl
  have HOg : Hid ((#[.int .i64 gd.s, .int .i64 gd.l, .int .i64 gd.c, .int .i64 gd.sh, .slice GA gn gc] : Array Value).all (·.oneCell') = true) := Lib.hid (by simp [Value.oneCell'])
  have HBg := Lib.hid V2
  have HIj : Hid ((Tryz.prog.info? 29).map (·.size) = some (#[.slice A1 n1 c1, .slice A2 n2 c2] : Array Value).size) := Lib.hid (by kernel_rfl)
  have HSj : Hid ((#[.slice none 0 0, .slice none 0 0] : Array Value).size = (#[.slice A1 n1 c1, .slice A2 n2 c2] : Array Value).size) := Lib.hid rfl
  have HOj : Hid ((#[.slice A1 n1 c1, .slice A2 n2 c2] : Array Value).all (·.oneCell') = true) := Lib.hid (by simp [Value.oneCell'])
  have HBj := Lib.hid X3
  have HIs : Hid ((Tryz.prog.info? 39).map (·.size) = some (#[.int .i64 r.r5, .int .i64 r.r6] : Array Value).size) := Lib.hid (by kernel_rfl)
  have HSs : Hid ((#[.int .i64 0, .int .i64 0] : Array Value).size = (#[.int .i64 r.r5, .int .i64 r.r6] : Array Value).size) := Lib.hid rfl
  have HOs : Hid ((#[.int .i64 r.r5, .int .i64 r.r6] : Array Value).all (·.oneCell') = true) := Lib.hid (by simp [Value.oneCell'])
  have HBs := Lib.hid X4
  go_upto_region 4 with (first | ((with_reducible refine wpList_store_row rfl 26 _ _ rfl (w1.heap.size) #[.int .i64 gd.s, .int .i64 gd.l, .int .i64 gd.c, .int .i64 gd.sh, .slice GA gn gc] rfl rfl 26 #[.int .i64 0, .int .i64 0, .int .i64 0, .int .i64 0, .slice none 0 0] ?_ HIg.out HSg.out HOg.out ?_); exact HBg.out) | ((with_reducible refine wpList_store_row rfl 29 _ _ rfl (w1.heap.size + 1) #[.slice A1 n1 c1, .slice A2 n2 c2] rfl rfl 29 #[.slice none 0 0, .slice none 0 0] ?_ HIj.out HSj.out HOj.out ?_); exact HBj.out) | ((with_reducible refine wpList_store_row rfl 39 _ _ rfl (w1.heap.size + 1 + 1) #[.int .i64 r.r5, .int .i64 r.r6] rfl rfl 39 #[.int .i64 0, .int .i64 0] ?_ HIs.out HSs.out HOs.out ?_); exact HBs.out))
  clear HIg HSg HOg HBg HIj HSj HOj HBj HIs HSs HOs HBs
  clear V2 V3 V4 X3 X4 e0 t1 t2 t3 hbw hG hJ hrc hcl E1 hsk hsl
  generalize ((((((w1.alloc _).alloc _).alloc _).setRow _ _).setRow _ _).setRow _ _ : World) = w2 at K ⊢
  generalize w1.heap.size = V at K ⊢
  try simp only [Act.put]
  obtain ⟨rr, hrr⟩ : ∃ x, notedD gd d (newD d r.r2 r.r3 r.r4 r.r5 r.r6 r.r7 r.ps) = x := ⟨_, rfl⟩
  have HRR := Lib.hid hrr
  have hzr : rr.1.sz ≤ 1048576 := by have := noted_sz hrr; show rr.1.sz ≤ 1048576; have e : (newD d r.r2 r.r3 r.r4 r.r5 r.r6 r.r7 r.ps).ps.length = r.ps.length := rfl; omega
  have HZR := Lib.hid hzr
  clear hrr hzr
  have HZ := Lib.hid hz
  clear hz
  go_wp2_with (first | (refine wpList_load_box 26 _ rfl (V) rfl 26 #[.int .i64 gd.s, .int .i64 gd.l, .int .i64 gd.c, .int .i64 gd.sh, .slice GA gn gc] K.vg _ Tryz.underlying26 rfl SG.out (by first | rfl | simp [Region.wanted, yielded] | (simp [Region.wanted, yielded, Act.put] <;> omega)) ?_) | (refine wpList_load_box 29 _ rfl ((V + 1)) rfl 29 #[.slice A1 n1 c1, .slice A2 n2 c2] K.vj _ Tryz.underlying29 rfl (by kernel_rfl) (by first | rfl | simp [Region.wanted, yielded] | (simp [Region.wanted, yielded, Act.put] <;> omega)) ?_) | (refine wpList_load_box 39 _ rfl ((V + 1 + 1)) rfl 39 #[.int .i64 r.r5, .int .i64 r.r6] K.vs _ Tryz.underlying39 rfl (by kernel_rfl) (by first | rfl | simp [Region.wanted, yielded] | (simp [Region.wanted, yielded, Act.put] <;> omega)) ?_))
  refine (noted_is r.r2 r.r3 r.r4 r.r5 r.r6 r.r7 K.grp K.jr K.cl.slc (Nat.le_trans HZ.out (by omega)) HRR.out).mono ?_
  rintro e w3 ⟨CX, rfl, hX, hb⟩
  replace K := K.later hb
  clear hb
  obtain ⟨XA, xn, xc, YA, yn, yc, eX, -, -, x1, x2⟩ := hX.at
  injection eX with eX
  subst eX
  have HX1 := Lib.hid x1.1
  have HX2 := Lib.hid x2.1
  clear x1 x2
  have hn := bel_new_row w3 #[.slice none 0 0, .slice none 0 0] 29 #[.slice XA xn xc, .slice YA yn yc]
  have JX := JV.new hX (fun b hb => hb.2)
  have ZB := Box.new w3 29 #[.slice none 0 0, .slice none 0 0]
  replace K := K.later hn
  clear hX hn
  go_upto_region 5 with (refine wpList_store_row rfl 29 _ _ rfl w3.heap.size _ rfl rfl 29 #[.slice none 0 0, .slice none 0 0] ZB (by kernel_rfl) rfl (by simp [Value.oneCell']) ?_)
  clear ZB
  generalize ((w3.alloc _).setRow _ _ : World) = w4 at K JX ⊢
  generalize w3.heap.size = VX at JX ⊢
  try simp only [Act.put]
  go_wp2_with (first | (refine wpList_load_box 26 _ rfl (V) rfl 26 #[.int .i64 gd.s, .int .i64 gd.l, .int .i64 gd.c, .int .i64 gd.sh, .slice GA gn gc] K.vg _ Tryz.underlying26 rfl SG.out (by first | rfl | simp [Region.wanted, yielded] | (simp [Region.wanted, yielded, Act.put] <;> omega)) ?_) | (refine wpList_load_box 29 _ rfl ((V + 1)) rfl 29 #[.slice A1 n1 c1, .slice A2 n2 c2] K.vj _ Tryz.underlying29 rfl (by kernel_rfl) (by first | rfl | simp [Region.wanted, yielded] | (simp [Region.wanted, yielded, Act.put] <;> omega)) ?_) | (refine wpList_load_box 39 _ rfl ((V + 1 + 1)) rfl 39 #[.int .i64 r.r5, .int .i64 r.r6] K.vs _ Tryz.underlying39 rfl (by kernel_rfl) (by first | rfl | simp [Region.wanted, yielded] | (simp [Region.wanted, yielded, Act.put] <;> omega)) ?_))
  refine (specNoted_is r.r2 r.r3 r.r4 r.r5 r.r6 r.r7 K.grp K.jr K.cl.slc (Nat.le_trans HZ.out (by omega)) HRR.out).mono ?_
  rintro e w5 ⟨CY, rfl, hY, hb⟩
  replace K := K.later hb
  replace JX := JX.later hb
  clear hb
  obtain ⟨PA, pn, pc, QA, qn, qc, eY, -, -, -, -⟩ := hY.at
  injection eY with eY
  subst eY
  have hn := bel_new_row w5 #[.slice none 0 0, .slice none 0 0] 29 #[.slice PA pn pc, .slice QA qn qc]
  have JY := JV.new hY (fun b hb => hb.2)
  have ZB := Box.new w5 29 #[.slice none 0 0, .slice none 0 0]
  replace K := K.later hn
  replace JX := JX.later hn
  clear hY hn
  go_upto_region 6 with (refine wpList_store_row rfl 29 _ _ rfl w5.heap.size _ rfl rfl 29 #[.slice none 0 0, .slice none 0 0] ZB (by kernel_rfl) rfl (by simp [Value.oneCell']) ?_)
  clear ZB
  generalize ((w5.alloc _).setRow _ _ : World) = w6 at K JX JY ⊢
  generalize w5.heap.size = VY at JY ⊢
  try simp only [Act.put]
  have hrr2 : (rr.2 != rr.2) = false := by simp
  go_wp2_with (first | (refine wpList_load_box 29 _ rfl (VX) rfl 29 #[.slice XA xn xc, .slice YA yn yc] JX.box _ Tryz.underlying29 rfl (by kernel_rfl) (by first | rfl | simp [Region.wanted, yielded] | (simp [Region.wanted, yielded, Act.put] <;> omega)) ?_) | (refine wpList_load_box 29 _ rfl (VY) rfl 29 #[.slice PA pn pc, .slice QA qn qc] JY.box _ Tryz.underlying29 rfl (by kernel_rfl) (by first | rfl | simp [Region.wanted, yielded] | (simp [Region.wanted, yielded, Act.put] <;> omega)) ?_))
  refine (likeJ_is JX.at' JY.at' HZR.out).mono ?_
  rintro e w7 ⟨rfl, hb⟩
  replace K := K.later hb
  replace JX := JX.later hb
  clear hb
  clear JY hrr2
  have HNC := Lib.hid (noted_cases HRR.out)
  obtain ⟨b2, hb2⟩ : ∃ x, rr.2 = x := ⟨_, rfl⟩
  have HB2 := Lib.hid hb2
  rw [hb2]
  clear hb2
  cases b2
  · skip
    obtain ⟨z, hzz⟩ : ∃ z, jokD gd d = z := ⟨_, rfl⟩
    have HJ := Lib.hid hzz
    clear hzz
    have hdz : d.sz ≤ 1048576 := by have := HZ.out; omega
    have HDZ := Lib.hid hdz
    clear hdz
    go_upto_region 9 with fail
    go_wp2_with (first | (refine wpList_load_box 26 _ rfl (V) rfl 26 #[.int .i64 gd.s, .int .i64 gd.l, .int .i64 gd.c, .int .i64 gd.sh, .slice GA gn gc] K.vg _ Tryz.underlying26 rfl SG.out (by first | rfl | simp [Region.wanted, yielded] | (simp [Region.wanted, yielded, Act.put] <;> omega)) ?_) | (refine wpList_load_box 29 _ rfl ((V + 1)) rfl 29 #[.slice A1 n1 c1, .slice A2 n2 c2] K.vj _ Tryz.underlying29 rfl (by kernel_rfl) (by first | rfl | simp [Region.wanted, yielded] | (simp [Region.wanted, yielded, Act.put] <;> omega)) ?_))
    refine (specJournalOk_is K.grp K.jr HDZ.out HJ.out).mono ?_
    rintro e w8 ⟨rfl, hb⟩
    replace K := K.later hb
    replace JX := JX.later hb
    clear hb
    cases z
    · have E := K.bel
      clear K JX
      go_wp2
      go_ret
      exact ⟨rfl, E⟩
    · skip
      have hrd : rr.1 = d := by
        rcases HNC.out with h | h
        · exact h.2 HJ.out
        · rw [HB2.out] at h; cases h.1
      rw [hrd] at JX
      go_wp2_with (first | (refine wpList_load_box 29 _ rfl (VX) rfl 29 #[.slice XA xn xc, .slice YA yn yc] JX.box _ Tryz.underlying29 rfl (by kernel_rfl) (by first | rfl | simp [Region.wanted, yielded] | (simp [Region.wanted, yielded, Act.put] <;> omega)) ?_) | (refine wpList_load_box 29 _ rfl ((V + 1)) rfl 29 #[.slice A1 n1 c1, .slice A2 n2 c2] K.vj _ Tryz.underlying29 rfl (by kernel_rfl) (by first | rfl | simp [Region.wanted, yielded] | (simp [Region.wanted, yielded, Act.put] <;> omega)) ?_))
      refine (likeJ_is JX.at' K.jr.at HDZ.out).mono ?_
      rintro e w9 ⟨rfl, hb⟩
      replace K := K.later hb
      replace JX := JX.later hb
      clear hb
      have E := K.bel
      clear K JX
      go_wp2
      go_ret
      exact ⟨rfl, E⟩
  · skip
    obtain ⟨hjok, hrok, hr1⟩ : jokD gd d = true ∧ rokD gd (newD d r.r2 r.r3 r.r4 r.r5 r.r6 r.r7 r.ps) = true ∧ rr.1 = ⟨d.ks, d.ls ++ [newD d r.r2 r.r3 r.r4 r.r5 r.r6 r.r7 r.ps]⟩ := by
      rcases HNC.out with h | h
      · rw [HB2.out] at h; cases h.1
      · exact h.2
    clear HNC HB2
    obtain ⟨dn, hdn⟩ : ∃ x, rr.1 = x := ⟨_, rfl⟩
    rw [hdn] at JX hr1
    have HZN : Hid (dn.sz ≤ 1048576) := Lib.hid (by rw [← hdn]; exact HZR.out)
    rw [hdn] at HX1 HX2
    have hyn : n2 + 1 = yn := by rw [← HX2.out, hr1, ← HN2.out]; simp
    have hxn : n1 = xn := by rw [← HX1.out, hr1, ← HN1.out]
    have hjn : jokD gd dn = true := by rw [hr1, jok_snoc hjok rfl]; exact hrok
    have HJN := Lib.hid hjn
    clear hjn
    have hn8 : n1 ≤ 1048000 ∧ n2 ≤ 1048000 := by
      have h1 := totC_len d.ks
      have h2 := totC_len d.ls
      have h3 : gd.sz + (totC d.ks + totC d.ls) + r.ps.length ≤ 1048000 := HZ.out
      rw [HN1.out] at h1
      rw [HN2.out] at h2
      omega
    have hlen : dn.ls.length = yn := HX2.out
    have hlast : ∀ h, dn.ls[n2]'h = newD d r.r2 r.r3 r.r4 r.r5 r.r6 r.r7 r.ps := by
      rw [hr1]
      intro h
      have e := HN2.out
      subst e
      simp
    subst hxn
    obtain ⟨x0, x1⟩ := JX.box.two
    go_upto_region 11 with fail
    obtain ⟨XA', xn', xc', YA', yn', yc', eX, -, -, -, y2⟩ := JX.at'
    injection eX with eX
    simp only [Array.mk.injEq, List.cons.injEq, and_true, Value.slice.injEq] at eX
    obtain ⟨⟨rfl, rfl, rfl⟩, rfl, rfl, rfl⟩ := eX
    obtain ⟨yb, yo, rfl, -, -, ycc⟩ := y2.2 (by omega)
    obtain ⟨L, m, mc, ⟨z0, z1, z2, z3, z4, z5, z6, z7, z8⟩, -, -⟩ := ycc n2 (by omega)
    rw [hlast] at z0 z1 z2 z3 z4 z5 z6 z8
    simp only [newD, HN1.out, HN2.out] at z0 z1 z2 z3 z4 z5 z6 z8
    obtain ⟨S9, hS9⟩ : ∃ x, sumN (((n1 + n2 : Nat) : Int) + 1) r.r2 r.r3 r.r4 r.r5 r.r6 r.r7 r.ps = x := ⟨_, rfl⟩
    rw [hS9] at z8
    clear ycc y2 hS9
    have hsub : IntKind.i64.wrap ((yn : Int) - 1) = (n2 : Int) := by rw [show (yn : Int) - 1 = (n2 : Int) by omega]; exact IntWalk.i64_in _ (by omega)
    have hi0 : (0 : Int) ≤ (n2 : Int) := by omega
    have hi1 : (n2 : Int) < (yn : Int) := by omega
    obtain ⟨No, hNo⟩ : ∃ x : Int, ((n1 + n2 : Nat) : Int) + 1 = x := ⟨_, rfl⟩
    rw [hNo] at z0
    have hn := bel_new_row w7 #[.int .i64 0, .int .i64 0, .int .i64 0, .int .i64 0, .int .i64 0, .int .i64 0, .int .i64 0, .slice none 0 0, .int .i64 0] 46 #[.int .i64 No, .int .i64 r.r2, .int .i64 r.r3, .int .i64 r.r4, .int .i64 r.r5, .int .i64 r.r6, .int .i64 r.r7, .slice L m mc, .int .i64 S9]
    have ZB := Box.new w7 46 #[.int .i64 0, .int .i64 0, .int .i64 0, .int .i64 0, .int .i64 0, .int .i64 0, .int .i64 0, .slice none 0 0, .int .i64 0]
    have VB := (Box.new w7 46 #[.int .i64 0, .int .i64 0, .int .i64 0, .int .i64 0, .int .i64 0, .int .i64 0, .int .i64 0, .slice none 0 0, .int .i64 0]).setRow #[.int .i64 No, .int .i64 r.r2, .int .i64 r.r3, .int .i64 r.r4, .int .i64 r.r5, .int .i64 r.r6, .int .i64 r.r7, .slice L m mc, .int .i64 S9]
    go_upto_region 12 with (refine wpList_store_row rfl 46 _ _ rfl w7.heap.size #[.int .i64 No, .int .i64 r.r2, .int .i64 r.r3, .int .i64 r.r4, .int .i64 r.r5, .int .i64 r.r6, .int .i64 r.r7, .slice L m mc, .int .i64 S9] rfl rfl 46 #[.int .i64 0, .int .i64 0, .int .i64 0, .int .i64 0, .int .i64 0, .int .i64 0, .int .i64 0, .slice none 0 0, .int .i64 0] ZB (by kernel_rfl) rfl (by simp [Value.oneCell']) ?_)
    replace K := K.later hn
    replace JX := JX.later hn
    clear hn ZB x0 x1 z0 z1 z2 z3 z4 z5 z6 z7 z8
    try simp only [Act.put]
    generalize ((w7.alloc _).setRow _ _ : World) = w8 at K JX VB ⊢
    generalize w7.heap.size = VB9 at VB ⊢
    obtain ⟨q1, r1⟩ := loose_part JX.s9 (k := n2) (by omega)
    obtain ⟨q2, -⟩ := loose_part K.jr (k := n2) (Nat.le_refl _)
    have htk : dn.ls.take n2 = d.ls := by rw [hr1, ← HN2.out]; simp
    rw [htk] at q1
    rw [show d.ls.take n2 = d.ls by rw [← HN2.out, List.take_length]] at q2
    have Q1 := Lib.hid q1
    have Q2 := Lib.hid q2
    have hzl : totC d.ls ≤ 1048576 := by have h3 : gd.sz + (totC d.ks + totC d.ls) + r.ps.length ≤ 1048000 := HZ.out; omega
    have HZL := Lib.hid hzl
    have hn2 : n2 ≤ 1048576 := by omega
    have HGG := Lib.hid K.grp
    have HJJ := Lib.hid JX.s9
    have hadd : IntKind.i64.wrap ((n1 : Int) + (yn : Int)) = No := by rw [show (n1 : Int) + (yn : Int) = No by omega]; exact IntWalk.i64_in _ (by omega)
    have hlen1 : IntKind.i64.wrap ((n2 : Int) + 1) = (yn : Int) := by rw [show (n2 : Int) + 1 = (yn : Int) by omega]; exact IntWalk.i64_in _ (by omega)
    have heq1 : ((yn : Int) == (yn : Int)) = true := by simp
    have heq2 : (No == No) = true := by simp
    clear q1 q2 hlast hlen htk hr1 hjok hrok hdn hzl
    obtain ⟨g0, g1, g2, g3, g4⟩ := K.vg.five
    obtain ⟨v0, v1⟩ := K.vj.two
    obtain ⟨s0, s1⟩ := K.vs.two
    obtain ⟨x0, x1⟩ := JX.box.two
    obtain ⟨c0, c1, c2, c3, c4, c5, c6, c7, c8⟩ := VB.nine
    have fg0 := After.cell K.vg.lt g0
    have fg1 := After.cell K.vg.lt g1
    have fg2 := After.cell K.vg.lt g2
    have fg3 := After.cell K.vg.lt g3
    have fg4 := After.cell K.vg.lt g4
    have fv0 := After.cell K.vj.lt v0
    have fv1 := After.cell K.vj.lt v1
    have fs0 := After.cell K.vs.lt s0
    have fs1 := After.cell K.vs.lt s1
    have fx0 := After.cell JX.box.lt x0
    have fx1 := After.cell JX.box.lt x1
    have fc0 := After.cell VB.lt c0
    have fc1 := After.cell VB.lt c1
    have fc2 := After.cell VB.lt c2
    have fc3 := After.cell VB.lt c3
    have fc4 := After.cell VB.lt c4
    have fc5 := After.cell VB.lt c5
    have fc6 := After.cell VB.lt c6
    have fc7 := After.cell VB.lt c7
    have fc8 := After.cell VB.lt c8
    clear g0 g1 g2 g3 g4 v0 v1 s0 s1 x0 x1 c0 c1 c2 c3 c4 c5 c6 c7 c8
    refine wp_region_after (by kernel_rfl) (by kernel_rfl) ?_
    repeat (first | go_big_quiet_step ((first | (go_at_call 20; with_reducible exact after_of (likeRecs_is (afterRF Q1.out _) (afterRF Q2.out _) hn2 HZL.out)) | (go_at_call 17; with_reducible exact after_of (journalOk_is (afterG9 HGG.out _) (afterS9 HJJ.out _) HZN.out HJN.out)))) | quiet_step ((first | (go_at_call 20; with_reducible exact after_of (likeRecs_is (afterRF Q1.out _) (afterRF Q2.out _) hn2 HZL.out)) | (go_at_call 17; with_reducible exact after_of (journalOk_is (afterG9 HGG.out _) (afterS9 HJJ.out _) HZN.out HJN.out)))))
    refine wpQuiet_nil ?_
    intro pw
    have E := bel_trans K.bel pw.bel
    clear fg0 fg1 fg2 fg3 fg4 fv0 fv1 fs0 fs1 fx0 fx1 fc0 fc1 fc2 fc3 fc4 fc5 fc6 fc7 fc8 K JX VB
    go_wp2
    go_ret
    exact ⟨rfl, E⟩

end Go.Proofs.YtjdepjpjjgkmbaaGreat

namespace Go.Proofs.YtjdepjpjjgkmbaaGreat
set_option maxRecDepth 100000
open Go.ChangeShapes Go.WideShapes Go.ChangeAt Go.RowKit
set_option linter.unusedVariables false


namespace fnNotedF
set_option maxRecDepth 100000 in
theorem lifted (os : Os) (started : os.Started) (H : Type) (enc : TypeId × Value → H) :
    ReturnsInHanded {} Tryz.checked os 4 .any (Rows.fnNotedSpec.pre6 enc Tryz.prog Tryz.f4 Rows.fnNotedRow.domain false) (Rows.fnNotedSpec.post enc Tryz.prog Tryz.f4 false true false false) := by
  refine returnsInHanded_of_change (C := Tryz.checked) ownB started (by kernel_rfl) Tryz.func4
    (ChangeSpec.witness6 (enc := enc) (C := Tryz.checked) false ⟨#[], #[.slice none 0 0], []⟩ 8 (by kernel_rfl) (by kernel_rfl) (by kernel_rfl) (by kernel_rfl)) ?_
  intro W base args ds gs before hval0 hW hcnd _
  have hval : ∀ (j : Nat) t v, Tryz.f4.params[j]? = some t → args[j]? = some v → Value.okWide Tryz.prog W .any base t v := hval0
  have hW' := hW
  obtain ⟨p, q, hA0, hV, rfl, hfz, hnd⟩ := hW
  have hA : DataW.TrodAll enc Tryz.prog W 0 (fun _ => true) true Tryz.f4.params.toList args.toList ds p := hA0
  rw [Tryz.params4] at hA hval
  obtain ⟨v0, vs0, d0, ds0, p0, q0, hargs, rfl, rfl, h0, r0⟩ := trodAll_cons hA
  obtain ⟨rfl, rfl, rfl⟩ := trodAll_nil r0
  obtain rfl : args = #[v0] := by cases args; simp_all
  obtain ⟨rfl, rfl⟩ := trodVars_none hV
  have k0 := h0
  have lt0 : ∀ x ∈ p0, x.block < W.heap.size := by obtain ⟨m, hm⟩ := k0; exact DataW.trod_lt m _ _ _ hm
  obtain ⟨A, n, cap, rfl, hB, hmx⟩ := bytes_read (hval 0 22 v0 rfl rfl) h0
  clear hA0 hval0
  have walk : Calls Tryz.prog 4 #[.slice A n cap] W fun e w' => e = .returned (.bool true) ∧ Below W.heap.size W w' := by
    by_cases hs : n ≤ 4096
    · exact noted_small A n cap W hs hB
    · exact noted_big A n cap W hmx (by omega)
  refine walk.mono fun e W' ⟨he, bel⟩ => ?_
  subst he
  exact ⟨_, rfl, _, _, _, [], _, [], hW', trodAll_mk1 (shut_bool Tryz.underlying4 _), (trodAll_cons_mk (Below.trod laidOutBytes (by kernel_rfl) (of_decide_eq_true (by kernel_rfl)) k0 bel lt0) trodAll_mk0), rfl, bel.frame _, fun h => by cases h⟩

theorem proved : Rows.FnNotedSaid :=
  OpenClaim.holds_of_wide 4 Tryz.f4 rfl rfl rfl rfl rfl rfl rfl ⟨rfl, rfl, rfl, rfl, rfl⟩ rfl rfl rfl rfl rfl (by kernel_rfl) Tryz.func4 (by kernel_rfl)
    (of_decide_eq_true (by kernel_rfl)) (by unfold Func.isWrapper; first | (rw [if_pos (by decide +kernel)]; kernel_rfl) | (rw [if_neg (by decide +kernel)]; exact ⟨rfl, rfl⟩))
    (fun os started H enc _ => lifted os started H enc)
end fnNotedF

theorem fnNoted_holds : Rows.FnNotedSaid := fnNotedF.proved
end Go.Proofs.YtjdepjpjjgkmbaaGreat
