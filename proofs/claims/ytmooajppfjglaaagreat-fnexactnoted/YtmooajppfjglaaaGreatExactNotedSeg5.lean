/- Noted of the model: a journal with one record more, in memory of its own (written by jour_noted2.py); conditions: the sizes. -/
import Derived.Test.YtmooajppfjglaaaGreatExactNotedSeg4
import Derived.Test.YtmooajppfjglaaaGreatExactNotedSeg3
import Derived.Laws.CopyOwn
import Derived.Test.YtmooajppfjglaaaGreatExactNotedSeg2

/- Both Replayed as a law meets them: over a copy of a group and a list of records, read; conditions: the sizes. -/
namespace Go.Proofs.YtmooajppfjglaaaGreat
open Go Go.RowKit

theorem specReplayed8_is {g : GrpD} {ds : List RecD} {w : World} {F0 : Nat → Prop} {C0 : Array Value} {LA : Option Addr} {ln lc : Nat} (h0 : AtG g w F0 (.agg C0)) (h1 : RecsF ds w (· < w.heap.size) LA ln) (hz : totC ds ≤ 1048576) :
    Calls Tryz.prog 14 #[.agg C0, .slice LA ln lc] w (MadeReps AtW (replD g ds).1 (replD g ds).2 w) := by
  obtain ⟨A, n, cap, e0, m0, hr⟩ := h0
  injection e0 with e0
  subst e0
  exact specReplayed_is g ds A n cap LA ln lc w m0 hr.1 h1 hz
theorem replayed8_is {g : GrpD} {ds : List RecD} {w : World} {F0 : Nat → Prop} {C0 : Array Value} {LA : Option Addr} {ln lc : Nat} (h0 : AtG g w F0 (.agg C0)) (h1 : RecsF ds w (· < w.heap.size) LA ln) (hz : totC ds ≤ 1048576) :
    Calls Tryz.prog 13 #[.agg C0, .slice LA ln lc] w (MadeReps LieE (replD g ds).1 (replD g ds).2 w) := by
  obtain ⟨A, n, cap, e0, m0, hr⟩ := h0
  injection e0 with e0
  subst e0
  exact replayed_is g ds A n cap LA ln lc w m0 hr.1 h1 hz
end Go.Proofs.YtmooajppfjglaaaGreat

/- All records of a journal, in one list; a journal that is right: what it and the model answer (written by jour_ok.py); conditions: the sizes. -/
namespace Go.Proofs.YtmooajppfjglaaaGreat
open Go Go.RowKit

/-- A journal whose lists lie somewhere. -/
def AtS9 (d : JourD) (w : World) (F : Nat → Prop) (v : Value) : Prop := ∃ u u', v = .agg #[u, u'] ∧ ListS d.ks w F u ∧ ListS d.ls w F u'
theorem keepsS9 (d : JourD) : Keeps (AtS9 d) := ⟨fun ⟨u, u', e, h1, h2⟩ ht hd => ⟨u, u', e, h1.turn ht hd, h2.turn ht hd⟩, fun ⟨u, u', e, h1, h2⟩ hs => ⟨u, u', e, h1.sub hs, h2.sub hs⟩⟩
theorem LieJ.somewhere {d : JourD} {w : World} {F : Nat → Prop} {v : Value} (h : LieJ d w F v) : AtS9 d w F v := by
  obtain ⟨u, u', F1, F2, e, h1, h2, s1, s2, -⟩ := h
  exact ⟨u, u', e, h1.list.sub s1, h2.list.sub s2⟩
theorem AtS9.at {d : JourD} {w : World} {F : Nat → Prop} {v : Value} (h : AtS9 d w F v) : AtJ d w F v := by
  obtain ⟨u, u', rfl, h1, h2⟩ := h
  obtain ⟨A, c, rfl, m1, r1⟩ := h1.at
  obtain ⟨A', c', rfl, m2, r2⟩ := h2.at
  exact ⟨A, _, c, A', _, c', rfl, m1, m2, r1, r2⟩
theorem totC_app (a b : List RecD) : totC (a ++ b) = totC a + totC b := by
  unfold totC
  rw [List.map_append, List.sum_append]
/-- Whether a journal is right. -/
def jokD (g : GrpD) (d : JourD) : Bool := (replD g (d.ks ++ d.ls)).2
theorem allAt_of {g : GrpD} {ds : List RecD} (h : allAt g ds = true) : ∀ i, i < ds.length → isAt g ds i = true := fun i hi => by
  cases e : isAt g ds i
  · rw [allAt_false hi e] at h
    cases h
  · rfl
theorem rok_no {g : GrpD} {d : RecD} (h : rokD g d = true) : 1 ≤ d.r1 ∧ d.r1 ≤ 400 := by
  simp only [rokD, rokB, Bool.and_eq_true, inB, decide_eq_true_eq] at h
  omega
theorem repl_len400 {g : GrpD} {ds : List RecD} (h : (replD g ds).2 = true) : ds.length ≤ 400 := by
  unfold replD at h
  split at h
  · rename_i hc
    rw [Bool.and_eq_true] at hc
    rcases Nat.eq_zero_or_pos ds.length with h0 | h0
    · omega
    · have h1 := allAt_of hc.2 (ds.length - 1) (by omega)
      rw [isAt_lt (by omega), Bool.and_eq_true, decide_eq_true_eq] at h1
      have h2 := rok_no h1.2
      omega
  · cases h
/-- The list of a row of one's own, two lists one behind the other. -/
theorem row_two {w w' : World} {u : Value} {ms ms' : List (RecD × Value)} {ks ls : List RecD} {F : Nat → Prop} {t : TypeId} (hm : ms.map (·.1) = ks) (hm' : ms'.map (·.1) = ls) (h : w'.ownsRow w.heap.size t 9 u (ks.length + ls.length) (flatC ms ++ flatC ms')) (h1 : CertsF w F ms) (h2 : CertsF w F ms') (hb : Below w.heap.size w w') : ListS (ks ++ ls) w' (fun b => F b ∨ w.heap.size ≤ b) u := by
  have hc := ((h1.app h2).later hb).sub (F' := fun b => F b ∨ w.heap.size ≤ b) (fun b hb => .inl hb)
  have e : (ms ++ ms').map (·.1) = ks ++ ls := by rw [List.map_append, hm, hm']
  rw [← flatC_app] at h
  rw [← e]
  exact row_list h (by rw [← List.length_map (f := fun x : RecD × Value => x.1), e, List.length_append]) hc (fun b hb _ => .inr hb)

set_option maxRecDepth 100000 in
set_option maxHeartbeats 4000000 in
theorem l10All_is {d : JourD} {w : World} {F : Nat → Prop} {C : Array Value} (h : AtS9 d w F (.agg C)) (hs : d.sz ≤ 2097152) :
    Calls Tryz.prog 74 #[.agg C] w fun e w' => ∃ u, e = .returned u ∧ ListS (d.ks ++ d.ls) w' (· < w'.heap.size) u ∧ Below w.heap.size w w' := by
  obtain ⟨i0, hi0, hz0, hz1, hz2⟩ := info_parts Tryz.infoRecI
  obtain ⟨u, u', e, h1, h2⟩ := h
  injection e with e
  subst e
  obtain ⟨ms, hm, hc, hx⟩ := h1.lt.src
  obtain ⟨ms', hm', hc', hx'⟩ := h2.lt.src
  have hl1 : d.ks.length ≤ 2097152 := by have := totC_len d.ks; unfold JourD.sz at hs; omega
  have hl2 : d.ks.length + d.ls.length ≤ 2097152 := by have := totC_len d.ks; have := totC_len d.ls; unfold JourD.sz at hs; omega
  have hf := Lib.hid hm
  have hf' := Lib.hid hm'
  have HC := Lib.hid hc
  have HC' := Lib.hid hc'
  have hE : ∃ K, flatC ms = K := ⟨_, rfl⟩
  obtain ⟨X, hX⟩ := hE
  obtain ⟨X', hX'⟩ : ∃ K, flatC ms' = K := ⟨_, rfl⟩
  rw [hX] at hx
  rw [hX'] at hx'
  have HX := Lib.hid hX
  have HX' := Lib.hid hX'
  have hb0 := bel_alloc w (.cells #[u, u'] 45)
  have D := Box.new w 45 #[u, u']
  have S1 := hx.later hb0
  have S2 := hx'.later hb0
  clear hm hm' hc hc' hx hx' hX hX' h1 h2
  go_enter Tryz.func74, Tryz.ntmps74
  go_upto_region 1 with fail
  generalize (w.alloc _ : World) = w0 at hb0 D S1 S2 ⊢
  have hw0 := hb0.size
  have HB := Below.refl w0.heap.size w0
  refine wp_region_sink 8 (fun w' => Box w' w.heap.size 45 #[u, u']) (by kernel_rfl) D (fun hH => ?_)
  have hb := (Below.refl w0.heap.size w0).drew
  replace HB := bel_trans HB hb
  replace D := D.later hb D.lt
  clear hb
  generalize w0.drew = w3 at D HB hH ⊢
  refine wpAnyE_pure (i := 1) (v := ?vp1) (by simp only [List.getElem?_toArray, List.getElem?_cons_succ, List.getElem?_cons_zero]; rfl) (by kernel_rfl) (by kernel_rfl) (by kernel_rfl) (by exact fun _ _ _ h => h) (by kernel_rfl) (Or.inl ⟨by rfl, ?yp1⟩) hH ?rp1
  case yp1 => (intro w' hSw; (try dsimp only at hSw); go_simp; try with_reducible rfl)
  try simp only [Act.put, List.setIfInBounds_toArray, List.set_cons_zero, List.set_cons_succ]
  refine wpAnyE_takeS (i := 2) (v := u) (by simp only [List.getElem?_toArray, List.getElem?_cons_succ, List.getElem?_cons_zero]; rfl) (by kernel_rfl) (by kernel_rfl) (by kernel_rfl) (by exact fun _ _ _ h => h) (by kernel_rfl) ?yc2 hH ?_
  case yc2 => exact .inl ⟨(by first | rfl | simp [Region.wanted, yielded] | (simp [Region.wanted, yielded, Act.put] <;> omega)), fun w' hSw => by (try dsimp only at hSw); have hc := (Box.two hSw).1; go_simp; try with_reducible rfl⟩
  try simp only [Act.put, List.setIfInBounds_toArray, List.set_cons_zero, List.set_cons_succ]
  refine wpAnyE_pure (i := 4) (v := ?vp4) (by simp only [List.getElem?_toArray, List.getElem?_cons_succ, List.getElem?_cons_zero]; rfl) (by kernel_rfl) (by kernel_rfl) (by kernel_rfl) (by exact fun _ _ _ h => h) (by kernel_rfl) (Or.inl ⟨by rfl, ?yp4⟩) hH ?rp4
  case yp4 => (intro w' hSw; (try dsimp only at hSw); go_simp; try with_reducible rfl)
  try simp only [Act.put, List.setIfInBounds_toArray, List.set_cons_zero, List.set_cons_succ]
  refine wpAnyE_takeS (i := 5) (v := u') (by simp only [List.getElem?_toArray, List.getElem?_cons_succ, List.getElem?_cons_zero]; rfl) (by kernel_rfl) (by kernel_rfl) (by kernel_rfl) (by exact fun _ _ _ h => h) (by kernel_rfl) ?yc5 hH ?_
  case yc5 => exact .inl ⟨(by first | rfl | simp [Region.wanted, yielded] | (simp [Region.wanted, yielded, Act.put] <;> omega)), fun w' hSw => by (try dsimp only at hSw); have hc := (Box.two hSw).2; go_simp; try with_reducible rfl⟩
  try simp only [Act.put, List.setIfInBounds_toArray, List.set_cons_zero, List.set_cons_succ]
  refine wpAnyE_one (i := 0) (by kernel_rfl) (by simp only [List.getElem?_toArray, List.getElem?_cons_zero]; rfl) (fun K hK => ?_)
  go_simp
  have hn := bel_alloc w3 (.cells #[] 42)
  have O3 := own_new w3 42 9
  have hw3 := HB.size
  have hDl := D.lt
  replace D := D.alloc (.cells #[] 42)
  replace HB := bel_trans HB hn
  clear hH
  refine hK.out _ _ D (fun hH => ?_)
  clear hK K
  try simp only [Act.put, List.setIfInBounds_toArray, List.set_cons_zero, List.set_cons_succ]
  have hz3 : w3.heap.size < (w3.alloc (.cells #[] 42)).heap.size := by simp
  clear hn
  generalize (w3.alloc _ : World) = w5 at D HB O3 hH hz3 hDl ⊢
  refine wpAnyE_one (i := 3) (by kernel_rfl) (by simp only [List.getElem?_toArray, List.getElem?_cons_succ, List.getElem?_cons_zero]; rfl) (fun K hK => ?_)
  refine step_append_srcN (by rfl) _ _ _ (by rfl) w3.heap.size 42 i0 _ 9 88 Tryz.underlying27 hi0 hz0 hz1 hz2 rfl (by omega) (.slice (some ⟨w3.heap.size, 0, none⟩) 0 0) 0 [] (by rfl) O3 (by simp) _ d.ks.length X (by rfl) (S1.later HB) d.ks.length X (Nat.zero_add _) (List.nil_append _) (by unfold maxLen; omega) (by omega) (by omega) ?_
  intro g1 cap1 w4 hown4 hgrow hbg hlg
  replace hgrow : w5.grownBy w4 (some w3.heap.size) := hgrow
  have D4 := D.kept hgrow (by intro e; injection e with e; omega)
  have HB4 := bel_grown HB hgrow (by omega)
  clear hH
  refine hK.out _ _ D4 (fun hH => ?_)
  clear hK K
  try simp only [Act.put, List.setIfInBounds_toArray, List.set_cons_zero, List.set_cons_succ]
  clear O3 hgrow D HB
  refine wpAnyE_one (i := 6) (by kernel_rfl) (by simp only [List.getElem?_toArray, List.getElem?_cons_succ, List.getElem?_cons_zero]; rfl) (fun K hK => ?_)
  refine step_append_srcN (by rfl) _ _ _ (by rfl) w3.heap.size 42 i0 _ 9 88 Tryz.underlying27 hi0 hz0 hz1 hz2 rfl (by omega) (.slice (some ⟨g1, 0, none⟩) d.ks.length cap1) d.ks.length X (by rfl) hown4 (by simp) _ d.ls.length X' (by rfl) (S2.later HB4) (d.ks.length + d.ls.length) (X ++ X') rfl rfl (by unfold maxLen; omega) (by omega) (by omega) ?_
  intro g2 cap2 w6 hown6 hgrow hbg2 hlg2
  replace hgrow : w4.grownBy w6 (some g1) := hgrow
  have D6 := D4.kept hgrow (by intro e; injection e with e; omega)
  have HB6 := bel_grown HB4 hgrow (by omega)
  clear hH
  refine hK.out _ _ D6 (fun hH => ?_)
  clear hK K
  try simp only [Act.put, List.setIfInBounds_toArray, List.set_cons_zero, List.set_cons_succ]
  clear hown4 hgrow D4 HB4
  refine wpAnyE_end (i := 7) (by kernel_rfl) (by simp only [List.getElem?_toArray, List.getElem?_cons_succ, List.getElem?_cons_zero]; rfl) (by kernel_rfl) (fun K hK => ?_)
  go_simp
  refine hK.out _ _ D6 ?_
  clear hK K hH
  try simp only [Act.put, List.setIfInBounds_toArray, List.set_cons_zero, List.set_cons_succ]
  have HO := Lib.hid hown6
  have E6 := bel_trans hb0 HB6
  clear hown6 D6
  go_wp2
  go_ret
  refine ⟨_, rfl, ?_, E6⟩
  have HOW := HO.out
  rw [← HX.out, ← HX'.out] at HOW
  have hL := row_two hf.out hf'.out (ownLow HOW hw3) (HC.out.later hb0) (HC'.out.later hb0) HB6
  exact hL.lt.sub (fun b hb => hb.2)
set_option maxRecDepth 100000 in
set_option maxHeartbeats 4000000 in
theorem specJournalOk_is {g : GrpD} {d : JourD} {w : World} {F0 F1 : Nat → Prop} {C0 C1 : Array Value} {z : Bool} (h0 : AtG g w F0 (.agg C0)) (h1 : AtS9 d w F1 (.agg C1)) (hs : d.sz ≤ 1048576) (hz : jokD g d = z) :
    Calls Tryz.prog 23 #[.agg C0, .agg C1] w fun e w' => e = .returned (.bool z) ∧ Below w.heap.size w w' := by
  have HZ := Lib.hid hz
  have hst : totC (d.ks ++ d.ls) ≤ 1048576 := by rw [totC_app]; exact hs
  have J0 := Lib.hid (sizeG h0).2
  have J1 := Lib.hid (show (Tryz.prog.info? 45).map (·.size) = some C1.size from (sizeJ h1.at).2)
  have hb0 := bel_trans (bel_alloc w (.cells C0 26)) (bel_alloc _ (.cells C1 45))
  have G := (Box.new w 26 C0).alloc (.cells C1 45)
  have J := Box.new (w.alloc (.cells C0 26)) 45 C1
  simp only [World.size_alloc] at J
  have H0 := Lib.hid ((keepsG g).later h0 hb0)
  have H1 := (keepsS9 d).later h1 hb0
  clear h0 h1 hz
  go_enter Tryz.func23, Tryz.ntmps23
  go_upto_region 1 with fail
  generalize ((w.alloc _).alloc _ : World) = w0 at hb0 G J H0 H1 ⊢
  go_wp2_with (refine wpList_load_box 45 _ rfl (w.heap.size + 1) rfl 45 C1 J _ Tryz.underlying45 rfl J1.out (by first | rfl | simp [Region.wanted, yielded] | (simp [Region.wanted, yielded, Act.put] <;> omega)) ?_)
  refine (l10All_is H1 (by omega)).mono ?_
  rintro e w1 ⟨u, rfl, hL, hb⟩
  replace G := G.later hb G.lt
  have K0 := Lib.hid ((keepsG g).later H0.out hb)
  have E := bel_trans hb0 hb
  clear hb hb0 H0 H1 J
  obtain ⟨A, c, rfl, hm, hr⟩ := hL.at
  generalize hln : (d.ks ++ d.ls).length = ln at hm hr ⊢
  clear hL
  have HR := Lib.hid hr
  clear hr
  go_wp2_with (refine wpList_load_box 26 _ rfl (w.heap.size) rfl 26 C0 G _ Tryz.underlying26 rfl J0.out (by first | rfl | simp [Region.wanted, yielded] | (simp [Region.wanted, yielded, Act.put] <;> omega)) ?_)
  refine (specReplayed8_is K0.out HR.out hst).mono ?_
  rintro e w2 ⟨GG, cg, rfl, -, hb⟩
  have E2 := bel_trans E hb
  clear hb E G
  have hok : (replD g (d.ks ++ d.ls)).2 = z := HZ.out
  rw [hok]
  cases z
  · go_wp2
    go_ret
    exact ⟨rfl, E2⟩
  · have hl4 := repl_len400 hok
    rw [hln] at hl4
    have hle : ((ln : Nat) : Int) ≤ 400 := by omega
    clear hok
    go_wp2
    go_ret
    exact ⟨rfl, E2⟩
set_option maxRecDepth 100000 in
set_option maxHeartbeats 4000000 in
theorem journalOk_is {g : GrpD} {d : JourD} {w : World} {F0 F1 : Nat → Prop} {C0 C1 : Array Value} {z : Bool} (h0 : AtG g w F0 (.agg C0)) (h1 : AtS9 d w F1 (.agg C1)) (hs : d.sz ≤ 1048576) (hz : jokD g d = z) :
    Calls Tryz.prog 22 #[.agg C0, .agg C1] w fun e w' => e = .returned (.bool z) ∧ Below w.heap.size w w' := by
  have HZ := Lib.hid hz
  have hst : totC (d.ks ++ d.ls) ≤ 1048576 := by rw [totC_app]; exact hs
  have J0 := Lib.hid (sizeG h0).2
  have J1 := Lib.hid (show (Tryz.prog.info? 45).map (·.size) = some C1.size from (sizeJ h1.at).2)
  have hb0 := bel_trans (bel_alloc w (.cells C0 26)) (bel_alloc _ (.cells C1 45))
  have G := (Box.new w 26 C0).alloc (.cells C1 45)
  have J := Box.new (w.alloc (.cells C0 26)) 45 C1
  simp only [World.size_alloc] at J
  have H0 := Lib.hid ((keepsG g).later h0 hb0)
  have H1 := (keepsS9 d).later h1 hb0
  clear h0 h1 hz
  obtain ⟨u, u', e, h2, h3⟩ := H1
  injection e with e
  subst e
  obtain ⟨ms, hm, hc, hx⟩ := h2.lt.src
  obtain ⟨ms', hm', hc', hx'⟩ := h3.lt.src
  obtain ⟨A1, c1, rfl, -, -⟩ := h2.at
  obtain ⟨A2, c2, rfl, -, -⟩ := h3.at
  have hl2 : d.ks.length + d.ls.length ≤ 2097152 := by have := totC_len d.ks; have := totC_len d.ls; unfold JourD.sz at hs; omega
  have hf := Lib.hid hm
  have hf' := Lib.hid hm'
  have HC := Lib.hid hc
  have HC' := Lib.hid hc'
  obtain ⟨X, hX⟩ : ∃ K, flatC ms = K := ⟨_, rfl⟩
  obtain ⟨X', hX'⟩ : ∃ K, flatC ms' = K := ⟨_, rfl⟩
  rw [hX] at hx
  rw [hX'] at hx'
  have HX := Lib.hid hX
  have HX' := Lib.hid hX'
  clear hm hm' hc hc' hX hX' h2 h3
  go_enter Tryz.func22, Tryz.ntmps22
  go_upto_region 1 with fail
  generalize ((w.alloc _).alloc _ : World) = w0 at hb0 G J H0 HC HC' hx hx' ⊢
  have hw0 := hb0.size
  have HB := Below.refl w0.heap.size w0
  refine wp_region_sink 13 (fun w' => Box w' w.heap.size 26 C0 ∧ Box w' (w.heap.size + 1) 45 #[.slice A1 d.ks.length c1, .slice A2 d.ls.length c2]) (by kernel_rfl) ⟨G, J⟩ (fun hH => ?_)
  have hb := (Below.refl w0.heap.size w0).drew
  replace HB := bel_trans HB hb
  replace G := G.later hb G.lt
  replace J := J.later hb J.lt
  clear hb
  generalize w0.drew = w3 at G J HB hH ⊢
  refine wpAnyE_takeS (i := 0) (v := .agg C0) (by simp only [List.getElem?_toArray, List.getElem?_cons_zero]; rfl) (by kernel_rfl) (by kernel_rfl) (by kernel_rfl) (by exact fun _ _ _ h => h) (by kernel_rfl) ?yg0 hH ?_
  case yg0 => exact yields_box 26 _ rfl (w.heap.size) rfl 26 C0 (fun _ h => h.1) _ Tryz.underlying26 rfl J0.out (by first | rfl | simp [Region.wanted, yielded] | (simp [Region.wanted, yielded, Act.put] <;> omega))
  try simp only [Act.put, List.setIfInBounds_toArray, List.set_cons_zero, List.set_cons_succ]
  refine wpAnyE_pure (i := 1) (v := ?vp1) (by simp only [List.getElem?_toArray, List.getElem?_cons_succ, List.getElem?_cons_zero]; rfl) (by kernel_rfl) (by kernel_rfl) (by kernel_rfl) (by exact fun _ _ _ h => h) (by kernel_rfl) (Or.inl ⟨by rfl, ?yp1⟩) hH ?rp1
  case yp1 => (intro w' hSw; (try dsimp only at hSw); go_simp; try with_reducible rfl)
  try simp only [Act.put, List.setIfInBounds_toArray, List.set_cons_zero, List.set_cons_succ]
  refine wpAnyE_takeS (i := 2) (v := (.slice A1 d.ks.length c1)) (by simp only [List.getElem?_toArray, List.getElem?_cons_succ, List.getElem?_cons_zero]; rfl) (by kernel_rfl) (by kernel_rfl) (by kernel_rfl) (by exact fun _ _ _ h => h) (by kernel_rfl) ?yc2 hH ?_
  case yc2 => exact .inl ⟨(by first | rfl | simp [Region.wanted, yielded] | (simp [Region.wanted, yielded, Act.put] <;> omega)), fun w' hSw => by (try dsimp only at hSw); have hc := (Box.two hSw.2).1; go_simp; try with_reducible rfl⟩
  try simp only [Act.put, List.setIfInBounds_toArray, List.set_cons_zero, List.set_cons_succ]
  refine wpAnyE_pure (i := 3) (v := ?vp3) (by simp only [List.getElem?_toArray, List.getElem?_cons_succ, List.getElem?_cons_zero]; rfl) (by kernel_rfl) (by kernel_rfl) (by kernel_rfl) (by exact fun _ _ _ h => h) (by kernel_rfl) (Or.inl ⟨by rfl, ?yp3⟩) hH ?rp3
  case yp3 => (intro w' hSw; (try dsimp only at hSw); go_simp; try with_reducible rfl)
  try simp only [Act.put, List.setIfInBounds_toArray, List.set_cons_zero, List.set_cons_succ]
  refine wpAnyE_takeS (i := 4) (v := (.slice A2 d.ls.length c2)) (by simp only [List.getElem?_toArray, List.getElem?_cons_succ, List.getElem?_cons_zero]; rfl) (by kernel_rfl) (by kernel_rfl) (by kernel_rfl) (by exact fun _ _ _ h => h) (by kernel_rfl) ?yc4 hH ?_
  case yc4 => exact .inl ⟨(by first | rfl | simp [Region.wanted, yielded] | (simp [Region.wanted, yielded, Act.put] <;> omega)), fun w' hSw => by (try dsimp only at hSw); have hc := (Box.two hSw.2).2; go_simp; try with_reducible rfl⟩
  try simp only [Act.put, List.setIfInBounds_toArray, List.set_cons_zero, List.set_cons_succ]
  refine wpAnyE_one (i := 5) (by kernel_rfl) (by simp only [List.getElem?_toArray, List.getElem?_cons_succ, List.getElem?_cons_zero]; rfl) (fun K hK => ?_)
  go_simp
  have hn := bel_alloc w3 (.cells #[.slice A1 d.ks.length c1, .slice A2 d.ls.length c2] 27)
  have Q := Box.new w3 27 #[.slice A1 d.ks.length c1, .slice A2 d.ls.length c2]
  replace G := G.alloc (.cells #[.slice A1 d.ks.length c1, .slice A2 d.ls.length c2] 27)
  replace J := J.alloc (.cells #[.slice A1 d.ks.length c1, .slice A2 d.ls.length c2] 27)
  replace HB := bel_trans HB hn
  clear hn
  clear hH
  refine hK.out _ _ ⟨G, J⟩ (fun hH => ?_)
  clear hK K
  try simp only [Act.put, List.setIfInBounds_toArray, List.set_cons_zero, List.set_cons_succ]
  generalize w3.heap.size = q at Q ⊢
  generalize (w3.alloc _ : World) = w5 at G J HB Q hH ⊢
  refine wpAnyE_one (i := 6) (by kernel_rfl) (by simp only [List.getElem?_toArray, List.getElem?_cons_succ, List.getElem?_cons_zero]; rfl) (fun K hK => ?_)
  go_simp
  refine (concatRec_is _ _ _ _ _ X X' w5 hl2 Q (hx.later HB) (hx'.later HB)).mono ?_
  rintro e w6 ⟨v, rfl, hown, hb⟩
  replace G := G.later hb G.lt
  replace J := J.later hb J.lt
  have hw5 := HB.size
  have HB2 := bel_trans HB hb
  rw [← HX.out, ← HX'.out] at hown
  have hL := row_two hf.out hf'.out (ownLow hown hw5) HC.out HC'.out HB2
  have hL2 := hL.lt.sub (F' := (· < w6.heap.size)) (fun b hb => hb.2)
  obtain ⟨A, c, rfl, hmx, hr⟩ := hL2.at
  clear hL hL2 hown Q hb HB
  clear hH
  refine hK.out _ _ ⟨G, J⟩ (fun hH => ?_)
  clear hK K
  try simp only [Act.put, List.setIfInBounds_toArray, List.set_cons_zero, List.set_cons_succ]
  generalize (d.ks ++ d.ls).length = ln at hmx hr ⊢
  refine wpAnyE_one (i := 7) (by kernel_rfl) (by simp only [List.getElem?_toArray, List.getElem?_cons_succ, List.getElem?_cons_zero]; rfl) (fun K hK => ?_)
  go_simp
  have K0 := (keepsG g).later H0.out HB2
  refine (replayed8_is K0 hr hst).mono ?_
  rintro e w7 ⟨GG, cg, rfl, -, hb⟩
  replace G := G.later hb G.lt
  replace J := J.later hb J.lt
  have E := bel_trans hb0 (bel_trans HB2 hb)
  clear hb HB2 hr K0
  rw [show (replD g (d.ks ++ d.ls)).2 = z from HZ.out]
  generalize (replD g (d.ks ++ d.ls)).1 = rs
  clear hH
  refine hK.out _ _ ⟨G, J⟩ (fun hH => ?_)
  clear hK K
  try simp only [Act.put, List.setIfInBounds_toArray, List.set_cons_zero, List.set_cons_succ]
  refine wpAnyE_pure (i := 8) (v := ?vq8) (by simp only [List.getElem?_toArray, List.getElem?_cons_succ, List.getElem?_cons_zero]; rfl) (by kernel_rfl) (by kernel_rfl) (by kernel_rfl) (by exact fun _ _ _ h => h) (by kernel_rfl) (Or.inl ⟨by rfl, ?yq8⟩) hH ?rq8
  case yq8 => (intro w' hSw; (try dsimp only at hSw); go_simp; try with_reducible rfl)
  try simp only [Act.put, List.setIfInBounds_toArray, List.set_cons_zero, List.set_cons_succ]
  refine wpAnyE_pure (i := 9) (v := ?vq9) (by simp only [List.getElem?_toArray, List.getElem?_cons_succ, List.getElem?_cons_zero]; rfl) (by kernel_rfl) (by kernel_rfl) (by kernel_rfl) (by exact fun _ _ _ h => h) (by kernel_rfl) (Or.inl ⟨by rfl, ?yq9⟩) hH ?rq9
  case yq9 => (intro w' hSw; (try dsimp only at hSw); go_simp; try with_reducible rfl)
  try simp only [Act.put, List.setIfInBounds_toArray, List.set_cons_zero, List.set_cons_succ]
  refine wpAnyE_pure (i := 10) (v := ?vq10) (by simp only [List.getElem?_toArray, List.getElem?_cons_succ, List.getElem?_cons_zero]; rfl) (by kernel_rfl) (by kernel_rfl) (by kernel_rfl) (by exact fun _ _ _ h => h) (by kernel_rfl) (Or.inl ⟨by rfl, ?yq10⟩) hH ?rq10
  case yq10 => (intro w' hSw; (try dsimp only at hSw); go_simp; try with_reducible rfl)
  try simp only [Act.put, List.setIfInBounds_toArray, List.set_cons_zero, List.set_cons_succ]
  refine wpAnyE_pure (i := 11) (v := ?vq11) (by simp only [List.getElem?_toArray, List.getElem?_cons_succ, List.getElem?_cons_zero]; rfl) (by kernel_rfl) (by kernel_rfl) (by kernel_rfl) (by exact fun _ _ _ h => h) (by kernel_rfl) (Or.inl ⟨by rfl, ?yq11⟩) hH ?rq11
  case yq11 => (intro w' hSw; (try dsimp only at hSw); go_simp; try with_reducible rfl)
  try simp only [Act.put, List.setIfInBounds_toArray, List.set_cons_zero, List.set_cons_succ]
  refine wpAnyE_end (i := 12) (by kernel_rfl) (by simp only [List.getElem?_toArray, List.getElem?_cons_succ, List.getElem?_cons_zero]; rfl) (by kernel_rfl) (fun K hK => ?_)
  go_simp
  refine hK.out _ _ ⟨G, J⟩ ?_
  clear hK K hH G J
  try simp only [Act.put, List.setIfInBounds_toArray, List.set_cons_zero, List.set_cons_succ]
  go_wp2
  go_ret
  exact ⟨rfl, E⟩

end Go.Proofs.YtmooajppfjglaaaGreat

/- The builtin copy over elements of any number of cells, into a row that is known whole; conditions: the places. -/
namespace Go.Proofs.YtmooajppfjglaaaGreat
open Go Go.RowKit

section
variable {P : Program}
theorem run_copy_none_w (w : World) (dT sT ty elem : TypeId) (k : Nat) (d a : Option Addr) (dLen dCap sLen sCap : Nat) (hu : P.underlying dT = some (.slice elem)) (hs : (P.info? elem).map (·.size) = some k) (hn : Nat.min sLen dLen = 0) :
    (Builtin.copy_ #[dT, sT] ty #[.slice d dLen dCap, .slice a sLen sCap]).run P w = .ok (goInt 0) w := by
  cases hq : P.info? elem with
  | none => simp [hq] at hs
  | some i =>
    have hl : ∀ (x : Addr), (loadCells x 0).run P w = .ok #[] w := fun x => by simpa using run_loadCells_list (P := P) w x [] (by simp)
    cases d <;> cases a <;> simp [Builtin.copy_, run_underlying hu, Builtin.lenOf, Builtin.firstCells, sizeOf, typeInfo, hq, hn, storeCells, hl]
theorem run_copy_row_w (w : World) (dT sT ty elem : TypeId) (k : Nat) (g o dLen dCap : Nat) (a : Addr) (sLen sCap : Nat) (cur : Array Value) (t : TypeId) (cs : List Value)
    (hu : P.underlying dT = some (.slice elem)) (hs : (P.info? elem).map (·.size) = some k)
    (hg : w.heap[g]? = some (.cells cur t (0, 0))) (hn : cs.length = Nat.min sLen dLen * k)
    (hsrc : ∀ j v, cs[j]? = some v → w.cell? (a.add j) = some v) (hfit : o + cs.length ≤ cur.size) (h1 : ∀ v ∈ cs, v.oneCell' = true) :
    (Builtin.copy_ #[dT, sT] ty #[.slice (some ⟨g, o, none⟩) dLen dCap, .slice (some a) sLen sCap]).run P w =
      .ok (goInt (Nat.min sLen dLen)) (w.setRow g (cur.toList.take o ++ cs ++ cur.toList.drop (o + cs.length)).toArray) := by
  have hl := run_loadCells_list (P := P) w a cs hsrc
  have hst := run_storeCells_at P g o t cs 0 cur w hg (by simpa using hfit) h1
  cases hq : P.info? elem with
  | none => simp [hq] at hs
  | some i =>
    have hi : i.size = k := by simpa [hq] using hs
    simp [Builtin.copy_, run_underlying hu, Builtin.lenOf, Builtin.firstCells, sizeOf, typeInfo, hq, hi, ← hn, hl, hst]
theorem wpList_copy_wide {w : World} {ops : Array Oper} {rest : List Oper} {o : Oper} {a : Act} {Q : Exit → Act → World → Prop} (hgd : o.guard = none) (d s : Operand) (dT sT : TypeId)
    (ho : o.op = .call { callee := .builtin .copy, args := #[d, s], argTypes := #[dT, sT] }) (elem : TypeId) (k : Nat) (hu : P.underlying dT = some (.slice elem)) (hsz : (P.info? elem).map (·.size) = some k)
    (dp sp : Option Addr) (dLen dCap sLen sCap : Nat) (hd : a.eval d = .slice dp dLen dCap) (hs : a.eval s = .slice sp sLen sCap)
    (g off : Nat) (cur : List Value) (t : TypeId) (hg : w.heap[g]? = some (.cells cur.toArray t (0, 0))) (m : Nat) (hm : Nat.min sLen dLen = m) (cs : List Value) (hn : cs.length = m * k)
    (hpos : 0 < m → dp = some ⟨g, off, none⟩ ∧ ∃ ad, sp = some ad ∧ ∀ j v, cs[j]? = some v → w.cell? (ad.add j) = some v)
    (hfit : off + cs.length ≤ cur.length) (h1 : ∀ v ∈ cs, v.oneCell' = true) (B : Nat) (w0 : World) (hb : Below B w0 w) (hBg : B ≤ g)
    (h : ∀ w', Hid (w'.heap[g]? = some (.cells (splice cur off cs).toArray t (0, 0))) → Below B w0 w' → wpList P ops Q rest (a.put o.dst (goInt m)) w') :
    wpList P ops Q (o :: rest) a w := by
  refine wpList_plain hgd fun K hK => ?_
  subst hm
  by_cases h0 : Nat.min sLen dLen = 0
  · rw [h0, Nat.zero_mul] at hn
    obtain rfl : cs = [] := List.eq_nil_of_length_eq_zero hn
    have hrun := run_copy_none_w (P := P) w dT sT o.type elem k dp sp dLen dCap sLen sCap hu hsz h0
    unfold Oper.wp
    simp [execOp, ho, resolve, invoke, builtin, hd, hs, hrun, Result.andThen]
    rw [h0] at h
    exact hK _ _ (h w (show _ = _ by simpa [splice] using hg) hb)
  · obtain ⟨rfl, ad, rfl, hsrc⟩ := hpos (by omega)
    have hrun := run_copy_row_w (P := P) w dT sT o.type elem k g off dLen dCap ad sLen sCap cur.toArray t cs hu hsz hg hn hsrc (by simpa using hfit) h1
    unfold Oper.wp
    simp [execOp, ho, resolve, invoke, builtin, hd, hs, hrun, Result.andThen]
    exact hK _ _ (h _ (show _ = _ by simpa [splice] using setRow_heap w g _ _ t _ hg) (below_setRow hb hBg _))
end
end Go.Proofs.YtmooajppfjglaaaGreat

/- The model's copy of a list of records: each with its list in a block of its own; conditions: the sizes. -/
namespace Go.Proofs.YtmooajppfjglaaaGreat
open Go Go.RowKit Go.Deep

/-- k records are copied: a row of one's own, the records' lists each in blocks of its own. -/
structure CopyK (w wr : World) (ds : List RecD) (k g cap : Nat) (ms : List (RecD × Value)) (Fs : Nat → Nat → Prop) : Prop where
  bel : Below w.heap.size w wr
  own : wr.ownsRow w.heap.size 42 9 (.slice (some ⟨g, 0, none⟩) k cap) k (flatC ms)
  map : ms.map (·.1) = ds.take k
  cert : ∀ i (h : i < ms.length), OwnP wr (Fs i) (ms[i]).2 (ms[i]).1.ps
  far : ∀ i, i < k → ∀ b, Fs i b → w.heap.size ≤ b ∧ b < wr.heap.size ∧ b ≠ g
  two : ∀ i j, i < k → j < k → i ≠ j → ∀ b, Fs i b → ¬ Fs j b
theorem CopyK.gl {w wr : World} {ds : List RecD} {k g cap : Nat} {ms : List (RecD × Value)} {Fs : Nat → Nat → Prop} (h : CopyK w wr ds k g cap ms Fs) : w.heap.size ≤ g ∧ g < wr.heap.size := h.own.lt g rfl
theorem CopyK.len {w wr : World} {ds : List RecD} {k g cap : Nat} {ms : List (RecD × Value)} {Fs : Nat → Nat → Prop} (h : CopyK w wr ds k g cap ms Fs) : ms.length = k := by
  have h1 := h.own.1
  rw [flatC_len] at h1
  omega
theorem OwnP.low {w : World} {F : Nat → Prop} {v : Value} {ps : List (Int × Int)} (h : OwnP w F v ps) : OwnP w (fun b => F b ∧ b < w.heap.size) v ps := by
  rcases h with h | ⟨g, cap, hg, e, h0, h1, hh⟩
  · exact .inl h
  · exact .inr ⟨g, cap, ⟨hg, hh.lt⟩, e, h0, h1, hh⟩
/-- The next one: its list was copied (w2), behind it it went into the row (w3). -/
theorem CopyK.next {w wr w2 w3 : World} {ds : List RecD} {k g cap g' cap' : Nat} {ms : List (RecD × Value)} {Fs : Nat → Nat → Prop} {u : Value} (h : CopyK w wr ds k g cap ms Fs) (hk : k < ds.length) (hb : Below wr.heap.size wr w2) (hu : OwnP w2 (Iv wr.heap.size w2.heap.size) u (ds[k]).ps)
    (hown : w3.ownsRow w.heap.size 42 9 (.slice (some ⟨g', 0, none⟩) (k + 1) cap') (k + 1) (flatC (ms ++ [(ds[k], u)]))) (hg : w2.grownBy w3 (some g)) (hl : g' = g ∨ w2.heap.size ≤ g') :
    CopyK w w3 ds (k + 1) g' cap' (ms ++ [(ds[k], u)]) (fun i => if i = k then Iv wr.heap.size w2.heap.size else Fs i) := by
  have hlen := h.len
  obtain ⟨g1, g2⟩ := h.gl
  have hs := hb.size
  have hs3 := hg.size
  have ht := Turns.of_grown hg
  refine ⟨bel_grown (bel_trans h.bel hb) hg g1, hown, ?_, fun i hi => ?_, fun i hi b hbi => ?_, fun i j hi hj hij b hbi hbj => ?_⟩
  · rw [List.map_append, h.map, List.take_succ_eq_append_getElem hk]
    rfl
  · rw [List.length_append, hlen] at hi
    by_cases e : i = k
    · subst e
      simp only [if_true]
      rw [List.getElem_append_right (by omega)]
      simp only [hlen, Nat.sub_self, List.getElem_cons_zero]
      exact hu.turn ht (fun b hb e => by have := hb.1; omega)
    · have hik : i < k := by simp at hi; omega
      simp only [if_neg e]
      rw [List.getElem_append_left (by omega)]
      exact (OwnP.turn (h.cert i (by omega)) (T := fun _ => False) (Turns.of_below hb) (fun _ _ h => h)).turn ht (fun b hb e => (h.far i hik b hb).2.2 e)
  · by_cases e : i = k
    · simp only [if_pos e] at hbi
      have h1 := hbi.1
      have h2 := hbi.2
      have h3 := h.bel.size
      refine ⟨by omega, by omega, ?_⟩
      omega
    · simp only [if_neg e] at hbi
      have := h.far i (by omega) b hbi
      refine ⟨this.1, by omega, by omega⟩
  · by_cases e : i = k
    · by_cases e2 : j = k
      · omega
      · simp only [if_pos e] at hbi
        simp only [if_neg e2] at hbj
        have := h.far j (by omega) b hbj
        have := hbi.1
        omega
    · simp only [if_neg e] at hbi
      by_cases e2 : j = k
      · simp only [if_pos e2] at hbj
        have := h.far i (by omega) b hbi
        have := hbj.1
        omega
      · simp only [if_neg e2] at hbj
        exact h.two i j (by omega) (by omega) hij b hbi hbj
theorem CopyK.done {w wr : World} {ds : List RecD} {g cap : Nat} {ms : List (RecD × Value)} {Fs : Nat → Nat → Prop} (h : CopyK w wr ds ds.length g cap ms Fs) : OwnCS ds wr (Iv w.heap.size wr.heap.size) (.slice (some ⟨g, 0, none⟩) ds.length cap) := by
  have hlen := h.len
  obtain ⟨g1, g2⟩ := h.gl
  have hm := h.map
  rw [List.take_length] at hm
  have hcap : ds.length ≤ cap ∧ cap ≤ maxLen := by
    rcases h.own.2 with ⟨e, _⟩ | ⟨g', c', cur, e, _, _, h1, h2, _⟩
    · cases e
    · injection e with _ _ e
      subst e
      exact ⟨h1, h2⟩
  refine .inr ⟨g, cap, Fs, ⟨g1, g2⟩, rfl, hcap.1, hcap.2, ⟨g2, fun o => ?_, fun i hi => ?_, fun i hi b hb => (h.far i hi b hb).2.2, h.two⟩, fun i hi b hb => ⟨⟨(h.far i hi b hb).1, (h.far i hi b hb).2.1⟩, (h.far i hi b hb).2.1⟩⟩
  · rcases h.own.2 with ⟨e, _⟩ | ⟨g', c', cur, e, _, hg, _⟩
    · cases e
    · injection e with e _ _
      injection e with e
      injection e with e _ _
      subst e
      simp [World.frozen?, hg]
  · obtain ⟨hi', ed⟩ := map_at hm hi
    rw [recsK_at rfl hi, ← ed]
    refine ⟨(ms[i]).2, fun j x hx => ?_, (ms[i]).2, rfl, h.cert i hi'⟩
    have hj : j < 9 := by
      have := (List.getElem?_eq_some_iff.1 hx).1
      rwa [cells_len] at this
    rw [h.own.cellAt (i * 9 + j) (by omega), flatC_at hi' hj]
    exact hx

set_option maxRecDepth 100000 in
set_option maxHeartbeats 8000000 in
theorem l10RecsK_is {ds : List RecD} {w : World} {F : Nat → Prop} {v : Value} (h : ListS ds w F v) (hs : totC ds ≤ 2097152) :
    Calls Tryz.prog 73 #[v] w fun e w' => ∃ g cap ms Fs, e = .returned (.slice (some ⟨g, 0, none⟩) ds.length cap) ∧ CopyK w w' ds ds.length g cap ms Fs := by
  obtain ⟨i0, hi0, hz0, hz1, hz2⟩ := info_parts Tryz.infoSealI
  obtain ⟨j0, hj0, hy0, hy1, hy2⟩ := info_parts Tryz.infoRecI
  have hlt := h.lt
  clear h
  have hdl : ds.length ≤ 2097152 := by have := totC_rest ds 0; rw [totC_zero] at this; omega
  obtain ⟨n, hn⟩ : ∃ n, ds.length = n := ⟨_, rfl⟩
  have HL := Lib.hid hn
  obtain ⟨A, c, e, -, -⟩ := hlt.at
  subst e
  have HV : Hid (n = 0 ∨ ∃ b o, A = some ⟨b, o, none⟩ ∧ b < w.heap.size ∧ ∃ ms : List (RecD × Value), ms.map (·.1) = ds ∧ CertsF w (· < w.heap.size) ms ∧ CellsAt w b o ms) := by
    rcases hlt with ⟨_, h0⟩ | ⟨b, o, c', e, _, _, h3, ms, hm, hc, hx⟩
    · exact .inl (by rw [← hn, h0]; rfl)
    · rcases Nat.eq_zero_or_pos n with h0 | h0
      · exact .inl h0
      · injection e with e1 _ _
        exact .inr ⟨b, o, e1, (h3 (by omega)).2, ms, hm, hc.sub (fun b hb => hb.2), hx⟩
  rw [hn] at hdl ⊢
  clear hlt hn
  have hb0 := bel_alloc w (.cells #[] 42)
  have K0 : CopyK w (w.alloc (.cells #[] 42)) ds 0 w.heap.size 0 [] (fun _ _ => False) := ⟨hb0, own_new w 42 9, by simp, fun i h => absurd h (by simp), fun i hi => absurd hi (by omega), fun i j hi => absurd hi (by omega)⟩
  go_enter Tryz.func73, Tryz.ntmps73
  go_wp2_with fail
  generalize (w.alloc _ : World) = w0 at hb0 K0 ⊢
  go_loopw [3, 4] (fun out i wr => ∃ (k g cap : Nat) (ms : List (RecD × Value)) (Fs : Nat → Nat → Prop), k ≤ n ∧ i = .int .i64 k ∧ out = .slice (some ⟨g, 0, none⟩) k cap ∧ CopyK w wr ds k g cap ms Fs) (fun _ i _ => n - (intOf i).toNat)
  case atStart => exact ⟨0, w.heap.size, 0, [], _, Nat.zero_le _, rfl, rfl, K0⟩
  case round =>
    clear K0
    obtain ⟨k, g, cap, ms, Fs, hk, rfl, rfl, K⟩ := hrel
    by_cases hlt : k < n
    · have hkd : k < ds.length := by have := HL.out; omega
      obtain h0 | ⟨b, o, hA, hbl, mx, hm, hc, hx⟩ := HV.out
      · omega
      subst hA
      obtain ⟨hi', ed⟩ := map_at hm hkd
      have hrow := flatC_row hx hi'
      have hct := hc mx[k] (List.getElem_mem hi')
      obtain ⟨L, m, mc, eu, hmm, -⟩ := hct.at
      have htc := totC_mem ds hkd
      have hnx := fun (w2 w3 : World) (g' cap' : Nat) (u : Value) => K.next (w2 := w2) (w3 := w3) (g' := g') (cap' := cap') (u := u) hkd
      rw [ed] at hrow hct
      rw [eu] at hrow hct
      obtain ⟨d, hd⟩ : ∃ d : RecD, ds[k] = d := ⟨_, rfl⟩
      rw [hd] at hrow hct htc hnx
      have NX := Lib.hid hnx
      have hT : ∀ j x, w.cell? ⟨b, j, none⟩ = some x → wr.cell? ⟨b, j, none⟩ = some x := fun j x h => (K.bel.cell (p := ⟨b, j, none⟩) hbl).trans h
      obtain ⟨c0, c1, c2, c3, c4, c5, c6, c7, c8⟩ := hrow
      replace c0 := hT _ _ c0
      replace c1 := hT _ _ c1
      replace c2 := hT _ _ c2
      replace c3 := hT _ _ c3
      replace c4 := hT _ _ c4
      replace c5 := hT _ _ c5
      replace c6 := hT _ _ c6
      replace c7 := hT _ _ c7
      replace c8 := hT _ _ c8
      have hsl := (hct.slc.later K.bel)
      have HSL := Lib.hid hsl
      have hps : d.ps.length ≤ 2097152 := by omega
      have hltI : (k : Int) < (n : Int) := by omega
      have hkw : IntKind.i64.wrap ((k : Int) + 1) = (k : Int) + 1 := IntWalk.i64_in _ (by omega)
      clear hnx hT hm hc hx hd hsl hct htc ed eu
      have ZB := Box.new wr 42 #[.int .i64 0, .int .i64 0, .int .i64 0, .int .i64 0, .int .i64 0, .int .i64 0, .int .i64 0, .slice none 0 0, .int .i64 0]
      have VX := (Box.new wr 42 #[.int .i64 0, .int .i64 0, .int .i64 0, .int .i64 0, .int .i64 0, .int .i64 0, .int .i64 0, .slice none 0 0, .int .i64 0]).setRow #[.int .i64 d.r1, .int .i64 d.r2, .int .i64 d.r3, .int .i64 d.r4, .int .i64 d.r5, .int .i64 d.r6, .int .i64 d.r7, .slice L m mc, .int .i64 d.r8]
      have hn := bel_new_row wr #[.int .i64 0, .int .i64 0, .int .i64 0, .int .i64 0, .int .i64 0, .int .i64 0, .int .i64 0, .slice none 0 0, .int .i64 0] 42 #[.int .i64 d.r1, .int .i64 d.r2, .int .i64 d.r3, .int .i64 d.r4, .int .i64 d.r5, .int .i64 d.r6, .int .i64 d.r7, .slice L m mc, .int .i64 d.r8]
      go_upto_region 6 with (refine wpList_store_row rfl 42 _ _ rfl wr.heap.size _ rfl rfl 42 #[.int .i64 0, .int .i64 0, .int .i64 0, .int .i64 0, .int .i64 0, .int .i64 0, .int .i64 0, .slice none 0 0, .int .i64 0] ZB (by kernel_rfl) rfl (by simp [Value.oneCell']) ?_)
      clear ZB c0 c1 c2 c3 c4 c5 c6 c7 c8
      try simp only [Act.put]
      generalize ((wr.alloc _).setRow _ _ : World) = w1 at VX hn ⊢
      obtain ⟨v0, v1, v2, v3, v4, v5, v6, v7, v8⟩ := VX.nine
      have hVl := VX.lt
      have hb1 := bel_alloc w1 (.cells #[] 127)
      have hown := own_new w1 127 2
      have S1 := Lib.hid ((HSL.out.later hn).later hb1).src
      have VX1 := VX.later hb1 VX.lt
      have E1 := bel_trans hn hb1
      have hbs : w1.heap.size ≤ (w1.alloc (.cells #[] 127)).heap.size := hb1.size
      go_upto_region 7 with (at_builtin; refine wpList_append_src rfl _ _ _ rfl w1.heap.size 127 i0 _ 2 16 Tryz.underlying37 hi0 hz0 hz1 hz2 rfl (by omega) (.slice (some ⟨w1.heap.size, 0, none⟩) 0 0) 0 [] rfl hown (by simp) (.slice L m mc) d.ps.length (flatP d.ps) rfl S1.out (by unfold maxLen; omega) (by omega) hbs ?_; intro g1 cap1 w2 hown1 hgrow1 hbg1 hlg1; have hR1 := hown1; rw [Nat.zero_add, List.nil_append] at hR1; have R1 := Lib.hid ((own_resP hR1).own); have hgr : (w1.alloc (.cells #[] 127)).grownBy w2 (some w1.heap.size) := hgrow1; have VX2 := VX1.kept hgr (by intro e; injection e with e; omega); have E2 := bel_grown E1 hgr (by have := hn.size; omega); obtain ⟨y0, y1, y2, y3, y4, y5, y6, y7, y8⟩ := VX2.nine; have fy := VX2.frozen; clear hown1 hgrow1 hR1)
      have R3 := R1.out.turn (turns_setCells9.turns_cell9 w2 wr.heap.size 7 (.slice (some ⟨g1, 0, none⟩) d.ps.length cap1)) (fun b hb e => by have := hb.1; have := hn.size; omega)
      have VX3 : Box (w2.setCell ⟨wr.heap.size, 7, none⟩ (.slice (some ⟨g1, 0, none⟩) d.ps.length cap1)) wr.heap.size 42 #[.int .i64 d.r1, .int .i64 d.r2, .int .i64 d.r3, .int .i64 d.r4, .int .i64 d.r5, .int .i64 d.r6, .int .i64 d.r7, .slice (some ⟨g1, 0, none⟩) d.ps.length cap1, .int .i64 d.r8] := VX2.set 7 _
      have E3 := E2.setCell (p := ⟨wr.heap.size, 7, none⟩) (Nat.le_refl _) (.slice (some ⟨g1, 0, none⟩) d.ps.length cap1)
      have hs3 : (w2.setCell ⟨wr.heap.size, 7, none⟩ (.slice (some ⟨g1, 0, none⟩) d.ps.length cap1)).heap.size = w2.heap.size := size_set _ _ _
      have hw1 : wr.heap.size ≤ w1.heap.size := hn.size
      rw [← hs3] at R3
      clear R1 VX2 E2 hgr y0 y1 y2 y3 y4 y5 y6 y7 y8 fy v0 v1 v2 v3 v4 v5 v6 v7 v8 VX VX1 hn E1 S1 hown hb1 hbs hs3 hlg1
      try simp only [Nat.zero_add]
      generalize (w2.setCell _ _ : World) = w3 at R3 VX3 E3 ⊢
      have R4 := OwnP.sub (F' := Iv wr.heap.size w3.heap.size) R3 (fun b hb => ⟨Nat.le_trans hw1 hb.1, hb.2⟩)
      have R5 := Lib.hid R4
      clear R3 R4
      have hb5 := bel_alloc w3 (.cells #[.int .i64 d.r1, .int .i64 d.r2, .int .i64 d.r3, .int .i64 d.r4, .int .i64 d.r5, .int .i64 d.r6, .int .i64 d.r7, .slice (some ⟨g1, 0, none⟩) d.ps.length cap1, .int .i64 d.r8] 42)
      have E5 := Lib.hid (bel_trans E3 hb5)
      have OWN := Lib.hid (K.own.kept (grown_bel E5.out none) (.inr (by simp [Value.ownBlock])))
      have HW := Lib.hid (Nat.le_trans K.bel.size E5.out.size)
      have R6 := Lib.hid ((OwnP.turn R5.out (T := fun _ => False) (Turns.of_below hb5) (fun _ _ h => h)).sub (F' := Iv wr.heap.size (w3.alloc (.cells #[.int .i64 d.r1, .int .i64 d.r2, .int .i64 d.r3, .int .i64 d.r4, .int .i64 d.r5, .int .i64 d.r6, .int .i64 d.r7, .slice (some ⟨g1, 0, none⟩) d.ps.length cap1, .int .i64 d.r8] 42)).heap.size) (fun b hb => ⟨hb.1, Nat.lt_of_lt_of_le hb.2 hb5.size⟩))
      have hflat : flatC [(d, .slice (some ⟨g1, 0, none⟩) d.ps.length cap1)] = (#[.int .i64 d.r1, .int .i64 d.r2, .int .i64 d.r3, .int .i64 d.r4, .int .i64 d.r5, .int .i64 d.r6, .int .i64 d.r7, .slice (some ⟨g1, 0, none⟩) d.ps.length cap1, .int .i64 d.r8] : Array Value).toList := rfl
      have NEWS := Lib.hid (show ∀ j x, (flatC [(d, .slice (some ⟨g1, 0, none⟩) d.ps.length cap1)])[j]? = some x → (w3.alloc (.cells #[.int .i64 d.r1, .int .i64 d.r2, .int .i64 d.r3, .int .i64 d.r4, .int .i64 d.r5, .int .i64 d.r6, .int .i64 d.r7, .slice (some ⟨g1, 0, none⟩) d.ps.length cap1, .int .i64 d.r8] 42)).cell? ((⟨w3.heap.size, 0, none⟩ : Addr).add j) = some x from fun j x hj => by
        rw [hflat] at hj
        rw [show (⟨w3.heap.size, 0, none⟩ : Addr).add j = ⟨w3.heap.size, j, none⟩ by unfold Addr.add; split <;> simp_all]
        rw [(Box.new w3 42 #[.int .i64 d.r1, .int .i64 d.r2, .int .i64 d.r3, .int .i64 d.r4, .int .i64 d.r5, .int .i64 d.r6, .int .i64 d.r7, .slice (some ⟨g1, 0, none⟩) d.ps.length cap1, .int .i64 d.r8]).cell j]
        simpa using hj)
      have ONE := Lib.hid (show ∀ x ∈ flatC [(d, .slice (some ⟨g1, 0, none⟩) d.ps.length cap1)], x.oneCell' = true from flatC_one (fun p hp => by rw [List.mem_singleton.1 hp]; rfl))
      clear hflat hb5 R5
      go_wp2_with (first | (refine wpList_load_box 42 _ rfl wr.heap.size rfl 42 #[.int .i64 d.r1, .int .i64 d.r2, .int .i64 d.r3, .int .i64 d.r4, .int .i64 d.r5, .int .i64 d.r6, .int .i64 d.r7, .slice (some ⟨g1, 0, none⟩) d.ps.length cap1, .int .i64 d.r8] VX3 _ Tryz.underlying42 rfl (by kernel_rfl) (by first | rfl | simp [Region.wanted, yielded] | (simp [Region.wanted, yielded, Act.put] <;> omega)) ?_) | (at_builtin; refine wpList_append_lies _ rfl _ _ _ rfl w.heap.size 42 j0 _ 9 88 Tryz.underlying27 hj0 hy0 hy1 hy2 rfl (by omega) (.slice (some ⟨g, 0, none⟩) k cap) k (flatC ms) rfl OWN.out ⟨w3.heap.size, 0, none⟩ 1 1 (flatC [(d, .slice (some ⟨g1, 0, none⟩) d.ps.length cap1)]) rfl rfl NEWS.out ONE.out (by omega) (by unfold maxLen; omega) (by omega) HW.out _ rfl ?_; intro g' cap' w5 hown5 hgrow5 hlie hlg5))
      rw [← flatC_app] at hown5
      replace hgrow5 : World.grownBy _ w5 (some g) := hgrow5
      have hlie2 : g' = g ∨ (w3.alloc (.cells #[.int .i64 d.r1, .int .i64 d.r2, .int .i64 d.r3, .int .i64 d.r4, .int .i64 d.r5, .int .i64 d.r6, .int .i64 d.r7, .slice (some ⟨g1, 0, none⟩) d.ps.length cap1, .int .i64 d.r8] 42)).heap.size ≤ g' := by
        rcases hlie with h | h
        · injection h with h
          exact .inl h.symm
        · exact .inr (by rw [h]; exact Nat.le_refl _)
      have KN := Lib.hid (NX.out _ _ _ _ _ E5.out R6.out hown5 hgrow5 hlie2)
      clear hown5 hgrow5 hlie hlie2 hlg5 E5 OWN HW R6 NEWS ONE
      go_roundw
      case rel => exact ⟨k + 1, g', cap', _, _, by omega, by go_num, rfl, KN.out⟩
      case measure => simp [intOf]; omega
    · have hkn : k = n := by omega
      subst hkn
      have HD := Lib.hid K
      clear K
      go_wp2
      go_ret
      exact ⟨g, cap, ms, Fs, rfl, HD.out⟩
theorem l10Recs_is {ds : List RecD} {w : World} {F : Nat → Prop} {v : Value} (h : ListS ds w F v) (hs : totC ds ≤ 2097152) :
    Calls Tryz.prog 73 #[v] w fun e w' => ∃ g cap, e = .returned (.slice (some ⟨g, 0, none⟩) ds.length cap) ∧ OwnCS ds w' (Iv w.heap.size w'.heap.size) (.slice (some ⟨g, 0, none⟩) ds.length cap) ∧ Below w.heap.size w w' := by
  refine (l10RecsK_is h hs).mono ?_
  rintro e w' ⟨g, cap, ms, Fs, rfl, K⟩
  exact ⟨g, cap, rfl, K.done, K.bel⟩
end Go.Proofs.YtmooajppfjglaaaGreat

/- Two lists of records, one behind the other, in memory of their own, each record with its list in a block of its own; conditions: the sizes. -/
namespace Go.Proofs.YtmooajppfjglaaaGreat
open Go Go.RowKit Go.Deep

theorem farJ (w : World) (g : Nat) (v : Value) {a b : Nat} (h : a ≠ b) : (w.setCell ⟨g, a, none⟩ v).cell? ⟨g, b, none⟩ = w.cell? ⟨g, b, none⟩ := World.cell?_setCell_other _ _ _ _ (fun e => h (by injection e))
/-- Of the records in the block G the first k have lists of their own. -/
structure JoinK (w wr : World) (ds : List RecD) (k G : Nat) (Fs : Nat → Nat → Prop) : Prop where
  bel : Below w.heap.size w wr
  lo : w.heap.size ≤ G
  lt : G < wr.heap.size
  fr : ∀ o, wr.frozen? ⟨G, o, none⟩ = false
  own : ∀ i (h : i < ds.length), i < k → ∃ u, wr.rangeAt G (i * 9) ((ds[i]).cells u).toList ∧ OwnP wr (Fs i) u (ds[i]).ps
  rest : ∀ i (h : i < ds.length), k ≤ i → ∃ u, wr.rangeAt G (i * 9) ((ds[i]).cells u).toList ∧ SlcF wr (· < w.heap.size) u (ds[i]).ps
  far : ∀ i, i < k → ∀ b, Fs i b → w.heap.size ≤ b ∧ b < wr.heap.size ∧ b ≠ G
  two : ∀ i j, i < k → j < k → i ≠ j → ∀ b, Fs i b → ¬ Fs j b
theorem set_cells (d : RecD) (u u' : Value) : (d.cells u').toList = (d.cells u).toList.set 7 u' := rfl
/-- The next one's list was copied (w2) and laid into its place. -/
theorem JoinK.next {w wr w2 : World} {ds : List RecD} {k G : Nat} {Fs : Nat → Nat → Prop} {u' : Value} (h : JoinK w wr ds k G Fs) (hk : k < ds.length) (hb : Below wr.heap.size wr w2) (hu : OwnP w2 (Iv wr.heap.size w2.heap.size) u' (ds[k]).ps) :
    JoinK w (w2.setCell ⟨G, k * 9 + 7, none⟩ u') ds (k + 1) G (fun i => if i = k then Iv wr.heap.size w2.heap.size else Fs i) := by
  have hs := hb.size
  have hlt := h.lt
  have hlo := h.lo
  have hbw := h.bel.size
  have ht := turns_setCells9.turns_cell9 w2 G (k * 9 + 7) u'
  have hsz : (w2.setCell ⟨G, k * 9 + 7, none⟩ u').heap.size = w2.heap.size := size_set _ _ _
  have cellb : ∀ o x, wr.cell? ⟨G, o, none⟩ = some x → w2.cell? ⟨G, o, none⟩ = some x := fun o x hx => (hb.cell (p := ⟨G, o, none⟩) hlt).trans hx
  have rows : ∀ i, i ≠ k → ∀ vs : List Value, vs.length = 9 → wr.rangeAt G (i * 9) vs → (w2.setCell ⟨G, k * 9 + 7, none⟩ u').rangeAt G (i * 9) vs := fun i hi vs hl hr p y hy => by
    have hp : p < 9 := by
      have := (List.getElem?_eq_some_iff.1 hy).1
      omega
    exact (farJ w2 G u' (by omega)).trans (cellb _ _ (hr p y hy))
  refine ⟨(bel_trans h.bel hb).setCell (p := ⟨G, k * 9 + 7, none⟩) (by show w.heap.size ≤ G; exact hlo) _, hlo, by omega, fun o => ?_, fun i hi hik => ?_, fun i hi hik => ?_, fun i hi b hbi => ?_, fun i j hi hj hij b hbi hbj => ?_⟩
  · refine (World.frozen?_setCell _ _ _ _).trans ?_
    exact (hb.frozen (p := ⟨G, o, none⟩) hlt).trans (h.fr o)
  · by_cases e : i = k
    · subst e
      obtain ⟨u, h1, -⟩ := h.rest i hi (Nat.le_refl _)
      refine ⟨u', fun p y hy => ?_, ?_⟩
      · rw [set_cells (ds[i]) u u'] at hy
        by_cases hp : p = 7
        · subst hp
          rw [List.getElem?_set_self (by rw [cells_len]; omega)] at hy
          injection hy with hy
          subst hy
          exact World.cell?_setCell_same' _ _ _ (by rw [cellb _ _ (h1 7 u rfl)]; rfl)
        · rw [List.getElem?_set_ne (Ne.symm hp)] at hy
          exact (farJ w2 G u' (by omega)).trans (cellb _ _ (h1 p y hy))
      · simp only [if_true]
        exact hu.turn ht (fun b hb e => by have := hb.1; omega)
    · have hlk : i < k := by omega
      obtain ⟨u, h1, h2⟩ := h.own i hi hlk
      refine ⟨u, rows i e _ (cells_len _ _) h1, ?_⟩
      simp only [if_neg e]
      exact (OwnP.turn h2 (T := fun _ => False) (Turns.of_below hb) (fun _ _ h => h)).turn ht (fun b hb e => (h.far i hlk b hb).2.2 e)
  · obtain ⟨u, h1, h2⟩ := h.rest i hi (by omega)
    exact ⟨u, rows i (by omega) _ (cells_len _ _) h1, (SlcF.turn h2 (T := fun _ => False) (Turns.of_below hb) (fun _ _ h => h)).turn ht (fun b hb e => by have h3 : b < w.heap.size := hb; omega)⟩
  · by_cases e : i = k
    · simp only [if_pos e] at hbi
      have h1 := hbi.1
      have h2 := hbi.2
      exact ⟨by omega, by omega, by omega⟩
    · simp only [if_neg e] at hbi
      have := h.far i (by omega) b hbi
      exact ⟨this.1, by omega, this.2.2⟩
  · by_cases e : i = k
    · by_cases e2 : j = k
      · omega
      · simp only [if_pos e] at hbi
        simp only [if_neg e2] at hbj
        have := h.far j (by omega) b hbj
        have := hbi.1
        omega
    · simp only [if_neg e] at hbi
      by_cases e2 : j = k
      · simp only [if_pos e2] at hbj
        have := h.far i (by omega) b hbi
        have := hbj.1
        omega
      · simp only [if_neg e2] at hbj
        exact h.two i j (by omega) (by omega) hij b hbi hbj
theorem JoinK.done {w wr : World} {ds : List RecD} {G n : Nat} {Fs : Nat → Nat → Prop} (h : JoinK w wr ds n G Fs) (hn : ds.length = n) (hm : n ≤ maxLen) : OwnCS ds wr (Iv w.heap.size wr.heap.size) (.slice (some ⟨G, 0, none⟩) n n) := by
  subst hn
  refine .inr ⟨G, _, Fs, ⟨h.lo, h.lt⟩, rfl, Nat.le_refl _, hm, ⟨h.lt, h.fr, fun i hi => ?_, fun i hi b hb => (h.far i hi b hb).2.2, h.two⟩, fun i hi b hb => ⟨⟨(h.far i hi b hb).1, (h.far i hi b hb).2.1⟩, (h.far i hi b hb).2.1⟩⟩
  obtain ⟨u, h1, h2⟩ := h.own i hi hi
  rw [recsK_at rfl hi]
  exact ⟨u, h1, u, rfl, h2⟩
theorem splice_two {α : Type} (Z X X' : List α) (h : Z.length = X.length + X'.length) : splice (splice Z 0 X) X.length X' = X ++ X' := by
  have e : splice Z 0 X = X ++ Z.drop X.length := by simp [splice]
  rw [e]
  unfold splice
  rw [List.take_left, List.drop_append]
  simp
  omega
/-- Before the first one: the cells were copied. -/
theorem JoinK.start {w wr : World} {G : Nat} {ks ls : List RecD} {ms ms' : List (RecD × Value)} {t : TypeId} (hb : Below w.heap.size w wr) (hG : w.heap.size ≤ G) (hm : ms.map (·.1) = ks) (hm' : ms'.map (·.1) = ls) (hc : CertsF w (· < w.heap.size) ms) (hc' : CertsF w (· < w.heap.size) ms') (hbox : Box wr G t (flatC ms ++ flatC ms').toArray) : JoinK w wr (ks ++ ls) 0 G (fun _ _ => False) := by
  have hm2 : (ms ++ ms').map (·.1) = ks ++ ls := by rw [List.map_append, hm, hm']
  rw [← flatC_app] at hbox
  have hcc := (hc.app hc').later hb
  refine ⟨hb, hG, hbox.lt, hbox.frozen, fun i hi h0 => absurd h0 (by omega), fun i hi _ => ?_, fun i hi => absurd hi (by omega), fun i j hi => absurd hi (by omega)⟩
  obtain ⟨hi', ed⟩ := map_at hm2 hi
  refine ⟨((ms ++ ms')[i]).2, fun j x hx => ?_, ?_⟩
  · have hj : j < 9 := by
      have := (List.getElem?_eq_some_iff.1 hx).1
      rwa [cells_len] at this
    refine (hbox.cell _).trans ?_
    rw [List.getElem?_toArray, flatC_at hi' hj, ed]
    exact hx
  · have h2 := hcc _ (List.getElem_mem hi')
    rwa [ed] at h2
theorem Own.inIv {w w' : World} {v : Value} {ps : List (Int × Int)} (h : Own w v ps w') {B : Nat} (hB : B ≤ w.heap.size) : OwnP w' (Iv B w'.heap.size) v ps := by
  rcases h.1 with h | ⟨g, cap, hg, h0, h1, h2, h3⟩
  · exact .inl h
  · exact .inr ⟨g, cap, ⟨Nat.le_trans hB hg, h3.lt⟩, h0, h1, h2, h3⟩
set_option maxRecDepth 100000 in
set_option maxHeartbeats 8000000 in
theorem joined_is {ks ls : List RecD} {w : World} {F : Nat → Prop} {v v' : Value} (h : ListS ks w F v) (h' : ListS ls w F v') (hs : totC ks + totC ls ≤ 1048576) :
    Calls Tryz.prog 71 #[v, v'] w fun e w' => ∃ G, e = .returned (.slice (some ⟨G, 0, none⟩) (ks.length + ls.length) (ks.length + ls.length)) ∧ OwnCS (ks ++ ls) w' (Iv w.heap.size w'.heap.size) (.slice (some ⟨G, 0, none⟩) (ks.length + ls.length) (ks.length + ls.length)) ∧ Below w.heap.size w w' := by
  have hl1 : ks.length ≤ totC ks := by have := totC_rest ks 0; rw [totC_zero] at this; omega
  have hl2 : ls.length ≤ totC ls := by have := totC_rest ls 0; rw [totC_zero] at this; omega
  obtain ⟨ms, hm, hc, hx⟩ := h.lt.src
  obtain ⟨ms', hm', hc', hx'⟩ := h'.lt.src
  obtain ⟨A, c, rfl, -, -⟩ := h.at
  obtain ⟨A', c', rfl, -, -⟩ := h'.at
  clear h h'
  have HD := Lib.hid (fun k (hk : k < (ks ++ ls).length) => totC_mem (ks ++ ls) hk)
  have htot : totC (ks ++ ls) = totC ks + totC ls := by unfold totC; rw [List.map_append, List.sum_append]
  rw [htot] at HD
  have hlen : (ks ++ ls).length = ks.length + ls.length := List.length_append
  have hX : (flatC ms).length = ks.length * 9 := by rw [flatC_len, ← hm, List.length_map]
  have hX' : (flatC ms').length = ls.length * 9 := by rw [flatC_len, ← hm', List.length_map]
  have ONE := Lib.hid (flatC_one hc.one)
  have ONE' := Lib.hid (flatC_one hc'.one)
  have ST := fun (wr : World) (G : Nat) (t : TypeId) (hb : Below w.heap.size w wr) (hG : w.heap.size ≤ G) => JoinK.start (t := t) hb hG hm hm' (hc.sub (fun b hb => hb.2)) (hc'.sub (fun b hb => hb.2))
  have HST := Lib.hid ST
  clear ST hm hm' hc hc'
  generalize flatC ms = X at hx hX ONE HST
  generalize flatC ms' = X' at hx' hX' ONE' HST
  generalize ks.length = n at *
  generalize ls.length = n' at *
  generalize ks ++ ls = ds at *
  obtain ⟨s, hs1, hs2⟩ : ∃ s : Nat, (n : Int) + (n' : Int) = (s : Int) ∧ n + n' = s := ⟨n + n', by omega, rfl⟩
  rw [hs2] at hlen ⊢
  have hmk := fun W => run_make_recs (P := Tryz.prog) 27 42 Tryz.underlying27 Tryz.infoRec9 s (by omega) W
  have SX := Lib.hid hx
  have SX' := Lib.hid hx'
  have hb1 := bel_alloc w (.cells (madeCells (zeroC.cells (.slice none 0 0)) (s * 9)) 42)
  have B0 := Box.new w 42 (madeCells (zeroC.cells (.slice none 0 0)) (s * 9))
  have hZl : (madeCells (zeroC.cells (.slice none 0 0)) (s * 9)).toList.length = s * 9 := by simp [size_madeCells]
  have HL := Lib.hid hlen
  clear hx hx' hlen
  go_enter Tryz.func71, Tryz.ntmps71
  go_upto_region 2 with fail
  clear hmk
  have HP := Lib.hid (show ∀ w', Below w.heap.size w w' → 0 < n → ∃ ad, A = some ad ∧ ∀ j v, X[j]? = some v → w'.cell? (ad.add j) = some v from fun w' hb h0 => by
    rcases SX.out.later hb with ⟨_, e, _⟩ | ⟨ad, c2, e, _, h2, _⟩
    · omega
    · injection e with e _ _
      exact ⟨ad, e, h2⟩)
  have HP' := Lib.hid (show ∀ w', Below w.heap.size w w' → 0 < n' → ∃ ad, A' = some ad ∧ ∀ j v, X'[j]? = some v → w'.cell? (ad.add j) = some v from fun w' hb h0 => by
    rcases SX'.out.later hb with ⟨_, e, _⟩ | ⟨ad, c2, e, _, h2, _⟩
    · omega
    · injection e with e _ _
      exact ⟨ad, e, h2⟩)
  obtain ⟨Z, hZ⟩ : ∃ Z, (madeCells (zeroC.cells (.slice none 0 0)) (s * 9)).toList = Z := ⟨_, rfl⟩
  rw [hZ] at hZl
  have B1 : (w.alloc (.cells (madeCells (zeroC.cells (.slice none 0 0)) (s * 9)) 42)).heap[w.heap.size]? = some (.cells Z.toArray 42 (0, 0)) := by rw [← hZ]; exact B0
  have HB1 := Lib.hid B1
  clear B0 B1 hZ SX SX'
  have hm1 : Nat.min n s = n := Nat.min_eq_left (by omega)
  have hm2 : Nat.min n' n' = n' := Nat.min_self n'
  have hsn : s - n = n' := by omega
  generalize (w.alloc _ : World) = w1 at hb1 HB1 ⊢
  have hsp := Lib.hid (splice_two Z X X' (by rw [hZl, hX, hX']; omega))
  rw [hX] at hsp
  have hfit := Lib.hid (show n * 9 + n' * 9 ≤ (splice Z 0 X).length by rw [length_splice _ _ _ (by omega)]; omega)
  go_upto_region 3 with (first | (refine wpList_copy_wide rfl _ _ _ _ rfl 42 9 Tryz.underlying27 (by kernel_rfl) _ _ _ _ _ _ rfl rfl w.heap.size 0 Z 42 HB1.out n hm1 X hX (fun h0 => ⟨rfl, HP.out _ hb1 h0⟩) (by omega) ONE.out w.heap.size w hb1 (Nat.le_refl _) ?_; intro w2 HB2 hb2) | (refine wpList_copy_wide rfl _ _ _ _ rfl 42 9 Tryz.underlying27 (by kernel_rfl) _ _ _ _ _ _ rfl rfl w.heap.size (n * 9) (splice Z 0 X) 42 HB2.out n' hm2 X' hX' (fun h0 => ⟨by rw [if_neg (by omega)], HP'.out _ hb2 h0⟩) (Nat.le_trans (Nat.le_of_eq (by rw [hX'])) hfit.out) ONE'.out w.heap.size w hb2 (Nat.le_refl _) ?_; intro w3 HB3 hb3))
  rw [hsp.out] at HB3
  have K0 := Lib.hid (HST.out w3 w.heap.size _ hb3 (Nat.le_refl _) HB3.out)
  clear HB1 HB2 HB3 hb1 hb2 hfit hsp HP HP' HST ONE ONE' hZl hX hX' hb3
  try simp only [Act.put]
  generalize (ite (s = n) _ _ : Option Addr) = AD
  go_wp2
  go_loopw [23] (fun i wr => ∃ (k : Nat) (Fs : Nat → Nat → Prop), k ≤ s ∧ i = .int .i64 k ∧ JoinK w wr ds k w.heap.size Fs) (fun i _ => s - (intOf i).toNat)
  case atStart => exact ⟨0, _, Nat.zero_le _, rfl, K0.out⟩
  case round =>
    clear K0
    obtain ⟨k, Fs, hk, rfl, K⟩ := hrel
    by_cases hlt : k < s
    · have hkd : k < ds.length := by have := HL.out; omega
      obtain ⟨u, hrow, hsl⟩ := K.rest k hkd (Nat.le_refl _)
      have hdk := HD.out k hkd
      have hnx := fun (w2 : World) (u' : Value) => K.next (w2 := w2) (u' := u') hkd
      obtain ⟨d, hd⟩ : ∃ d : RecD, ds[k] = d := ⟨_, rfl⟩
      rw [hd] at hrow hsl hnx hdk
      have NX := Lib.hid hnx
      obtain ⟨L, m, mc, rfl, -, -⟩ := hsl.at
      have HSL := Lib.hid hsl.slc
      have c0 := hrow 0 _ rfl
      rw [Nat.add_zero] at c0
      have c1 := hrow 1 _ rfl
      have c2 := hrow 2 _ rfl
      have c3 := hrow 3 _ rfl
      have c4 := hrow 4 _ rfl
      have c5 := hrow 5 _ rfl
      have c6 := hrow 6 _ rfl
      have c7 := hrow 7 _ rfl
      have c8 := hrow 8 _ rfl
      have hps : d.ps.length ≤ 4194304 := by omega
      have hltI : (k : Int) < (s : Int) := by omega
      have hkw : IntKind.i64.wrap ((k : Int) + 1) = (k : Int) + 1 := IntWalk.i64_in _ (by omega)
      have hGl := K.lt
      have hfr := K.fr (k * 9 + 7)
      clear hnx hrow hd hsl hdk
      have ZB := Box.new wr 42 #[.int .i64 0, .int .i64 0, .int .i64 0, .int .i64 0, .int .i64 0, .int .i64 0, .int .i64 0, .slice none 0 0, .int .i64 0]
      have VX := (Box.new wr 42 #[.int .i64 0, .int .i64 0, .int .i64 0, .int .i64 0, .int .i64 0, .int .i64 0, .int .i64 0, .slice none 0 0, .int .i64 0]).setRow #[.int .i64 d.r1, .int .i64 d.r2, .int .i64 d.r3, .int .i64 d.r4, .int .i64 d.r5, .int .i64 d.r6, .int .i64 d.r7, .slice L m mc, .int .i64 d.r8]
      have hn := bel_new_row wr #[.int .i64 0, .int .i64 0, .int .i64 0, .int .i64 0, .int .i64 0, .int .i64 0, .int .i64 0, .slice none 0 0, .int .i64 0] 42 #[.int .i64 d.r1, .int .i64 d.r2, .int .i64 d.r3, .int .i64 d.r4, .int .i64 d.r5, .int .i64 d.r6, .int .i64 d.r7, .slice L m mc, .int .i64 d.r8]
      go_upto_region 6 with (refine wpList_store_row rfl 42 _ _ rfl wr.heap.size _ rfl rfl 42 #[.int .i64 0, .int .i64 0, .int .i64 0, .int .i64 0, .int .i64 0, .int .i64 0, .int .i64 0, .slice none 0 0, .int .i64 0] ZB (by kernel_rfl) rfl (by simp [Value.oneCell']) ?_)
      clear ZB c0 c1 c2 c3 c4 c5 c6 c8
      try simp only [Act.put]
      generalize ((wr.alloc _).setRow _ _ : World) = w1 at VX hn ⊢
      obtain ⟨v0, v1, v2, v3, v4, v5, v6, v7, v8⟩ := VX.nine
      have hVl := VX.lt
      have hs1 := hn.size
      have HS1 := Lib.hid (HSL.out.later hn)
      go_wp2_with (go_at_call 120; refine (cloneSeals_is _ d.ps _ hps HS1.out).mono ?_; rintro e w2 ⟨u', rfl, hO⟩; obtain ⟨A1, m1, c1, rfl⟩ := slc_form hO.slc; have hb2 := bel_trans hn hO.2; have hO2 := Lib.hid (hO.inIv hs1); have d7 := (hb2.cell (p := ⟨w.heap.size, k * 9 + 7, none⟩) hGl).trans c7; have fd := (hb2.frozen (p := ⟨w.heap.size, k * 9 + 7, none⟩) hGl).trans hfr; have HB := Lib.hid hb2; clear hO hb2)
      have KN := Lib.hid (NX.out w2 _ HB.out hO2.out)
      clear d7 fd
      go_roundw
      case rel => exact ⟨k + 1, _, by omega, by go_num, KN.out⟩
      case measure => simp [intOf]; omega
    · have hkn : k = s := by omega
      subst hkn
      have hd := K.done HL.out (by unfold maxLen; omega)
      have HDN := Lib.hid hd
      have E := K.bel
      clear K hd
      go_wp2
      go_ret
      exact ⟨w.heap.size, rfl, HDN.out, E⟩
end Go.Proofs.YtmooajppfjglaaaGreat

/- Which of the loose records are left: lists of bools read, the library's Index, leftOf; conditions: the sizes. -/
namespace Go.Proofs.YtmooajppfjglaaaGreat
open Go Go.RowKit

/-- A list of bools in memory, read through blocks of F. -/
def BoolF (w : World) (F : Nat → Prop) (A : Option Addr) (n : Nat) (bs : List Bool) : Prop :=
  bs.length = n ∧ (0 < n → ∃ b o, A = some ⟨b, o, none⟩ ∧ F b ∧ b < w.heap.size ∧ ∀ i (h : i < bs.length), w.cell? ⟨b, o + i, none⟩ = some (.bool bs[i]))
theorem BoolF.turn {T : Nat → Prop} {w w' : World} {F : Nat → Prop} {A : Option Addr} {n : Nat} {bs : List Bool} (h : BoolF w F A n bs) (ht : Turns T w w') (hd : ∀ b, F b → ¬ T b) : BoolF w' F A n bs := by
  refine ⟨h.1, fun hn => ?_⟩
  obtain ⟨b, o, hA, hF, hb, hc⟩ := h.2 hn
  exact ⟨b, o, hA, hF, Nat.lt_of_lt_of_le hb ht.size, fun i hi => (ht.cell hb (hd b hF) _).trans (hc i hi)⟩
theorem BoolF.later {w w' : World} {F : Nat → Prop} {A : Option Addr} {n : Nat} {bs : List Bool} (h : BoolF w F A n bs) (hb : Below w.heap.size w w') : BoolF w' F A n bs := h.turn (T := fun _ => False) (Turns.of_below hb) (fun _ _ h => h)
theorem BoolF.sub {w : World} {F F' : Nat → Prop} {A : Option Addr} {n : Nat} {bs : List Bool} (h : BoolF w F A n bs) (hs : ∀ b, F b → F' b) : BoolF w F' A n bs := by
  refine ⟨h.1, fun hn => ?_⟩
  obtain ⟨b, o, hA, hF, hb, hc⟩ := h.2 hn
  exact ⟨b, o, hA, hs b hF, hb, hc⟩
theorem BoolF.nil (w : World) (F : Nat → Prop) : BoolF w F none 0 [] := ⟨rfl, fun h => absurd h (by omega)⟩
/-- A part of a list, from its beginning. -/
theorem ListS.take {ds : List RecD} {w : World} {F : Nat → Prop} {A : Option Addr} {n c : Nat} (h : ListS ds w F (.slice A n c)) {k : Nat} (hk : k ≤ ds.length) {c' : Nat} (hc : k ≤ c') (hm : c' ≤ maxLen) (h0 : A = none → c' = 0) : ListS (ds.take k) w F (.slice A k c') := by
  have hl : (ds.take k).length = k := by rw [List.length_take]; omega
  rcases h with ⟨e, rfl⟩ | ⟨b, o, c1, e, h1, h2, h3, ms, hms, hcs, hx⟩
  · injection e with e _ _
    subst e
    have := h0 rfl
    subst this
    obtain rfl : k = 0 := by omega
    exact .inl ⟨rfl, by simp⟩
  · injection e with e _ _
    subst e
    refine .inr ⟨b, o, c', by rw [hl], by rw [hl]; exact hc, hm, fun hn => h3 (by rw [hl] at hn; omega), ms.take k, ?_, fun p hp => hcs p (List.mem_of_mem_take hp), fun j x hj => hx j x ?_⟩
    · rw [List.map_take, hms]
    · have hjl := flatC_lt hj
      rw [show flatC ms = flatC (ms.take k) ++ flatC (ms.drop k) by rw [← flatC_app, List.take_append_drop]]
      rw [List.getElem?_append_left (by rw [flatC_len]; exact hjl)]
      exact hj
end Go.Proofs.YtmooajppfjglaaaGreat

/- The laws' sizes, copies and comparisons of journals as data; conditions: the sizes. -/
namespace Go.Proofs.YtmooajppfjglaaaGreat
open Go Go.RowKit

theorem sz_J {d : JourD} {w : World} {F : Nat → Prop} {C : Array Value} {L : Int} (h : AtJ d w F (.agg C)) (h0 : 0 ≤ L) (h1 : L ≤ 1048576) :
    Calls Tryz.prog 40 #[.agg C, .int .i64 L] w fun e w' => Left L d.sz e ∧ Below w.heap.size w w' := by
  obtain ⟨A, n, c, A', n', c', e, hm, hm', hr, hr'⟩ := h
  injection e with e
  subst e
  have hb0 := bel_alloc w (.cells #[.slice A n c, .slice A' n' c'] 70)
  have D := Box.new w 70 #[.slice A n c, .slice A' n' c']
  have H := Lib.hid (hr.later hb0)
  have H' := Lib.hid (hr'.later hb0)
  have HM := Lib.hid hm
  have HM' := Lib.hid hm'
  clear hr hr' hm hm'
  have hz : (d.sz : Int) = totC d.ks + totC d.ls := by unfold JourD.sz; omega
  go_enter Tryz.func40, Tryz.ntmps40
  go_upto_region 1 with fail
  generalize (w.alloc _ : World) = w0 at hb0 D H H' ⊢
  obtain ⟨d0, d1⟩ := D.two
  go_wp2_with fail
  refine (sz_CS H.out HM.out h0 h1).mono ?_
  rintro e w1 ⟨⟨u, rfl, hle, hgt⟩, hb⟩
  replace D := D.later hb D.lt
  have E := bel_trans hb0 hb
  have HR := Lib.hid (H'.out.later hb)
  clear hb hb0 d0 d1
  obtain ⟨d0, d1⟩ := D.two
  rcases Int.lt_or_le L (totC d.ks : Int) with hs | hs
  · have hu := hgt hs
    clear hle hgt
    go_wp2
    go_ret
    exact ⟨⟨-1, rfl, fun h => absurd h (by omega), fun _ => by omega⟩, E⟩
  · have hu := hle hs
    clear hle hgt
    subst hu
    have hn : ¬ (L - (totC d.ks : Int) < 0) := by omega
    go_wp2_with fail
    refine (sz_CS HR.out HM'.out (L := L - (totC d.ks : Int)) (by omega) (by omega)).mono ?_
    rintro e w2 ⟨⟨u, rfl, hle, hgt⟩, hb⟩
    have E2 := bel_trans E hb
    clear E hb d0 d1 D
    rcases Int.lt_or_le (L - (totC d.ks : Int)) (totC d.ls : Int) with hs' | hs'
    · have hu := hgt hs'
      clear hle hgt
      go_wp2
      go_ret
      exact ⟨⟨-1, rfl, fun h => absurd h (by omega), fun _ => by omega⟩, E2⟩
    · have hu := hle hs'
      clear hle hgt
      subst hu
      have hn2 : ¬ (L - (totC d.ks : Int) - (totC d.ls : Int) < 0) := by omega
      go_wp2
      go_ret
      exact ⟨⟨_, rfl, fun _ => by omega, fun h => absurd h (by omega)⟩, E2⟩
theorem eq_J {d : JourD} {w : World} {F F' : Nat → Prop} {C C' : Array Value} (h : AtJ d w F (.agg C)) (h' : AtJ d w F' (.agg C')) (hs : d.sz ≤ 1048576) :
    Calls Tryz.prog 42 #[.agg C, .agg C'] w fun e w' => e = .returned (.bool true) ∧ Below w.heap.size w w' := by
  obtain ⟨A, n, c, A', n', c', e, hm, hm', hr, hr'⟩ := h
  obtain ⟨B, p, q, B', p', q', e', -, -, hs1, hs2⟩ := h'
  injection e with e
  injection e' with e'
  subst e e'
  obtain rfl : n = p := hr.1.symm.trans hs1.1
  obtain rfl : n' = p' := hr'.1.symm.trans hs2.1
  have hz1 : totC d.ks ≤ 1048576 := by unfold JourD.sz at hs; omega
  have hz2 : totC d.ls ≤ 1048576 := by unfold JourD.sz at hs; omega
  have hb0 := bel_trans (bel_alloc w (.cells #[.slice A n c, .slice A' n' c'] 45)) (bel_alloc _ (.cells #[.slice B n q, .slice B' n' q'] 45))
  have D := (Box.new w 45 #[.slice A n c, .slice A' n' c']).alloc (.cells #[.slice B n q, .slice B' n' q'] 45)
  have X := Box.new (w.alloc (.cells #[.slice A n c, .slice A' n' c'] 45)) 45 #[.slice B n q, .slice B' n' q']
  simp only [World.size_alloc] at X
  have H1 := Lib.hid (hr.later hb0)
  have H2 := Lib.hid (hr'.later hb0)
  have H3 := Lib.hid (hs1.later hb0)
  have H4 := Lib.hid (hs2.later hb0)
  clear hr hr' hs1 hs2 hm hm' hs
  go_enter Tryz.func42, Tryz.ntmps42
  go_upto_region 1 with fail
  generalize ((w.alloc _).alloc _ : World) = w0 at hb0 D X H1 H2 H3 H4 ⊢
  obtain ⟨d0, d1⟩ := D.two
  obtain ⟨x0, x1⟩ := X.two
  go_wp2_with fail
  refine (eq_CS H1.out H3.out hz1).mono ?_
  rintro e w1 ⟨rfl, hb⟩
  replace D := D.later hb D.lt
  replace X := X.later hb X.lt
  have E := bel_trans hb0 hb
  have K2 := Lib.hid (H2.out.later hb)
  have K4 := Lib.hid (H4.out.later hb)
  clear hb hb0 d0 d1 x0 x1 H1 H2 H3 H4
  obtain ⟨d0, d1⟩ := D.two
  obtain ⟨x0, x1⟩ := X.two
  go_wp2_with fail
  refine (eq_CS K2.out K4.out hz2).mono ?_
  rintro e w2 ⟨rfl, hb⟩
  have E2 := bel_trans E hb
  clear hb E d0 d1 x0 x1 D X
  go_wp2
  go_ret
  exact ⟨rfl, E2⟩
theorem to_J {d : JourD} {w : World} {F : Nat → Prop} {C : Array Value} (h : AtJ d w F (.agg C)) (hs : d.sz ≤ 1048576) : Calls Tryz.prog 41 #[.agg C] w (Copied (LieJ d) w) := by
  obtain ⟨A, n, c, A', n', c', e, hm, hm', hr, hr'⟩ := h
  injection e with e
  subst e
  have hz1 : totC d.ks ≤ 1048576 := by unfold JourD.sz at hs; omega
  have hz2 : totC d.ls ≤ 1048576 := by unfold JourD.sz at hs; omega
  have hn1 : n ≤ 1048576 := by have := totC_rest d.ks 0; rw [totC_zero] at this; have := hr.1; omega
  have hn2 : n' ≤ 1048576 := by have := totC_rest d.ls 0; rw [totC_zero] at this; have := hr'.1; omega
  have HL := Lib.hid hr.1
  have HL' := Lib.hid hr'.1
  have D := ((Box.new w 70 #[.slice A n c, .slice A' n' c']).alloc (.cells #[.slice none 0 0, .slice none 0 0] 45)).alloc (.cells #[.slice none 0 0, .slice none 0 0] 45)
  have X := (Box.new (w.alloc (.cells #[.slice A n c, .slice A' n' c'] 70)) 45 #[.slice none 0 0, .slice none 0 0]).alloc (.cells #[.slice none 0 0, .slice none 0 0] 45)
  have Y := Box.new ((w.alloc (.cells #[.slice A n c, .slice A' n' c'] 70)).alloc (.cells #[.slice none 0 0, .slice none 0 0] 45)) 45 #[.slice none 0 0, .slice none 0 0]
  have hb0 := bel_trans (bel_trans (bel_alloc w (.cells #[.slice A n c, .slice A' n' c'] 70)) (bel_alloc _ (.cells #[.slice none 0 0, .slice none 0 0] 45))) (bel_alloc _ (.cells #[.slice none 0 0, .slice none 0 0] 45))
  simp only [World.size_alloc] at X Y
  have H := Lib.hid (hr.later hb0).lt
  have H' := Lib.hid (hr'.lt.later hb0)
  clear hr hr' hm hm' hs
  go_enter Tryz.func41, Tryz.ntmps41
  go_upto_region 2 with fail
  generalize (((w.alloc _).alloc _).alloc _ : World) = w0 at hb0 D X Y H H' ⊢
  obtain ⟨d0, d1⟩ := D.two
  go_wp2_with fail
  refine (to_CS H.out (fun b hb => hb.2) hz1).mono ?_
  rintro e w1 ⟨G, rfl, hO, hb⟩
  have hY := Y.lt
  have hs1 := hb.size
  replace D := D.later hb D.lt
  replace X := X.later hb X.lt
  replace Y := Y.later hb Y.lt
  have E := bel_trans hb0 hb
  have K' := Lib.hid (H'.out.later hb)
  clear hb hb0 d0 d1
  have hO := hO.cs HL.out (Nat.le_refl _) (by unfold maxLen; omega)
  have t0 := turns_setCells9.turns_cell9 w1 (w.heap.size + 1 + 1) 0 (.slice (some ⟨G, 0, none⟩) n n)
  have D2 := D.far (p := ⟨w.heap.size + 1 + 1, 0, none⟩) (by show w.heap.size + 1 + 1 ≠ _; omega) (.slice (some ⟨G, 0, none⟩) n n)
  have X2 := X.far (p := ⟨w.heap.size + 1 + 1, 0, none⟩) (by show w.heap.size + 1 + 1 ≠ _; omega) (.slice (some ⟨G, 0, none⟩) n n)
  have Y2 := Y.set 0 (.slice (some ⟨G, 0, none⟩) n n)
  have O2 := hO.turn t0 (fun b hb => by have := hb.1; omega)
  have E2 := E.setCell (p := ⟨w.heap.size + 1 + 1, 0, none⟩) (by simp; omega) (.slice (some ⟨G, 0, none⟩) n n)
  have R2 := Lib.hid (K'.out.turn t0 (fun b hb => by have := hb.2; omega))
  obtain ⟨y0, y1⟩ := Y.two
  have fy := Y.frozen
  go_upto_region 3 with fail
  generalize (w1.setCell _ _ : World) = w2 at D2 X2 Y2 O2 E2 R2 ⊢
  clear D X Y hO E K' t0 y0 y1 fy
  obtain ⟨d0, d1⟩ := D2.two
  go_wp2_with fail
  refine (to_CS R2.out (fun b hb => Nat.lt_of_lt_of_le hb.2 E2.size) hz2).mono ?_
  rintro e w3 ⟨G', rfl, hO', hb⟩
  have hY2 := Y2.lt
  replace X2 := X2.later hb X2.lt
  replace Y2 := Y2.later hb Y2.lt
  replace O2 := O2.lt.later hb
  have E := bel_trans E2 hb
  have hs3 := hb.size
  clear hb E2 d0 d1 D2
  have hO' := hO'.cs HL'.out (Nat.le_refl _) (by unfold maxLen; omega)
  have t1 := turns_setCells9.turns_cell9 w3 (w.heap.size + 1 + 1) 1 (.slice (some ⟨G', 0, none⟩) n' n')
  have X3 := X2.far (p := ⟨w.heap.size + 1 + 1, 1, none⟩) (by show w.heap.size + 1 + 1 ≠ _; omega) (.slice (some ⟨G', 0, none⟩) n' n')
  have Y3 := Lib.hid (Y2.set 1 (.slice (some ⟨G', 0, none⟩) n' n'))
  have O3 := O2.turn t1 (fun b hb => by have := hb.1.1; omega)
  have P3 := hO'.turn t1 (fun b hb => by have := hb.1; omega)
  have E3 := E.setCell (p := ⟨w.heap.size + 1 + 1, 1, none⟩) (by simp; omega) (.slice (some ⟨G', 0, none⟩) n' n')
  obtain ⟨y0, y1⟩ := Y2.two
  have fy := Y2.frozen
  have hw3 : (w3.setCell ⟨w.heap.size + 1 + 1, 1, none⟩ (.slice (some ⟨G', 0, none⟩) n' n')).heap.size = w3.heap.size := size_set _ _ _
  go_upto_region 4 with fail
  generalize (w3.setCell _ _ : World) = w4 at X3 Y3 O3 P3 E3 hw3 ⊢
  clear X2 Y2 O2 E hO' t1 y0 y1 fy
  have Y4 : Box w4 (w.heap.size + 1 + 1) 45 #[.slice (some ⟨G, 0, none⟩) n n, .slice (some ⟨G', 0, none⟩) n' n'] := Y3.out
  obtain ⟨y0, y1⟩ := Y4.two
  have fy := X3.frozen
  obtain ⟨x0, x1⟩ := X3.two
  have hne : w.heap.size + 1 + 1 ≠ w.heap.size + 1 := by omega
  have t2 := turns_setCells9.turns_cell9 w4 (w.heap.size + 1) 0 (.slice (some ⟨G, 0, none⟩) n n)
  have t3 := turns_setCells9.turns_cell9 (w4.setCell ⟨w.heap.size + 1, 0, none⟩ (.slice (some ⟨G, 0, none⟩) n n)) (w.heap.size + 1) 1 (.slice (some ⟨G', 0, none⟩) n' n')
  have O5 := (O3.turn t2 (fun b hb => by have := hb.1.1; omega)).turn t3 (fun b hb => by have := hb.1.1; omega)
  have P5 := (P3.turn t2 (fun b hb => by have := hb.1; omega)).turn t3 (fun b hb => by have := hb.1; omega)
  have E5 := (E3.setCell (p := ⟨w.heap.size + 1, 0, none⟩) (by show w.heap.size ≤ w.heap.size + 1; omega) (.slice (some ⟨G, 0, none⟩) n n)).setCell (p := ⟨w.heap.size + 1, 1, none⟩) (by show w.heap.size ≤ w.heap.size + 1; omega) (.slice (some ⟨G', 0, none⟩) n' n')
  have X5 := Lib.hid ((X3.set 0 (.slice (some ⟨G, 0, none⟩) n n)).set 1 (.slice (some ⟨G', 0, none⟩) n' n'))
  have hs5 : ((w4.setCell ⟨w.heap.size + 1, 0, none⟩ (.slice (some ⟨G, 0, none⟩) n n)).setCell ⟨w.heap.size + 1, 1, none⟩ (.slice (some ⟨G', 0, none⟩) n' n')).heap.size = w4.heap.size := (size_set _ _ _).trans (size_set _ _ _)
  go_wp2
  generalize ((w4.setCell _ _).setCell _ _ : World) = w5 at O5 P5 E5 X5 hs5 ⊢
  have X6 : Box w5 (w.heap.size + 1) 45 #[.slice (some ⟨G, 0, none⟩) n n, .slice (some ⟨G', 0, none⟩) n' n'] := X5.out
  obtain ⟨z0, z1⟩ := X6.two
  refine bodyPost_ret (v := .agg #[.slice (some ⟨G, 0, none⟩) n n, .slice (some ⟨G', 0, none⟩) n' n']) (by simp [results, Tryz.results41, go_sem, z0, z1]) rfl ⟨_, rfl, ⟨_, _, _, _, rfl, O5, P5, fun b hb => ⟨?_, ?_⟩, fun b hb => ⟨?_, ?_⟩, fun b hb hb2 => ?_⟩, E5⟩
  · have := hb.1.1; omega
  · have := hb.2; omega
  · have := hb.1; omega
  · have := hb.2; omega
  · have := hb.2; have := hb2.1; omega
end Go.Proofs.YtmooajppfjglaaaGreat

/- Crashed and Synced, the program's and the model's: what is left of a journal, in memory of its own (written by jour_crash.py); conditions: the sizes. -/
namespace Go.Proofs.YtmooajppfjglaaaGreat
open Go Go.RowKit

theorem zeroJ (w : World) (F : Nat → Prop) : LieJ ⟨[], []⟩ w F (.agg #[.slice none 0 0, .slice none 0 0]) := ⟨_, _, fun _ => False, fun _ => False, rfl, .inl ⟨rfl, rfl⟩, .inl ⟨rfl, rfl⟩, fun _ h => h.elim, fun _ h => h.elim, fun _ h => h.elim⟩
theorem turns_row9 (w : World) (V : Nat) (C : Array Value) : Turns (· = V) w (w.setRow V C) := turns_setRow w V C

end Go.Proofs.YtmooajppfjglaaaGreat

/- A journal copied into memory of its own, with records more behind it (written by jour_with.py); conditions: the sizes. -/
namespace Go.Proofs.YtmooajppfjglaaaGreat
open Go Go.RowKit

theorem twoJ {w : World} {F1 F2 : Nat → Prop} {ks ls : List RecD} {u u' : Value} (h1 : OwnCS ks w F1 u) (h2 : OwnCS ls w F2 u') (ha : ∀ b, F1 b → ¬ F2 b) {F : Nat → Prop} (s1 : ∀ b, F1 b → F b) (s2 : ∀ b, F2 b → F b) : LieJ ⟨ks, ls⟩ w F (.agg #[u, u']) := ⟨u, u', F1, F2, rfl, h1, h2, s1, s2, ha⟩

set_option maxRecDepth 100000 in
set_option maxHeartbeats 4000000 in
theorem with_is {d : JourD} {es : List RecD} {w : World} {F F' : Nat → Prop} {C : Array Value} {v : Value} (h : AtS9 d w F (.agg C)) (hm : ListS es w F' v) (hsk : totC d.ks ≤ 1048576) (hsl : totC d.ls + totC es ≤ 1048576) :
    Calls Tryz.prog 80 #[.agg C, v] w (Copied (LieJ ⟨d.ks, d.ls ++ es⟩) w) := by
  obtain ⟨u1, u2, e, hk, hl⟩ := h
  injection e with e
  subst e
  obtain ⟨A1, c1, rfl, -, -⟩ := hk.at
  obtain ⟨A2, c2, rfl, -, -⟩ := hl.at
  obtain ⟨n1, hn1⟩ : ∃ n, d.ks.length = n := ⟨_, rfl⟩
  obtain ⟨n2, hn2⟩ : ∃ n, d.ls.length = n := ⟨_, rfl⟩
  have hk0 : ListS d.ks w F (.slice A1 n1 c1) := by rw [← hn1]; exact hk
  have hl0 : ListS d.ls w F (.slice A2 n2 c2) := by rw [← hn2]; exact hl
  rw [hn1, hn2]
  have HN1 := Lib.hid hn1
  have HN2 := Lib.hid hn2
  clear hk hl hn1 hn2
  have hb0 := bel_trans (bel_alloc w (.cells #[.slice A1 n1 c1, .slice A2 n2 c2] 45)) (bel_alloc _ (.cells #[.slice none 0 0, .slice none 0 0] 45))
  have J := (Box.new w 45 #[.slice A1 n1 c1, .slice A2 n2 c2]).alloc (.cells #[.slice none 0 0, .slice none 0 0] 45)
  have R := Box.new (w.alloc (.cells #[.slice A1 n1 c1, .slice A2 n2 c2] 45)) 45 #[.slice none 0 0, .slice none 0 0]
  simp only [World.size_alloc] at R
  have HK := Lib.hid (hk0.later hb0)
  have HLL := Lib.hid (hl0.later hb0)
  have HM := Lib.hid (hm.later hb0)
  clear hm
  clear hk0 hl0
  go_enter Tryz.func80, Tryz.ntmps80
  go_upto_region 1 with fail
  generalize ((w.alloc _).alloc _ : World) = w0 at hb0 J R HK HLL HM ⊢
  have hw0 := hb0.size
  have hR0 := R.lt
  have HB := Below.refl w0.heap.size w0
  refine wp_region_sink 9 (fun w' => Box w' w.heap.size 45 #[.slice A1 n1 c1, .slice A2 n2 c2]) (by kernel_rfl) J (fun hH => ?_)
  have hb := (Below.refl w0.heap.size w0).drew
  replace HB := bel_trans HB hb
  replace J := J.later hb J.lt
  replace R := R.later hb R.lt
  clear hb
  generalize w0.drew = w3 at J R HB hH ⊢
  have hs3 := HB.size
  refine wpAnyE_pure (i := 0) (v := ?vp0) (by simp only [List.getElem?_toArray, List.getElem?_cons_zero]; rfl) (by kernel_rfl) (by kernel_rfl) (by kernel_rfl) (by exact fun _ _ _ h => h) (by kernel_rfl) (Or.inl ⟨by rfl, ?yp0⟩) hH ?rp0
  case yp0 => (intro w' hSw; (try dsimp only at hSw); go_simp; try with_reducible rfl)
  try simp only [Act.put, List.setIfInBounds_toArray, List.set_cons_zero, List.set_cons_succ]
  refine wpAnyE_takeS (i := 1) (v := (.slice A1 n1 c1)) (by simp only [List.getElem?_toArray, List.getElem?_cons_succ, List.getElem?_cons_zero]; rfl) (by kernel_rfl) (by kernel_rfl) (by kernel_rfl) (by exact fun _ _ _ h => h) (by kernel_rfl) ?yc1 hH ?_
  case yc1 => exact .inl ⟨(by first | rfl | simp [Region.wanted, yielded] | (simp [Region.wanted, yielded, Act.put] <;> omega)), fun w' hSw => by (try dsimp only at hSw); have hc := (Box.two hSw).1; go_simp; try with_reducible rfl⟩
  try simp only [Act.put, List.setIfInBounds_toArray, List.set_cons_zero, List.set_cons_succ]
  refine wpAnyE_pure (i := 3) (v := ?vp2) (by simp only [List.getElem?_toArray, List.getElem?_cons_succ, List.getElem?_cons_zero]; rfl) (by kernel_rfl) (by kernel_rfl) (by kernel_rfl) (by exact fun _ _ _ h => h) (by kernel_rfl) (Or.inl ⟨by rfl, ?yp2⟩) hH ?rp2
  case yp2 => (intro w' hSw; (try dsimp only at hSw); go_simp; try with_reducible rfl)
  try simp only [Act.put, List.setIfInBounds_toArray, List.set_cons_zero, List.set_cons_succ]
  refine wpAnyE_takeS (i := 4) (v := (.slice A2 n2 c2)) (by simp only [List.getElem?_toArray, List.getElem?_cons_succ, List.getElem?_cons_zero]; rfl) (by kernel_rfl) (by kernel_rfl) (by kernel_rfl) (by exact fun _ _ _ h => h) (by kernel_rfl) ?yc3 hH ?_
  case yc3 => exact .inl ⟨(by first | rfl | simp [Region.wanted, yielded] | (simp [Region.wanted, yielded, Act.put] <;> omega)), fun w' hSw => by (try dsimp only at hSw); have hc := (Box.two hSw).2; go_simp; try with_reducible rfl⟩
  try simp only [Act.put, List.setIfInBounds_toArray, List.set_cons_zero, List.set_cons_succ]
  refine wpAnyE_pure (i := 5) (v := ?vp4) (by simp only [List.getElem?_toArray, List.getElem?_cons_succ, List.getElem?_cons_zero]; rfl) (by kernel_rfl) (by kernel_rfl) (by kernel_rfl) (by exact fun _ _ _ h => h) (by kernel_rfl) (Or.inl ⟨by rfl, ?yp4⟩) hH ?rp4
  case yp4 => (intro w' hSw; (try dsimp only at hSw); go_simp; try with_reducible rfl)
  try simp only [Act.put, List.setIfInBounds_toArray, List.set_cons_zero, List.set_cons_succ]
  refine wpAnyE_one (i := 2) (by kernel_rfl) (by simp only [List.getElem?_toArray, List.getElem?_cons_succ, List.getElem?_cons_zero]; rfl) (fun K hK => ?_)
  go_simp
  refine (joined_is (ls := []) ((HK.out.later HB).sub (F' := fun _ => True) (fun _ _ => trivial)) (.inl ⟨rfl, rfl⟩) (by show totC d.ks + 0 ≤ _; omega)).mono ?_
  rintro e w4 ⟨GK, rfl, OK, hb⟩
  have sk := hb.size
  replace J := J.later hb J.lt
  replace R := R.later hb R.lt
  replace HB := bel_trans HB hb
  rw [List.append_nil] at OK
  generalize d.ks.length + ([] : List RecD).length = NK at OK ⊢
  clear hb
  clear hH
  refine hK.out _ _ J (fun hH => ?_)
  clear hK K
  try simp only [Act.put, List.setIfInBounds_toArray, List.set_cons_zero, List.set_cons_succ]
  refine wpAnyE_one (i := 6) (by kernel_rfl) (by simp only [List.getElem?_toArray, List.getElem?_cons_succ, List.getElem?_cons_zero]; rfl) (fun K hK => ?_)
  go_simp
  refine (joined_is ((HLL.out.later HB).sub (F' := fun _ => True) (fun _ _ => trivial)) ((HM.out.later HB).sub (fun _ _ => trivial)) (by omega)).mono ?_
  rintro e w5 ⟨GL, rfl, OL, hb⟩
  have sl := hb.size
  replace J := J.later hb J.lt
  replace R := R.later hb R.lt
  replace HB := bel_trans HB hb
  replace OK := OK.lt.later hb
  generalize d.ls.length + es.length = NL at OL ⊢
  clear hb
  clear hH
  refine hK.out _ _ J (fun hH => ?_)
  clear hK K
  try simp only [Act.put, List.setIfInBounds_toArray, List.set_cons_zero, List.set_cons_succ]
  refine wpAnyE_pure (i := 7) (v := ?vbk) (by simp only [List.getElem?_toArray, List.getElem?_cons_succ, List.getElem?_cons_zero]; rfl) (by kernel_rfl) (by kernel_rfl) (by kernel_rfl) (by exact fun _ _ _ h => h) (by kernel_rfl) (Or.inl ⟨by rfl, ?ybk⟩) hH ?rbk
  case ybk => (intro w' hSw; (try dsimp only at hSw); go_simp; try with_reducible rfl)
  try simp only [Act.put, List.setIfInBounds_toArray, List.set_cons_zero, List.set_cons_succ]
  refine wpAnyE_end (i := 8) (by kernel_rfl) (by simp only [List.getElem?_toArray, List.getElem?_cons_succ, List.getElem?_cons_zero]; rfl) (by kernel_rfl) (fun K hK => ?_)
  rw [if_pos (by first | rfl | kernel_rfl | simp [Region.wanted, yielded])]
  have ht := turns_row9 w5 (w.heap.size + 1) #[.slice (some ⟨GK, 0, none⟩) NK NK, .slice (some ⟨GL, 0, none⟩) NL NL]
  refine wp_store_row 45 _ _ rfl (w.heap.size + 1) _ rfl rfl 45 #[.slice none 0 0, .slice none 0 0] R (by kernel_rfl) rfl (by simp [Value.oneCell']) ?_
  refine hK.out _ _ (J.turn ht (by omega)) ?_
  clear hK K hH
  try simp only [Act.put]
  have R2 := R.setRow #[.slice (some ⟨GK, 0, none⟩) NK NK, .slice (some ⟨GL, 0, none⟩) NL NL]
  have P1 := OK.turn ht (fun b hb => by have := hb.1.1; omega)
  have P2 := OL.turn ht (fun b hb => by have := hb.1; omega)
  have hsz5 := ht.size
  have E := Lib.hid (ht.below (bel_trans hb0 HB) (fun b hb => by omega))
  clear R J ht
  generalize (w5.setRow _ _ : World) = w7 at R2 P1 P2 E hsz5 ⊢
  obtain ⟨r0, r1⟩ := R2.two
  have LJ := Lib.hid (twoJ P1 P2 (fun b hb hb2 => by have := hb.2; have := hb2.1; omega) (F := Iv w.heap.size w7.heap.size) (fun b hb => ⟨by have := hb.1.1; omega, by have := hb.2; omega⟩) (fun b hb => ⟨by have := hb.1; omega, by have := hb.2; omega⟩))
  clear R2 P1 P2 OK OL
  go_wp2
  exact bodyPost_ret (v := .agg #[.slice (some ⟨GK, 0, none⟩) NK NK, .slice (some ⟨GL, 0, none⟩) NL NL]) (by simp [results, Tryz.results80, go_sem, r0, r1]) rfl ⟨_, rfl, LJ.out, E.out⟩
set_option maxRecDepth 100000 in
set_option maxHeartbeats 4000000 in
theorem l10Copy_is {d : JourD} {w : World} {F : Nat → Prop} {C : Array Value} (h : AtS9 d w F (.agg C)) (hsk : totC d.ks ≤ 1048576) (hsl : totC d.ls ≤ 1048576) :
    Calls Tryz.prog 81 #[.agg C] w (Copied (LieJ d) w) := by
  obtain ⟨u1, u2, e, hk, hl⟩ := h
  injection e with e
  subst e
  obtain ⟨A1, c1, rfl, -, -⟩ := hk.at
  obtain ⟨A2, c2, rfl, -, -⟩ := hl.at
  obtain ⟨n1, hn1⟩ : ∃ n, d.ks.length = n := ⟨_, rfl⟩
  obtain ⟨n2, hn2⟩ : ∃ n, d.ls.length = n := ⟨_, rfl⟩
  have hk0 : ListS d.ks w F (.slice A1 n1 c1) := by rw [← hn1]; exact hk
  have hl0 : ListS d.ls w F (.slice A2 n2 c2) := by rw [← hn2]; exact hl
  rw [hn1, hn2]
  have HN1 := Lib.hid hn1
  have HN2 := Lib.hid hn2
  clear hk hl hn1 hn2
  have hb0 := bel_trans (bel_alloc w (.cells #[.slice A1 n1 c1, .slice A2 n2 c2] 45)) (bel_alloc _ (.cells #[.slice none 0 0, .slice none 0 0] 45))
  have J := (Box.new w 45 #[.slice A1 n1 c1, .slice A2 n2 c2]).alloc (.cells #[.slice none 0 0, .slice none 0 0] 45)
  have R := Box.new (w.alloc (.cells #[.slice A1 n1 c1, .slice A2 n2 c2] 45)) 45 #[.slice none 0 0, .slice none 0 0]
  simp only [World.size_alloc] at R
  have HK := Lib.hid (hk0.later hb0)
  have HLL := Lib.hid (hl0.later hb0)
  clear hk0 hl0
  go_enter Tryz.func81, Tryz.ntmps81
  go_upto_region 1 with fail
  generalize ((w.alloc _).alloc _ : World) = w0 at hb0 J R HK HLL ⊢
  have hw0 := hb0.size
  have hR0 := R.lt
  have HB := Below.refl w0.heap.size w0
  refine wp_region_sink 8 (fun w' => Box w' w.heap.size 45 #[.slice A1 n1 c1, .slice A2 n2 c2]) (by kernel_rfl) J (fun hH => ?_)
  have hb := (Below.refl w0.heap.size w0).drew
  replace HB := bel_trans HB hb
  replace J := J.later hb J.lt
  replace R := R.later hb R.lt
  clear hb
  generalize w0.drew = w3 at J R HB hH ⊢
  have hs3 := HB.size
  refine wpAnyE_pure (i := 0) (v := ?vp0) (by simp only [List.getElem?_toArray, List.getElem?_cons_zero]; rfl) (by kernel_rfl) (by kernel_rfl) (by kernel_rfl) (by exact fun _ _ _ h => h) (by kernel_rfl) (Or.inl ⟨by rfl, ?yp0⟩) hH ?rp0
  case yp0 => (intro w' hSw; (try dsimp only at hSw); go_simp; try with_reducible rfl)
  try simp only [Act.put, List.setIfInBounds_toArray, List.set_cons_zero, List.set_cons_succ]
  refine wpAnyE_takeS (i := 1) (v := (.slice A1 n1 c1)) (by simp only [List.getElem?_toArray, List.getElem?_cons_succ, List.getElem?_cons_zero]; rfl) (by kernel_rfl) (by kernel_rfl) (by kernel_rfl) (by exact fun _ _ _ h => h) (by kernel_rfl) ?yc1 hH ?_
  case yc1 => exact .inl ⟨(by first | rfl | simp [Region.wanted, yielded] | (simp [Region.wanted, yielded, Act.put] <;> omega)), fun w' hSw => by (try dsimp only at hSw); have hc := (Box.two hSw).1; go_simp; try with_reducible rfl⟩
  try simp only [Act.put, List.setIfInBounds_toArray, List.set_cons_zero, List.set_cons_succ]
  refine wpAnyE_pure (i := 3) (v := ?vp2) (by simp only [List.getElem?_toArray, List.getElem?_cons_succ, List.getElem?_cons_zero]; rfl) (by kernel_rfl) (by kernel_rfl) (by kernel_rfl) (by exact fun _ _ _ h => h) (by kernel_rfl) (Or.inl ⟨by rfl, ?yp2⟩) hH ?rp2
  case yp2 => (intro w' hSw; (try dsimp only at hSw); go_simp; try with_reducible rfl)
  try simp only [Act.put, List.setIfInBounds_toArray, List.set_cons_zero, List.set_cons_succ]
  refine wpAnyE_takeS (i := 4) (v := (.slice A2 n2 c2)) (by simp only [List.getElem?_toArray, List.getElem?_cons_succ, List.getElem?_cons_zero]; rfl) (by kernel_rfl) (by kernel_rfl) (by kernel_rfl) (by exact fun _ _ _ h => h) (by kernel_rfl) ?yc3 hH ?_
  case yc3 => exact .inl ⟨(by first | rfl | simp [Region.wanted, yielded] | (simp [Region.wanted, yielded, Act.put] <;> omega)), fun w' hSw => by (try dsimp only at hSw); have hc := (Box.two hSw).2; go_simp; try with_reducible rfl⟩
  try simp only [Act.put, List.setIfInBounds_toArray, List.set_cons_zero, List.set_cons_succ]
  refine wpAnyE_one (i := 2) (by kernel_rfl) (by simp only [List.getElem?_toArray, List.getElem?_cons_succ, List.getElem?_cons_zero]; rfl) (fun K hK => ?_)
  go_simp
  refine (l10Recs_is (HK.out.later HB) (by omega)).mono ?_
  rintro e w4 ⟨GK, ck, rfl, OK, hb⟩
  have sk := hb.size
  replace J := J.later hb J.lt
  replace R := R.later hb R.lt
  replace HB := bel_trans HB hb
  generalize d.ks.length = NK at OK ⊢
  clear hb
  clear hH
  refine hK.out _ _ J (fun hH => ?_)
  clear hK K
  try simp only [Act.put, List.setIfInBounds_toArray, List.set_cons_zero, List.set_cons_succ]
  refine wpAnyE_one (i := 5) (by kernel_rfl) (by simp only [List.getElem?_toArray, List.getElem?_cons_succ, List.getElem?_cons_zero]; rfl) (fun K hK => ?_)
  go_simp
  refine (l10Recs_is (HLL.out.later HB) (by omega)).mono ?_
  rintro e w5 ⟨GL, cl, rfl, OL, hb⟩
  have sl := hb.size
  replace J := J.later hb J.lt
  replace R := R.later hb R.lt
  replace HB := bel_trans HB hb
  replace OK := OK.lt.later hb
  generalize d.ls.length = NL at OL ⊢
  clear hb
  clear hH
  refine hK.out _ _ J (fun hH => ?_)
  clear hK K
  try simp only [Act.put, List.setIfInBounds_toArray, List.set_cons_zero, List.set_cons_succ]
  refine wpAnyE_pure (i := 6) (v := ?vbk) (by simp only [List.getElem?_toArray, List.getElem?_cons_succ, List.getElem?_cons_zero]; rfl) (by kernel_rfl) (by kernel_rfl) (by kernel_rfl) (by exact fun _ _ _ h => h) (by kernel_rfl) (Or.inl ⟨by rfl, ?ybk⟩) hH ?rbk
  case ybk => (intro w' hSw; (try dsimp only at hSw); go_simp; try with_reducible rfl)
  try simp only [Act.put, List.setIfInBounds_toArray, List.set_cons_zero, List.set_cons_succ]
  refine wpAnyE_end (i := 7) (by kernel_rfl) (by simp only [List.getElem?_toArray, List.getElem?_cons_succ, List.getElem?_cons_zero]; rfl) (by kernel_rfl) (fun K hK => ?_)
  rw [if_pos (by first | rfl | kernel_rfl | simp [Region.wanted, yielded])]
  have ht := turns_row9 w5 (w.heap.size + 1) #[.slice (some ⟨GK, 0, none⟩) NK ck, .slice (some ⟨GL, 0, none⟩) NL cl]
  refine wp_store_row 45 _ _ rfl (w.heap.size + 1) _ rfl rfl 45 #[.slice none 0 0, .slice none 0 0] R (by kernel_rfl) rfl (by simp [Value.oneCell']) ?_
  refine hK.out _ _ (J.turn ht (by omega)) ?_
  clear hK K hH
  try simp only [Act.put]
  have R2 := R.setRow #[.slice (some ⟨GK, 0, none⟩) NK ck, .slice (some ⟨GL, 0, none⟩) NL cl]
  have P1 := OK.turn ht (fun b hb => by have := hb.1.1; omega)
  have P2 := OL.turn ht (fun b hb => by have := hb.1; omega)
  have hsz5 := ht.size
  have E := Lib.hid (ht.below (bel_trans hb0 HB) (fun b hb => by omega))
  clear R J ht
  generalize (w5.setRow _ _ : World) = w7 at R2 P1 P2 E hsz5 ⊢
  obtain ⟨r0, r1⟩ := R2.two
  have LJ := Lib.hid (twoJ P1 P2 (fun b hb hb2 => by have := hb.2; have := hb2.1; omega) (F := Iv w.heap.size w7.heap.size) (fun b hb => ⟨by have := hb.1.1; omega, by have := hb.2; omega⟩) (fun b hb => ⟨by have := hb.1; omega, by have := hb.2; omega⟩))
  clear R2 P1 P2 OK OL
  go_wp2
  exact bodyPost_ret (v := .agg #[.slice (some ⟨GK, 0, none⟩) NK ck, .slice (some ⟨GL, 0, none⟩) NL cl]) (by simp [results, Tryz.results81, go_sem, r0, r1]) rfl ⟨_, rfl, LJ.out, E.out⟩

end Go.Proofs.YtmooajppfjglaaaGreat

/- NewRec of the program at whatever it is given: a record with its sum, its list in a block of its own; conditions: how many seals it has. -/
namespace Go.Proofs.YtmooajppfjglaaaGreat
open Go Go.RowKit

theorem turns_setCell (w : World) (g o : Nat) (u : Value) : Turns (· = g) w (w.setCell ⟨g, o, none⟩ u) :=
  ⟨rfl, rfl, rfl, by rw [size_set]; exact Nat.le_refl _, fun i _ hne => Below.heap_setCell w ⟨g, o, none⟩ u i hne⟩
theorem OwnP.later {w w' : World} {F : Nat → Prop} {v : Value} {ps : List (Int × Int)} (h : OwnP w F v ps) (hb : Below w.heap.size w w') : OwnP w' F v ps := h.turn (T := fun _ => False) (Turns.of_below hb) (fun _ _ h => h)
theorem Own.ownP {w w' : World} {v : Value} {ps : List (Int × Int)} (h : Own w v ps w') : OwnP w' (Iv w.heap.size w'.heap.size) v ps := by
  rcases h.1 with h | ⟨g, cap, hg, h0, h1, h2, h3⟩
  · exact .inl h
  · exact .inr ⟨g, cap, ⟨hg, h3.lt⟩, h0, h1, h2, h3⟩
/-- A list of one's own; one whose block is known whole. -/
def OwnPs (ps : List (Int × Int)) (w : World) (F : Nat → Prop) (v : Value) : Prop := OwnP w F v ps
def RowC (ps : List (Int × Int)) (w : World) (F : Nat → Prop) (v : Value) : Prop := ∃ g cap, F g ∧ v = .slice (some ⟨g, 0, none⟩) ps.length cap ∧ w.ownsRow 0 127 2 v ps.length (flatP ps)
theorem keepsOwn (ps : List (Int × Int)) : Keeps (OwnPs ps) := ⟨fun h ht hd => OwnP.turn h ht hd, fun h hs => OwnP.sub h hs⟩
theorem keepsRow (ps : List (Int × Int)) : Keeps (RowC ps) := by
  refine ⟨?_, fun ⟨g, cap, hF, h⟩ hs => ⟨g, cap, hs g hF, h⟩⟩
  rintro T w w' F v ⟨g, cap, hF, rfl, h1, h2⟩ ht hd
  refine ⟨g, cap, hF, rfl, h1, ?_⟩
  rcases h2 with h | ⟨g', cap', cur, he, hb, hg, hr⟩
  · exact .inl h
  · refine .inr ⟨g', cap', cur, he, hb, ?_, hr⟩
    injection he with e1
    injection e1 with e1
    injection e1 with e1 _ _
    subst e1
    exact (ht.block g (Box.lt hg) (hd g hF)).trans hg
theorem ownPs_lt {ps : List (Int × Int)} {w : World} {F : Nat → Prop} {v : Value} (h : OwnPs ps w F v) : OwnPs ps w (fun b => F b ∧ b < w.heap.size) v := by
  rcases h with h | ⟨g, cap, hg, h0, h1, h2, h3⟩
  · exact .inl h
  · exact .inr ⟨g, cap, ⟨hg, h3.lt⟩, h0, h1, h2, h3⟩
theorem rowC_lt {ps : List (Int × Int)} {w : World} {F : Nat → Prop} {v : Value} (h : RowC ps w F v) : RowC ps w (fun b => F b ∧ b < w.heap.size) v := by
  obtain ⟨g, cap, hF, rfl, h⟩ := h
  exact ⟨g, cap, ⟨hF, (h.lt g rfl).2⟩, rfl, h⟩
theorem ownPs_at {ps : List (Int × Int)} {w : World} {F : Nat → Prop} {A : Option Addr} {n c : Nat} (h : OwnPs ps w F (.slice A n c)) : n ≤ maxLen ∧ ps.length = n ∧ Pairs w w.heap.size A n ps := by
  obtain ⟨A', c', e, h1, h2, h3⟩ := OwnP.at h
  injection e with e1 e2 e3
  subst e1 e2
  exact ⟨h1, rfl, h2.1⟩

/-- The record's variable is laid: its list is one's own, apart from it and from the answer's variable. -/
structure NewR (P : World → (Nat → Prop) → Value → Prop) (w wr : World) (V : Nat) (r1 r2 r3 r4 r5 r6 r7 : Int) (u : Value) : Prop where
  bel : Below w.heap.size w wr
  vr : Box wr V 42 #[.int .i64 r1, .int .i64 r2, .int .i64 r3, .int .i64 r4, .int .i64 r5, .int .i64 r6, .int .i64 r7, u, .int .i64 0]
  rs : Box wr (w.heap.size + 1) 42 #[.int .i64 0, .int .i64 0, .int .i64 0, .int .i64 0, .int .i64 0, .int .i64 0, .int .i64 0, .slice none 0 0, .int .i64 0]
  own : P wr (fun b => w.heap.size + 1 < b ∧ b ≠ V) u
  hV : w.heap.size + 1 < V
section
variable {P : World → (Nat → Prop) → Value → Prop} (k : Keeps P)
include k
theorem NewR.later {w wr w' : World} {V : Nat} {r1 r2 r3 r4 r5 r6 r7 : Int} {u : Value} (h : NewR P w wr V r1 r2 r3 r4 r5 r6 r7 u) (hb : Below wr.heap.size wr w') : NewR P w w' V r1 r2 r3 r4 r5 r6 r7 u :=
  ⟨bel_trans h.bel hb, h.vr.later hb h.vr.lt, h.rs.later hb h.rs.lt, k.later h.own hb, h.hV⟩
/-- The list was made ahead of the variable; behind it. -/
theorem newR_a {w w1 : World} {r1 r2 r3 r4 r5 r6 r7 : Int} {u : Value} {N : Nat} (hb0 : Below w.heap.size w w1)
    (R : Box w1 (w.heap.size + 1) 42 #[.int .i64 0, .int .i64 0, .int .i64 0, .int .i64 0, .int .i64 0, .int .i64 0, .int .i64 0, .slice none 0 0, .int .i64 0]) (hO : P w1 (Iv N w1.heap.size) u) (hN : w.heap.size + 1 < N) :
    NewR P w ((w1.alloc (.cells #[.int .i64 0, .int .i64 0, .int .i64 0, .int .i64 0, .int .i64 0, .int .i64 0, .int .i64 0, .slice none 0 0, .int .i64 0] 42)).setRow w1.heap.size #[.int .i64 r1, .int .i64 r2, .int .i64 r3, .int .i64 r4, .int .i64 r5, .int .i64 r6, .int .i64 r7, u, .int .i64 0]) w1.heap.size r1 r2 r3 r4 r5 r6 r7 u := by
  have hR := R.lt
  have hn := bel_new_row w1 #[.int .i64 0, .int .i64 0, .int .i64 0, .int .i64 0, .int .i64 0, .int .i64 0, .int .i64 0, .slice none 0 0, .int .i64 0] 42 #[.int .i64 r1, .int .i64 r2, .int .i64 r3, .int .i64 r4, .int .i64 r5, .int .i64 r6, .int .i64 r7, u, .int .i64 0]
  refine ⟨bel_trans hb0 hn, (Box.new w1 42 #[.int .i64 0, .int .i64 0, .int .i64 0, .int .i64 0, .int .i64 0, .int .i64 0, .int .i64 0, .slice none 0 0, .int .i64 0]).setRow #[.int .i64 r1, .int .i64 r2, .int .i64 r3, .int .i64 r4, .int .i64 r5, .int .i64 r6, .int .i64 r7, u, .int .i64 0], R.later hn hR, ?_, by omega⟩
  refine k.later (k.sub hO fun b hb => ?_) hn
  have h1 := hb.1
  have h2 := hb.2
  omega
theorem newR_b {w w1 : World} {r1 r2 r3 r4 r5 r6 r7 : Int} {u : Value} {V : Nat} {F : Nat → Prop} (hb0 : Below w.heap.size w w1)
    (R : Box w1 (w.heap.size + 1) 42 #[.int .i64 0, .int .i64 0, .int .i64 0, .int .i64 0, .int .i64 0, .int .i64 0, .int .i64 0, .slice none 0 0, .int .i64 0]) (B : Box w1 V 42 #[.int .i64 0, .int .i64 0, .int .i64 0, .int .i64 0, .int .i64 0, .int .i64 0, .int .i64 0, .slice none 0 0, .int .i64 0]) (hV : w.heap.size + 1 < V) (hO : P w1 F u) (hF : ∀ b, F b → w.heap.size + 1 < b ∧ b ≠ V) :
    NewR P w (w1.setRow V #[.int .i64 r1, .int .i64 r2, .int .i64 r3, .int .i64 r4, .int .i64 r5, .int .i64 r6, .int .i64 r7, u, .int .i64 0]) V r1 r2 r3 r4 r5 r6 r7 u := by
  have ht := turns_setRow w1 V #[.int .i64 r1, .int .i64 r2, .int .i64 r3, .int .i64 r4, .int .i64 r5, .int .i64 r6, .int .i64 r7, u, .int .i64 0]
  exact ⟨ht.below hb0 (fun i hi => by omega), B.setRow #[.int .i64 r1, .int .i64 r2, .int .i64 r3, .int .i64 r4, .int .i64 r5, .int .i64 r6, .int .i64 r7, u, .int .i64 0], R.turn ht (by omega), k.turn (k.sub hO hF) ht (fun b hb e => hb.2 e), hV⟩
end

set_option maxRecDepth 100000 in
set_option maxHeartbeats 4000000 in
theorem newRec_is (r1 r2 r3 r4 r5 r6 r7 : Int) (u0 : Value) (ps : List (Int × Int)) (w : World) (hn : ps.length ≤ 1048576) (h : Slc w u0 ps) :
    Calls Tryz.prog 78 #[.int .i64 r1, .int .i64 r2, .int .i64 r3, .int .i64 r4, .agg #[.int .i64 r5, .int .i64 r6], .int .i64 r7, u0] w (Copied (LieC ⟨r1, r2, r3, r4, r5, r6, r7, ps, sumN r1 r2 r3 r4 r5 r6 r7 ps⟩) w) := by
  obtain ⟨A0, n0, c0, rfl⟩ := slc_form h
  have S := (Box.new w 36 #[.int .i64 r5, .int .i64 r6]).alloc (.cells #[.int .i64 0, .int .i64 0, .int .i64 0, .int .i64 0, .int .i64 0, .int .i64 0, .int .i64 0, .slice none 0 0, .int .i64 0] 42)
  have R := Box.new (w.alloc (.cells #[.int .i64 r5, .int .i64 r6] 36)) 42 #[.int .i64 0, .int .i64 0, .int .i64 0, .int .i64 0, .int .i64 0, .int .i64 0, .int .i64 0, .slice none 0 0, .int .i64 0]
  have hb0 := bel_trans (bel_alloc w (.cells #[.int .i64 r5, .int .i64 r6] 36)) (bel_alloc _ (.cells #[.int .i64 0, .int .i64 0, .int .i64 0, .int .i64 0, .int .i64 0, .int .i64 0, .int .i64 0, .slice none 0 0, .int .i64 0] 42))
  simp only [World.size_alloc] at R
  have H := h.later hb0
  have hnn := Lib.hid hn
  clear h
  go_enter Tryz.func78, Tryz.ntmps78
  go_upto_region 1 with fail
  generalize ((w.alloc _).alloc _ : World) = w0 at hb0 S R H ⊢
  go_cut [15] (fun pv wr => ∃ (V : Nat) (A : Option Addr) (n c : Nat), pv = .pointer (some ⟨V, 0, none⟩) ∧ NewR (OwnPs ps) w wr V r1 r2 r3 r4 r5 r6 r7 (.slice A n c))
  case first =>
    refine wp_region_sink 11 (fun w' => Box w' w.heap.size 36 #[.int .i64 r5, .int .i64 r6]) (by kernel_rfl) S (fun hH => ?_)
    have hb := (Below.refl w0.heap.size w0).drew
    replace hb0 := bel_trans hb0 hb
    replace S := S.later hb S.lt
    replace R := R.later hb R.lt
    replace H := H.later hb
    clear hb
    generalize w0.drew = w3 at hb0 S R H hH ⊢
    have hRl := R.lt
    refine wpAnyE_takeS (i := 4) (v := .agg #[.int .i64 r5, .int .i64 r6]) (by simp only [List.getElem?_toArray, List.getElem?_cons_succ, List.getElem?_cons_zero]; rfl) (by kernel_rfl) (by kernel_rfl) (by kernel_rfl) (by exact fun _ _ _ h => h) (by kernel_rfl) ?yl hH ?_
    case yl => exact yields_box 36 _ rfl (w.heap.size) rfl 36 #[.int .i64 r5, .int .i64 r6] (fun _ h => h) _ Tryz.underlying36 rfl (by kernel_rfl) (by first | rfl | simp [Region.wanted, yielded] | (simp [Region.wanted, yielded, Act.put] <;> omega))
    try simp only [Act.put, List.setIfInBounds_toArray, List.set_cons_zero, List.set_cons_succ]
    refine wpAnyE_pure (i := 0) (v := ?vm0) (by simp only [List.getElem?_toArray, List.getElem?_cons_zero]; rfl) (by kernel_rfl) (by kernel_rfl) (by kernel_rfl) (by exact fun _ _ _ h => h) (by kernel_rfl) (Or.inl ⟨by rfl, ?ym0⟩) hH ?rm0
    case ym0 => (intro w' hSw; (try dsimp only at hSw); go_simp; try with_reducible rfl)
    try simp only [Act.put, List.setIfInBounds_toArray, List.set_cons_zero, List.set_cons_succ]
    refine wpAnyE_pure (i := 1) (v := ?vm1) (by simp only [List.getElem?_toArray, List.getElem?_cons_succ, List.getElem?_cons_zero]; rfl) (by kernel_rfl) (by kernel_rfl) (by kernel_rfl) (by exact fun _ _ _ h => h) (by kernel_rfl) (Or.inl ⟨by rfl, ?ym1⟩) hH ?rm1
    case ym1 => (intro w' hSw; (try dsimp only at hSw); go_simp; try with_reducible rfl)
    try simp only [Act.put, List.setIfInBounds_toArray, List.set_cons_zero, List.set_cons_succ]
    refine wpAnyE_pure (i := 2) (v := ?vm2) (by simp only [List.getElem?_toArray, List.getElem?_cons_succ, List.getElem?_cons_zero]; rfl) (by kernel_rfl) (by kernel_rfl) (by kernel_rfl) (by exact fun _ _ _ h => h) (by kernel_rfl) (Or.inl ⟨by rfl, ?ym2⟩) hH ?rm2
    case ym2 => (intro w' hSw; (try dsimp only at hSw); go_simp; try with_reducible rfl)
    try simp only [Act.put, List.setIfInBounds_toArray, List.set_cons_zero, List.set_cons_succ]
    refine wpAnyE_pure (i := 3) (v := ?vm3) (by simp only [List.getElem?_toArray, List.getElem?_cons_succ, List.getElem?_cons_zero]; rfl) (by kernel_rfl) (by kernel_rfl) (by kernel_rfl) (by exact fun _ _ _ h => h) (by kernel_rfl) (Or.inl ⟨by rfl, ?ym3⟩) hH ?rm3
    case ym3 => (intro w' hSw; (try dsimp only at hSw); go_simp; try with_reducible rfl)
    try simp only [Act.put, List.setIfInBounds_toArray, List.set_cons_zero, List.set_cons_succ]
    refine wpAnyE_pure (i := 5) (v := ?vm5) (by simp only [List.getElem?_toArray, List.getElem?_cons_succ, List.getElem?_cons_zero]; rfl) (by kernel_rfl) (by kernel_rfl) (by kernel_rfl) (by exact fun _ _ _ h => h) (by kernel_rfl) (Or.inl ⟨by rfl, ?ym5⟩) hH ?rm5
    case ym5 => (intro w' hSw; (try dsimp only at hSw); go_simp; try with_reducible rfl)
    try simp only [Act.put, List.setIfInBounds_toArray, List.set_cons_zero, List.set_cons_succ]
    refine wpAnyE_pure (i := 6) (v := ?vm6) (by simp only [List.getElem?_toArray, List.getElem?_cons_succ, List.getElem?_cons_zero]; rfl) (by kernel_rfl) (by kernel_rfl) (by kernel_rfl) (by exact fun _ _ _ h => h) (by kernel_rfl) (Or.inl ⟨by rfl, ?ym6⟩) hH ?rm6
    case ym6 => (intro w' hSw; (try dsimp only at hSw); go_simp; try with_reducible rfl)
    try simp only [Act.put, List.setIfInBounds_toArray, List.set_cons_zero, List.set_cons_succ]
    refine wpAnyE_two (i := 7) (j := 9) (by kernel_rfl) (by simp only [List.getElem?_toArray, List.getElem?_cons_succ, List.getElem?_cons_zero]; rfl) (by simp only [List.getElem?_toArray, List.getElem?_cons_succ, List.getElem?_cons_zero]; rfl) (fun K hK => ?_) (fun K hK => ?_)
    · skip
      go_simp
      refine (cloneSeals_is _ ps _ (by omega) H).mono ?_
      rintro e w4 ⟨u, rfl, hO⟩
      obtain ⟨A1, m1, c1, rfl⟩ := slc_form hO.slc
      have S4 := S.later hO.2 S.lt
      clear hH
      refine hK.out _ _ S4 (fun hH => ?_)
      clear hK K
      try simp only [Act.put, List.setIfInBounds_toArray, List.set_cons_zero, List.set_cons_succ]
      refine wpAnyE_pure (i := 8) (v := ?vb8) (by simp only [List.getElem?_toArray, List.getElem?_cons_succ, List.getElem?_cons_zero]; rfl) (by kernel_rfl) (by kernel_rfl) (by kernel_rfl) (by exact fun _ _ _ h => h) (by kernel_rfl) (Or.inl ⟨by rfl, ?yb8⟩) hH ?rb8
      case yb8 => (intro w' hSw; (try dsimp only at hSw); go_simp; try with_reducible rfl)
      try simp only [Act.put, List.setIfInBounds_toArray, List.set_cons_zero, List.set_cons_succ]
      refine wpAnyE_one (i := 9) (by kernel_rfl) (by simp only [List.getElem?_toArray, List.getElem?_cons_succ, List.getElem?_cons_zero]; rfl) (fun K hK => ?_)
      go_simp
      clear hH
      refine hK.out _ _ (S4.alloc _) (fun hH => ?_)
      clear hK K
      try simp only [Act.put, List.setIfInBounds_toArray, List.set_cons_zero, List.set_cons_succ]
      refine wpAnyE_end (i := 10) (by kernel_rfl) (by simp only [List.getElem?_toArray, List.getElem?_cons_succ, List.getElem?_cons_zero]; rfl) (by kernel_rfl) (fun K hK => ?_)
      rw [if_pos (by first | rfl | kernel_rfl | simp [Region.wanted, yielded])]
      refine wp_store_row 42 _ _ rfl w4.heap.size #[.int .i64 r1, .int .i64 r2, .int .i64 r3, .int .i64 r4, .int .i64 r5, .int .i64 r6, .int .i64 r7, .slice A1 m1 c1, .int .i64 0] rfl rfl 42 #[.int .i64 0, .int .i64 0, .int .i64 0, .int .i64 0, .int .i64 0, .int .i64 0, .int .i64 0, .slice none 0 0, .int .i64 0] (Box.new w4 42 #[.int .i64 0, .int .i64 0, .int .i64 0, .int .i64 0, .int .i64 0, .int .i64 0, .int .i64 0, .slice none 0 0, .int .i64 0]) (by kernel_rfl) rfl (by simp [Value.oneCell']) ?_
      refine hK.out _ _ (S4.later (bel_new_row w4 #[.int .i64 0, .int .i64 0, .int .i64 0, .int .i64 0, .int .i64 0, .int .i64 0, .int .i64 0, .slice none 0 0, .int .i64 0] 42 #[.int .i64 r1, .int .i64 r2, .int .i64 r3, .int .i64 r4, .int .i64 r5, .int .i64 r6, .int .i64 r7, .slice A1 m1 c1, .int .i64 0]) S4.lt) ?_
      clear hK K
      try simp only [Act.put]
      have HN := Lib.hid (newR_a (keepsOwn ps) (r1 := r1) (r2 := r2) (r3 := r3) (r4 := r4) (r5 := r5) (r6 := r6) (r7 := r7) (bel_trans hb0 hO.2) (R.later hO.2 R.lt) hO.ownP hRl)
      clear hH
      go_wp2_with fail
      go_meet
      exact ⟨_, _, _, _, rfl, HN.out⟩
    · skip
      go_simp
      have hn := bel_alloc w3 (.cells #[.int .i64 0, .int .i64 0, .int .i64 0, .int .i64 0, .int .i64 0, .int .i64 0, .int .i64 0, .slice none 0 0, .int .i64 0] 42)
      clear hH
      refine hK.out _ _ (S.alloc _) (fun hH => ?_)
      clear hK K
      try simp only [Act.put, List.setIfInBounds_toArray, List.set_cons_zero, List.set_cons_succ]
      refine wpAnyE_one (i := 7) (by kernel_rfl) (by simp only [List.getElem?_toArray, List.getElem?_cons_succ, List.getElem?_cons_zero]; rfl) (fun K hK => ?_)
      go_simp
      refine (cloneSeals_is _ ps _ (by omega) (H.later hn)).mono ?_
      rintro e w4 ⟨u, rfl, hO⟩
      obtain ⟨A1, m1, c1, rfl⟩ := slc_form hO.slc
      have S4 := (S.later hn S.lt).later hO.2 (S.later hn S.lt).lt
      have V4 := (Box.new w3 42 #[.int .i64 0, .int .i64 0, .int .i64 0, .int .i64 0, .int .i64 0, .int .i64 0, .int .i64 0, .slice none 0 0, .int .i64 0]).later hO.2 (Box.new w3 42 #[.int .i64 0, .int .i64 0, .int .i64 0, .int .i64 0, .int .i64 0, .int .i64 0, .int .i64 0, .slice none 0 0, .int .i64 0]).lt
      clear hH
      refine hK.out _ _ S4 (fun hH => ?_)
      clear hK K
      try simp only [Act.put, List.setIfInBounds_toArray, List.set_cons_zero, List.set_cons_succ]
      refine wpAnyE_pure (i := 8) (v := ?vc8) (by simp only [List.getElem?_toArray, List.getElem?_cons_succ, List.getElem?_cons_zero]; rfl) (by kernel_rfl) (by kernel_rfl) (by kernel_rfl) (by exact fun _ _ _ h => h) (by kernel_rfl) (Or.inl ⟨by rfl, ?yc8⟩) hH ?rc8
      case yc8 => (intro w' hSw; (try dsimp only at hSw); go_simp; try with_reducible rfl)
      try simp only [Act.put, List.setIfInBounds_toArray, List.set_cons_zero, List.set_cons_succ]
      refine wpAnyE_end (i := 10) (by kernel_rfl) (by simp only [List.getElem?_toArray, List.getElem?_cons_succ, List.getElem?_cons_zero]; rfl) (by kernel_rfl) (fun K hK => ?_)
      rw [if_pos (by first | rfl | kernel_rfl | simp [Region.wanted, yielded])]
      refine wp_store_row 42 _ _ rfl w3.heap.size #[.int .i64 r1, .int .i64 r2, .int .i64 r3, .int .i64 r4, .int .i64 r5, .int .i64 r6, .int .i64 r7, .slice A1 m1 c1, .int .i64 0] rfl rfl 42 #[.int .i64 0, .int .i64 0, .int .i64 0, .int .i64 0, .int .i64 0, .int .i64 0, .int .i64 0, .slice none 0 0, .int .i64 0] V4 (by kernel_rfl) rfl (by simp [Value.oneCell']) ?_
      refine hK.out _ _ (S4.turn (turns_setRow w4 w3.heap.size #[.int .i64 r1, .int .i64 r2, .int .i64 r3, .int .i64 r4, .int .i64 r5, .int .i64 r6, .int .i64 r7, .slice A1 m1 c1, .int .i64 0]) (Nat.ne_of_lt S.lt)) ?_
      clear hK K
      try simp only [Act.put]
      have HN := Lib.hid (newR_b (keepsOwn ps) (r1 := r1) (r2 := r2) (r3 := r3) (r4 := r4) (r5 := r5) (r6 := r6) (r7 := r7) (bel_trans (bel_trans hb0 hn) hO.2) ((R.later hn R.lt).later hO.2 (R.later hn R.lt).lt) V4 hRl hO.ownP (fun b hb => by have h1 := hb.1; simp only [World.size_alloc] at h1; omega))
      clear hH
      go_wp2_with fail
      go_meet
      exact ⟨_, _, _, _, rfl, HN.out⟩
  case rest =>
  clear S R hb0 H
  obtain ⟨V, A, n, c, rfl, N⟩ := hcut
  obtain ⟨w1, rfl⟩ : ∃ x, x = wc := ⟨_, rfl⟩
  obtain ⟨hm, hl, hp⟩ := ownPs_at N.own
  have hn4 : n ≤ 4194304 := by have := hnn.out; omega
  have J := Lib.hid (show (Tryz.prog.info? 42).map (·.size) = some (#[.int .i64 r1, .int .i64 r2, .int .i64 r3, .int .i64 r4, .int .i64 r5, .int .i64 r6, .int .i64 r7, .slice A n c, .int .i64 0] : Array Value).size from by kernel_rfl)
  go_wp2_with (refine wpList_load_box 42 _ rfl V rfl 42 #[.int .i64 r1, .int .i64 r2, .int .i64 r3, .int .i64 r4, .int .i64 r5, .int .i64 r6, .int .i64 r7, .slice A n c, .int .i64 0] N.vr _ Tryz.underlying42 rfl J.out (by first | rfl | simp [Region.wanted, yielded] | (simp [Region.wanted, yielded, Act.put] <;> omega)) ?_)
  refine (sumOf_is r1 r2 r3 r4 r5 r6 r7 A n c 0 ps w1 hn4 hp).mono ?_
  rintro e w2 ⟨rfl, hb⟩
  replace N := N.later (keepsOwn ps) hb
  clear hp hb
  obtain ⟨v0, v1, v2, v3, v4, v5, v6, v7, v8⟩ := N.vr.nine
  have fv := N.vr.frozen
  have hVw := N.hV
  have hVl := N.vr.lt
  generalize hs : sumN r1 r2 r3 r4 r5 r6 r7 ps = sm
  have V3 := N.vr.set 8 (.int .i64 sm)
  have R3 := N.rs.far (p := ⟨V, 8, none⟩) (by show V ≠ _; omega) (.int .i64 sm)
  have O3 := (keepsOwn ps).turn N.own (turns_setCell w2 V 8 (.int .i64 sm)) (fun b hb e => hb.2 e)
  have E3 := N.bel.setCell (p := ⟨V, 8, none⟩) (by show _ ≤ V; omega) (.int .i64 sm)
  replace V3 := Lib.hid V3
  replace R3 := Lib.hid R3
  replace O3 := Lib.hid O3
  replace E3 := Lib.hid E3
  clear N
  go_upto_region 3 with fail
  clear v0 v1 v2 v3 v4 v5 v6 v7 v8 fv
  generalize (w2.setCell _ _ : World) = w3 at V3 R3 O3 E3 ⊢
  have V4 : Box w3 V 42 #[.int .i64 r1, .int .i64 r2, .int .i64 r3, .int .i64 r4, .int .i64 r5, .int .i64 r6, .int .i64 r7, .slice A n c, .int .i64 sm] := V3.out
  have J2 := Lib.hid (show (Tryz.prog.info? 42).map (·.size) = some (#[.int .i64 r1, .int .i64 r2, .int .i64 r3, .int .i64 r4, .int .i64 r5, .int .i64 r6, .int .i64 r7, .slice A n c, .int .i64 sm] : Array Value).size from by kernel_rfl)
  have ht := turns_setRow w3 (w.heap.size + 1) #[.int .i64 r1, .int .i64 r2, .int .i64 r3, .int .i64 r4, .int .i64 r5, .int .i64 r6, .int .i64 r7, .slice A n c, .int .i64 sm]
  have X := R3.out.setRow #[.int .i64 r1, .int .i64 r2, .int .i64 r3, .int .i64 r4, .int .i64 r5, .int .i64 r6, .int .i64 r7, .slice A n c, .int .i64 sm]
  have O4 := Lib.hid ((keepsOwn ps).sub (F' := Iv w.heap.size (w3.setRow (w.heap.size + 1) #[.int .i64 r1, .int .i64 r2, .int .i64 r3, .int .i64 r4, .int .i64 r5, .int .i64 r6, .int .i64 r7, .slice A n c, .int .i64 sm]).heap.size) (ownPs_lt ((keepsOwn ps).turn O3.out ht (fun b hb e => by have := hb.1; omega))) (fun b hb => ⟨by have := hb.1.1; omega, hb.2⟩))
  have E4 := Lib.hid (ht.below E3.out (fun i hi => by omega))
  obtain ⟨x0, x1, x2, x3, x4, x5, x6, x7, x8⟩ := X.nine
  clear ht X
  go_wp2_with (first | (refine wpList_load_box 42 _ rfl V rfl 42 #[.int .i64 r1, .int .i64 r2, .int .i64 r3, .int .i64 r4, .int .i64 r5, .int .i64 r6, .int .i64 r7, .slice A n c, .int .i64 sm] V4 _ Tryz.underlying42 rfl J2.out (by first | rfl | simp [Region.wanted, yielded] | (simp [Region.wanted, yielded, Act.put] <;> omega)) ?_) | (refine wpList_store_row rfl 42 _ _ rfl (w.heap.size + 1) _ rfl rfl 42 #[.int .i64 0, .int .i64 0, .int .i64 0, .int .i64 0, .int .i64 0, .int .i64 0, .int .i64 0, .slice none 0 0, .int .i64 0] R3.out J2.out rfl (by simp [Value.oneCell']) ?_))
  exact bodyPost_ret (v := .agg #[.int .i64 r1, .int .i64 r2, .int .i64 r3, .int .i64 r4, .int .i64 r5, .int .i64 r6, .int .i64 r7, .slice A n c, .int .i64 sm]) (by simp [results, Tryz.results78, go_sem, x0, x1, x2, x3, x4, x5, x6, x7, x8]) rfl ⟨_, rfl, ⟨_, by rw [← hs]; rfl, O4.out⟩, E4.out⟩

end Go.Proofs.YtmooajppfjglaaaGreat

/- NewRec of the model at whatever it is given; conditions: how many seals it has. -/
namespace Go.Proofs.YtmooajppfjglaaaGreat
open Go Go.RowKit

theorem rowC_of {w : World} {base : Nat} {g cap : Nat} {ps : List (Int × Int)} (h : w.ownsRow base 127 2 (.slice (some ⟨g, 0, none⟩) ps.length cap) ps.length (flatP ps)) : RowC ps w (Iv base w.heap.size) (.slice (some ⟨g, 0, none⟩) ps.length cap) :=
  ⟨g, cap, ⟨(h.lt g rfl).1, (h.lt g rfl).2⟩, rfl, ownLow h (Nat.zero_le _)⟩
/-- The list lies apart from a variable of another type. -/
theorem rowC_other {w : World} {base V : Nat} {t' : TypeId} {Z : Array Value} {g cap : Nat} {ps : List (Int × Int)} (h : w.ownsRow base 127 2 (.slice (some ⟨g, 0, none⟩) ps.length cap) ps.length (flatP ps)) (B : Box w V t' Z) (hne : 127 ≠ t') : RowC ps w (fun b => base ≤ b ∧ b ≠ V) (.slice (some ⟨g, 0, none⟩) ps.length cap) := by
  have hV : g ≠ V := by
    rintro rfl
    rcases h.2 with ⟨h', _⟩ | ⟨g', cap', cur, h', hb, hg, _⟩
    · cases h'
    · injection h' with e1 _ e3
      injection e1 with e1
      injection e1 with e1 _ _
      subst e1
      have e := hg.symm.trans B
      injection e with e
      injection e with _ e
      exact hne e
  exact ⟨g, cap, ⟨(h.lt g rfl).1, hV⟩, rfl, ownLow h (Nat.zero_le _)⟩
theorem RowC.own {ps : List (Int × Int)} {w : World} {F : Nat → Prop} {v : Value} (h : RowC ps w F v) : OwnPs ps w F v := by
  obtain ⟨g, cap, hF, rfl, h⟩ := h
  rcases own_resP h with h' | ⟨g', cap', h1, h2, h0, h3⟩
  · cases h'.1
  · injection h0 with e1 _ e3
    injection e1 with e1
    injection e1 with e1 _ _
    subst e1 e3
    exact .inr ⟨g, cap, hF, rfl, h3⟩
theorem rowC_at {ps : List (Int × Int)} {w : World} {F : Nat → Prop} {A : Option Addr} {n c : Nat} (h : RowC ps w F (.slice A n c)) : n ≤ maxLen ∧ ps.length = n ∧ Pairs w w.heap.size A n ps := ownPs_at h.own
/-- A record of one's own, whose list's block is known whole. -/
def LieCR (d : RecD) (w : World) (F : Nat → Prop) (v : Value) : Prop := ∃ u, v = .agg (d.cells u) ∧ RowC d.ps w F u
theorem LieCR.lie {d : RecD} {w : World} {F : Nat → Prop} {v : Value} (h : LieCR d w F v) : LieC d w F v := by
  obtain ⟨u, e, h⟩ := h
  exact ⟨u, e, h.own⟩
set_option maxRecDepth 100000 in
set_option maxHeartbeats 4000000 in
theorem specNewRow_is (r1 r2 r3 r4 r5 r6 r7 : Int) (u0 : Value) (ps : List (Int × Int)) (w : World) (hn : ps.length ≤ 1048576) (h : Slc w u0 ps) :
    Calls Tryz.prog 82 #[.int .i64 r1, .int .i64 r2, .int .i64 r3, .int .i64 r4, .agg #[.int .i64 r5, .int .i64 r6], .int .i64 r7, u0] w (Copied (LieCR ⟨r1, r2, r3, r4, r5, r6, r7, ps, sumN r1 r2 r3 r4 r5 r6 r7 ps⟩) w) := by
  obtain ⟨i0, hi0, hz0, hz1, hz2⟩ := info_parts Tryz.infoSealI
  obtain ⟨A0, n0, c0, rfl⟩ := slc_form h
  have S := (Box.new w 36 #[.int .i64 r5, .int .i64 r6]).alloc (.cells #[.int .i64 0, .int .i64 0, .int .i64 0, .int .i64 0, .int .i64 0, .int .i64 0, .int .i64 0, .slice none 0 0, .int .i64 0] 42)
  have R := Box.new (w.alloc (.cells #[.int .i64 r5, .int .i64 r6] 36)) 42 #[.int .i64 0, .int .i64 0, .int .i64 0, .int .i64 0, .int .i64 0, .int .i64 0, .int .i64 0, .slice none 0 0, .int .i64 0]
  have hb0 := bel_trans (bel_alloc w (.cells #[.int .i64 r5, .int .i64 r6] 36)) (bel_alloc _ (.cells #[.int .i64 0, .int .i64 0, .int .i64 0, .int .i64 0, .int .i64 0, .int .i64 0, .int .i64 0, .slice none 0 0, .int .i64 0] 42))
  simp only [World.size_alloc] at R
  have H := h.later hb0
  have hnn := Lib.hid hn
  clear h
  go_enter Tryz.func82, Tryz.ntmps82
  go_upto_region 1 with fail
  generalize ((w.alloc _).alloc _ : World) = w0 at hb0 S R H ⊢
  go_cut [15] (fun pv wr => ∃ (V : Nat) (A : Option Addr) (n c : Nat), pv = .pointer (some ⟨V, 0, none⟩) ∧ NewR (RowC ps) w wr V r1 r2 r3 r4 r5 r6 r7 (.slice A n c))
  case first =>
    refine wp_region_sink 12 (fun w' => Box w' w.heap.size 36 #[.int .i64 r5, .int .i64 r6]) (by kernel_rfl) S (fun hH => ?_)
    have hb := (Below.refl w0.heap.size w0).drew
    replace hb0 := bel_trans hb0 hb
    replace S := S.later hb S.lt
    replace R := R.later hb R.lt
    replace H := H.later hb
    clear hb
    generalize w0.drew = w3 at hb0 S R H hH ⊢
    have hRl := R.lt
    refine wpAnyE_takeS (i := 4) (v := .agg #[.int .i64 r5, .int .i64 r6]) (by simp only [List.getElem?_toArray, List.getElem?_cons_succ, List.getElem?_cons_zero]; rfl) (by kernel_rfl) (by kernel_rfl) (by kernel_rfl) (by exact fun _ _ _ h => h) (by kernel_rfl) ?yl hH ?_
    case yl => exact yields_box 36 _ rfl (w.heap.size) rfl 36 #[.int .i64 r5, .int .i64 r6] (fun _ h => h) _ Tryz.underlying36 rfl (by kernel_rfl) (by first | rfl | simp [Region.wanted, yielded] | (simp [Region.wanted, yielded, Act.put] <;> omega))
    try simp only [Act.put, List.setIfInBounds_toArray, List.set_cons_zero, List.set_cons_succ]
    refine wpAnyE_pure (i := 0) (v := ?vm0) (by simp only [List.getElem?_toArray, List.getElem?_cons_zero]; rfl) (by kernel_rfl) (by kernel_rfl) (by kernel_rfl) (by exact fun _ _ _ h => h) (by kernel_rfl) (Or.inl ⟨by rfl, ?ym0⟩) hH ?rm0
    case ym0 => (intro w' hSw; (try dsimp only at hSw); go_simp; try with_reducible rfl)
    try simp only [Act.put, List.setIfInBounds_toArray, List.set_cons_zero, List.set_cons_succ]
    refine wpAnyE_pure (i := 1) (v := ?vm1) (by simp only [List.getElem?_toArray, List.getElem?_cons_succ, List.getElem?_cons_zero]; rfl) (by kernel_rfl) (by kernel_rfl) (by kernel_rfl) (by exact fun _ _ _ h => h) (by kernel_rfl) (Or.inl ⟨by rfl, ?ym1⟩) hH ?rm1
    case ym1 => (intro w' hSw; (try dsimp only at hSw); go_simp; try with_reducible rfl)
    try simp only [Act.put, List.setIfInBounds_toArray, List.set_cons_zero, List.set_cons_succ]
    refine wpAnyE_pure (i := 2) (v := ?vm2) (by simp only [List.getElem?_toArray, List.getElem?_cons_succ, List.getElem?_cons_zero]; rfl) (by kernel_rfl) (by kernel_rfl) (by kernel_rfl) (by exact fun _ _ _ h => h) (by kernel_rfl) (Or.inl ⟨by rfl, ?ym2⟩) hH ?rm2
    case ym2 => (intro w' hSw; (try dsimp only at hSw); go_simp; try with_reducible rfl)
    try simp only [Act.put, List.setIfInBounds_toArray, List.set_cons_zero, List.set_cons_succ]
    refine wpAnyE_pure (i := 3) (v := ?vm3) (by simp only [List.getElem?_toArray, List.getElem?_cons_succ, List.getElem?_cons_zero]; rfl) (by kernel_rfl) (by kernel_rfl) (by kernel_rfl) (by exact fun _ _ _ h => h) (by kernel_rfl) (Or.inl ⟨by rfl, ?ym3⟩) hH ?rm3
    case ym3 => (intro w' hSw; (try dsimp only at hSw); go_simp; try with_reducible rfl)
    try simp only [Act.put, List.setIfInBounds_toArray, List.set_cons_zero, List.set_cons_succ]
    refine wpAnyE_pure (i := 5) (v := ?vm5) (by simp only [List.getElem?_toArray, List.getElem?_cons_succ, List.getElem?_cons_zero]; rfl) (by kernel_rfl) (by kernel_rfl) (by kernel_rfl) (by exact fun _ _ _ h => h) (by kernel_rfl) (Or.inl ⟨by rfl, ?ym5⟩) hH ?rm5
    case ym5 => (intro w' hSw; (try dsimp only at hSw); go_simp; try with_reducible rfl)
    try simp only [Act.put, List.setIfInBounds_toArray, List.set_cons_zero, List.set_cons_succ]
    refine wpAnyE_pure (i := 7) (v := ?vm7) (by simp only [List.getElem?_toArray, List.getElem?_cons_succ, List.getElem?_cons_zero]; rfl) (by kernel_rfl) (by kernel_rfl) (by kernel_rfl) (by exact fun _ _ _ h => h) (by kernel_rfl) (Or.inl ⟨by rfl, ?ym7⟩) hH ?rm7
    case ym7 => (intro w' hSw; (try dsimp only at hSw); go_simp; try with_reducible rfl)
    try simp only [Act.put, List.setIfInBounds_toArray, List.set_cons_zero, List.set_cons_succ]
    refine wpAnyE_two (i := 6) (j := 10) (by kernel_rfl) (by simp only [List.getElem?_toArray, List.getElem?_cons_succ, List.getElem?_cons_zero]; rfl) (by simp only [List.getElem?_toArray, List.getElem?_cons_succ, List.getElem?_cons_zero]; rfl) (fun K hK => ?_) (fun K hK => ?_)
    · skip
      go_simp
      have hn := bel_alloc w3 (.cells #[] 127)
      have O3 := own_new w3 127 2
      replace S := S.alloc (.cells #[] 127)
      replace R := R.alloc (.cells #[] 127)
      replace H := H.later hn
      replace hb0 := bel_trans hb0 hn
      clear hH
      refine hK.out _ _ S (fun hH => ?_)
      clear hK K
      try simp only [Act.put, List.setIfInBounds_toArray, List.set_cons_zero, List.set_cons_succ]
      clear hn
      have hz3 : w3.heap.size < (w3.alloc (.cells #[] 127)).heap.size := by simp
      generalize (w3.alloc _ : World) = w5 at S R H hb0 O3 hH hz3 ⊢
      refine wpAnyE_two (i := 8) (j := 10) (by kernel_rfl) (by simp only [List.getElem?_toArray, List.getElem?_cons_succ, List.getElem?_cons_zero]; rfl) (by simp only [List.getElem?_toArray, List.getElem?_cons_succ, List.getElem?_cons_zero]; rfl) (fun K hK => ?_) (fun K hK => ?_)
      · skip
        refine step_append_srcN (by rfl) _ _ _ (by rfl) w3.heap.size 127 i0 _ 2 16 Tryz.underlying37 hi0 hz0 hz1 hz2 rfl (by omega) (.slice (some ⟨w3.heap.size, 0, none⟩) 0 0) 0 [] (by rfl) O3 (by simp) _ ps.length (flatP ps) (by rfl) H.src ps.length (flatP ps) (Nat.zero_add _) (List.nil_append _) (by have := hnn.out; unfold maxLen; omega) (by have := hnn.out; omega) (by (try simp only [World.size_alloc]); omega) ?_
        intro g1 cap1 w4 hown4 hgrow hbg hlg
        replace hgrow : World.grownBy _ w4 (some (w3.heap.size)) := hgrow
        have S4 := S.kept hgrow (by intro e; injection e with e; omega)
        have R4 := R.kept hgrow (by intro e; injection e with e; omega)
        have hb4 := bel_grown hb0 hgrow (by omega)
        clear hH
        refine hK.out _ _ S4 (fun hH => ?_)
        clear hK K
        try simp only [Act.put, List.setIfInBounds_toArray, List.set_cons_zero, List.set_cons_succ]
        refine wpAnyE_pure (i := 9) (v := ?va9) (by simp only [List.getElem?_toArray, List.getElem?_cons_succ, List.getElem?_cons_zero]; rfl) (by kernel_rfl) (by kernel_rfl) (by kernel_rfl) (by exact fun _ _ _ h => h) (by kernel_rfl) (Or.inl ⟨by rfl, ?ya9⟩) hH ?ra9
        case ya9 => (intro w' hSw; (try dsimp only at hSw); go_simp; try with_reducible rfl)
        try simp only [Act.put, List.setIfInBounds_toArray, List.set_cons_zero, List.set_cons_succ]
        refine wpAnyE_one (i := 10) (by kernel_rfl) (by simp only [List.getElem?_toArray, List.getElem?_cons_succ, List.getElem?_cons_zero]; rfl) (fun K hK => ?_)
        go_simp
        clear hH
        refine hK.out _ _ (S4.alloc _) (fun hH => ?_)
        clear hK K
        try simp only [Act.put, List.setIfInBounds_toArray, List.set_cons_zero, List.set_cons_succ]
        refine wpAnyE_end (i := 11) (by kernel_rfl) (by simp only [List.getElem?_toArray, List.getElem?_cons_succ, List.getElem?_cons_zero]; rfl) (by kernel_rfl) (fun K hK => ?_)
        rw [if_pos (by first | rfl | kernel_rfl | simp [Region.wanted, yielded])]
        refine wp_store_row 42 _ _ rfl w4.heap.size #[.int .i64 r1, .int .i64 r2, .int .i64 r3, .int .i64 r4, .int .i64 r5, .int .i64 r6, .int .i64 r7, .slice (some ⟨g1, 0, none⟩) ps.length cap1, .int .i64 0] rfl rfl 42 #[.int .i64 0, .int .i64 0, .int .i64 0, .int .i64 0, .int .i64 0, .int .i64 0, .int .i64 0, .slice none 0 0, .int .i64 0] (Box.new w4 42 #[.int .i64 0, .int .i64 0, .int .i64 0, .int .i64 0, .int .i64 0, .int .i64 0, .int .i64 0, .slice none 0 0, .int .i64 0]) (by kernel_rfl) rfl (by simp [Value.oneCell']) ?_
        refine hK.out _ _ (S4.later (bel_new_row w4 #[.int .i64 0, .int .i64 0, .int .i64 0, .int .i64 0, .int .i64 0, .int .i64 0, .int .i64 0, .slice none 0 0, .int .i64 0] 42 #[.int .i64 r1, .int .i64 r2, .int .i64 r3, .int .i64 r4, .int .i64 r5, .int .i64 r6, .int .i64 r7, .slice (some ⟨g1, 0, none⟩) ps.length cap1, .int .i64 0]) S4.lt) ?_
        clear hK K
        try simp only [Act.put]
        have HN := Lib.hid (newR_a (keepsRow ps) (r1 := r1) (r2 := r2) (r3 := r3) (r4 := r4) (r5 := r5) (r6 := r6) (r7 := r7) hb4 R4 (rowC_of hown4) (by omega))
        clear hH
        go_wp2_with fail
        go_meet
        exact ⟨_, _, _, _, rfl, HN.out⟩
      · skip
        go_simp
        have hn := bel_alloc w5 (.cells #[.int .i64 0, .int .i64 0, .int .i64 0, .int .i64 0, .int .i64 0, .int .i64 0, .int .i64 0, .slice none 0 0, .int .i64 0] 42)
        have V5 := Box.new w5 42 #[.int .i64 0, .int .i64 0, .int .i64 0, .int .i64 0, .int .i64 0, .int .i64 0, .int .i64 0, .slice none 0 0, .int .i64 0]
        replace S := S.alloc (.cells #[.int .i64 0, .int .i64 0, .int .i64 0, .int .i64 0, .int .i64 0, .int .i64 0, .int .i64 0, .slice none 0 0, .int .i64 0] 42)
        replace R := R.alloc (.cells #[.int .i64 0, .int .i64 0, .int .i64 0, .int .i64 0, .int .i64 0, .int .i64 0, .int .i64 0, .slice none 0 0, .int .i64 0] 42)
        replace H := H.later hn
        replace hb0 := bel_trans hb0 hn
        replace O3 := O3.alloc (.cells #[.int .i64 0, .int .i64 0, .int .i64 0, .int .i64 0, .int .i64 0, .int .i64 0, .int .i64 0, .slice none 0 0, .int .i64 0] 42)
        clear hH
        refine hK.out _ _ S (fun hH => ?_)
        clear hK K
        try simp only [Act.put, List.setIfInBounds_toArray, List.set_cons_zero, List.set_cons_succ]
        refine wpAnyE_one (i := 8) (by kernel_rfl) (by simp only [List.getElem?_toArray, List.getElem?_cons_succ, List.getElem?_cons_zero]; rfl) (fun K hK => ?_)
        refine step_append_srcN (by rfl) _ _ _ (by rfl) w3.heap.size 127 i0 _ 2 16 Tryz.underlying37 hi0 hz0 hz1 hz2 rfl (by omega) (.slice (some ⟨w3.heap.size, 0, none⟩) 0 0) 0 [] (by rfl) O3 (by simp) _ ps.length (flatP ps) (by rfl) H.src ps.length (flatP ps) (Nat.zero_add _) (List.nil_append _) (by have := hnn.out; unfold maxLen; omega) (by have := hnn.out; omega) (by (try simp only [World.size_alloc]); omega) ?_
        intro g1 cap1 w4 hown4 hgrow hbg hlg
        replace hgrow : World.grownBy _ w4 (some (w3.heap.size)) := hgrow
        have S4 := S.kept hgrow (by intro e; injection e with e; omega)
        have R4 := R.kept hgrow (by intro e; injection e with e; omega)
        have V4 := V5.kept hgrow (by intro e; injection e with e; omega)
        have hb4 := bel_grown hb0 hgrow (by omega)
        clear hH
        refine hK.out _ _ S4 (fun hH => ?_)
        clear hK K
        try simp only [Act.put, List.setIfInBounds_toArray, List.set_cons_zero, List.set_cons_succ]
        refine wpAnyE_pure (i := 9) (v := ?vb9) (by simp only [List.getElem?_toArray, List.getElem?_cons_succ, List.getElem?_cons_zero]; rfl) (by kernel_rfl) (by kernel_rfl) (by kernel_rfl) (by exact fun _ _ _ h => h) (by kernel_rfl) (Or.inl ⟨by rfl, ?yb9⟩) hH ?rb9
        case yb9 => (intro w' hSw; (try dsimp only at hSw); go_simp; try with_reducible rfl)
        try simp only [Act.put, List.setIfInBounds_toArray, List.set_cons_zero, List.set_cons_succ]
        refine wpAnyE_end (i := 11) (by kernel_rfl) (by simp only [List.getElem?_toArray, List.getElem?_cons_succ, List.getElem?_cons_zero]; rfl) (by kernel_rfl) (fun K hK => ?_)
        rw [if_pos (by first | rfl | kernel_rfl | simp [Region.wanted, yielded])]
        refine wp_store_row 42 _ _ rfl w5.heap.size #[.int .i64 r1, .int .i64 r2, .int .i64 r3, .int .i64 r4, .int .i64 r5, .int .i64 r6, .int .i64 r7, .slice (some ⟨g1, 0, none⟩) ps.length cap1, .int .i64 0] rfl rfl 42 #[.int .i64 0, .int .i64 0, .int .i64 0, .int .i64 0, .int .i64 0, .int .i64 0, .int .i64 0, .slice none 0 0, .int .i64 0] V4 (by kernel_rfl) rfl (by simp [Value.oneCell']) ?_
        refine hK.out _ _ (S4.turn (turns_setRow w4 w5.heap.size #[.int .i64 r1, .int .i64 r2, .int .i64 r3, .int .i64 r4, .int .i64 r5, .int .i64 r6, .int .i64 r7, .slice (some ⟨g1, 0, none⟩) ps.length cap1, .int .i64 0]) (by omega)) ?_
        clear hK K
        try simp only [Act.put]
        have HN := Lib.hid (newR_b (keepsRow ps) (r1 := r1) (r2 := r2) (r3 := r3) (r4 := r4) (r5 := r5) (r6 := r6) (r7 := r7) hb4 R4 V4 (by omega) (rowC_other hown4 V4 (by decide)) (fun b hb => ⟨by have := hb.1; omega, hb.2⟩))
        clear hH
        go_wp2_with fail
        go_meet
        exact ⟨_, _, _, _, rfl, HN.out⟩
    · skip
      go_simp
      have hn := bel_alloc w3 (.cells #[.int .i64 0, .int .i64 0, .int .i64 0, .int .i64 0, .int .i64 0, .int .i64 0, .int .i64 0, .slice none 0 0, .int .i64 0] 42)
      have V5 := Box.new w3 42 #[.int .i64 0, .int .i64 0, .int .i64 0, .int .i64 0, .int .i64 0, .int .i64 0, .int .i64 0, .slice none 0 0, .int .i64 0]
      replace S := S.alloc (.cells #[.int .i64 0, .int .i64 0, .int .i64 0, .int .i64 0, .int .i64 0, .int .i64 0, .int .i64 0, .slice none 0 0, .int .i64 0] 42)
      replace R := R.alloc (.cells #[.int .i64 0, .int .i64 0, .int .i64 0, .int .i64 0, .int .i64 0, .int .i64 0, .int .i64 0, .slice none 0 0, .int .i64 0] 42)
      replace H := H.later hn
      replace hb0 := bel_trans hb0 hn
      have hz3 : w3.heap.size < (w3.alloc (.cells #[.int .i64 0, .int .i64 0, .int .i64 0, .int .i64 0, .int .i64 0, .int .i64 0, .int .i64 0, .slice none 0 0, .int .i64 0] 42)).heap.size := by simp
      have hVb := hRl
      generalize w3.heap.size = V at V5 hz3 hVb ⊢
      generalize hw5 : (w3.alloc _ : World) = w5 at S R H hb0 V5 hz3 ⊢
      clear hH
      refine hK.out _ _ S (fun hH => ?_)
      clear hK K
      try simp only [Act.put, List.setIfInBounds_toArray, List.set_cons_zero, List.set_cons_succ]
      refine wpAnyE_one (i := 6) (by kernel_rfl) (by simp only [List.getElem?_toArray, List.getElem?_cons_succ, List.getElem?_cons_zero]; rfl) (fun K hK => ?_)
      go_simp
      have hn := bel_alloc w5 (.cells #[] 127)
      have O3 := own_new w5 127 2
      replace S := S.alloc (.cells #[] 127)
      replace R := R.alloc (.cells #[] 127)
      replace V5 := V5.alloc (.cells #[] 127)
      replace H := H.later hn
      replace hb0 := bel_trans hb0 hn
      clear hH
      refine hK.out _ _ S (fun hH => ?_)
      clear hK K
      try simp only [Act.put, List.setIfInBounds_toArray, List.set_cons_zero, List.set_cons_succ]
      refine wpAnyE_one (i := 8) (by kernel_rfl) (by simp only [List.getElem?_toArray, List.getElem?_cons_succ, List.getElem?_cons_zero]; rfl) (fun K hK => ?_)
      refine step_append_srcN (by rfl) _ _ _ (by rfl) w5.heap.size 127 i0 _ 2 16 Tryz.underlying37 hi0 hz0 hz1 hz2 rfl (by omega) (.slice (some ⟨w5.heap.size, 0, none⟩) 0 0) 0 [] (by rfl) O3 (by simp) _ ps.length (flatP ps) (by rfl) H.src ps.length (flatP ps) (Nat.zero_add _) (List.nil_append _) (by have := hnn.out; unfold maxLen; omega) (by have := hnn.out; omega) (by (try simp only [World.size_alloc]); omega) ?_
      intro g1 cap1 w4 hown4 hgrow hbg hlg
      replace hgrow : World.grownBy _ w4 (some (w5.heap.size)) := hgrow
      have S4 := S.kept hgrow (by intro e; injection e with e; omega)
      have R4 := R.kept hgrow (by intro e; injection e with e; omega)
      have V4 := V5.kept hgrow (by intro e; injection e with e; omega)
      have hb4 := bel_grown hb0 hgrow (by omega)
      clear hH
      refine hK.out _ _ S4 (fun hH => ?_)
      clear hK K
      try simp only [Act.put, List.setIfInBounds_toArray, List.set_cons_zero, List.set_cons_succ]
      refine wpAnyE_pure (i := 9) (v := ?vc9) (by simp only [List.getElem?_toArray, List.getElem?_cons_succ, List.getElem?_cons_zero]; rfl) (by kernel_rfl) (by kernel_rfl) (by kernel_rfl) (by exact fun _ _ _ h => h) (by kernel_rfl) (Or.inl ⟨by rfl, ?yc9⟩) hH ?rc9
      case yc9 => (intro w' hSw; (try dsimp only at hSw); go_simp; try with_reducible rfl)
      try simp only [Act.put, List.setIfInBounds_toArray, List.set_cons_zero, List.set_cons_succ]
      refine wpAnyE_end (i := 11) (by kernel_rfl) (by simp only [List.getElem?_toArray, List.getElem?_cons_succ, List.getElem?_cons_zero]; rfl) (by kernel_rfl) (fun K hK => ?_)
      rw [if_pos (by first | rfl | kernel_rfl | simp [Region.wanted, yielded])]
      refine wp_store_row 42 _ _ rfl V #[.int .i64 r1, .int .i64 r2, .int .i64 r3, .int .i64 r4, .int .i64 r5, .int .i64 r6, .int .i64 r7, .slice (some ⟨g1, 0, none⟩) ps.length cap1, .int .i64 0] rfl rfl 42 #[.int .i64 0, .int .i64 0, .int .i64 0, .int .i64 0, .int .i64 0, .int .i64 0, .int .i64 0, .slice none 0 0, .int .i64 0] V4 (by kernel_rfl) rfl (by simp [Value.oneCell']) ?_
      refine hK.out _ _ (S4.turn (turns_setRow w4 V #[.int .i64 r1, .int .i64 r2, .int .i64 r3, .int .i64 r4, .int .i64 r5, .int .i64 r6, .int .i64 r7, .slice (some ⟨g1, 0, none⟩) ps.length cap1, .int .i64 0]) (by omega)) ?_
      clear hK K
      try simp only [Act.put]
      have HN := Lib.hid (newR_b (keepsRow ps) (r1 := r1) (r2 := r2) (r3 := r3) (r4 := r4) (r5 := r5) (r6 := r6) (r7 := r7) hb4 R4 V4 hVb (rowC_of hown4) (fun b hb => by have := hb.1; omega))
      clear hH
      go_wp2_with fail
      go_meet
      exact ⟨_, _, _, _, rfl, HN.out⟩
  case rest =>
  clear S R hb0 H
  obtain ⟨V, A, n, c, rfl, N⟩ := hcut
  obtain ⟨w1, rfl⟩ : ∃ x, x = wc := ⟨_, rfl⟩
  obtain ⟨hm, hl, hp⟩ := rowC_at N.own
  have hn4 : n ≤ 4194304 := by have := hnn.out; omega
  have J := Lib.hid (show (Tryz.prog.info? 42).map (·.size) = some (#[.int .i64 r1, .int .i64 r2, .int .i64 r3, .int .i64 r4, .int .i64 r5, .int .i64 r6, .int .i64 r7, .slice A n c, .int .i64 0] : Array Value).size from by kernel_rfl)
  go_wp2_with (refine wpList_load_box 42 _ rfl V rfl 42 #[.int .i64 r1, .int .i64 r2, .int .i64 r3, .int .i64 r4, .int .i64 r5, .int .i64 r6, .int .i64 r7, .slice A n c, .int .i64 0] N.vr _ Tryz.underlying42 rfl J.out (by first | rfl | simp [Region.wanted, yielded] | (simp [Region.wanted, yielded, Act.put] <;> omega)) ?_)
  refine (specSumOf_is r1 r2 r3 r4 r5 r6 r7 A n c 0 ps w1 hn4 hp).mono ?_
  rintro e w2 ⟨rfl, hb⟩
  replace N := N.later (keepsRow ps) hb
  clear hp hb
  obtain ⟨v0, v1, v2, v3, v4, v5, v6, v7, v8⟩ := N.vr.nine
  have fv := N.vr.frozen
  have hVw := N.hV
  have hVl := N.vr.lt
  generalize hs : sumN r1 r2 r3 r4 r5 r6 r7 ps = sm
  have V3 := N.vr.set 8 (.int .i64 sm)
  have R3 := N.rs.far (p := ⟨V, 8, none⟩) (by show V ≠ _; omega) (.int .i64 sm)
  have O3 := (keepsRow ps).turn N.own (turns_setCell w2 V 8 (.int .i64 sm)) (fun b hb e => hb.2 e)
  have E3 := N.bel.setCell (p := ⟨V, 8, none⟩) (by show _ ≤ V; omega) (.int .i64 sm)
  replace V3 := Lib.hid V3
  replace R3 := Lib.hid R3
  replace O3 := Lib.hid O3
  replace E3 := Lib.hid E3
  clear N
  go_upto_region 3 with fail
  clear v0 v1 v2 v3 v4 v5 v6 v7 v8 fv
  generalize (w2.setCell _ _ : World) = w3 at V3 R3 O3 E3 ⊢
  have V4 : Box w3 V 42 #[.int .i64 r1, .int .i64 r2, .int .i64 r3, .int .i64 r4, .int .i64 r5, .int .i64 r6, .int .i64 r7, .slice A n c, .int .i64 sm] := V3.out
  have J2 := Lib.hid (show (Tryz.prog.info? 42).map (·.size) = some (#[.int .i64 r1, .int .i64 r2, .int .i64 r3, .int .i64 r4, .int .i64 r5, .int .i64 r6, .int .i64 r7, .slice A n c, .int .i64 sm] : Array Value).size from by kernel_rfl)
  have ht := turns_setRow w3 (w.heap.size + 1) #[.int .i64 r1, .int .i64 r2, .int .i64 r3, .int .i64 r4, .int .i64 r5, .int .i64 r6, .int .i64 r7, .slice A n c, .int .i64 sm]
  have X := R3.out.setRow #[.int .i64 r1, .int .i64 r2, .int .i64 r3, .int .i64 r4, .int .i64 r5, .int .i64 r6, .int .i64 r7, .slice A n c, .int .i64 sm]
  have O4 := Lib.hid ((keepsRow ps).sub (F' := Iv w.heap.size (w3.setRow (w.heap.size + 1) #[.int .i64 r1, .int .i64 r2, .int .i64 r3, .int .i64 r4, .int .i64 r5, .int .i64 r6, .int .i64 r7, .slice A n c, .int .i64 sm]).heap.size) (rowC_lt ((keepsRow ps).turn O3.out ht (fun b hb e => by have := hb.1; omega))) (fun b hb => ⟨by have := hb.1.1; omega, hb.2⟩))
  have E4 := Lib.hid (ht.below E3.out (fun i hi => by omega))
  obtain ⟨x0, x1, x2, x3, x4, x5, x6, x7, x8⟩ := X.nine
  clear ht X
  go_wp2_with (first | (refine wpList_load_box 42 _ rfl V rfl 42 #[.int .i64 r1, .int .i64 r2, .int .i64 r3, .int .i64 r4, .int .i64 r5, .int .i64 r6, .int .i64 r7, .slice A n c, .int .i64 sm] V4 _ Tryz.underlying42 rfl J2.out (by first | rfl | simp [Region.wanted, yielded] | (simp [Region.wanted, yielded, Act.put] <;> omega)) ?_) | (refine wpList_store_row rfl 42 _ _ rfl (w.heap.size + 1) _ rfl rfl 42 #[.int .i64 0, .int .i64 0, .int .i64 0, .int .i64 0, .int .i64 0, .int .i64 0, .int .i64 0, .slice none 0 0, .int .i64 0] R3.out J2.out rfl (by simp [Value.oneCell']) ?_))
  exact bodyPost_ret (v := .agg #[.int .i64 r1, .int .i64 r2, .int .i64 r3, .int .i64 r4, .int .i64 r5, .int .i64 r6, .int .i64 r7, .slice A n c, .int .i64 sm]) (by simp [results, Tryz.results82, go_sem, x0, x1, x2, x3, x4, x5, x6, x7, x8]) rfl ⟨_, rfl, ⟨_, by rw [← hs]; rfl, O4.out⟩, E4.out⟩

theorem specNewRec_is (r1 r2 r3 r4 r5 r6 r7 : Int) (u0 : Value) (ps : List (Int × Int)) (w : World) (hn : ps.length ≤ 1048576) (h : Slc w u0 ps) :
    Calls Tryz.prog 82 #[.int .i64 r1, .int .i64 r2, .int .i64 r3, .int .i64 r4, .agg #[.int .i64 r5, .int .i64 r6], .int .i64 r7, u0] w (Copied (LieC ⟨r1, r2, r3, r4, r5, r6, r7, ps, sumN r1 r2 r3 r4 r5 r6 r7 ps⟩) w) := by
  refine (specNewRow_is r1 r2 r3 r4 r5 r6 r7 u0 ps w hn h).mono ?_
  rintro e w' ⟨C, rfl, L, hb⟩
  exact ⟨C, rfl, L.lie, hb⟩

end Go.Proofs.YtmooajppfjglaaaGreat

/- Noted of the program: a journal with one record more, in memory of its own (written by jour_noted.py); conditions: the sizes. -/
namespace Go.Proofs.YtmooajppfjglaaaGreat
open Go Go.RowKit

/-- The record that is noted next. -/
def newD (d : JourD) (kd sh cl t1 t2 v : Int) (cs : List (Int × Int)) : RecD := ⟨((d.ks.length + d.ls.length : Nat) : Int) + 1, kd, sh, cl, t1, t2, v, cs, sumN (((d.ks.length + d.ls.length : Nat) : Int) + 1) kd sh cl t1 t2 v cs⟩
/-- What Noted answers. -/
def notedD (g : GrpD) (d : JourD) (r : RecD) : JourD × Bool := if jokD g d = true then (if rokD g r = true then (⟨d.ks, d.ls ++ [r]⟩, true) else (d, false)) else (⟨[], []⟩, false)
theorem recOkN_is {g : GrpD} {d : RecD} {w : World} {F0 F1 : Nat → Prop} {C0 C1 : Array Value} {z : Bool} (h0 : AtG g w F0 (.agg C0)) (h1 : AtC d w F1 (.agg C1)) (z1 : d.sz ≤ 1048576) (hz : rokD g d = z) :
    Calls Tryz.prog 79 #[.agg C0, .agg C1] w fun e w' => e = .returned (.bool z) ∧ Below w.heap.size w w' := by
  obtain ⟨L, m, mc, rfl, hm, hp⟩ := LieC.slc h1 z1
  obtain ⟨A, n, cap, e0, m0, hr⟩ := h0
  injection e0 with e0
  subst e0
  exact recOk_is hz A n cap L m mc w m0 hr.1 hm hp
/-- A journal and whether it was noted. -/
def MadeN (rr : JourD × Bool) (w : World) (e : Ending) (w' : World) : Prop := ∃ C, e = .returned (.tuple #[.agg C, .bool rr.2]) ∧ LieJ rr.1 w' (Iv w.heap.size w'.heap.size) (.agg C) ∧ Below w.heap.size w w'
theorem jok_grp {g : GrpD} {d : JourD} (h : jokD g d = true) : 1 ≤ g.sz := by
  unfold jokD replD at h
  split at h
  · rename_i hc
    rw [Bool.and_eq_true] at hc
    have hok : okB g.s g.l g.c g.sh g.zs = true := hc.1
    simp only [okB, Bool.and_eq_true, decide_eq_true_eq, inB] at hok
    unfold GrpD.sz
    omega
  · cases h
theorem one_rec {w : World} {q : Nat} {r : RecD} {u : Value} {t : TypeId} {F : Nat → Prop} (hq : Box w q t (r.cells u)) (hu : SlcF w F u r.ps) : ListS [r] w (fun b => F b ∨ b = q) (.slice (some ⟨q, 0, none⟩) 1 1) := by
  refine .inr ⟨q, 0, 1, rfl, Nat.le_refl _, by unfold maxLen; omega, fun _ => ⟨.inr rfl, hq.lt⟩, [(r, u)], rfl, fun p hp => ?_, fun j x hj => ?_⟩
  · rw [List.mem_singleton.1 hp]
    exact hu.sub (fun b hb => .inl hb)
  · have hl := flatC_lt hj
    rw [Nat.zero_add]
    refine (hq.cell j).trans ?_
    have e : flatC [(r, u)] = (r.cells u).toList := by simp [flatC]
    rw [e] at hj
    simpa using hj
theorem totC_one (r : RecD) : totC [r] = 1 + r.ps.length := by simp [totC]

set_option maxRecDepth 100000 in
set_option maxHeartbeats 8000000 in
theorem noted_is {g : GrpD} {d : JourD} {w : World} {F0 F1 : Nat → Prop} {C0 C1 : Array Value} (kd sh cl t1 t2 v : Int) {u0 : Value} {cs : List (Int × Int)} (h0 : AtG g w F0 (.agg C0)) (h1 : AtS9 d w F1 (.agg C1)) (hc : Slc w u0 cs) (hs : g.sz + d.sz + cs.length ≤ 1048576) {rr : JourD × Bool} (hr : notedD g d (newD d kd sh cl t1 t2 v cs) = rr) :
    Calls Tryz.prog 27 #[.agg C0, .agg C1, .int .i64 kd, .int .i64 sh, .int .i64 cl, .agg #[.int .i64 t1, .int .i64 t2], .int .i64 v, u0] w (MadeN rr w) := by
  obtain ⟨u1, u2, e, hk, hl⟩ := h1
  injection e with e
  subst e
  obtain ⟨A1, c1, rfl, -, -⟩ := hk.at
  obtain ⟨A2, c2, rfl, -, -⟩ := hl.at
  obtain ⟨A0, n0, c0, rfl⟩ := slc_form hc
  have HZ := Lib.hid hr
  have hsk : totC d.ks + totC d.ls = d.sz := rfl
  obtain ⟨n1, hn1⟩ : ∃ n, d.ks.length = n := ⟨_, rfl⟩
  obtain ⟨n2, hn2⟩ : ∃ n, d.ls.length = n := ⟨_, rfl⟩
  have hk0 : ListS d.ks w F1 (.slice A1 n1 c1) := by rw [← hn1]; exact hk
  have hl0 : ListS d.ls w F1 (.slice A2 n2 c2) := by rw [← hn2]; exact hl
  rw [hn1, hn2]
  have HN1 := Lib.hid hn1
  have HN2 := Lib.hid hn2
  have hnn : n1 + n2 ≤ 1048576 := by have := totC_len d.ks; have := totC_len d.ls; omega
  obtain ⟨s, hs1, hs2⟩ : ∃ s : Nat, (n1 : Int) + (n2 : Int) = (s : Int) ∧ n1 + n2 = s := ⟨n1 + n2, by omega, rfl⟩
  have hw1 : IntKind.i64.wrap ((s : Int) + 1) = (s : Int) + 1 := IntWalk.i64_in _ (by omega)
  have hnd : newD d kd sh cl t1 t2 v cs = ⟨(s : Int) + 1, kd, sh, cl, t1, t2, v, cs, sumN ((s : Int) + 1) kd sh cl t1 t2 v cs⟩ := by unfold newD; rw [hn1, hn2, hs2]
  have HND := Lib.hid hnd
  clear hk hl hr hn1 hn2 hnd
  have J0 := Lib.hid (sizeG h0).2
  have hb0 := bel_trans (bel_trans (bel_trans (bel_alloc w (.cells C0 26)) (bel_alloc _ (.cells #[.slice A1 n1 c1, .slice A2 n2 c2] 45))) (bel_alloc _ (.cells #[.int .i64 t1, .int .i64 t2] 36))) (bel_alloc _ (.cells #[.slice none 0 0, .slice none 0 0] 45))
  have G := (((Box.new w 26 C0).alloc (.cells #[.slice A1 n1 c1, .slice A2 n2 c2] 45)).alloc (.cells #[.int .i64 t1, .int .i64 t2] 36)).alloc (.cells #[.slice none 0 0, .slice none 0 0] 45)
  have J := ((Box.new (w.alloc (.cells C0 26)) 45 #[.slice A1 n1 c1, .slice A2 n2 c2]).alloc (.cells #[.int .i64 t1, .int .i64 t2] 36)).alloc (.cells #[.slice none 0 0, .slice none 0 0] 45)
  have X := (Box.new ((w.alloc (.cells C0 26)).alloc (.cells #[.slice A1 n1 c1, .slice A2 n2 c2] 45)) 36 #[.int .i64 t1, .int .i64 t2]).alloc (.cells #[.slice none 0 0, .slice none 0 0] 45)
  have R := Box.new (((w.alloc (.cells C0 26)).alloc (.cells #[.slice A1 n1 c1, .slice A2 n2 c2] 45)).alloc (.cells #[.int .i64 t1, .int .i64 t2] 36)) 45 #[.slice none 0 0, .slice none 0 0]
  simp only [World.size_alloc] at J X R
  have H0 := Lib.hid ((keepsG g).later h0 hb0)
  have HK := Lib.hid (hk0.later hb0)
  have HLL := Lib.hid (hl0.later hb0)
  have HC := Lib.hid (hc.later hb0)
  clear h0 hk0 hl0 hc
  go_enter Tryz.func27, Tryz.ntmps27
  go_upto_region 1 with fail
  generalize ((((w.alloc _).alloc _).alloc _).alloc _ : World) = w0 at hb0 G J X R H0 HK HLL HC ⊢
  have hw0 := hb0.size
  have hR0 := R.lt
  have HB := Below.refl w0.heap.size w0
  obtain ⟨z, hz⟩ : ∃ z, jokD g d = z := ⟨_, rfl⟩
  have HJ := Lib.hid hz
  clear hz
  go_wp2_with (first | (refine wpList_load_box 26 _ rfl (w.heap.size) rfl 26 C0 G _ Tryz.underlying26 rfl J0.out (by first | rfl | simp [Region.wanted, yielded] | (simp [Region.wanted, yielded, Act.put] <;> omega)) ?_) | (refine wpList_load_box 45 _ rfl (w.heap.size + 1) rfl 45 #[.slice A1 n1 c1, .slice A2 n2 c2] J _ Tryz.underlying45 rfl (by kernel_rfl) (by first | rfl | simp [Region.wanted, yielded] | (simp [Region.wanted, yielded, Act.put] <;> omega)) ?_))
  refine (journalOk_is H0.out ⟨_, _, rfl, HK.out, HLL.out⟩ (by omega) HJ.out).mono ?_
  rintro e w1 ⟨rfl, hb⟩
  replace G := G.later hb G.lt
  replace J := J.later hb J.lt
  replace X := X.later hb X.lt
  replace R := R.later hb R.lt
  replace HB := bel_trans HB hb
  clear hb
  cases z
  · have HD := Lib.hid (show rr = (⟨[], []⟩, false) by rw [← HZ.out]; unfold notedD; rw [HJ.out]; rfl)
    have R2 := R.setRow #[.slice none 0 0, .slice none 0 0]
    have E := Lib.hid (((turns_row9 w1 (w.heap.size + 1 + 1 + 1) #[.slice none 0 0, .slice none 0 0]).below (bel_trans hb0 HB) (fun b hb => by omega)))
    obtain ⟨r0, r1⟩ := R2.two
    clear R2 G J X
    go_wp2_with (refine wpList_store_row rfl 45 _ _ rfl (w.heap.size + 1 + 1 + 1) _ rfl rfl 45 #[.slice none 0 0, .slice none 0 0] R (by kernel_rfl) rfl (by simp [Value.oneCell']) ?_)
    exact bodyPost_ret (v := .tuple #[.agg #[.slice none 0 0, .slice none 0 0], .bool false]) (by simp [results, Tryz.results27, go_sem, r0, r1]) rfl ⟨_, by rw [HD.out], by rw [HD.out]; exact zeroJ _ _, E.out⟩
  · skip
    have hg1 := jok_grp HJ.out
    obtain ⟨j0, j1⟩ := J.two
    go_wp2_with (refine wpList_load_box 36 _ rfl (w.heap.size + 1 + 1) rfl 36 #[.int .i64 t1, .int .i64 t2] X _ Tryz.underlying36 rfl (by kernel_rfl) (by first | rfl | simp [Region.wanted, yielded] | (simp [Region.wanted, yielded, Act.put] <;> omega)) ?_)
    refine (newRec_is ((s : Int) + 1) kd sh cl t1 t2 v _ cs w1 (by omega) (HC.out.later HB)).mono ?_
    rintro e w2 ⟨CR, rfl, hL, hb⟩
    rw [← HND.out] at hL
    obtain ⟨r, hr⟩ : ∃ r, newD d kd sh cl t1 t2 v cs = r := ⟨_, rfl⟩
    have hrp : r.ps = cs := by rw [← hr]; rfl
    have HR := Lib.hid hr
    have HZ2 := Lib.hid HZ.out
    rw [hr] at hL HZ2
    clear hr HZ HND
    have hsV := hb.size
    replace G := G.later hb G.lt
    replace J := J.later hb J.lt
    replace X := X.later hb X.lt
    replace R := R.later hb R.lt
    replace HB := bel_trans HB hb
    obtain ⟨u, eC, hO⟩ := hL
    injection eC with eC
    obtain ⟨A3, m3, c3, rfl⟩ := slc_form hO.somewhere.slc
    subst eC
    have hLC : LieC r w2 (Iv w1.heap.size w2.heap.size) (.agg #[.int .i64 r.r1, .int .i64 r.r2, .int .i64 r.r3, .int .i64 r.r4, .int .i64 r.r5, .int .i64 r.r6, .int .i64 r.r7, .slice A3 m3 c3, .int .i64 r.r8]) := ⟨_, rfl, hO⟩
    unfold RecD.cells
    have O := Lib.hid (oneC hLC.at)
    have JR := Lib.hid (sizeC hLC.at).2
    have hn := bel_new_row w2 #[.int .i64 0, .int .i64 0, .int .i64 0, .int .i64 0, .int .i64 0, .int .i64 0, .int .i64 0, .slice none 0 0, .int .i64 0] 42 #[.int .i64 r.r1, .int .i64 r.r2, .int .i64 r.r3, .int .i64 r.r4, .int .i64 r.r5, .int .i64 r.r6, .int .i64 r.r7, .slice A3 m3 c3, .int .i64 r.r8]
    have NX := var_new_row (keepsLC r) (Z := #[.int .i64 0, .int .i64 0, .int .i64 0, .int .i64 0, .int .i64 0, .int .i64 0, .int .i64 0, .slice none 0 0, .int .i64 0]) 42 hLC (fun b hb => hb.2)
    have ZB := Box.new w2 42 #[.int .i64 0, .int .i64 0, .int .i64 0, .int .i64 0, .int .i64 0, .int .i64 0, .int .i64 0, .slice none 0 0, .int .i64 0]
    have hb := hn
    replace G := G.later hb G.lt
    replace J := J.later hb J.lt
    replace X := X.later hb X.lt
    replace R := R.later hb R.lt
    replace HB := bel_trans HB hb
    have hs1w := HB.size
    clear hb hn hLC hO j0 j1
    go_upto_region 4 with (refine wpList_store_row rfl 42 _ _ rfl w2.heap.size _ rfl rfl 42 #[.int .i64 0, .int .i64 0, .int .i64 0, .int .i64 0, .int .i64 0, .int .i64 0, .int .i64 0, .slice none 0 0, .int .i64 0] ZB JR.out O.out.1.symm O.out.2 ?_)
    clear ZB O
    try simp only [Act.put]
    have hs1 := hsV
    generalize ((w2.alloc _).setRow _ _ : World) = w3 at G J X R HB NX hs1w ⊢
    skip
    obtain ⟨y, hy⟩ : ∃ y, rokD g r = y := ⟨_, rfl⟩
    have HY := Lib.hid hy
    clear hy
    have hrs : r.sz ≤ 1048576 := by unfold RecD.sz; rw [hrp]; omega
    have hVb := NX.box.lt
    go_wp2_with (first | (refine wpList_load_box 26 _ rfl (w.heap.size) rfl 26 C0 G _ Tryz.underlying26 rfl J0.out (by first | rfl | simp [Region.wanted, yielded] | (simp [Region.wanted, yielded, Act.put] <;> omega)) ?_) | (refine wpList_load_box 42 _ rfl (w2.heap.size) rfl 42 #[.int .i64 r.r1, .int .i64 r.r2, .int .i64 r.r3, .int .i64 r.r4, .int .i64 r.r5, .int .i64 r.r6, .int .i64 r.r7, .slice A3 m3 c3, .int .i64 r.r8] NX.box _ Tryz.underlying42 rfl JR.out (by first | rfl | simp [Region.wanted, yielded] | (simp [Region.wanted, yielded, Act.put] <;> omega)) ?_))
    refine (recOkN_is ((keepsG g).later H0.out HB) NX.dat.at hrs HY.out).mono ?_
    rintro e w4 ⟨rfl, hb⟩
    have hs4 := hb.size
    replace G := G.later hb G.lt
    replace J := J.later hb J.lt
    replace X := X.later hb X.lt
    replace R := R.later hb R.lt
    replace HB := bel_trans HB hb
    replace NX := NX.later (keepsLC r) hb
    clear hb
    cases y
    · have HD := Lib.hid (show rr = (d, false) by rw [← HZ2.out]; unfold notedD; rw [HJ.out, HY.out]; rfl)
      have hw4 := HB.size
      go_wp2_with (refine wpList_load_box 45 _ rfl (w.heap.size + 1) rfl 45 #[.slice A1 n1 c1, .slice A2 n2 c2] J _ Tryz.underlying45 rfl (by kernel_rfl) (by first | rfl | simp [Region.wanted, yielded] | (simp [Region.wanted, yielded, Act.put] <;> omega)) ?_)
      refine (with_is (es := []) ⟨_, _, rfl, HK.out.later HB, HLL.out.later HB⟩ (.inl ⟨rfl, rfl⟩ : ListS [] w4 (fun _ => False) _) (by omega) (by show totC d.ls + 0 ≤ _; omega)).mono ?_
      rintro e w5 ⟨C5, rfl, LJ, hb⟩
      rw [List.append_nil] at LJ
      replace G := G.later hb G.lt
      replace J := J.later hb J.lt
      replace X := X.later hb X.lt
      replace R := R.later hb R.lt
      replace HB := bel_trans HB hb
      clear hb
      have JS := Lib.hid (sizeJ LJ.at).2
      have O := Lib.hid (oneJ LJ.at)
      obtain ⟨ua, ub, FA, FB, eC, -⟩ := id LJ
      injection eC with eC
      subst eC
      have ht := turns_row9 w5 (w.heap.size + 1 + 1 + 1) #[ua, ub]
      have R2 := R.setRow #[ua, ub]
      have L2 := Lib.hid ((keepsLJ _).sub ((keepsLJ _).turn LJ ht (fun b hb e => by have := hb.1; omega)) (F' := Iv w.heap.size (w5.setRow (w.heap.size + 1 + 1 + 1) #[ua, ub]).heap.size) (fun b hb => ⟨by have := hb.1; omega, by rw [size_setRow]; exact hb.2⟩))
      have E := Lib.hid (ht.below (bel_trans hb0 HB) (fun b hb => by omega))
      obtain ⟨r0, r1⟩ := R2.two
      clear R2 ht LJ
      go_wp2_with (refine wpList_store_row rfl 45 _ _ rfl (w.heap.size + 1 + 1 + 1) _ rfl rfl 45 #[.slice none 0 0, .slice none 0 0] R JS.out O.out.1.symm O.out.2 ?_)
      exact bodyPost_ret (v := .tuple #[.agg #[ua, ub], .bool false]) (by simp [results, Tryz.results27, go_sem, r0, r1]) rfl ⟨_, by rw [HD.out], by rw [HD.out]; exact L2.out, E.out⟩
    · have HD := Lib.hid (show rr = (⟨d.ks, d.ls ++ [r]⟩, true) by rw [← HZ2.out]; unfold notedD; rw [HJ.out, HY.out]; rfl)
      have hw4 := HB.size
      obtain ⟨u, eC2, hO⟩ := NX.dat
      injection eC2 with eC2
      have eu : u = .slice A3 m3 c3 := by have h9 := congrArg (fun a : Array Value => a[7]?) eC2; simpa [RecD.cells] using h9.symm
      subst eu
      have hb6 := bel_alloc w4 (.cells #[.int .i64 r.r1, .int .i64 r.r2, .int .i64 r.r3, .int .i64 r.r4, .int .i64 r.r5, .int .i64 r.r6, .int .i64 r.r7, .slice A3 m3 c3, .int .i64 r.r8] 42)
      have Q := Box.new w4 42 #[.int .i64 r.r1, .int .i64 r.r2, .int .i64 r.r3, .int .i64 r.r4, .int .i64 r.r5, .int .i64 r.r6, .int .i64 r.r7, .slice A3 m3 c3, .int .i64 r.r8]
      have LS := Lib.hid (one_rec (r := r) (u := .slice A3 m3 c3) Q (SlcF.turn hO.somewhere (T := fun _ => False) (Turns.of_below hb6) (fun _ _ h => h)))
      have HTL := Lib.hid (show totC d.ls + totC [r] ≤ 1048576 by rw [totC_one, hrp]; omega)
      clear Q hO eC2
      have NB := NX.box
      clear NX
      go_wp2_with (first | (refine wpList_load_box 45 _ rfl (w.heap.size + 1) rfl 45 #[.slice A1 n1 c1, .slice A2 n2 c2] J _ Tryz.underlying45 rfl (by kernel_rfl) (by first | rfl | simp [Region.wanted, yielded] | (simp [Region.wanted, yielded, Act.put] <;> omega)) ?_) | (refine wpList_load_box 42 _ rfl (w2.heap.size) rfl 42 #[.int .i64 r.r1, .int .i64 r.r2, .int .i64 r.r3, .int .i64 r.r4, .int .i64 r.r5, .int .i64 r.r6, .int .i64 r.r7, .slice A3 m3 c3, .int .i64 r.r8] NB _ Tryz.underlying42 rfl JR.out (by first | rfl | simp [Region.wanted, yielded] | (simp [Region.wanted, yielded, Act.put] <;> omega)) ?_))
      clear NB
      replace G := G.later hb6 G.lt
      replace J := J.later hb6 J.lt
      replace X := X.later hb6 X.lt
      replace R := R.later hb6 R.lt
      replace HB := bel_trans HB hb6
      generalize (w4.alloc (.cells #[.int .i64 r.r1, .int .i64 r.r2, .int .i64 r.r3, .int .i64 r.r4, .int .i64 r.r5, .int .i64 r.r6, .int .i64 r.r7, .slice A3 m3 c3, .int .i64 r.r8] 42) : World) = w6 at G J X R HB LS ⊢
      have hw6 := HB.size
      clear hb6
      refine (with_is (es := [r]) ⟨_, _, rfl, HK.out.later HB, HLL.out.later HB⟩ LS.out (by omega) HTL.out).mono ?_
      rintro e w5 ⟨C5, rfl, LJ, hb⟩
      replace G := G.later hb G.lt
      replace J := J.later hb J.lt
      replace X := X.later hb X.lt
      replace R := R.later hb R.lt
      replace HB := bel_trans HB hb
      clear hb
      have JS := Lib.hid (sizeJ LJ.at).2
      have O := Lib.hid (oneJ LJ.at)
      obtain ⟨ua, ub, FA, FB, eC, -⟩ := id LJ
      injection eC with eC
      subst eC
      have ht := turns_row9 w5 (w.heap.size + 1 + 1 + 1) #[ua, ub]
      have R2 := R.setRow #[ua, ub]
      have L2 := Lib.hid ((keepsLJ _).sub ((keepsLJ _).turn LJ ht (fun b hb e => by have := hb.1; omega)) (F' := Iv w.heap.size (w5.setRow (w.heap.size + 1 + 1 + 1) #[ua, ub]).heap.size) (fun b hb => ⟨by have := hb.1; omega, by rw [size_setRow]; exact hb.2⟩))
      have E := Lib.hid (ht.below (bel_trans hb0 HB) (fun b hb => by omega))
      obtain ⟨r0, r1⟩ := R2.two
      clear R2 ht LJ
      go_wp2_with (refine wpList_store_row rfl 45 _ _ rfl (w.heap.size + 1 + 1 + 1) _ rfl rfl 45 #[.slice none 0 0, .slice none 0 0] R JS.out O.out.1.symm O.out.2 ?_)
      exact bodyPost_ret (v := .tuple #[.agg #[ua, ub], .bool true]) (by simp [results, Tryz.results27, go_sem, r0, r1]) rfl ⟨_, by rw [HD.out], by rw [HD.out]; exact L2.out, E.out⟩

end Go.Proofs.YtmooajppfjglaaaGreat

/- A row of records of one's own, k of a list laid into it; no conditions. -/
namespace Go.Proofs.YtmooajppfjglaaaGreat
open Go Go.RowKit Go.Deep

/-- k records of a list are laid: a row of one's own, the records' lists each in blocks of its own, all behind base. -/
structure RowK (base : Nat) (wr : World) (ds : List RecD) (k g cap : Nat) (ms : List (RecD × Value)) (Fs : Nat → Nat → Prop) : Prop where
  own : wr.ownsRow base 42 9 (.slice (some ⟨g, 0, none⟩) k cap) k (flatC ms)
  map : ms.map (·.1) = ds.take k
  cert : ∀ i (h : i < ms.length), OwnP wr (Fs i) (ms[i]).2 (ms[i]).1.ps
  far : ∀ i, i < k → ∀ b, Fs i b → base ≤ b ∧ b < wr.heap.size ∧ b ≠ g
  two : ∀ i j, i < k → j < k → i ≠ j → ∀ b, Fs i b → ¬ Fs j b
theorem CopyK.row {w wr : World} {ds : List RecD} {k g cap : Nat} {ms : List (RecD × Value)} {Fs : Nat → Nat → Prop} (h : CopyK w wr ds k g cap ms Fs) : RowK w.heap.size wr ds k g cap ms Fs := ⟨h.own, h.map, h.cert, h.far, h.two⟩
theorem RowK.gl {base : Nat} {wr : World} {ds : List RecD} {k g cap : Nat} {ms : List (RecD × Value)} {Fs : Nat → Nat → Prop} (h : RowK base wr ds k g cap ms Fs) : base ≤ g ∧ g < wr.heap.size := h.own.lt g rfl
theorem RowK.len {base : Nat} {wr : World} {ds : List RecD} {k g cap : Nat} {ms : List (RecD × Value)} {Fs : Nat → Nat → Prop} (h : RowK base wr ds k g cap ms Fs) : ms.length = k := by
  have h1 := h.own.1
  rw [flatC_len] at h1
  omega
theorem RowK.turn {base : Nat} {wr w' : World} {ds : List RecD} {k g cap : Nat} {ms : List (RecD × Value)} {Fs : Nat → Nat → Prop} {T : Nat → Prop} (h : RowK base wr ds k g cap ms Fs) (ht : Turns T wr w') (hT : ∀ b, T b → b < base) : RowK base w' ds k g cap ms Fs := by
  obtain ⟨g1, g2⟩ := h.gl
  refine ⟨⟨h.own.1, ?_⟩, h.map, fun i hi => (h.cert i hi).turn ht (fun b hb hb2 => by have := hT b hb2; have := (h.far i (by rw [h.len] at hi; exact hi) b hb).1; omega), fun i hi b hb => ⟨(h.far i hi b hb).1, Nat.lt_of_lt_of_le (h.far i hi b hb).2.1 ht.size, (h.far i hi b hb).2.2⟩, h.two⟩
  rcases h.own.2 with ⟨e, _⟩ | ⟨g', cap', cur, e, hb, hg, h1, h2, h3, h4⟩
  · cases e
  · injection e with e1 _ e3
    injection e1 with e1
    injection e1 with e1 _ _
    subst e1 e3
    exact .inr ⟨g, cap, cur, rfl, hb, (ht.block g g2 (fun hb => by have := hT g hb; omega)).trans hg, h1, h2, h3, h4⟩
theorem RowK.later {base : Nat} {wr w' : World} {ds : List RecD} {k g cap : Nat} {ms : List (RecD × Value)} {Fs : Nat → Nat → Prop} (h : RowK base wr ds k g cap ms Fs) (hb : Below wr.heap.size wr w') : RowK base w' ds k g cap ms Fs := h.turn (T := fun _ => False) (Turns.of_below hb) (fun _ h => h.elim)
theorem RowK.more {base : Nat} {wr : World} {ds : List RecD} {g cap : Nat} {ms : List (RecD × Value)} {Fs : Nat → Nat → Prop} (h : RowK base wr ds ds.length g cap ms Fs) (es : List RecD) : RowK base wr (ds ++ es) ds.length g cap ms Fs :=
  ⟨h.own, by rw [h.map, List.take_length, List.take_left], h.cert, h.far, h.two⟩
/-- The next one: its list was copied (w2), behind it it went into the row (w3). -/
theorem RowK.next {base : Nat} {wr w2 w3 : World} {ds : List RecD} {k g cap g' cap' : Nat} {ms : List (RecD × Value)} {Fs : Nat → Nat → Prop} {u : Value} (h : RowK base wr ds k g cap ms Fs) (hk : k < ds.length) (hb : Below wr.heap.size wr w2) (hu : OwnP w2 (Iv wr.heap.size w2.heap.size) u (ds[k]).ps)
    (hown : w3.ownsRow base 42 9 (.slice (some ⟨g', 0, none⟩) (k + 1) cap') (k + 1) (flatC (ms ++ [(ds[k], u)]))) (hg : w2.grownBy w3 (some g)) (hl : g' = g ∨ w2.heap.size ≤ g') :
    RowK base w3 ds (k + 1) g' cap' (ms ++ [(ds[k], u)]) (fun i => if i = k then Iv wr.heap.size w2.heap.size else Fs i) := by
  have hlen := h.len
  obtain ⟨g1, g2⟩ := h.gl
  have hs := hb.size
  have hs3 := hg.size
  have ht := Turns.of_grown hg
  refine ⟨hown, ?_, fun i hi => ?_, fun i hi b hbi => ?_, fun i j hi hj hij b hbi hbj => ?_⟩
  · rw [List.map_append, h.map, List.take_succ_eq_append_getElem hk]
    rfl
  · rw [List.length_append, hlen] at hi
    by_cases e : i = k
    · subst e
      simp only [if_true]
      rw [List.getElem_append_right (by omega)]
      simp only [hlen, Nat.sub_self, List.getElem_cons_zero]
      exact hu.turn ht (fun b hb e => by have := hb.1; omega)
    · have hik : i < k := by simp at hi; omega
      simp only [if_neg e]
      rw [List.getElem_append_left (by omega)]
      exact (OwnP.turn (h.cert i (by omega)) (T := fun _ => False) (Turns.of_below hb) (fun _ _ h => h)).turn ht (fun b hb e => (h.far i hik b hb).2.2 e)
  · by_cases e : i = k
    · simp only [if_pos e] at hbi
      have h1 := hbi.1
      have h2 := hbi.2
      refine ⟨by omega, by omega, ?_⟩
      omega
    · simp only [if_neg e] at hbi
      have := h.far i (by omega) b hbi
      refine ⟨this.1, by omega, by omega⟩
  · by_cases e : i = k
    · by_cases e2 : j = k
      · omega
      · simp only [if_pos e] at hbi
        simp only [if_neg e2] at hbj
        have := h.far j (by omega) b hbj
        have := hbi.1
        omega
    · simp only [if_neg e] at hbi
      by_cases e2 : j = k
      · simp only [if_pos e2] at hbj
        have := h.far i (by omega) b hbi
        have := hbj.1
        omega
      · simp only [if_neg e2] at hbj
        exact h.two i j (by omega) (by omega) hij b hbi hbj
theorem RowK.done {base : Nat} {wr : World} {ds : List RecD} {g cap : Nat} {ms : List (RecD × Value)} {Fs : Nat → Nat → Prop} (h : RowK base wr ds ds.length g cap ms Fs) : OwnCS ds wr (Iv base wr.heap.size) (.slice (some ⟨g, 0, none⟩) ds.length cap) := by
  have hlen := h.len
  obtain ⟨g1, g2⟩ := h.gl
  have hm := h.map
  rw [List.take_length] at hm
  have hcap : ds.length ≤ cap ∧ cap ≤ maxLen := by
    rcases h.own.2 with ⟨e, _⟩ | ⟨g', c', cur, e, _, _, h1, h2, _⟩
    · cases e
    · injection e with _ _ e
      subst e
      exact ⟨h1, h2⟩
  refine .inr ⟨g, cap, Fs, ⟨g1, g2⟩, rfl, hcap.1, hcap.2, ⟨g2, fun o => ?_, fun i hi => ?_, fun i hi b hb => (h.far i hi b hb).2.2, h.two⟩, fun i hi b hb => ⟨⟨(h.far i hi b hb).1, (h.far i hi b hb).2.1⟩, (h.far i hi b hb).2.1⟩⟩
  · rcases h.own.2 with ⟨e, _⟩ | ⟨g', c', cur, e, _, hg, _⟩
    · cases e
    · injection e with e _ _
      injection e with e
      injection e with e _ _
      subst e
      simp [World.frozen?, hg]
  · obtain ⟨hi', ed⟩ := map_at hm hi
    rw [recsK_at rfl hi, ← ed]
    refine ⟨(ms[i]).2, fun j x hx => ?_, (ms[i]).2, rfl, h.cert i hi'⟩
    have hj : j < 9 := by
      have := (List.getElem?_eq_some_iff.1 hx).1
      rwa [cells_len] at this
    rw [h.own.cellAt (i * 9 + j) (by omega), flatC_at hi' hj]
    exact hx

end Go.Proofs.YtmooajppfjglaaaGreat

/- The model's copy of a journal, its loose list as a row that can grow (written by jour_with.py); conditions: the sizes. -/
namespace Go.Proofs.YtmooajppfjglaaaGreat
open Go Go.RowKit

set_option maxRecDepth 100000 in
set_option maxHeartbeats 4000000 in
theorem l10CopyK_is {d : JourD} {w : World} {F : Nat → Prop} {C : Array Value} (h : AtS9 d w F (.agg C)) (hsk : totC d.ks ≤ 1048576) (hsl : totC d.ls ≤ 1048576) :
    Calls Tryz.prog 81 #[.agg C] w fun e w' => ∃ (GK ck GL cl : Nat) (ms : List (RecD × Value)) (Fs : Nat → Nat → Prop) (lo : Nat), e = .returned (.agg #[.slice (some ⟨GK, 0, none⟩) d.ks.length ck, .slice (some ⟨GL, 0, none⟩) d.ls.length cl]) ∧ OwnCS d.ks w' (Iv w.heap.size lo) (.slice (some ⟨GK, 0, none⟩) d.ks.length ck) ∧ RowK lo w' d.ls d.ls.length GL cl ms Fs ∧ w.heap.size ≤ lo ∧ Below w.heap.size w w' := by
  obtain ⟨u1, u2, e, hk, hl⟩ := h
  injection e with e
  subst e
  obtain ⟨A1, c1, rfl, -, -⟩ := hk.at
  obtain ⟨A2, c2, rfl, -, -⟩ := hl.at
  obtain ⟨n1, hn1⟩ : ∃ n, d.ks.length = n := ⟨_, rfl⟩
  obtain ⟨n2, hn2⟩ : ∃ n, d.ls.length = n := ⟨_, rfl⟩
  have hk0 : ListS d.ks w F (.slice A1 n1 c1) := by rw [← hn1]; exact hk
  have hl0 : ListS d.ls w F (.slice A2 n2 c2) := by rw [← hn2]; exact hl
  rw [hn1, hn2]
  have HN1 := Lib.hid hn1
  have HN2 := Lib.hid hn2
  clear hk hl hn1 hn2
  have hb0 := bel_trans (bel_alloc w (.cells #[.slice A1 n1 c1, .slice A2 n2 c2] 45)) (bel_alloc _ (.cells #[.slice none 0 0, .slice none 0 0] 45))
  have J := (Box.new w 45 #[.slice A1 n1 c1, .slice A2 n2 c2]).alloc (.cells #[.slice none 0 0, .slice none 0 0] 45)
  have R := Box.new (w.alloc (.cells #[.slice A1 n1 c1, .slice A2 n2 c2] 45)) 45 #[.slice none 0 0, .slice none 0 0]
  simp only [World.size_alloc] at R
  have HK := Lib.hid (hk0.later hb0)
  have HLL := Lib.hid (hl0.later hb0)
  clear hk0 hl0
  go_enter Tryz.func81, Tryz.ntmps81
  go_upto_region 1 with fail
  generalize ((w.alloc _).alloc _ : World) = w0 at hb0 J R HK HLL ⊢
  have hw0 := hb0.size
  have hR0 := R.lt
  have HB := Below.refl w0.heap.size w0
  refine wp_region_sink 8 (fun w' => Box w' w.heap.size 45 #[.slice A1 n1 c1, .slice A2 n2 c2]) (by kernel_rfl) J (fun hH => ?_)
  have hb := (Below.refl w0.heap.size w0).drew
  replace HB := bel_trans HB hb
  replace J := J.later hb J.lt
  replace R := R.later hb R.lt
  clear hb
  generalize w0.drew = w3 at J R HB hH ⊢
  have hs3 := HB.size
  refine wpAnyE_pure (i := 0) (v := ?vp0) (by simp only [List.getElem?_toArray, List.getElem?_cons_zero]; rfl) (by kernel_rfl) (by kernel_rfl) (by kernel_rfl) (by exact fun _ _ _ h => h) (by kernel_rfl) (Or.inl ⟨by rfl, ?yp0⟩) hH ?rp0
  case yp0 => (intro w' hSw; (try dsimp only at hSw); go_simp; try with_reducible rfl)
  try simp only [Act.put, List.setIfInBounds_toArray, List.set_cons_zero, List.set_cons_succ]
  refine wpAnyE_takeS (i := 1) (v := (.slice A1 n1 c1)) (by simp only [List.getElem?_toArray, List.getElem?_cons_succ, List.getElem?_cons_zero]; rfl) (by kernel_rfl) (by kernel_rfl) (by kernel_rfl) (by exact fun _ _ _ h => h) (by kernel_rfl) ?yc1 hH ?_
  case yc1 => exact .inl ⟨(by first | rfl | simp [Region.wanted, yielded] | (simp [Region.wanted, yielded, Act.put] <;> omega)), fun w' hSw => by (try dsimp only at hSw); have hc := (Box.two hSw).1; go_simp; try with_reducible rfl⟩
  try simp only [Act.put, List.setIfInBounds_toArray, List.set_cons_zero, List.set_cons_succ]
  refine wpAnyE_pure (i := 3) (v := ?vp2) (by simp only [List.getElem?_toArray, List.getElem?_cons_succ, List.getElem?_cons_zero]; rfl) (by kernel_rfl) (by kernel_rfl) (by kernel_rfl) (by exact fun _ _ _ h => h) (by kernel_rfl) (Or.inl ⟨by rfl, ?yp2⟩) hH ?rp2
  case yp2 => (intro w' hSw; (try dsimp only at hSw); go_simp; try with_reducible rfl)
  try simp only [Act.put, List.setIfInBounds_toArray, List.set_cons_zero, List.set_cons_succ]
  refine wpAnyE_takeS (i := 4) (v := (.slice A2 n2 c2)) (by simp only [List.getElem?_toArray, List.getElem?_cons_succ, List.getElem?_cons_zero]; rfl) (by kernel_rfl) (by kernel_rfl) (by kernel_rfl) (by exact fun _ _ _ h => h) (by kernel_rfl) ?yc3 hH ?_
  case yc3 => exact .inl ⟨(by first | rfl | simp [Region.wanted, yielded] | (simp [Region.wanted, yielded, Act.put] <;> omega)), fun w' hSw => by (try dsimp only at hSw); have hc := (Box.two hSw).2; go_simp; try with_reducible rfl⟩
  try simp only [Act.put, List.setIfInBounds_toArray, List.set_cons_zero, List.set_cons_succ]
  refine wpAnyE_one (i := 2) (by kernel_rfl) (by simp only [List.getElem?_toArray, List.getElem?_cons_succ, List.getElem?_cons_zero]; rfl) (fun K hK => ?_)
  go_simp
  refine (l10Recs_is (HK.out.later HB) (by omega)).mono ?_
  rintro e w4 ⟨GK, ck, rfl, OK, hb⟩
  have sk := hb.size
  replace J := J.later hb J.lt
  replace R := R.later hb R.lt
  replace HB := bel_trans HB hb
  clear hb
  clear hH
  refine hK.out _ _ J (fun hH => ?_)
  clear hK K
  try simp only [Act.put, List.setIfInBounds_toArray, List.set_cons_zero, List.set_cons_succ]
  refine wpAnyE_one (i := 5) (by kernel_rfl) (by simp only [List.getElem?_toArray, List.getElem?_cons_succ, List.getElem?_cons_zero]; rfl) (fun K hK => ?_)
  go_simp
  refine (l10RecsK_is (HLL.out.later HB) (by omega)).mono ?_
  rintro e w5 ⟨GL, cl, ms, Fs, rfl, KL⟩
  have hb := KL.bel
  have OL := KL.row
  have h45 := hb.size
  have sl := hb.size
  replace J := J.later hb J.lt
  replace R := R.later hb R.lt
  replace HB := bel_trans HB hb
  replace OK := OK.lt.later hb
  clear hb
  clear hH
  refine hK.out _ _ J (fun hH => ?_)
  clear hK K
  try simp only [Act.put, List.setIfInBounds_toArray, List.set_cons_zero, List.set_cons_succ]
  refine wpAnyE_pure (i := 6) (v := ?vbk) (by simp only [List.getElem?_toArray, List.getElem?_cons_succ, List.getElem?_cons_zero]; rfl) (by kernel_rfl) (by kernel_rfl) (by kernel_rfl) (by exact fun _ _ _ h => h) (by kernel_rfl) (Or.inl ⟨by rfl, ?ybk⟩) hH ?rbk
  case ybk => (intro w' hSw; (try dsimp only at hSw); go_simp; try with_reducible rfl)
  try simp only [Act.put, List.setIfInBounds_toArray, List.set_cons_zero, List.set_cons_succ]
  refine wpAnyE_end (i := 7) (by kernel_rfl) (by simp only [List.getElem?_toArray, List.getElem?_cons_succ, List.getElem?_cons_zero]; rfl) (by kernel_rfl) (fun K hK => ?_)
  rw [if_pos (by first | rfl | kernel_rfl | simp [Region.wanted, yielded])]
  have ht := turns_row9 w5 (w.heap.size + 1) #[.slice (some ⟨GK, 0, none⟩) d.ks.length ck, .slice (some ⟨GL, 0, none⟩) d.ls.length cl]
  refine wp_store_row 45 _ _ rfl (w.heap.size + 1) _ rfl rfl 45 #[.slice none 0 0, .slice none 0 0] R (by kernel_rfl) rfl (by simp [Value.oneCell']) ?_
  refine hK.out _ _ (J.turn ht (by omega)) ?_
  clear hK K hH
  try simp only [Act.put]
  have R2 := R.setRow #[.slice (some ⟨GK, 0, none⟩) d.ks.length ck, .slice (some ⟨GL, 0, none⟩) d.ls.length cl]
  have P1 := OK.turn ht (fun b hb => by have := hb.1.1; omega)
  have P2 := OL.turn ht (fun b hb => by have hb : b = w.heap.size + 1 := hb; omega)
  have hsz5 := ht.size
  have E := Lib.hid (ht.below (bel_trans hb0 HB) (fun b hb => by omega))
  clear R J ht
  generalize (w5.setRow _ _ : World) = w7 at R2 P1 P2 E hsz5 ⊢
  obtain ⟨r0, r1⟩ := R2.two
  have LJ := Lib.hid (OwnCS.sub P1 (F' := Iv w.heap.size w4.heap.size) (fun b hb => ⟨by have := hb.1.1; omega, hb.1.2⟩))
  have LK := Lib.hid P2
  have hw4 : w.heap.size ≤ w4.heap.size := by omega
  clear R2 P1 P2 OK OL KL
  go_wp2
  exact bodyPost_ret (v := .agg #[.slice (some ⟨GK, 0, none⟩) d.ks.length ck, .slice (some ⟨GL, 0, none⟩) d.ls.length cl]) (by simp [results, Tryz.results81, go_sem, r0, r1]) rfl ⟨GK, ck, GL, cl, ms, Fs, w4.heap.size, by rw [HN1.out, HN2.out], by have h := LJ.out; rw [HN1.out] at h; exact h, by have h := LK.out; rw [HN2.out] at h; exact h, hw4, E.out⟩

end Go.Proofs.YtmooajppfjglaaaGreat

namespace Go.Proofs.YtmooajppfjglaaaGreat
open Go Go.RowKit

theorem jok_snoc {g : GrpD} {d : JourD} {r : RecD} (h : jokD g d = true) (hr : r.r1 = ((d.ks.length + d.ls.length : Nat) : Int) + 1) : jokD g ⟨d.ks, d.ls ++ [r]⟩ = rokD g r := by
  have hl : (d.ks ++ (d.ls ++ [r])).length = d.ks.length + d.ls.length + 1 := by simp [Nat.add_assoc]
  have hg : (d.ks ++ (d.ls ++ [r]))[d.ks.length + d.ls.length]'(by omega) = r := by simp
  have h1 : okG g = true ∧ allAt g (d.ks ++ d.ls) = true := by
    unfold jokD replD at h
    split at h
    · rename_i hc
      rwa [Bool.and_eq_true] at hc
    · cases h
  have hold : ∀ i, i < d.ks.length + d.ls.length → isAt g (d.ks ++ (d.ls ++ [r])) i = true := fun i hi => by
    have h2 := allAt_of h1.2 i (by rw [List.length_append]; exact hi)
    rw [isAt_lt (by rw [List.length_append]; exact hi)] at h2
    rw [isAt_lt (by omega)]
    have e : (d.ks ++ (d.ls ++ [r]))[i]'(by omega) = (d.ks ++ d.ls)[i]'(by rw [List.length_append]; exact hi) := by
      simp only [← List.append_assoc]
      rw [List.getElem_append_left (by rw [List.length_append]; exact hi)]
    rw [e]
    exact h2
  have hat : isAt g (d.ks ++ (d.ls ++ [r])) (d.ks.length + d.ls.length) = rokD g r := by
    rw [isAt_lt (by omega), hg, hr]
    simp
  have e : jokD g ⟨d.ks, d.ls ++ [r]⟩ = allAt g (d.ks ++ (d.ls ++ [r])) := by
    unfold jokD replD
    show (if okG g && allAt g (d.ks ++ (d.ls ++ [r])) then (shelves g (d.ks ++ (d.ls ++ [r])), true) else ([], false)).2 = _
    rw [h1.1, Bool.true_and]
    cases allAt g (d.ks ++ (d.ls ++ [r])) <;> rfl
  rw [e]
  cases hy : rokD g r
  · exact allAt_false (i := d.ks.length + d.ls.length) (by omega) (by rw [hat, hy])
  · refine allAt_true (fun i hi => ?_)
    rcases Nat.lt_or_ge i (d.ks.length + d.ls.length) with h2 | h2
    · exact hold i h2
    · obtain rfl : i = d.ks.length + d.ls.length := by omega
      rw [hat, hy]
theorem RowK.turn2 {base : Nat} {wr w' : World} {ds : List RecD} {k g cap : Nat} {ms : List (RecD × Value)} {Fs : Nat → Nat → Prop} {T : Nat → Prop} (h : RowK base wr ds k g cap ms Fs) (ht : Turns T wr w') (hg : ¬ T g) (hF : ∀ i, i < k → ∀ b, Fs i b → ¬ T b) : RowK base w' ds k g cap ms Fs := by
  obtain ⟨g1, g2⟩ := h.gl
  refine ⟨⟨h.own.1, ?_⟩, h.map, fun i hi => (h.cert i hi).turn ht (hF i (by rw [h.len] at hi; exact hi)), fun i hi b hb => ⟨(h.far i hi b hb).1, Nat.lt_of_lt_of_le (h.far i hi b hb).2.1 ht.size, (h.far i hi b hb).2.2⟩, h.two⟩
  rcases h.own.2 with ⟨e, _⟩ | ⟨g', cap', cur, e, hb, hgg, h1, h2, h3, h4⟩
  · cases e
  · injection e with e1 _ e3
    injection e1 with e1
    injection e1 with e1 _ _
    subst e1 e3
    exact .inr ⟨g, cap, cur, rfl, hb, (ht.block g g2 hg).trans hgg, h1, h2, h3, h4⟩

set_option maxRecDepth 100000 in
set_option maxHeartbeats 8000000 in
theorem specNoted_is {g : GrpD} {d : JourD} {w : World} {F0 F1 : Nat → Prop} {C0 C1 : Array Value} (kd sh cl t1 t2 v : Int) {u0 : Value} {cs : List (Int × Int)} (h0 : AtG g w F0 (.agg C0)) (h1 : AtS9 d w F1 (.agg C1)) (hc : Slc w u0 cs) (hs : g.sz + d.sz + cs.length ≤ 1048576) {rr : JourD × Bool} (hr : notedD g d (newD d kd sh cl t1 t2 v cs) = rr) :
    Calls Tryz.prog 28 #[.agg C0, .agg C1, .int .i64 kd, .int .i64 sh, .int .i64 cl, .agg #[.int .i64 t1, .int .i64 t2], .int .i64 v, u0] w (MadeN rr w) := by
  obtain ⟨j0, hj0, hy0, hy1, hy2⟩ := info_parts Tryz.infoRecI
  obtain ⟨u1, u2, e, hk, hl⟩ := h1
  injection e with e
  subst e
  obtain ⟨A1, c1, rfl, -, -⟩ := hk.at
  obtain ⟨A2, c2, rfl, -, -⟩ := hl.at
  obtain ⟨A0, n0, c0, rfl⟩ := slc_form hc
  have HZ := Lib.hid hr
  have hsk : totC d.ks + totC d.ls = d.sz := rfl
  obtain ⟨n1, hn1⟩ : ∃ n, d.ks.length = n := ⟨_, rfl⟩
  obtain ⟨n2, hn2⟩ : ∃ n, d.ls.length = n := ⟨_, rfl⟩
  have hk0 : ListS d.ks w F1 (.slice A1 n1 c1) := by rw [← hn1]; exact hk
  have hl0 : ListS d.ls w F1 (.slice A2 n2 c2) := by rw [← hn2]; exact hl
  rw [hn1, hn2]
  have HN1 := Lib.hid hn1
  have HN2 := Lib.hid hn2
  have hnn : n1 + n2 ≤ 1048576 := by have := totC_len d.ks; have := totC_len d.ls; omega
  obtain ⟨s, hs1, hs2⟩ : ∃ s : Nat, (n1 : Int) + (n2 : Int) = (s : Int) ∧ n1 + n2 = s := ⟨n1 + n2, by omega, rfl⟩
  have hw1 : IntKind.i64.wrap ((s : Int) + 1) = (s : Int) + 1 := IntWalk.i64_in _ (by omega)
  have hnd : newD d kd sh cl t1 t2 v cs = ⟨(s : Int) + 1, kd, sh, cl, t1, t2, v, cs, sumN ((s : Int) + 1) kd sh cl t1 t2 v cs⟩ := by unfold newD; rw [hn1, hn2, hs2]
  have HND := Lib.hid hnd
  clear hk hl hr hn1 hn2 hnd
  have J0 := Lib.hid (sizeG h0).2
  have hb0 := bel_trans (bel_trans (bel_trans (bel_alloc w (.cells C0 26)) (bel_alloc _ (.cells #[.slice A1 n1 c1, .slice A2 n2 c2] 45))) (bel_alloc _ (.cells #[.int .i64 t1, .int .i64 t2] 36))) (bel_alloc _ (.cells #[.slice none 0 0, .slice none 0 0] 45))
  have G := (((Box.new w 26 C0).alloc (.cells #[.slice A1 n1 c1, .slice A2 n2 c2] 45)).alloc (.cells #[.int .i64 t1, .int .i64 t2] 36)).alloc (.cells #[.slice none 0 0, .slice none 0 0] 45)
  have J := ((Box.new (w.alloc (.cells C0 26)) 45 #[.slice A1 n1 c1, .slice A2 n2 c2]).alloc (.cells #[.int .i64 t1, .int .i64 t2] 36)).alloc (.cells #[.slice none 0 0, .slice none 0 0] 45)
  have X := (Box.new ((w.alloc (.cells C0 26)).alloc (.cells #[.slice A1 n1 c1, .slice A2 n2 c2] 45)) 36 #[.int .i64 t1, .int .i64 t2]).alloc (.cells #[.slice none 0 0, .slice none 0 0] 45)
  have R := Box.new (((w.alloc (.cells C0 26)).alloc (.cells #[.slice A1 n1 c1, .slice A2 n2 c2] 45)).alloc (.cells #[.int .i64 t1, .int .i64 t2] 36)) 45 #[.slice none 0 0, .slice none 0 0]
  simp only [World.size_alloc] at J X R
  have H0 := Lib.hid ((keepsG g).later h0 hb0)
  have HK := Lib.hid (hk0.later hb0)
  have HLL := Lib.hid (hl0.later hb0)
  have HC := Lib.hid (hc.later hb0)
  clear h0 hk0 hl0 hc
  go_enter Tryz.func28, Tryz.ntmps28
  go_upto_region 1 with fail
  generalize ((((w.alloc _).alloc _).alloc _).alloc _ : World) = w0 at hb0 G J X R H0 HK HLL HC ⊢
  have hw0 := hb0.size
  have hR0 := R.lt
  have HB := Below.refl w0.heap.size w0
  obtain ⟨z, hz⟩ : ∃ z, jokD g d = z := ⟨_, rfl⟩
  have HJ := Lib.hid hz
  clear hz
  go_wp2_with (first | (refine wpList_load_box 26 _ rfl (w.heap.size) rfl 26 C0 G _ Tryz.underlying26 rfl J0.out (by first | rfl | simp [Region.wanted, yielded] | (simp [Region.wanted, yielded, Act.put] <;> omega)) ?_) | (refine wpList_load_box 45 _ rfl (w.heap.size + 1) rfl 45 #[.slice A1 n1 c1, .slice A2 n2 c2] J _ Tryz.underlying45 rfl (by kernel_rfl) (by first | rfl | simp [Region.wanted, yielded] | (simp [Region.wanted, yielded, Act.put] <;> omega)) ?_))
  refine (specJournalOk_is H0.out ⟨_, _, rfl, HK.out, HLL.out⟩ (by omega) HJ.out).mono ?_
  rintro e w1 ⟨rfl, hb⟩
  replace G := G.later hb G.lt
  replace J := J.later hb J.lt
  replace X := X.later hb X.lt
  replace R := R.later hb R.lt
  replace HB := bel_trans HB hb
  clear hb
  cases z
  · have HD := Lib.hid (show rr = (⟨[], []⟩, false) by rw [← HZ.out]; unfold notedD; rw [HJ.out]; rfl)
    have R2 := R.setRow #[.slice none 0 0, .slice none 0 0]
    have E := Lib.hid (((turns_row9 w1 (w.heap.size + 1 + 1 + 1) #[.slice none 0 0, .slice none 0 0]).below (bel_trans hb0 HB) (fun b hb => by omega)))
    obtain ⟨r0, r1⟩ := R2.two
    clear R2 G J X
    go_wp2_with (refine wpList_store_row rfl 45 _ _ rfl (w.heap.size + 1 + 1 + 1) _ rfl rfl 45 #[.slice none 0 0, .slice none 0 0] R (by kernel_rfl) rfl (by simp [Value.oneCell']) ?_)
    exact bodyPost_ret (v := .tuple #[.agg #[.slice none 0 0, .slice none 0 0], .bool false]) (by simp [results, Tryz.results28, go_sem, r0, r1]) rfl ⟨_, by rw [HD.out], by rw [HD.out]; exact zeroJ _ _, E.out⟩
  · skip
    have hg1 := jok_grp HJ.out
    have hw1s := HB.size
    have hkk : totC d.ks ≤ 1048576 := by omega
    have hll : totC d.ls ≤ 1048576 := by omega
    go_wp2_with (refine wpList_load_box 45 _ rfl (w.heap.size + 1) rfl 45 #[.slice A1 n1 c1, .slice A2 n2 c2] J _ Tryz.underlying45 rfl (by kernel_rfl) (by first | rfl | simp [Region.wanted, yielded] | (simp [Region.wanted, yielded, Act.put] <;> omega)) ?_)
    refine (l10CopyK_is ⟨_, _, rfl, HK.out.later HB, HLL.out.later HB⟩ hkk hll).mono ?_
    rintro e w2 ⟨GK, ck, GL, lcp, ms, Fs, lo, rfl, OK, RL, hlo, hb⟩
    rw [HN1.out] at OK ⊢
    rw [HN2.out] at RL ⊢
    replace G := G.later hb G.lt
    replace J := J.later hb J.lt
    replace X := X.later hb X.lt
    replace R := R.later hb R.lt
    replace HB := bel_trans HB hb
    clear hb
    have hFV : ∀ i, i < n2 → ∀ b, Fs i b → b < w2.heap.size := fun i hi b hb => (RL.far i hi b hb).2.1
    have hGLb := RL.gl
    have hn := bel_new_row w2 #[.slice none 0 0, .slice none 0 0] 45 #[.slice (some ⟨GK, 0, none⟩) n1 ck, .slice (some ⟨GL, 0, none⟩) n2 lcp]
    have OX := (Box.new w2 45 #[.slice none 0 0, .slice none 0 0]).setRow #[.slice (some ⟨GK, 0, none⟩) n1 ck, .slice (some ⟨GL, 0, none⟩) n2 lcp]
    have ZB := Box.new w2 45 #[.slice none 0 0, .slice none 0 0]
    replace G := G.later hn G.lt
    replace J := J.later hn J.lt
    replace X := X.later hn X.lt
    replace R := R.later hn R.lt
    replace HB := bel_trans HB hn
    replace OK := OK.later hn
    replace RL := RL.later hn
    have hw2s := hn.size
    clear hn
    go_upto_region 4 with (refine wpList_store_row rfl 45 _ _ rfl w2.heap.size _ rfl rfl 45 #[.slice none 0 0, .slice none 0 0] ZB (by kernel_rfl) rfl (by simp [Value.oneCell']) ?_)
    clear ZB
    try simp only [Act.put]
    generalize ((w2.alloc _).setRow _ _ : World) = w3 at G J X R HB OX OK RL hw2s ⊢
    generalize w2.heap.size = V at OX hFV hGLb hw2s ⊢
    have hVl := OX.lt
    refine wp_region_sink 20 (fun w' => Box w' V 45 #[.slice (some ⟨GK, 0, none⟩) n1 ck, .slice (some ⟨GL, 0, none⟩) n2 lcp] ∧ Box w' (w.heap.size + 1) 45 #[.slice A1 n1 c1, .slice A2 n2 c2] ∧ Box w' (w.heap.size + 1 + 1) 36 #[.int .i64 t1, .int .i64 t2]) (by kernel_rfl) ⟨OX, J, X⟩ (fun hH => ?_)
    have hb := (Below.refl w3.heap.size w3).drew
    replace G := G.later hb G.lt
    replace J := J.later hb J.lt
    replace X := X.later hb X.lt
    replace R := R.later hb R.lt
    replace HB := bel_trans HB hb
    replace OX := OX.later hb OX.lt
    replace OK := OK.later hb
    replace RL := RL.later hb
    clear hb
    have hszd : w3.heap.size = w3.drew.heap.size := rfl
    rw [hszd] at hVl
    clear hszd hw2s
    generalize w3.drew = w4 at G J X R HB OX OK RL hH hVl ⊢
    have hw4 := HB.size
    have hwS : IntKind.i64.wrap (s : Int) = (s : Int) := IntWalk.i64_in _ (by omega)
    have hadd : IntKind.i64.wrap ((n1 : Int) + (n2 : Int)) = (s : Int) := by rw [hs1]; exact hwS
    refine wpAnyE_pure (i := 0) (v := ?vp0) (by simp only [List.getElem?_toArray, List.getElem?_cons_zero]; rfl) (by kernel_rfl) (by kernel_rfl) (by kernel_rfl) (by exact fun _ _ _ h => h) (by kernel_rfl) (Or.inl ⟨by rfl, ?yp0⟩) hH ?rp0
    case yp0 => (intro w' hSw; (try dsimp only at hSw); go_simp; try with_reducible rfl)
    try simp only [Act.put, List.setIfInBounds_toArray, List.set_cons_zero, List.set_cons_succ]
    refine wpAnyE_take (i := 1) (v := (.slice (some ⟨GL, 0, none⟩) n2 lcp)) (by simp only [List.getElem?_toArray, List.getElem?_cons_succ, List.getElem?_cons_zero]; rfl) (by kernel_rfl) (by kernel_rfl) (by kernel_rfl) (by exact fun _ _ _ h => h) (by kernel_rfl) ?yc1 hH ?_
    case yc1 => exact .inl ⟨(by first | rfl | simp [Region.wanted, yielded] | (simp [Region.wanted, yielded, Act.put] <;> omega)), fun w' hSw => by (try dsimp only at hSw); have hc := (Box.two hSw.1).2; go_simp; try with_reducible rfl⟩
    try simp only [Act.put, List.setIfInBounds_toArray, List.set_cons_zero, List.set_cons_succ]
    refine wpAnyE_pure (i := 2) (v := ?vp2) (by simp only [List.getElem?_toArray, List.getElem?_cons_succ, List.getElem?_cons_zero]; rfl) (by kernel_rfl) (by kernel_rfl) (by kernel_rfl) (by exact fun _ _ _ h => h) (by kernel_rfl) (Or.inl ⟨by rfl, ?yp2⟩) hH ?rp2
    case yp2 => (intro w' hSw; (try dsimp only at hSw); go_simp; try with_reducible rfl)
    try simp only [Act.put, List.setIfInBounds_toArray, List.set_cons_zero, List.set_cons_succ]
    refine wpAnyE_take (i := 3) (v := (.slice A1 n1 c1)) (by simp only [List.getElem?_toArray, List.getElem?_cons_succ, List.getElem?_cons_zero]; rfl) (by kernel_rfl) (by kernel_rfl) (by kernel_rfl) (by exact fun _ _ _ h => h) (by kernel_rfl) ?yc3 hH ?_
    case yc3 => exact .inl ⟨(by first | rfl | simp [Region.wanted, yielded] | (simp [Region.wanted, yielded, Act.put] <;> omega)), fun w' hSw => by (try dsimp only at hSw); have hc := (Box.two hSw.2.1).1; go_simp; try with_reducible rfl⟩
    try simp only [Act.put, List.setIfInBounds_toArray, List.set_cons_zero, List.set_cons_succ]
    refine wpAnyE_pure (i := 4) (v := ?vp4) (by simp only [List.getElem?_toArray, List.getElem?_cons_succ, List.getElem?_cons_zero]; rfl) (by kernel_rfl) (by kernel_rfl) (by kernel_rfl) (by exact fun _ _ _ h => h) (by kernel_rfl) (Or.inl ⟨by rfl, ?yp4⟩) hH ?rp4
    case yp4 => (intro w' hSw; (try dsimp only at hSw); go_simp; try with_reducible rfl)
    try simp only [Act.put, List.setIfInBounds_toArray, List.set_cons_zero, List.set_cons_succ]
    refine wpAnyE_pure (i := 5) (v := ?vp5) (by simp only [List.getElem?_toArray, List.getElem?_cons_succ, List.getElem?_cons_zero]; rfl) (by kernel_rfl) (by kernel_rfl) (by kernel_rfl) (by exact fun _ _ _ h => h) (by kernel_rfl) (Or.inl ⟨by rfl, ?yp5⟩) hH ?rp5
    case yp5 => (intro w' hSw; (try dsimp only at hSw); go_simp; try with_reducible rfl)
    try simp only [Act.put, List.setIfInBounds_toArray, List.set_cons_zero, List.set_cons_succ]
    refine wpAnyE_take (i := 6) (v := (.slice A2 n2 c2)) (by simp only [List.getElem?_toArray, List.getElem?_cons_succ, List.getElem?_cons_zero]; rfl) (by kernel_rfl) (by kernel_rfl) (by kernel_rfl) (by exact fun _ _ _ h => h) (by kernel_rfl) ?yc6 hH ?_
    case yc6 => exact .inl ⟨(by first | rfl | simp [Region.wanted, yielded] | (simp [Region.wanted, yielded, Act.put] <;> omega)), fun w' hSw => by (try dsimp only at hSw); have hc := (Box.two hSw.2.1).2; go_simp; try with_reducible rfl⟩
    try simp only [Act.put, List.setIfInBounds_toArray, List.set_cons_zero, List.set_cons_succ]
    refine wpAnyE_pure (i := 7) (v := ?vp7) (by simp only [List.getElem?_toArray, List.getElem?_cons_succ, List.getElem?_cons_zero]; rfl) (by kernel_rfl) (by kernel_rfl) (by kernel_rfl) (by exact fun _ _ _ h => h) (by kernel_rfl) (Or.inl ⟨by rfl, ?yp7⟩) hH ?rp7
    case yp7 => (intro w' hSw; (try dsimp only at hSw); go_simp; try with_reducible rfl)
    try simp only [Act.put, List.setIfInBounds_toArray, List.set_cons_zero, List.set_cons_succ]
    refine wpAnyE_pure (i := 8) (v := ?vp8) (by simp only [List.getElem?_toArray, List.getElem?_cons_succ, List.getElem?_cons_zero]; rfl) (by kernel_rfl) (by kernel_rfl) (by kernel_rfl) (by exact fun _ _ _ h => h) (by kernel_rfl) (Or.inl ⟨by rfl, ?yp8⟩) hH ?rp8
    case yp8 => (intro w' hSw; (try dsimp only at hSw); go_simp; try with_reducible rfl)
    try simp only [Act.put, List.setIfInBounds_toArray, List.set_cons_zero, List.set_cons_succ]
    refine wpAnyE_pure (i := 9) (v := ?vp9) (by simp only [List.getElem?_toArray, List.getElem?_cons_succ, List.getElem?_cons_zero]; rfl) (by kernel_rfl) (by kernel_rfl) (by kernel_rfl) (by exact fun _ _ _ h => h) (by kernel_rfl) (Or.inl ⟨by rfl, ?yp9⟩) hH ?rp9
    case yp9 => (intro w' hSw; (try dsimp only at hSw); go_simp; try with_reducible rfl)
    try simp only [Act.put, List.setIfInBounds_toArray, List.set_cons_zero, List.set_cons_succ]
    refine wpAnyE_pure (i := 10) (v := ?vp10) (by simp only [List.getElem?_toArray, List.getElem?_cons_succ, List.getElem?_cons_zero]; rfl) (by kernel_rfl) (by kernel_rfl) (by kernel_rfl) (by exact fun _ _ _ h => h) (by kernel_rfl) (Or.inl ⟨by rfl, ?yp10⟩) hH ?rp10
    case yp10 => (intro w' hSw; (try dsimp only at hSw); go_simp; try with_reducible rfl)
    try simp only [Act.put, List.setIfInBounds_toArray, List.set_cons_zero, List.set_cons_succ]
    refine wpAnyE_pure (i := 11) (v := ?vp11) (by simp only [List.getElem?_toArray, List.getElem?_cons_succ, List.getElem?_cons_zero]; rfl) (by kernel_rfl) (by kernel_rfl) (by kernel_rfl) (by exact fun _ _ _ h => h) (by kernel_rfl) (Or.inl ⟨by rfl, ?yp11⟩) hH ?rp11
    case yp11 => (intro w' hSw; (try dsimp only at hSw); go_simp; try with_reducible rfl)
    try simp only [Act.put, List.setIfInBounds_toArray, List.set_cons_zero, List.set_cons_succ]
    refine wpAnyE_pure (i := 12) (v := ?vp12) (by simp only [List.getElem?_toArray, List.getElem?_cons_succ, List.getElem?_cons_zero]; rfl) (by kernel_rfl) (by kernel_rfl) (by kernel_rfl) (by exact fun _ _ _ h => h) (by kernel_rfl) (Or.inl ⟨by rfl, ?yp12⟩) hH ?rp12
    case yp12 => (intro w' hSw; (try dsimp only at hSw); go_simp; try with_reducible rfl)
    try simp only [Act.put, List.setIfInBounds_toArray, List.set_cons_zero, List.set_cons_succ]
    refine wpAnyE_take (i := 13) (v := .agg #[.int .i64 t1, .int .i64 t2]) (by simp only [List.getElem?_toArray, List.getElem?_cons_succ, List.getElem?_cons_zero]; rfl) (by kernel_rfl) (by kernel_rfl) (by kernel_rfl) (by exact fun _ _ _ h => h) (by kernel_rfl) ?yx hH ?_
    case yx => exact yields_box 36 _ rfl (w.heap.size + 1 + 1) rfl 36 #[.int .i64 t1, .int .i64 t2] (fun _ h => h.2.2) _ Tryz.underlying36 rfl (by kernel_rfl) (by first | rfl | simp [Region.wanted, yielded] | (simp [Region.wanted, yielded, Act.put] <;> omega))
    try simp only [Act.put, List.setIfInBounds_toArray, List.set_cons_zero, List.set_cons_succ]
    refine wpAnyE_pure (i := 14) (v := ?vp14) (by simp only [List.getElem?_toArray, List.getElem?_cons_succ, List.getElem?_cons_zero]; rfl) (by kernel_rfl) (by kernel_rfl) (by kernel_rfl) (by exact fun _ _ _ h => h) (by kernel_rfl) (Or.inl ⟨by rfl, ?yp14⟩) hH ?rp14
    case yp14 => (intro w' hSw; (try dsimp only at hSw); go_simp; try with_reducible rfl)
    try simp only [Act.put, List.setIfInBounds_toArray, List.set_cons_zero, List.set_cons_succ]
    refine wpAnyE_pure (i := 15) (v := ?vp15) (by simp only [List.getElem?_toArray, List.getElem?_cons_succ, List.getElem?_cons_zero]; rfl) (by kernel_rfl) (by kernel_rfl) (by kernel_rfl) (by exact fun _ _ _ h => h) (by kernel_rfl) (Or.inl ⟨by rfl, ?yp15⟩) hH ?rp15
    case yp15 => (intro w' hSw; (try dsimp only at hSw); go_simp; try with_reducible rfl)
    try simp only [Act.put, List.setIfInBounds_toArray, List.set_cons_zero, List.set_cons_succ]
    refine wpAnyE_one (i := 16) (by kernel_rfl) (by simp only [List.getElem?_toArray, List.getElem?_cons_succ, List.getElem?_cons_zero]; rfl) (fun K hK => ?_)
    go_simp
    refine (specNewRec_is ((s : Int) + 1) kd sh cl t1 t2 v _ cs w4 (by omega) (HC.out.later HB)).mono ?_
    rintro e w5 ⟨CR, rfl, hL, hb⟩
    rw [← HND.out] at hL
    obtain ⟨r, hr⟩ : ∃ r, newD d kd sh cl t1 t2 v cs = r := ⟨_, rfl⟩
    have hrp : r.ps = cs := by rw [← hr]; rfl
    have hr1 : r.r1 = ((d.ks.length + d.ls.length : Nat) : Int) + 1 := by rw [← hr]; rfl
    have HR1 := Lib.hid hr1
    have HZ2 := Lib.hid HZ.out
    rw [hr] at hL HZ2
    clear hr hr1 HZ HND
    have hsV := hb.size
    obtain ⟨u, eC, hO⟩ := hL
    injection eC with eC
    obtain ⟨A3, m3, c3, rfl⟩ := slc_form hO.somewhere.slc
    subst eC
    unfold RecD.cells
    have hb5 := hb
    have RL4 := Lib.hid RL
    replace G := G.later hb G.lt
    replace J := J.later hb J.lt
    replace X := X.later hb X.lt
    replace R := R.later hb R.lt
    replace HB := bel_trans HB hb
    replace OX := OX.later hb OX.lt
    replace OK := OK.later hb
    replace RL := RL.later hb
    clear hb
    clear hH
    refine hK.out _ _ ⟨OX, J, X⟩ (fun hH => ?_)
    clear hK K
    try simp only [Act.put, List.setIfInBounds_toArray, List.set_cons_zero, List.set_cons_succ]
    refine wpAnyE_one (i := 17) (by kernel_rfl) (by simp only [List.getElem?_toArray, List.getElem?_cons_succ, List.getElem?_cons_zero]; rfl) (fun K hK => ?_)
    go_simp
    have hb := bel_alloc w5 (.cells #[.int .i64 r.r1, .int .i64 r.r2, .int .i64 r.r3, .int .i64 r.r4, .int .i64 r.r5, .int .i64 r.r6, .int .i64 r.r7, .slice A3 m3 c3, .int .i64 r.r8] 42)
    have Q := Box.new w5 42 #[.int .i64 r.r1, .int .i64 r.r2, .int .i64 r.r3, .int .i64 r.r4, .int .i64 r.r5, .int .i64 r.r6, .int .i64 r.r7, .slice A3 m3 c3, .int .i64 r.r8]
    replace G := G.later hb G.lt
    replace J := J.later hb J.lt
    replace X := X.later hb X.lt
    replace R := R.later hb R.lt
    replace HB := bel_trans HB hb
    replace OX := OX.later hb OX.lt
    replace OK := OK.later hb
    replace RL := RL.later hb
    have hb6 := bel_trans hb5 hb
    have hO6 := (OwnP.turn hO (T := fun _ => False) (Turns.of_below hb) (fun _ _ h => h))
    have hq := hb.size
    clear hb hb5 hO
    clear hH
    refine hK.out _ _ ⟨OX, J, X⟩ (fun hH => ?_)
    clear hK K
    try simp only [Act.put, List.setIfInBounds_toArray, List.set_cons_zero, List.set_cons_succ]
    have hq2 : w5.heap.size < (w5.alloc (.cells #[.int .i64 r.r1, .int .i64 r.r2, .int .i64 r.r3, .int .i64 r.r4, .int .i64 r.r5, .int .i64 r.r6, .int .i64 r.r7, .slice A3 m3 c3, .int .i64 r.r8] 42)).heap.size := Q.lt
    generalize hw6 : (w5.alloc _ : World) = w6 at G J X R HB OX OK RL hH Q hb6 hO6 hq hq2 ⊢
    clear hw6
    generalize w5.heap.size = q at Q hO6 hsV hq hq2 ⊢
    have OWN := Lib.hid RL.own
    have hflat : flatC [(r, .slice A3 m3 c3)] = (#[.int .i64 r.r1, .int .i64 r.r2, .int .i64 r.r3, .int .i64 r.r4, .int .i64 r.r5, .int .i64 r.r6, .int .i64 r.r7, .slice A3 m3 c3, .int .i64 r.r8] : Array Value).toList := rfl
    have NEWS := Lib.hid (show ∀ j x, (flatC [(r, .slice A3 m3 c3)])[j]? = some x → w6.cell? ((⟨q, 0, none⟩ : Addr).add j) = some x from fun j x hj => by
      rw [hflat] at hj
      rw [show (⟨q, 0, none⟩ : Addr).add j = ⟨q, j, none⟩ by unfold Addr.add; split <;> simp_all]
      rw [Q.cell j]
      simpa using hj)
    have ONE := Lib.hid (show ∀ x ∈ flatC [(r, .slice A3 m3 c3)], x.oneCell' = true from flatC_one (fun p hp => by rw [List.mem_singleton.1 hp]; rfl))
    clear hflat
    have hlo6 : lo ≤ w6.heap.size := by omega
    refine wpAnyE_one (i := 18) (by kernel_rfl) (by simp only [List.getElem?_toArray, List.getElem?_cons_succ, List.getElem?_cons_zero]; rfl) (fun K hK => ?_)
    refine step_append_lies _ (by rfl) _ _ _ (by rfl) lo 42 j0 _ 9 88 Tryz.underlying27 hj0 hy0 hy1 hy2 rfl (by omega) (.slice (some ⟨GL, 0, none⟩) n2 lcp) n2 (flatC ms) (by rfl) OWN.out ⟨q, 0, none⟩ 1 1 (flatC [(r, .slice A3 m3 c3)]) (by rfl) rfl NEWS.out ONE.out (by omega) (by unfold maxLen; omega) (by omega) hlo6 _ rfl ?_
    intro g' cap' w7 hown hgrow hlie hlg
    replace hgrow : w6.grownBy w7 (some GL) := hgrow
    have hlie2 : g' = GL ∨ w6.heap.size ≤ g' := by
      rcases hlie with h | h
      · injection h with h
        exact .inl h.symm
      · exact .inr (by rw [h]; exact Nat.le_refl _)
    rw [← flatC_app] at hown
    have hk9 : n2 < (d.ls ++ [r]).length := by rw [List.length_append, HN2.out]; simp
    have e9 : (d.ls ++ [r])[n2] = r := by rw [List.getElem_append_right (by rw [HN2.out]; exact Nat.le_refl _)]; simp [HN2.out]
    have RM : RowK lo w4 (d.ls ++ [r]) n2 GL lcp ms Fs := by
      have h := RL4.out
      rw [← HN2.out] at h
      have h2 := h.more [r]
      rw [HN2.out] at h2
      exact h2
    have nx := RM.next (w2 := w6) (w3 := w7) (g' := g') (cap' := cap') (u := .slice A3 m3 c3) hk9 hb6
    rw [e9] at nx
    have RN := nx (hO6.sub (fun b hb => ⟨hb.1, by have := hb.2; omega⟩)) hown hgrow hlie2
    clear nx RM hown hlie hO6 OWN NEWS ONE Q RL e9 hk9
    have ht := Turns.of_grown hgrow
    have hGX : w.heap.size + 1 + 1 + 1 < GL := by omega
    replace G := G.turn ht (by omega)
    replace J := J.turn ht (by omega)
    replace X := X.turn ht (by omega)
    replace R := R.turn ht (by omega)
    replace OX := OX.turn ht (by omega)
    replace OK := OK.turn ht (fun b hb e => by have h1 := hb.2; have e : b = GL := e; omega)
    have hg67 := hgrow.size
    replace HB := bel_grown HB hgrow (by omega)
    clear ht hgrow
    clear hH
    refine hK.out _ _ ⟨OX, J, X⟩ (fun hH => ?_)
    clear hK K
    try simp only [Act.put, List.setIfInBounds_toArray, List.set_cons_zero, List.set_cons_succ]
    clear hlg
    refine wpAnyE_pure (i := 19) (v := ?vp19) (by simp only [List.getElem?_toArray, List.getElem?_cons_succ, List.getElem?_cons_zero]; rfl) (by kernel_rfl) (by kernel_rfl) (by kernel_rfl) (by exact fun _ _ _ h => h) (by kernel_rfl) (Or.inl ⟨by rfl, ?yp19⟩) hH ?rp19
    case yp19 => (intro w' hSw; (try dsimp only at hSw); go_simp; try with_reducible rfl)
    try simp only [Act.put, List.setIfInBounds_toArray, List.set_cons_zero, List.set_cons_succ]
    refine wpAnyE_last (by kernel_rfl) (by simp only [List.getElem?_toArray, List.getElem?_cons_succ, List.getElem?_cons_zero]; rfl) (by kernel_rfl) (fun K hK => ?_)
    rw [if_pos (by first | rfl | kernel_rfl | simp [Region.wanted, yielded])]
    obtain ⟨v0, v1⟩ := OX.two
    have fv := OX.frozen
    go_simp
    refine hK.out _ _ ?_
    clear hK K hH v0 v1 fv
    have tv := turns_setCells9.turns_cell9 w7 V 1 (.slice (some ⟨g', 0, none⟩) (n2 + 1) cap')
    have OX2 : Box (w7.setCell ⟨V, 1, none⟩ (.slice (some ⟨g', 0, none⟩) (n2 + 1) cap')) V 45 #[.slice (some ⟨GK, 0, none⟩) n1 ck, .slice (some ⟨g', 0, none⟩) (n2 + 1) cap'] := OX.set 1 _
    replace G := G.turn tv (by omega)
    replace J := J.turn tv (by omega)
    replace X := X.turn tv (by omega)
    replace R := R.turn tv (by omega)
    replace OK := OK.turn tv (fun b hb e => by have h1 := hb.2; have e : b = V := e; omega)
    have RN2 := RN.turn2 tv (by omega) (fun i hi b hb e => by
      have e : b = V := e
      by_cases ei : i = n2
      · simp only [if_pos ei] at hb
        have := hb.1
        omega
      · simp only [if_neg ei] at hb
        have := hFV i (by omega) b hb
        omega)
    have EV := HB.setCell (p := ⟨V, 1, none⟩) (by show w0.heap.size ≤ V; omega) (.slice (some ⟨g', 0, none⟩) (n2 + 1) cap')
    have hL9 : (d.ls ++ [r]).length = n2 + 1 := by rw [List.length_append, HN2.out]; simp
    rw [← hL9] at RN2
    have LL := RN2.done
    rw [hL9] at LL
    clear RN RN2 OX HB tv hFV
    generalize (w7.setCell _ _ : World) = w8 at G J X R OK OX2 EV LL ⊢
    have hw8 := EV.size
    have hV8 := OX2.lt
    have LJ := twoJ OK LL (fun b hb hb2 => by have h1 := hb.2; have h2 := hb2.1; omega) (F := Iv w0.heap.size w8.heap.size) (fun b hb => ⟨by have := hb.1; omega, by have := hb.2; omega⟩) (fun b hb => ⟨by have := hb.1; omega, hb.2⟩)
    clear OK LL
    obtain ⟨y, hy⟩ : ∃ y, rokD g r = y := ⟨_, rfl⟩
    have HY := Lib.hid hy
    have HJ2 := Lib.hid ((jok_snoc HJ.out HR1.out).trans hy)
    clear hy
    have hsz8 : (⟨d.ks, d.ls ++ [r]⟩ : JourD).sz ≤ 1048576 := by show totC d.ks + totC (d.ls ++ [r]) ≤ _; rw [totC_app, totC_one, hrp]; omega
    have HB := EV
    clear EV
    go_wp2_with (first | (refine wpList_load_box 26 _ rfl (w.heap.size) rfl 26 C0 G _ Tryz.underlying26 rfl J0.out (by first | rfl | simp [Region.wanted, yielded] | (simp [Region.wanted, yielded, Act.put] <;> omega)) ?_) | (refine wpList_load_box 45 _ rfl (V) rfl 45 #[.slice (some ⟨GK, 0, none⟩) n1 ck, .slice (some ⟨g', 0, none⟩) (n2 + 1) cap'] OX2 _ Tryz.underlying45 rfl (by kernel_rfl) (by first | rfl | simp [Region.wanted, yielded] | (simp [Region.wanted, yielded, Act.put] <;> omega)) ?_))
    refine (specJournalOk_is ((keepsG g).later H0.out HB) LJ.somewhere hsz8 HJ2.out).mono ?_
    rintro e w9 ⟨rfl, hb⟩
    replace G := G.later hb G.lt
    replace J := J.later hb J.lt
    replace X := X.later hb X.lt
    replace R := R.later hb R.lt
    replace HB := bel_trans HB hb
    replace OX2 := OX2.later hb OX2.lt
    replace LJ := (keepsLJ _).later LJ hb
    have hw9 := hb.size
    clear hb
    cases y
    · have HD := Lib.hid (show rr = (d, false) by rw [← HZ2.out]; unfold notedD; rw [HJ.out, HY.out]; rfl)
      clear LJ OX2
      have hw9b := HB.size
      go_wp2_with (refine wpList_load_box 45 _ rfl (w.heap.size + 1) rfl 45 #[.slice A1 n1 c1, .slice A2 n2 c2] J _ Tryz.underlying45 rfl (by kernel_rfl) (by first | rfl | simp [Region.wanted, yielded] | (simp [Region.wanted, yielded, Act.put] <;> omega)) ?_)
      refine (l10Copy_is ⟨_, _, rfl, HK.out.later HB, HLL.out.later HB⟩ hkk hll).mono ?_
      rintro e w10 ⟨C5, rfl, LJ, hb⟩
      replace G := G.later hb G.lt
      replace J := J.later hb J.lt
      replace X := X.later hb X.lt
      replace R := R.later hb R.lt
      replace HB := bel_trans HB hb
      clear hb
      have JS := Lib.hid (sizeJ LJ.at).2
      have O := Lib.hid (oneJ LJ.at)
      obtain ⟨ua, ub, FA, FB, eC, -⟩ := id LJ
      injection eC with eC
      subst eC
      have ht := turns_row9 w10 (w.heap.size + 1 + 1 + 1) #[ua, ub]
      have R2 := R.setRow #[ua, ub]
      have L2 := Lib.hid ((keepsLJ _).sub ((keepsLJ _).turn LJ ht (fun b hb e => by have := hb.1; omega)) (F' := Iv w.heap.size (w10.setRow (w.heap.size + 1 + 1 + 1) #[ua, ub]).heap.size) (fun b hb => ⟨by have := hb.1; omega, by rw [size_setRow]; exact hb.2⟩))
      have E := Lib.hid (ht.below (bel_trans hb0 HB) (fun b hb => by omega))
      obtain ⟨r0, r1⟩ := R2.two
      clear R2 ht LJ
      go_wp2_with (refine wpList_store_row rfl 45 _ _ rfl (w.heap.size + 1 + 1 + 1) _ rfl rfl 45 #[.slice none 0 0, .slice none 0 0] R JS.out O.out.1.symm O.out.2 ?_)
      exact bodyPost_ret (v := .tuple #[.agg #[ua, ub], .bool false]) (by simp [results, Tryz.results28, go_sem, r0, r1]) rfl ⟨_, by rw [HD.out], by rw [HD.out]; exact L2.out, E.out⟩
    · have HD := Lib.hid (show rr = (⟨d.ks, d.ls ++ [r]⟩, true) by rw [← HZ2.out]; unfold notedD; rw [HJ.out, HY.out]; rfl)
      have ht := turns_row9 w9 (w.heap.size + 1 + 1 + 1) #[.slice (some ⟨GK, 0, none⟩) n1 ck, .slice (some ⟨g', 0, none⟩) (n2 + 1) cap']
      have R2 := R.setRow #[.slice (some ⟨GK, 0, none⟩) n1 ck, .slice (some ⟨g', 0, none⟩) (n2 + 1) cap']
      have L2 := Lib.hid ((keepsLJ _).sub ((keepsLJ _).turn LJ ht (fun b hb e => by have := hb.1; omega)) (F' := Iv w.heap.size (w9.setRow (w.heap.size + 1 + 1 + 1) #[.slice (some ⟨GK, 0, none⟩) n1 ck, .slice (some ⟨g', 0, none⟩) (n2 + 1) cap']).heap.size) (fun b hb => ⟨by have := hb.1; omega, by rw [size_setRow]; have := hb.2; omega⟩))
      have E := Lib.hid (ht.below (bel_trans hb0 HB) (fun b hb => by omega))
      obtain ⟨r0, r1⟩ := R2.two
      clear R2 ht LJ
      go_wp2_with (first | (refine wpList_load_box 45 _ rfl (V) rfl 45 #[.slice (some ⟨GK, 0, none⟩) n1 ck, .slice (some ⟨g', 0, none⟩) (n2 + 1) cap'] OX2 _ Tryz.underlying45 rfl (by kernel_rfl) (by first | rfl | simp [Region.wanted, yielded] | (simp [Region.wanted, yielded, Act.put] <;> omega)) ?_) | (refine wpList_store_row rfl 45 _ _ rfl (w.heap.size + 1 + 1 + 1) #[.slice (some ⟨GK, 0, none⟩) n1 ck, .slice (some ⟨g', 0, none⟩) (n2 + 1) cap'] rfl rfl 45 #[.slice none 0 0, .slice none 0 0] R (by kernel_rfl) rfl (by simp [Value.oneCell']) ?_))
      exact bodyPost_ret (v := .tuple #[.agg #[.slice (some ⟨GK, 0, none⟩) n1 ck, .slice (some ⟨g', 0, none⟩) (n2 + 1) cap'], .bool true]) (by simp [results, Tryz.results28, go_sem, r0, r1]) rfl ⟨_, by rw [HD.out], by rw [HD.out]; exact L2.out, E.out⟩

end Go.Proofs.YtmooajppfjglaaaGreat
