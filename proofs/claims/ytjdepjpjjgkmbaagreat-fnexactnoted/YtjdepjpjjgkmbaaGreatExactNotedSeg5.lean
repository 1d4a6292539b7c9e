/- The laws' marks of a journal, and the look at them; conditions: the sizes. -/
import Derived.Test.YtjdepjpjjgkmbaaGreatExactNotedSeg4
import Derived.Test.YtjdepjpjjgkmbaaGreatExactNotedSeg3
import Derived.Test.YtjdepjpjjgkmbaaGreatExactNotedSeg1

/- Noted of the model: a journal with one record more, in memory of its own (written by jour_noted2.py); conditions: the sizes. -/
namespace Go.Proofs.YtjdepjpjjgkmbaaGreat
open Go Go.RowKit

theorem jok_snoc {g : GrpD} {d : JourD} {r : RecD} (h : jokD g d = true) (hr : r.r1 = ((d.ks.length + d.ls.length : Nat) : Int) + 1) : jokD g ⟨d.ks, d.ls ++ [r]⟩ = rokD g r := by
  have hl : (d.ks ++ (d.ls ++ [r])).length = d.ks.length + d.ls.length + 1 := by simp [Nat.add_assoc]
  have hg : (d.ks ++ (d.ls ++ [r]))[d.ks.length + d.ls.length]'(by omega) = r := by simp
  have h1 : okG g = true ∧ allAt g (d.ks ++ d.ls) = true := by
    unfold jokD replD at h
    split at h
    · rename_i hc
      rwa [Bool.and_eq_true] at hc
    · cases h
  have hold : ∀ i, i < d.ks.length + d.ls.length → isAt g (d.ks ++ (d.ls ++ [r])) i = true := fun i hi => by
    have h2 := allAt_of h1.2 i (by rw [List.length_append]; exact hi)
    rw [isAt_lt (by rw [List.length_append]; exact hi)] at h2
    rw [isAt_lt (by omega)]
    have e : (d.ks ++ (d.ls ++ [r]))[i]'(by omega) = (d.ks ++ d.ls)[i]'(by rw [List.length_append]; exact hi) := by
      simp only [← List.append_assoc]
      rw [List.getElem_append_left (by rw [List.length_append]; exact hi)]
    rw [e]
    exact h2
  have hat : isAt g (d.ks ++ (d.ls ++ [r])) (d.ks.length + d.ls.length) = rokD g r := by
    rw [isAt_lt (by omega), hg, hr]
    simp
  have e : jokD g ⟨d.ks, d.ls ++ [r]⟩ = allAt g (d.ks ++ (d.ls ++ [r])) := by
    unfold jokD replD
    show (if okG g && allAt g (d.ks ++ (d.ls ++ [r])) then (shelves g (d.ks ++ (d.ls ++ [r])), true) else ([], false)).2 = _
    rw [h1.1, Bool.true_and]
    cases allAt g (d.ks ++ (d.ls ++ [r])) <;> rfl
  rw [e]
  cases hy : rokD g r
  · exact allAt_false (i := d.ks.length + d.ls.length) (by omega) (by rw [hat, hy])
  · refine allAt_true (fun i hi => ?_)
    rcases Nat.lt_or_ge i (d.ks.length + d.ls.length) with h2 | h2
    · exact hold i h2
    · obtain rfl : i = d.ks.length + d.ls.length := by omega
      rw [hat, hy]
theorem RowK.turn2 {base : Nat} {wr w' : World} {ds : List RecD} {k g cap : Nat} {ms : List (RecD × Value)} {Fs : Nat → Nat → Prop} {T : Nat → Prop} (h : RowK base wr ds k g cap ms Fs) (ht : Turns T wr w') (hg : ¬ T g) (hF : ∀ i, i < k → ∀ b, Fs i b → ¬ T b) : RowK base w' ds k g cap ms Fs := by
  obtain ⟨g1, g2⟩ := h.gl
  refine ⟨⟨h.own.1, ?_⟩, h.map, fun i hi => (h.cert i hi).turn ht (hF i (by rw [h.len] at hi; exact hi)), fun i hi b hb => ⟨(h.far i hi b hb).1, Nat.lt_of_lt_of_le (h.far i hi b hb).2.1 ht.size, (h.far i hi b hb).2.2⟩, h.two⟩
  rcases h.own.2 with ⟨e, _⟩ | ⟨g', cap', cur, e, hb, hgg, h1, h2, h3, h4⟩
  · cases e
  · injection e with e1 _ e3
    injection e1 with e1
    injection e1 with e1 _ _
    subst e1 e3
    exact .inr ⟨g, cap, cur, rfl, hb, (ht.block g g2 hg).trans hgg, h1, h2, h3, h4⟩

set_option maxRecDepth 100000 in
set_option maxHeartbeats 8000000 in
theorem specNoted_is {g : GrpD} {d : JourD} {w : World} {F0 F1 : Nat → Prop} {C0 C1 : Array Value} (kd sh cl t1 t2 v : Int) {u0 : Value} {cs : List (Int × Int)} (h0 : AtG g w F0 (.agg C0)) (h1 : AtS9 d w F1 (.agg C1)) (hc : Slc w u0 cs) (hs : g.sz + d.sz + cs.length ≤ 1048576) {rr : JourD × Bool} (hr : notedD g d (newD d kd sh cl t1 t2 v cs) = rr) :
    Calls Tryz.prog 23 #[.agg C0, .agg C1, .int .i64 kd, .int .i64 sh, .int .i64 cl, .agg #[.int .i64 t1, .int .i64 t2], .int .i64 v, u0] w (MadeN rr w) := by
  obtain ⟨j0, hj0, hy0, hy1, hy2⟩ := info_parts Tryz.infoRecI
  obtain ⟨u1, u2, e, hk, hl⟩ := h1
  injection e with e
  subst e
  obtain ⟨A1, c1, rfl, -, -⟩ := hk.at
  obtain ⟨A2, c2, rfl, -, -⟩ := hl.at
  obtain ⟨A0, n0, c0, rfl⟩ := slc_form hc
  have HZ := Lib.hid hr
  have hsk : totC d.ks + totC d.ls = d.sz := rfl
  obtain ⟨n1, hn1⟩ : ∃ n, d.ks.length = n := ⟨_, rfl⟩
  obtain ⟨n2, hn2⟩ : ∃ n, d.ls.length = n := ⟨_, rfl⟩
  have hk0 : ListS d.ks w F1 (.slice A1 n1 c1) := by rw [← hn1]; exact hk
  have hl0 : ListS d.ls w F1 (.slice A2 n2 c2) := by rw [← hn2]; exact hl
  rw [hn1, hn2]
  have HN1 := Lib.hid hn1
  have HN2 := Lib.hid hn2
  have hnn : n1 + n2 ≤ 1048576 := by have := totC_len d.ks; have := totC_len d.ls; omega
  obtain ⟨s, hs1, hs2⟩ : ∃ s : Nat, (n1 : Int) + (n2 : Int) = (s : Int) ∧ n1 + n2 = s := ⟨n1 + n2, by omega, rfl⟩
  have hw1 : IntKind.i64.wrap ((s : Int) + 1) = (s : Int) + 1 := IntWalk.i64_in _ (by omega)
  have hnd : newD d kd sh cl t1 t2 v cs = ⟨(s : Int) + 1, kd, sh, cl, t1, t2, v, cs, sumN ((s : Int) + 1) kd sh cl t1 t2 v cs⟩ := by unfold newD; rw [hn1, hn2, hs2]
  have HND := Lib.hid hnd
  clear hk hl hr hn1 hn2 hnd
  have J0 := Lib.hid (sizeG h0).2
  have hb0 := bel_trans (bel_trans (bel_trans (bel_alloc w (.cells C0 26)) (bel_alloc _ (.cells #[.slice A1 n1 c1, .slice A2 n2 c2] 29))) (bel_alloc _ (.cells #[.int .i64 t1, .int .i64 t2] 39))) (bel_alloc _ (.cells #[.slice none 0 0, .slice none 0 0] 29))
  have G := (((Box.new w 26 C0).alloc (.cells #[.slice A1 n1 c1, .slice A2 n2 c2] 29)).alloc (.cells #[.int .i64 t1, .int .i64 t2] 39)).alloc (.cells #[.slice none 0 0, .slice none 0 0] 29)
  have J := ((Box.new (w.alloc (.cells C0 26)) 29 #[.slice A1 n1 c1, .slice A2 n2 c2]).alloc (.cells #[.int .i64 t1, .int .i64 t2] 39)).alloc (.cells #[.slice none 0 0, .slice none 0 0] 29)
  have X := (Box.new ((w.alloc (.cells C0 26)).alloc (.cells #[.slice A1 n1 c1, .slice A2 n2 c2] 29)) 39 #[.int .i64 t1, .int .i64 t2]).alloc (.cells #[.slice none 0 0, .slice none 0 0] 29)
  have R := Box.new (((w.alloc (.cells C0 26)).alloc (.cells #[.slice A1 n1 c1, .slice A2 n2 c2] 29)).alloc (.cells #[.int .i64 t1, .int .i64 t2] 39)) 29 #[.slice none 0 0, .slice none 0 0]
  simp only [World.size_alloc] at J X R
  have H0 := Lib.hid ((keepsG g).later h0 hb0)
  have HK := Lib.hid (hk0.later hb0)
  have HLL := Lib.hid (hl0.later hb0)
  have HC := Lib.hid (hc.later hb0)
  clear h0 hk0 hl0 hc
  go_enter Tryz.func23, Tryz.ntmps23
  go_upto_region 1 with fail
  generalize ((((w.alloc _).alloc _).alloc _).alloc _ : World) = w0 at hb0 G J X R H0 HK HLL HC ⊢
  have hw0 := hb0.size
  have hR0 := R.lt
  have HB := Below.refl w0.heap.size w0
  obtain ⟨z, hz⟩ : ∃ z, jokD g d = z := ⟨_, rfl⟩
  have HJ := Lib.hid hz
  clear hz
  go_wp2_with (first | (refine wpList_load_box 26 _ rfl (w.heap.size) rfl 26 C0 G _ Tryz.underlying26 rfl J0.out (by first | rfl | simp [Region.wanted, yielded] | (simp [Region.wanted, yielded, Act.put] <;> omega)) ?_) | (refine wpList_load_box 29 _ rfl (w.heap.size + 1) rfl 29 #[.slice A1 n1 c1, .slice A2 n2 c2] J _ Tryz.underlying29 rfl (by kernel_rfl) (by first | rfl | simp [Region.wanted, yielded] | (simp [Region.wanted, yielded, Act.put] <;> omega)) ?_))
  refine (specJournalOk_is H0.out ⟨_, _, rfl, HK.out, HLL.out⟩ (by omega) HJ.out).mono ?_
  rintro e w1 ⟨rfl, hb⟩
  replace G := G.later hb G.lt
  replace J := J.later hb J.lt
  replace X := X.later hb X.lt
  replace R := R.later hb R.lt
  replace HB := bel_trans HB hb
  clear hb
  cases z
  · have HD := Lib.hid (show rr = (⟨[], []⟩, false) by rw [← HZ.out]; unfold notedD; rw [HJ.out]; rfl)
    have R2 := R.setRow #[.slice none 0 0, .slice none 0 0]
    have E := Lib.hid (((turns_row9 w1 (w.heap.size + 1 + 1 + 1) #[.slice none 0 0, .slice none 0 0]).below (bel_trans hb0 HB) (fun b hb => by omega)))
    obtain ⟨r0, r1⟩ := R2.two
    clear R2 G J X
    go_wp2_with (refine wpList_store_row rfl 29 _ _ rfl (w.heap.size + 1 + 1 + 1) _ rfl rfl 29 #[.slice none 0 0, .slice none 0 0] R (by kernel_rfl) rfl (by simp [Value.oneCell']) ?_)
    exact bodyPost_ret (v := .tuple #[.agg #[.slice none 0 0, .slice none 0 0], .bool false]) (by simp [results, Tryz.results23, go_sem, r0, r1]) rfl ⟨_, by rw [HD.out], by rw [HD.out]; exact zeroJ _ _, E.out⟩
  · skip
    have hg1 := jok_grp HJ.out
    have hw1s := HB.size
    have hkk : totC d.ks ≤ 1048576 := by omega
    have hll : totC d.ls ≤ 1048576 := by omega
    go_wp2_with (refine wpList_load_box 29 _ rfl (w.heap.size + 1) rfl 29 #[.slice A1 n1 c1, .slice A2 n2 c2] J _ Tryz.underlying29 rfl (by kernel_rfl) (by first | rfl | simp [Region.wanted, yielded] | (simp [Region.wanted, yielded, Act.put] <;> omega)) ?_)
    refine (l10CopyK_is ⟨_, _, rfl, HK.out.later HB, HLL.out.later HB⟩ hkk hll).mono ?_
    rintro e w2 ⟨GK, ck, GL, lcp, ms, Fs, lo, rfl, OK, RL, hlo, hb⟩
    rw [HN1.out] at OK ⊢
    rw [HN2.out] at RL ⊢
    replace G := G.later hb G.lt
    replace J := J.later hb J.lt
    replace X := X.later hb X.lt
    replace R := R.later hb R.lt
    replace HB := bel_trans HB hb
    clear hb
    have hFV : ∀ i, i < n2 → ∀ b, Fs i b → b < w2.heap.size := fun i hi b hb => (RL.far i hi b hb).2.1
    have hGLb := RL.gl
    have hn := bel_new_row w2 #[.slice none 0 0, .slice none 0 0] 29 #[.slice (some ⟨GK, 0, none⟩) n1 ck, .slice (some ⟨GL, 0, none⟩) n2 lcp]
    have OX := (Box.new w2 29 #[.slice none 0 0, .slice none 0 0]).setRow #[.slice (some ⟨GK, 0, none⟩) n1 ck, .slice (some ⟨GL, 0, none⟩) n2 lcp]
    have ZB := Box.new w2 29 #[.slice none 0 0, .slice none 0 0]
    replace G := G.later hn G.lt
    replace J := J.later hn J.lt
    replace X := X.later hn X.lt
    replace R := R.later hn R.lt
    replace HB := bel_trans HB hn
    replace OK := OK.later hn
    replace RL := RL.later hn
    have hw2s := hn.size
    clear hn
    go_upto_region 4 with (refine wpList_store_row rfl 29 _ _ rfl w2.heap.size _ rfl rfl 29 #[.slice none 0 0, .slice none 0 0] ZB (by kernel_rfl) rfl (by simp [Value.oneCell']) ?_)
    clear ZB
    try simp only [Act.put]
    generalize ((w2.alloc _).setRow _ _ : World) = w3 at G J X R HB OX OK RL hw2s ⊢
    generalize w2.heap.size = V at OX hFV hGLb hw2s ⊢
    have hVl := OX.lt
    refine wp_region_sink 20 (fun w' => Box w' V 29 #[.slice (some ⟨GK, 0, none⟩) n1 ck, .slice (some ⟨GL, 0, none⟩) n2 lcp] ∧ Box w' (w.heap.size + 1) 29 #[.slice A1 n1 c1, .slice A2 n2 c2] ∧ Box w' (w.heap.size + 1 + 1) 39 #[.int .i64 t1, .int .i64 t2]) (by kernel_rfl) ⟨OX, J, X⟩ (fun hH => ?_)
    have hb := (Below.refl w3.heap.size w3).drew
    replace G := G.later hb G.lt
    replace J := J.later hb J.lt
    replace X := X.later hb X.lt
    replace R := R.later hb R.lt
    replace HB := bel_trans HB hb
    replace OX := OX.later hb OX.lt
    replace OK := OK.later hb
    replace RL := RL.later hb
    clear hb
    have hszd : w3.heap.size = w3.drew.heap.size := rfl
    rw [hszd] at hVl
    clear hszd hw2s
    generalize w3.drew = w4 at G J X R HB OX OK RL hH hVl ⊢
    have hw4 := HB.size
    have hwS : IntKind.i64.wrap (s : Int) = (s : Int) := IntWalk.i64_in _ (by omega)
    have hadd : IntKind.i64.wrap ((n1 : Int) + (n2 : Int)) = (s : Int) := by rw [hs1]; exact hwS
    refine wpAnyE_pure (i := 0) (v := ?vp0) (by simp only [List.getElem?_toArray, List.getElem?_cons_zero]; rfl) (by kernel_rfl) (by kernel_rfl) (by kernel_rfl) (by exact fun _ _ _ h => h) (by kernel_rfl) (Or.inl ⟨by rfl, ?yp0⟩) hH ?rp0
    case yp0 => (intro w' hSw; (try dsimp only at hSw); go_simp; try with_reducible rfl)
    try simp only [Act.put, List.setIfInBounds_toArray, List.set_cons_zero, List.set_cons_succ]
    refine wpAnyE_take (i := 1) (v := (.slice (some ⟨GL, 0, none⟩) n2 lcp)) (by simp only [List.getElem?_toArray, List.getElem?_cons_succ, List.getElem?_cons_zero]; rfl) (by kernel_rfl) (by kernel_rfl) (by kernel_rfl) (by exact fun _ _ _ h => h) (by kernel_rfl) ?yc1 hH ?_
    case yc1 => exact .inl ⟨(by first | rfl | simp [Region.wanted, yielded] | (simp [Region.wanted, yielded, Act.put] <;> omega)), fun w' hSw => by (try dsimp only at hSw); have hc := (Box.two hSw.1).2; go_simp; try with_reducible rfl⟩
    try simp only [Act.put, List.setIfInBounds_toArray, List.set_cons_zero, List.set_cons_succ]
    refine wpAnyE_pure (i := 2) (v := ?vp2) (by simp only [List.getElem?_toArray, List.getElem?_cons_succ, List.getElem?_cons_zero]; rfl) (by kernel_rfl) (by kernel_rfl) (by kernel_rfl) (by exact fun _ _ _ h => h) (by kernel_rfl) (Or.inl ⟨by rfl, ?yp2⟩) hH ?rp2
    case yp2 => (intro w' hSw; (try dsimp only at hSw); go_simp; try with_reducible rfl)
    try simp only [Act.put, List.setIfInBounds_toArray, List.set_cons_zero, List.set_cons_succ]
    refine wpAnyE_take (i := 3) (v := (.slice A1 n1 c1)) (by simp only [List.getElem?_toArray, List.getElem?_cons_succ, List.getElem?_cons_zero]; rfl) (by kernel_rfl) (by kernel_rfl) (by kernel_rfl) (by exact fun _ _ _ h => h) (by kernel_rfl) ?yc3 hH ?_
    case yc3 => exact .inl ⟨(by first | rfl | simp [Region.wanted, yielded] | (simp [Region.wanted, yielded, Act.put] <;> omega)), fun w' hSw => by (try dsimp only at hSw); have hc := (Box.two hSw.2.1).1; go_simp; try with_reducible rfl⟩
    try simp only [Act.put, List.setIfInBounds_toArray, List.set_cons_zero, List.set_cons_succ]
    refine wpAnyE_pure (i := 4) (v := ?vp4) (by simp only [List.getElem?_toArray, List.getElem?_cons_succ, List.getElem?_cons_zero]; rfl) (by kernel_rfl) (by kernel_rfl) (by kernel_rfl) (by exact fun _ _ _ h => h) (by kernel_rfl) (Or.inl ⟨by rfl, ?yp4⟩) hH ?rp4
    case yp4 => (intro w' hSw; (try dsimp only at hSw); go_simp; try with_reducible rfl)
    try simp only [Act.put, List.setIfInBounds_toArray, List.set_cons_zero, List.set_cons_succ]
    refine wpAnyE_pure (i := 5) (v := ?vp5) (by simp only [List.getElem?_toArray, List.getElem?_cons_succ, List.getElem?_cons_zero]; rfl) (by kernel_rfl) (by kernel_rfl) (by kernel_rfl) (by exact fun _ _ _ h => h) (by kernel_rfl) (Or.inl ⟨by rfl, ?yp5⟩) hH ?rp5
    case yp5 => (intro w' hSw; (try dsimp only at hSw); go_simp; try with_reducible rfl)
    try simp only [Act.put, List.setIfInBounds_toArray, List.set_cons_zero, List.set_cons_succ]
    refine wpAnyE_take (i := 6) (v := (.slice A2 n2 c2)) (by simp only [List.getElem?_toArray, List.getElem?_cons_succ, List.getElem?_cons_zero]; rfl) (by kernel_rfl) (by kernel_rfl) (by kernel_rfl) (by exact fun _ _ _ h => h) (by kernel_rfl) ?yc6 hH ?_
    case yc6 => exact .inl ⟨(by first | rfl | simp [Region.wanted, yielded] | (simp [Region.wanted, yielded, Act.put] <;> omega)), fun w' hSw => by (try dsimp only at hSw); have hc := (Box.two hSw.2.1).2; go_simp; try with_reducible rfl⟩
    try simp only [Act.put, List.setIfInBounds_toArray, List.set_cons_zero, List.set_cons_succ]
    refine wpAnyE_pure (i := 7) (v := ?vp7) (by simp only [List.getElem?_toArray, List.getElem?_cons_succ, List.getElem?_cons_zero]; rfl) (by kernel_rfl) (by kernel_rfl) (by kernel_rfl) (by exact fun _ _ _ h => h) (by kernel_rfl) (Or.inl ⟨by rfl, ?yp7⟩) hH ?rp7
    case yp7 => (intro w' hSw; (try dsimp only at hSw); go_simp; try with_reducible rfl)
    try simp only [Act.put, List.setIfInBounds_toArray, List.set_cons_zero, List.set_cons_succ]
    refine wpAnyE_pure (i := 8) (v := ?vp8) (by simp only [List.getElem?_toArray, List.getElem?_cons_succ, List.getElem?_cons_zero]; rfl) (by kernel_rfl) (by kernel_rfl) (by kernel_rfl) (by exact fun _ _ _ h => h) (by kernel_rfl) (Or.inl ⟨by rfl, ?yp8⟩) hH ?rp8
    case yp8 => (intro w' hSw; (try dsimp only at hSw); go_simp; try with_reducible rfl)
    try simp only [Act.put, List.setIfInBounds_toArray, List.set_cons_zero, List.set_cons_succ]
    refine wpAnyE_pure (i := 9) (v := ?vp9) (by simp only [List.getElem?_toArray, List.getElem?_cons_succ, List.getElem?_cons_zero]; rfl) (by kernel_rfl) (by kernel_rfl) (by kernel_rfl) (by exact fun _ _ _ h => h) (by kernel_rfl) (Or.inl ⟨by rfl, ?yp9⟩) hH ?rp9
    case yp9 => (intro w' hSw; (try dsimp only at hSw); go_simp; try with_reducible rfl)
    try simp only [Act.put, List.setIfInBounds_toArray, List.set_cons_zero, List.set_cons_succ]
    refine wpAnyE_pure (i := 10) (v := ?vp10) (by simp only [List.getElem?_toArray, List.getElem?_cons_succ, List.getElem?_cons_zero]; rfl) (by kernel_rfl) (by kernel_rfl) (by kernel_rfl) (by exact fun _ _ _ h => h) (by kernel_rfl) (Or.inl ⟨by rfl, ?yp10⟩) hH ?rp10
    case yp10 => (intro w' hSw; (try dsimp only at hSw); go_simp; try with_reducible rfl)
    try simp only [Act.put, List.setIfInBounds_toArray, List.set_cons_zero, List.set_cons_succ]
    refine wpAnyE_pure (i := 11) (v := ?vp11) (by simp only [List.getElem?_toArray, List.getElem?_cons_succ, List.getElem?_cons_zero]; rfl) (by kernel_rfl) (by kernel_rfl) (by kernel_rfl) (by exact fun _ _ _ h => h) (by kernel_rfl) (Or.inl ⟨by rfl, ?yp11⟩) hH ?rp11
    case yp11 => (intro w' hSw; (try dsimp only at hSw); go_simp; try with_reducible rfl)
    try simp only [Act.put, List.setIfInBounds_toArray, List.set_cons_zero, List.set_cons_succ]
    refine wpAnyE_pure (i := 12) (v := ?vp12) (by simp only [List.getElem?_toArray, List.getElem?_cons_succ, List.getElem?_cons_zero]; rfl) (by kernel_rfl) (by kernel_rfl) (by kernel_rfl) (by exact fun _ _ _ h => h) (by kernel_rfl) (Or.inl ⟨by rfl, ?yp12⟩) hH ?rp12
    case yp12 => (intro w' hSw; (try dsimp only at hSw); go_simp; try with_reducible rfl)
    try simp only [Act.put, List.setIfInBounds_toArray, List.set_cons_zero, List.set_cons_succ]
    refine wpAnyE_take (i := 13) (v := .agg #[.int .i64 t1, .int .i64 t2]) (by simp only [List.getElem?_toArray, List.getElem?_cons_succ, List.getElem?_cons_zero]; rfl) (by kernel_rfl) (by kernel_rfl) (by kernel_rfl) (by exact fun _ _ _ h => h) (by kernel_rfl) ?yx hH ?_
    case yx => exact yields_box 39 _ rfl (w.heap.size + 1 + 1) rfl 39 #[.int .i64 t1, .int .i64 t2] (fun _ h => h.2.2) _ Tryz.underlying39 rfl (by kernel_rfl) (by first | rfl | simp [Region.wanted, yielded] | (simp [Region.wanted, yielded, Act.put] <;> omega))
    try simp only [Act.put, List.setIfInBounds_toArray, List.set_cons_zero, List.set_cons_succ]
    refine wpAnyE_pure (i := 14) (v := ?vp14) (by simp only [List.getElem?_toArray, List.getElem?_cons_succ, List.getElem?_cons_zero]; rfl) (by kernel_rfl) (by kernel_rfl) (by kernel_rfl) (by exact fun _ _ _ h => h) (by kernel_rfl) (Or.inl ⟨by rfl, ?yp14⟩) hH ?rp14
    case yp14 => (intro w' hSw; (try dsimp only at hSw); go_simp; try with_reducible rfl)
    try simp only [Act.put, List.setIfInBounds_toArray, List.set_cons_zero, List.set_cons_succ]
    refine wpAnyE_pure (i := 15) (v := ?vp15) (by simp only [List.getElem?_toArray, List.getElem?_cons_succ, List.getElem?_cons_zero]; rfl) (by kernel_rfl) (by kernel_rfl) (by kernel_rfl) (by exact fun _ _ _ h => h) (by kernel_rfl) (Or.inl ⟨by rfl, ?yp15⟩) hH ?rp15
    case yp15 => (intro w' hSw; (try dsimp only at hSw); go_simp; try with_reducible rfl)
    try simp only [Act.put, List.setIfInBounds_toArray, List.set_cons_zero, List.set_cons_succ]
    refine wpAnyE_one (i := 16) (by kernel_rfl) (by simp only [List.getElem?_toArray, List.getElem?_cons_succ, List.getElem?_cons_zero]; rfl) (fun K hK => ?_)
    go_simp
    refine (specNewRec_is ((s : Int) + 1) kd sh cl t1 t2 v _ cs w4 (by omega) (HC.out.later HB)).mono ?_
    rintro e w5 ⟨CR, rfl, hL, hb⟩
    rw [← HND.out] at hL
    obtain ⟨r, hr⟩ : ∃ r, newD d kd sh cl t1 t2 v cs = r := ⟨_, rfl⟩
    have hrp : r.ps = cs := by rw [← hr]; rfl
    have hr1 : r.r1 = ((d.ks.length + d.ls.length : Nat) : Int) + 1 := by rw [← hr]; rfl
    have HR1 := Lib.hid hr1
    have HZ2 := Lib.hid HZ.out
    rw [hr] at hL HZ2
    clear hr hr1 HZ HND
    have hsV := hb.size
    obtain ⟨u, eC, hO⟩ := hL
    injection eC with eC
    obtain ⟨A3, m3, c3, rfl⟩ := slc_form hO.somewhere.slc
    subst eC
    unfold RecD.cells
    have hb5 := hb
    have RL4 := Lib.hid RL
    replace G := G.later hb G.lt
    replace J := J.later hb J.lt
    replace X := X.later hb X.lt
    replace R := R.later hb R.lt
    replace HB := bel_trans HB hb
    replace OX := OX.later hb OX.lt
    replace OK := OK.later hb
    replace RL := RL.later hb
    clear hb
    clear hH
    refine hK.out _ _ ⟨OX, J, X⟩ (fun hH => ?_)
    clear hK K
    try simp only [Act.put, List.setIfInBounds_toArray, List.set_cons_zero, List.set_cons_succ]
    refine wpAnyE_one (i := 17) (by kernel_rfl) (by simp only [List.getElem?_toArray, List.getElem?_cons_succ, List.getElem?_cons_zero]; rfl) (fun K hK => ?_)
    go_simp
    have hb := bel_alloc w5 (.cells #[.int .i64 r.r1, .int .i64 r.r2, .int .i64 r.r3, .int .i64 r.r4, .int .i64 r.r5, .int .i64 r.r6, .int .i64 r.r7, .slice A3 m3 c3, .int .i64 r.r8] 46)
    have Q := Box.new w5 46 #[.int .i64 r.r1, .int .i64 r.r2, .int .i64 r.r3, .int .i64 r.r4, .int .i64 r.r5, .int .i64 r.r6, .int .i64 r.r7, .slice A3 m3 c3, .int .i64 r.r8]
    replace G := G.later hb G.lt
    replace J := J.later hb J.lt
    replace X := X.later hb X.lt
    replace R := R.later hb R.lt
    replace HB := bel_trans HB hb
    replace OX := OX.later hb OX.lt
    replace OK := OK.later hb
    replace RL := RL.later hb
    have hb6 := bel_trans hb5 hb
    have hO6 := (OwnP.turn hO (T := fun _ => False) (Turns.of_below hb) (fun _ _ h => h))
    have hq := hb.size
    clear hb hb5 hO
    clear hH
    refine hK.out _ _ ⟨OX, J, X⟩ (fun hH => ?_)
    clear hK K
    try simp only [Act.put, List.setIfInBounds_toArray, List.set_cons_zero, List.set_cons_succ]
    have hq2 : w5.heap.size < (w5.alloc (.cells #[.int .i64 r.r1, .int .i64 r.r2, .int .i64 r.r3, .int .i64 r.r4, .int .i64 r.r5, .int .i64 r.r6, .int .i64 r.r7, .slice A3 m3 c3, .int .i64 r.r8] 46)).heap.size := Q.lt
    generalize hw6 : (w5.alloc _ : World) = w6 at G J X R HB OX OK RL hH Q hb6 hO6 hq hq2 ⊢
    clear hw6
    generalize w5.heap.size = q at Q hO6 hsV hq hq2 ⊢
    have OWN := Lib.hid RL.own
    have hflat : flatC [(r, .slice A3 m3 c3)] = (#[.int .i64 r.r1, .int .i64 r.r2, .int .i64 r.r3, .int .i64 r.r4, .int .i64 r.r5, .int .i64 r.r6, .int .i64 r.r7, .slice A3 m3 c3, .int .i64 r.r8] : Array Value).toList := rfl
    have NEWS := Lib.hid (show ∀ j x, (flatC [(r, .slice A3 m3 c3)])[j]? = some x → w6.cell? ((⟨q, 0, none⟩ : Addr).add j) = some x from fun j x hj => by
      rw [hflat] at hj
      rw [show (⟨q, 0, none⟩ : Addr).add j = ⟨q, j, none⟩ by unfold Addr.add; split <;> simp_all]
      rw [Q.cell j]
      simpa using hj)
    have ONE := Lib.hid (show ∀ x ∈ flatC [(r, .slice A3 m3 c3)], x.oneCell' = true from flatC_one (fun p hp => by rw [List.mem_singleton.1 hp]; rfl))
    clear hflat
    have hlo6 : lo ≤ w6.heap.size := by omega
    refine wpAnyE_one (i := 18) (by kernel_rfl) (by simp only [List.getElem?_toArray, List.getElem?_cons_succ, List.getElem?_cons_zero]; rfl) (fun K hK => ?_)
    refine step_append_lies _ (by rfl) _ _ _ (by rfl) lo 46 j0 _ 9 88 Tryz.underlying27 hj0 hy0 hy1 hy2 rfl (by omega) (.slice (some ⟨GL, 0, none⟩) n2 lcp) n2 (flatC ms) (by rfl) OWN.out ⟨q, 0, none⟩ 1 1 (flatC [(r, .slice A3 m3 c3)]) (by rfl) rfl NEWS.out ONE.out (by omega) (by unfold maxLen; omega) (by omega) hlo6 _ rfl ?_
    intro g' cap' w7 hown hgrow hlie hlg
    replace hgrow : w6.grownBy w7 (some GL) := hgrow
    have hlie2 : g' = GL ∨ w6.heap.size ≤ g' := by
      rcases hlie with h | h
      · injection h with h
        exact .inl h.symm
      · exact .inr (by rw [h]; exact Nat.le_refl _)
    rw [← flatC_app] at hown
    have hk9 : n2 < (d.ls ++ [r]).length := by rw [List.length_append, HN2.out]; simp
    have e9 : (d.ls ++ [r])[n2] = r := by rw [List.getElem_append_right (by rw [HN2.out]; exact Nat.le_refl _)]; simp [HN2.out]
    have RM : RowK lo w4 (d.ls ++ [r]) n2 GL lcp ms Fs := by
      have h := RL4.out
      rw [← HN2.out] at h
      have h2 := h.more [r]
      rw [HN2.out] at h2
      exact h2
    have nx := RM.next (w2 := w6) (w3 := w7) (g' := g') (cap' := cap') (u := .slice A3 m3 c3) hk9 hb6
    rw [e9] at nx
    have RN := nx (hO6.sub (fun b hb => ⟨hb.1, by have := hb.2; omega⟩)) hown hgrow hlie2
    clear nx RM hown hlie hO6 OWN NEWS ONE Q RL e9 hk9
    have ht := Turns.of_grown hgrow
    have hGX : w.heap.size + 1 + 1 + 1 < GL := by omega
    replace G := G.turn ht (by omega)
    replace J := J.turn ht (by omega)
    replace X := X.turn ht (by omega)
    replace R := R.turn ht (by omega)
    replace OX := OX.turn ht (by omega)
    replace OK := OK.turn ht (fun b hb e => by have h1 := hb.2; have e : b = GL := e; omega)
    have hg67 := hgrow.size
    replace HB := bel_grown HB hgrow (by omega)
    clear ht hgrow
    clear hH
    refine hK.out _ _ ⟨OX, J, X⟩ (fun hH => ?_)
    clear hK K
    try simp only [Act.put, List.setIfInBounds_toArray, List.set_cons_zero, List.set_cons_succ]
    clear hlg
    refine wpAnyE_pure (i := 19) (v := ?vp19) (by simp only [List.getElem?_toArray, List.getElem?_cons_succ, List.getElem?_cons_zero]; rfl) (by kernel_rfl) (by kernel_rfl) (by kernel_rfl) (by exact fun _ _ _ h => h) (by kernel_rfl) (Or.inl ⟨by rfl, ?yp19⟩) hH ?rp19
    case yp19 => (intro w' hSw; (try dsimp only at hSw); go_simp; try with_reducible rfl)
    try simp only [Act.put, List.setIfInBounds_toArray, List.set_cons_zero, List.set_cons_succ]
    refine wpAnyE_last (by kernel_rfl) (by simp only [List.getElem?_toArray, List.getElem?_cons_succ, List.getElem?_cons_zero]; rfl) (by kernel_rfl) (fun K hK => ?_)
    rw [if_pos (by first | rfl | kernel_rfl | simp [Region.wanted, yielded])]
    obtain ⟨v0, v1⟩ := OX.two
    have fv := OX.frozen
    go_simp
    refine hK.out _ _ ?_
    clear hK K hH v0 v1 fv
    have tv := turns_setCells9.turns_cell9 w7 V 1 (.slice (some ⟨g', 0, none⟩) (n2 + 1) cap')
    have OX2 : Box (w7.setCell ⟨V, 1, none⟩ (.slice (some ⟨g', 0, none⟩) (n2 + 1) cap')) V 29 #[.slice (some ⟨GK, 0, none⟩) n1 ck, .slice (some ⟨g', 0, none⟩) (n2 + 1) cap'] := OX.set 1 _
    replace G := G.turn tv (by omega)
    replace J := J.turn tv (by omega)
    replace X := X.turn tv (by omega)
    replace R := R.turn tv (by omega)
    replace OK := OK.turn tv (fun b hb e => by have h1 := hb.2; have e : b = V := e; omega)
    have RN2 := RN.turn2 tv (by omega) (fun i hi b hb e => by
      have e : b = V := e
      by_cases ei : i = n2
      · simp only [if_pos ei] at hb
        have := hb.1
        omega
      · simp only [if_neg ei] at hb
        have := hFV i (by omega) b hb
        omega)
    have EV := HB.setCell (p := ⟨V, 1, none⟩) (by show w0.heap.size ≤ V; omega) (.slice (some ⟨g', 0, none⟩) (n2 + 1) cap')
    have hL9 : (d.ls ++ [r]).length = n2 + 1 := by rw [List.length_append, HN2.out]; simp
    rw [← hL9] at RN2
    have LL := RN2.done
    rw [hL9] at LL
    clear RN RN2 OX HB tv hFV
    generalize (w7.setCell _ _ : World) = w8 at G J X R OK OX2 EV LL ⊢
    have hw8 := EV.size
    have hV8 := OX2.lt
    have LJ := twoJ OK LL (fun b hb hb2 => by have h1 := hb.2; have h2 := hb2.1; omega) (F := Iv w0.heap.size w8.heap.size) (fun b hb => ⟨by have := hb.1; omega, by have := hb.2; omega⟩) (fun b hb => ⟨by have := hb.1; omega, hb.2⟩)
    clear OK LL
    obtain ⟨y, hy⟩ : ∃ y, rokD g r = y := ⟨_, rfl⟩
    have HY := Lib.hid hy
    have HJ2 := Lib.hid ((jok_snoc HJ.out HR1.out).trans hy)
    clear hy
    have hsz8 : (⟨d.ks, d.ls ++ [r]⟩ : JourD).sz ≤ 1048576 := by show totC d.ks + totC (d.ls ++ [r]) ≤ _; rw [totC_app, totC_one, hrp]; omega
    have HB := EV
    clear EV
    go_wp2_with (first | (refine wpList_load_box 26 _ rfl (w.heap.size) rfl 26 C0 G _ Tryz.underlying26 rfl J0.out (by first | rfl | simp [Region.wanted, yielded] | (simp [Region.wanted, yielded, Act.put] <;> omega)) ?_) | (refine wpList_load_box 29 _ rfl (V) rfl 29 #[.slice (some ⟨GK, 0, none⟩) n1 ck, .slice (some ⟨g', 0, none⟩) (n2 + 1) cap'] OX2 _ Tryz.underlying29 rfl (by kernel_rfl) (by first | rfl | simp [Region.wanted, yielded] | (simp [Region.wanted, yielded, Act.put] <;> omega)) ?_))
    refine (specJournalOk_is ((keepsG g).later H0.out HB) LJ.somewhere hsz8 HJ2.out).mono ?_
    rintro e w9 ⟨rfl, hb⟩
    replace G := G.later hb G.lt
    replace J := J.later hb J.lt
    replace X := X.later hb X.lt
    replace R := R.later hb R.lt
    replace HB := bel_trans HB hb
    replace OX2 := OX2.later hb OX2.lt
    replace LJ := (keepsLJ _).later LJ hb
    have hw9 := hb.size
    clear hb
    cases y
    · have HD := Lib.hid (show rr = (d, false) by rw [← HZ2.out]; unfold notedD; rw [HJ.out, HY.out]; rfl)
      clear LJ OX2
      have hw9b := HB.size
      go_wp2_with (refine wpList_load_box 29 _ rfl (w.heap.size + 1) rfl 29 #[.slice A1 n1 c1, .slice A2 n2 c2] J _ Tryz.underlying29 rfl (by kernel_rfl) (by first | rfl | simp [Region.wanted, yielded] | (simp [Region.wanted, yielded, Act.put] <;> omega)) ?_)
      refine (l10Copy_is ⟨_, _, rfl, HK.out.later HB, HLL.out.later HB⟩ hkk hll).mono ?_
      rintro e w10 ⟨C5, rfl, LJ, hb⟩
      replace G := G.later hb G.lt
      replace J := J.later hb J.lt
      replace X := X.later hb X.lt
      replace R := R.later hb R.lt
      replace HB := bel_trans HB hb
      clear hb
      have JS := Lib.hid (sizeJ LJ.at).2
      have O := Lib.hid (oneJ LJ.at)
      obtain ⟨ua, ub, FA, FB, eC, -⟩ := id LJ
      injection eC with eC
      subst eC
      have ht := turns_row9 w10 (w.heap.size + 1 + 1 + 1) #[ua, ub]
      have R2 := R.setRow #[ua, ub]
      have L2 := Lib.hid ((keepsLJ _).sub ((keepsLJ _).turn LJ ht (fun b hb e => by have := hb.1; omega)) (F' := Iv w.heap.size (w10.setRow (w.heap.size + 1 + 1 + 1) #[ua, ub]).heap.size) (fun b hb => ⟨by have := hb.1; omega, by rw [size_setRow]; exact hb.2⟩))
      have E := Lib.hid (ht.below (bel_trans hb0 HB) (fun b hb => by omega))
      obtain ⟨r0, r1⟩ := R2.two
      clear R2 ht LJ
      go_wp2_with (refine wpList_store_row rfl 29 _ _ rfl (w.heap.size + 1 + 1 + 1) _ rfl rfl 29 #[.slice none 0 0, .slice none 0 0] R JS.out O.out.1.symm O.out.2 ?_)
      exact bodyPost_ret (v := .tuple #[.agg #[ua, ub], .bool false]) (by simp [results, Tryz.results23, go_sem, r0, r1]) rfl ⟨_, by rw [HD.out], by rw [HD.out]; exact L2.out, E.out⟩
    · have HD := Lib.hid (show rr = (⟨d.ks, d.ls ++ [r]⟩, true) by rw [← HZ2.out]; unfold notedD; rw [HJ.out, HY.out]; rfl)
      have ht := turns_row9 w9 (w.heap.size + 1 + 1 + 1) #[.slice (some ⟨GK, 0, none⟩) n1 ck, .slice (some ⟨g', 0, none⟩) (n2 + 1) cap']
      have R2 := R.setRow #[.slice (some ⟨GK, 0, none⟩) n1 ck, .slice (some ⟨g', 0, none⟩) (n2 + 1) cap']
      have L2 := Lib.hid ((keepsLJ _).sub ((keepsLJ _).turn LJ ht (fun b hb e => by have := hb.1; omega)) (F' := Iv w.heap.size (w9.setRow (w.heap.size + 1 + 1 + 1) #[.slice (some ⟨GK, 0, none⟩) n1 ck, .slice (some ⟨g', 0, none⟩) (n2 + 1) cap']).heap.size) (fun b hb => ⟨by have := hb.1; omega, by rw [size_setRow]; have := hb.2; omega⟩))
      have E := Lib.hid (ht.below (bel_trans hb0 HB) (fun b hb => by omega))
      obtain ⟨r0, r1⟩ := R2.two
      clear R2 ht LJ
      go_wp2_with (first | (refine wpList_load_box 29 _ rfl (V) rfl 29 #[.slice (some ⟨GK, 0, none⟩) n1 ck, .slice (some ⟨g', 0, none⟩) (n2 + 1) cap'] OX2 _ Tryz.underlying29 rfl (by kernel_rfl) (by first | rfl | simp [Region.wanted, yielded] | (simp [Region.wanted, yielded, Act.put] <;> omega)) ?_) | (refine wpList_store_row rfl 29 _ _ rfl (w.heap.size + 1 + 1 + 1) #[.slice (some ⟨GK, 0, none⟩) n1 ck, .slice (some ⟨g', 0, none⟩) (n2 + 1) cap'] rfl rfl 29 #[.slice none 0 0, .slice none 0 0] R (by kernel_rfl) rfl (by simp [Value.oneCell']) ?_))
      exact bodyPost_ret (v := .tuple #[.agg #[.slice (some ⟨GK, 0, none⟩) n1 ck, .slice (some ⟨g', 0, none⟩) (n2 + 1) cap'], .bool true]) (by simp [results, Tryz.results23, go_sem, r0, r1]) rfl ⟨_, by rw [HD.out], by rw [HD.out]; exact L2.out, E.out⟩

end Go.Proofs.YtjdepjpjjgkmbaaGreat

/- Records of one's own, a cell or a list of one of them written; conditions: the sizes. -/
namespace Go.Proofs.YtjdepjpjjgkmbaaGreat
open Go Go.RowKit

theorem upD_same (D : Nat → RecD) (i : Nat) (d : RecD) : upD D i d i = d := by simp [upD]
theorem upD_twice (D : Nat → RecD) (i : Nat) (a b : RecD) : upD (upD D i a) i b = upD D i b := by
  funext j
  unfold upD
  split <;> rfl
theorem far9 (w : World) (g : Nat) (v : Value) {a b : Nat} (h : a ≠ b) : (w.setCell ⟨g, a, none⟩ v).cell? ⟨g, b, none⟩ = w.cell? ⟨g, b, none⟩ := World.cell?_setCell_other _ _ _ _ (fun e => h (by injection e))
/-- One cell of one of them is written. -/
theorem RecsAt.cell {w : World} {g n : Nat} {D : Nat → RecD} {Fs : Nat → Nat → Prop} (h : RecsAt w g n D Fs) {i : Nat} (hi : i < n) {j : Nat} (hj : j < 9) (v : Value) (d' : RecD) (hps : d'.ps = (D i).ps) (hc : ∀ u, (d'.cells u).toList = ((D i).cells u).toList.set j v) :
    RecsAt (w.setCell ⟨g, i * 9 + j, none⟩ v) g n (upD D i d') Fs := by
  have ht := turns_setCells9 g [v] (i * 9 + j) w
  have hsz : (w.setCell ⟨g, i * 9 + j, none⟩ v).heap.size = w.heap.size := size_set _ _ _
  refine ⟨by rw [hsz]; exact h.lt, fun o => (World.frozen?_setCell _ _ _ _).trans (h.fr o), fun k hk => ?_, h.apart, h.two⟩
  obtain ⟨u, h1, h2⟩ := h.row k hk
  by_cases e : k = i
  · subst e
    rw [upD_same]
    refine ⟨u, fun p x hx => ?_, ?_⟩
    · rw [hc u] at hx
      by_cases hp : p = j
      · subst hp
        have hl : p < ((D k).cells u).toList.length := by rw [cells_len]; exact hj
        rw [List.getElem?_set_self hl] at hx
        injection hx with hx
        subst hx
        obtain ⟨y, hy⟩ : ∃ y, ((D k).cells u).toList[p]? = some y := ⟨_, List.getElem?_eq_getElem hl⟩
        exact World.cell?_setCell_same' _ _ _ (by rw [h1 p y hy]; rfl)
      · rw [List.getElem?_set_ne (Ne.symm hp)] at hx
        exact (far9 w g v (by omega)).trans (h1 p x hx)
    · obtain ⟨u2, e2, hO⟩ := h2
      injection e2 with e2
      have hu : u = u2 := by simpa [RecD.cells] using e2
      subst hu
      exact ⟨u, rfl, hps ▸ hO.turn ht (h.apart k hk)⟩
  · have hd : upD D i d' k = D k := by simp [upD, e]
    rw [hd]
    refine ⟨u, fun p x hx => ?_, (keepsLC _).turn h2 ht (h.apart k hk)⟩
    have hp : p < 9 := by
      have := (List.getElem?_eq_some_iff.1 hx).1
      rwa [cells_len] at this
    exact (far9 w g v (by omega)).trans (h1 p x hx)
/-- The seven numbers ahead of the list are written. -/
theorem RecsAt.seven {w : World} {g n : Nat} {D : Nat → RecD} {Fs : Nat → Nat → Prop} (h : RecsAt w g n D Fs) {i : Nat} (hi : i < n) (x0 x1 x2 x3 x4 x5 x6 : Int) :
    RecsAt (((((((w.setCell ⟨g, i * 9, none⟩ (.int .i64 x0)).setCell ⟨g, i * 9 + 1, none⟩ (.int .i64 x1)).setCell ⟨g, i * 9 + 2, none⟩ (.int .i64 x2)).setCell ⟨g, i * 9 + 3, none⟩ (.int .i64 x3)).setCell ⟨g, i * 9 + 4, none⟩ (.int .i64 x4)).setCell ⟨g, i * 9 + 5, none⟩ (.int .i64 x5)).setCell ⟨g, i * 9 + 6, none⟩ (.int .i64 x6)) g n (upD D i ⟨x0, x1, x2, x3, x4, x5, x6, (D i).ps, (D i).r8⟩) Fs := by
  have h0 := h.cell hi (j := 0) (by omega) (.int .i64 x0) ⟨x0, (D i).r2, (D i).r3, (D i).r4, (D i).r5, (D i).r6, (D i).r7, (D i).ps, (D i).r8⟩ rfl (fun _ => rfl)
  have h1 := h0.cell hi (j := 1) (by omega) (.int .i64 x1) ⟨x0, x1, (D i).r3, (D i).r4, (D i).r5, (D i).r6, (D i).r7, (D i).ps, (D i).r8⟩ (by rw [upD_same]) (fun _ => by rw [upD_same]; rfl)
  rw [upD_twice] at h1
  have h2 := h1.cell hi (j := 2) (by omega) (.int .i64 x2) ⟨x0, x1, x2, (D i).r4, (D i).r5, (D i).r6, (D i).r7, (D i).ps, (D i).r8⟩ (by rw [upD_same]) (fun _ => by rw [upD_same]; rfl)
  rw [upD_twice] at h2
  have h3 := h2.cell hi (j := 3) (by omega) (.int .i64 x3) ⟨x0, x1, x2, x3, (D i).r5, (D i).r6, (D i).r7, (D i).ps, (D i).r8⟩ (by rw [upD_same]) (fun _ => by rw [upD_same]; rfl)
  rw [upD_twice] at h3
  have h4 := h3.cell hi (j := 4) (by omega) (.int .i64 x4) ⟨x0, x1, x2, x3, x4, (D i).r6, (D i).r7, (D i).ps, (D i).r8⟩ (by rw [upD_same]) (fun _ => by rw [upD_same]; rfl)
  rw [upD_twice] at h4
  have h5 := h4.cell hi (j := 5) (by omega) (.int .i64 x5) ⟨x0, x1, x2, x3, x4, x5, (D i).r7, (D i).ps, (D i).r8⟩ (by rw [upD_same]) (fun _ => by rw [upD_same]; rfl)
  rw [upD_twice] at h5
  have h6 := h5.cell hi (j := 6) (by omega) (.int .i64 x6) ⟨x0, x1, x2, x3, x4, x5, x6, (D i).ps, (D i).r8⟩ (by rw [upD_same]) (fun _ => by rw [upD_same]; rfl)
  rw [upD_twice] at h6
  exact h6
/-- The list of one of them is written. -/
theorem RecsAt.list {w w' : World} {g n : Nat} {D : Nat → RecD} {Fs : Nat → Nat → Prop} (h : RecsAt w g n D Fs) {i : Nat} (hi : i < n) {T : Nat → Prop} (ht : Turns T w w') (hT : ∀ b, T b → Fs i b) {u : Value} {ps' : List (Int × Int)} (hu : w.cell? ⟨g, i * 9 + 7, none⟩ = some u) (hO : OwnP w' (Fs i) u ps') :
    RecsAt w' g n (upD D i ⟨(D i).r1, (D i).r2, (D i).r3, (D i).r4, (D i).r5, (D i).r6, (D i).r7, ps', (D i).r8⟩) Fs := by
  have hg : ¬ T g := fun hb => h.apart i hi g (hT g hb) rfl
  refine ⟨Nat.lt_of_lt_of_le h.lt ht.size, fun o => (ht.frozen h.lt hg o).trans (h.fr o), fun k hk => ?_, h.apart, h.two⟩
  obtain ⟨u1, h1, h2⟩ := h.row k hk
  by_cases e : k = i
  · subst e
    rw [upD_same]
    have hc : w.cell? ⟨g, k * 9 + 7, none⟩ = some u1 := h1 7 u1 rfl
    rw [hu] at hc
    injection hc with hc
    subst hc
    exact ⟨u, fun p x hx => (ht.cell h.lt hg _).trans (h1 p x hx), u, rfl, hO⟩
  · have hd : upD D i ⟨(D i).r1, (D i).r2, (D i).r3, (D i).r4, (D i).r5, (D i).r6, (D i).r7, ps', (D i).r8⟩ k = D k := by simp [upD, e]
    rw [hd]
    exact ⟨u1, fun p x hx => (ht.cell h.lt hg _).trans (h1 p x hx), (keepsLC _).turn h2 ht (fun b hb hb2 => h.two k i hk hi e b hb (hT b hb2))⟩
end Go.Proofs.YtjdepjpjjgkmbaaGreat

/- The laws' mark on a list of records of one's own; conditions: the sizes. -/
namespace Go.Proofs.YtjdepjpjjgkmbaaGreat
open Go Go.RowKit

theorem ownP_res9 {w : World} {F : Nat → Prop} {u : Value} {ps : List (Int × Int)} (h : OwnP w F u ps) : ∃ lo hi, ResP w lo hi u ps ∧ ∀ b, Iv lo hi b → F b := ownP_res h
theorem resP_own {w : World} {lo hi : Nat} {F : Nat → Prop} {u : Value} {ps : List (Int × Int)} (h : ResP w lo hi u ps) (hF : ∀ b, Iv lo hi b → F b) : OwnP w F u ps := by
  rcases h with h | ⟨g, cap, h1, h2, h3, h4, h5, h6⟩
  · exact .inl h
  · exact .inr ⟨g, cap, hF g ⟨h1, h2⟩, h3, h4, h5, h6⟩

end Go.Proofs.YtjdepjpjjgkmbaaGreat

/- The laws' marks on lists of one's own that may be empty, wherever those point; conditions: the sizes. -/
namespace Go.Proofs.YtjdepjpjjgkmbaaGreat
open Go Go.RowKit

end Go.Proofs.YtjdepjpjjgkmbaaGreat

/- The laws' mark on a list of records of one's own, and the look at it; conditions: the sizes. -/
namespace Go.Proofs.YtjdepjpjjgkmbaaGreat
open Go Go.RowKit

/-- The first j of them are marked, from k on. -/
def MarkedCS (k : Int) (S : Nat → Nat) (D D' : Nat → RecD) (j : Nat) : Prop :=
  (∀ i, (D' i).ps.length = (D i).ps.length) ∧ ∀ i, i < j → (D' i).r1 = k + S i ∧ (D' i).r2 = k + S i + 1 ∧ (D' i).r3 = k + S i + 1 + 1 ∧ (D' i).r4 = k + S i + 1 + 1 + 1 ∧ (D' i).r5 = k + S i + 1 + 1 + 1 + 1 ∧ (D' i).r6 = k + S i + 1 + 1 + 1 + 1 + 1 ∧ (D' i).r7 = k + S i + 1 + 1 + 1 + 1 + 1 + 1 ∧ Marked (k + S i + 1 + 1 + 1 + 1 + 1 + 1 + 1) (D' i).ps ∧ (D' i).r8 = k + S i + 1 + 1 + 1 + 1 + 1 + 1 + 1 + 2 * (D i).ps.length

set_option maxRecDepth 100000 in
set_option maxHeartbeats 8000000 in
theorem markd_CS {w : World} {G n cap : Nat} {D : Nat → RecD} {Fs : Nat → Nat → Prop} {k : Int} (h : RecsAt w G n D Fs) (hn : n ≤ 1048576) (S : Nat → Nat) (hS0 : S 0 = 0) (hS : ∀ j, j < n → S (j + 1) = S j + 8 + 2 * (D j).ps.length) (hSn : ∀ j, j ≤ n → S j ≤ 20000000) (hlen : ∀ j, j < n → (D j).ps.length ≤ 1048577) (hk0 : 0 ≤ k) (hk1 : k ≤ 10000000) :
    Calls Tryz.prog 92 #[.slice (some ⟨G, 0, none⟩) n cap, .int .i64 k] w fun e w' => e = .returned (.int .i64 (k + S n)) ∧ Turns (fun b => b = G ∨ ∃ i, i < n ∧ Fs i b) w w' ∧ ∃ D', RecsAt w' G n D' Fs ∧ MarkedCS k S D D' n := by
  have HS := Lib.hid hS
  have HSN := Lib.hid hSn
  have HLN := Lib.hid hlen
  have HS0 := Lib.hid hS0
  clear hS hSn hlen hS0
  go_enter Tryz.func92, Tryz.ntmps92
  go_wp2
  go_loopw [1, 5] (fun kv i wr => ∃ (j : Nat) (D' : Nat → RecD), j ≤ n ∧ i = .int .i64 j ∧ kv = .int .i64 (k + S j) ∧ RecsAt wr G n D' Fs ∧ MarkedCS k S D D' j ∧ Turns (fun b => b = G ∨ ∃ i, i < n ∧ Fs i b) w wr) (fun _ i _ => n - (intOf i).toNat)
  case atStart => exact ⟨0, D, Nat.zero_le _, rfl, by rw [HS0.out]; simp, h, ⟨fun _ => rfl, fun i hi => absurd hi (by omega)⟩, Turns.of_below (Below.refl _ _)⟩
  case round =>
    clear h
    obtain ⟨j, D', hj, rfl, rfl, h, hl, ht⟩ := hrel
    by_cases hlt : j < n
    · obtain ⟨u, hr, u2, e2, hO⟩ := h.row j hlt
      injection e2 with e2
      have hu : u = u2 := by simpa [RecD.cells] using e2
      subst hu
      clear e2
      have c0 : wr.cell? ⟨G, j * 9, none⟩ = some (.int .i64 (D' j).r1) := hr 0 _ rfl
      have c1 : wr.cell? ⟨G, j * 9 + 1, none⟩ = some (.int .i64 (D' j).r2) := hr 1 _ rfl
      have c2 : wr.cell? ⟨G, j * 9 + 2, none⟩ = some (.int .i64 (D' j).r3) := hr 2 _ rfl
      have c3 : wr.cell? ⟨G, j * 9 + 3, none⟩ = some (.int .i64 (D' j).r4) := hr 3 _ rfl
      have c4 : wr.cell? ⟨G, j * 9 + 4, none⟩ = some (.int .i64 (D' j).r5) := hr 4 _ rfl
      have c5 : wr.cell? ⟨G, j * 9 + 5, none⟩ = some (.int .i64 (D' j).r6) := hr 5 _ rfl
      have c6 : wr.cell? ⟨G, j * 9 + 6, none⟩ = some (.int .i64 (D' j).r7) := hr 6 _ rfl
      have c7 : wr.cell? ⟨G, j * 9 + 7, none⟩ = some u := hr 7 _ rfl
      have c8 : wr.cell? ⟨G, j * 9 + 8, none⟩ = some (.int .i64 (D' j).r8) := hr 8 _ rfl
      have fG := h.fr
      have hSj := HSN.out j hj
      obtain ⟨q, hq⟩ : ∃ q : Int, k + (S j : Int) = q := ⟨_, rfl⟩
      have hq0 : 0 ≤ q := by omega
      have hq1 : q ≤ 30000000 := by omega
      rw [hq]
      have HQ := Lib.hid hq
      clear hq hSj
      have v0 : IntKind.i64.wrap (q + 1) = q + 1 := IntWalk.i64_in _ (by omega)
      have v1 : IntKind.i64.wrap (q + 1 + 1) = q + 1 + 1 := IntWalk.i64_in _ (by omega)
      have v2 : IntKind.i64.wrap (q + 1 + 1 + 1) = q + 1 + 1 + 1 := IntWalk.i64_in _ (by omega)
      have v3 : IntKind.i64.wrap (q + 1 + 1 + 1 + 1) = q + 1 + 1 + 1 + 1 := IntWalk.i64_in _ (by omega)
      have v4 : IntKind.i64.wrap (q + 1 + 1 + 1 + 1 + 1) = q + 1 + 1 + 1 + 1 + 1 := IntWalk.i64_in _ (by omega)
      have v5 : IntKind.i64.wrap (q + 1 + 1 + 1 + 1 + 1 + 1) = q + 1 + 1 + 1 + 1 + 1 + 1 := IntWalk.i64_in _ (by omega)
      have v6 : IntKind.i64.wrap (q + 1 + 1 + 1 + 1 + 1 + 1 + 1) = q + 1 + 1 + 1 + 1 + 1 + 1 + 1 := IntWalk.i64_in _ (by omega)
      have hkw : IntKind.i64.wrap ((j : Int) + 1) = (j : Int) + 1 := IntWalk.i64_in _ (by omega)
      have hltI : (j : Int) < (n : Int) := by omega
      have HSJ := Lib.hid (HS.out j hlt)
      have HLJ := Lib.hid (HLN.out j hlt)
      have HMM := Lib.hid hl
      replace hl := hl.1
      have HLE := Lib.hid (hl j)
      go_upto_region 18 with fail
      have K7 := h.seven hlt (q) (q + 1) (q + 1 + 1) (q + 1 + 1 + 1) (q + 1 + 1 + 1 + 1) (q + 1 + 1 + 1 + 1 + 1) (q + 1 + 1 + 1 + 1 + 1 + 1)
      have t7 : Turns (· = G) wr (((((((wr.setCell ⟨G, j * 9, none⟩ (.int .i64 (q))).setCell ⟨G, j * 9 + 1, none⟩ (.int .i64 (q + 1))).setCell ⟨G, j * 9 + 2, none⟩ (.int .i64 (q + 1 + 1))).setCell ⟨G, j * 9 + 3, none⟩ (.int .i64 (q + 1 + 1 + 1))).setCell ⟨G, j * 9 + 4, none⟩ (.int .i64 (q + 1 + 1 + 1 + 1))).setCell ⟨G, j * 9 + 5, none⟩ (.int .i64 (q + 1 + 1 + 1 + 1 + 1))).setCell ⟨G, j * 9 + 6, none⟩ (.int .i64 (q + 1 + 1 + 1 + 1 + 1 + 1))) := turns_setCells9 G [.int .i64 (q), .int .i64 (q + 1), .int .i64 (q + 1 + 1), .int .i64 (q + 1 + 1 + 1), .int .i64 (q + 1 + 1 + 1 + 1), .int .i64 (q + 1 + 1 + 1 + 1 + 1), .int .i64 (q + 1 + 1 + 1 + 1 + 1 + 1)] (j * 9) wr
      have n7 := (K7.row j hlt)
      rw [upD_same] at n7
      obtain ⟨u3, hr3, u4, e4, hO4⟩ := n7
      injection e4 with e4
      have hu4 : u3 = u4 := by simpa [RecD.cells] using e4
      subst hu4
      clear e4
      clear c0 c1 c2 c3 c4 c5 c6 c7 c8 fG v0 v1 v2 v3 v4 v5 v6 hr hO
      generalize (((((((wr.setCell ⟨G, j * 9, none⟩ (.int .i64 (q))).setCell ⟨G, j * 9 + 1, none⟩ (.int .i64 (q + 1))).setCell ⟨G, j * 9 + 2, none⟩ (.int .i64 (q + 1 + 1))).setCell ⟨G, j * 9 + 3, none⟩ (.int .i64 (q + 1 + 1 + 1))).setCell ⟨G, j * 9 + 4, none⟩ (.int .i64 (q + 1 + 1 + 1 + 1))).setCell ⟨G, j * 9 + 5, none⟩ (.int .i64 (q + 1 + 1 + 1 + 1 + 1))).setCell ⟨G, j * 9 + 6, none⟩ (.int .i64 (q + 1 + 1 + 1 + 1 + 1 + 1))) = w7 at K7 t7 hr3 hO4 ⊢
      have c7 : w7.cell? ⟨G, j * 9 + 7, none⟩ = some u3 := hr3 7 _ rfl
      obtain ⟨q7, hq7⟩ : ∃ q7 : Int, q + 1 + 1 + 1 + 1 + 1 + 1 + 1 = q7 := ⟨_, rfl⟩
      rw [hq7]
      have HQ7 := Lib.hid hq7
      have hp0 : 0 ≤ q7 := by omega
      have hp1 : q7 ≤ 30000007 := by omega
      clear hq7 hq0 hq1
      obtain ⟨lo, hi, hRP, hFs⟩ := ownP_res9 hO4
      have HRP := Lib.hid hRP
      clear hRP hO4 hr3
      go_upto_region 19 with (go_at_call 36; refine (markP_is q7 HRP.out (by rw [HLE.out]; exact HLJ.out) hp0 (by omega)).mono ?_; rintro e w8 ⟨rfl, D2, hd1, hd2, hR2, hB⟩)
      have K8 := K7.list hlt (Turns.of_band hB) hFs c7 (resP_own hR2 hFs)
      rw [upD_twice, upD_same] at K8
      have t8 := Turns.of_band hB
      have n8 := K8.row j hlt
      rw [upD_same] at n8
      obtain ⟨u5, hr5, -⟩ := n8
      have c8 : w8.cell? ⟨G, j * 9 + 8, none⟩ = some (.int .i64 (D' j).r8) := hr5 8 _ rfl
      have fG := K8.fr
      have HL2 := Lib.hid hd1
      have HD2 := Lib.hid hd2
      have HF := Lib.hid hFs
      obtain ⟨q8, hq8⟩ : ∃ q8 : Int, q7 + 2 * ((D j).ps.length : Int) = q8 := ⟨_, rfl⟩
      have hql := HLJ.out
      rw [hq8]
      have HQ8 := Lib.hid hq8
      have v8 : IntKind.i64.wrap (q8 + 1) = q8 + 1 := IntWalk.i64_in _ (by omega)
      have t9 := turns_setCells9 G [.int .i64 q8] (j * 9 + 8) w8
      have K9 := K8.cell hlt (j := 8) (by omega) (.int .i64 q8) ⟨q, q + 1, q + 1 + 1, q + 1 + 1 + 1, q + 1 + 1 + 1 + 1, q + 1 + 1 + 1 + 1 + 1, q + 1 + 1 + 1 + 1 + 1 + 1, D2, q8⟩ (by rw [upD_same]) (fun _ => by rw [upD_same]; rfl)
      rw [upD_twice] at K9
      clear hq8 hql hd1 hd2 hR2 hB hr5 hFs c7
      go_wp2
      go_roundw
      case rel =>
        refine ⟨j + 1, _, by omega, by go_num, ?_, K9, ⟨fun i => ?_, fun i hi => ?_⟩, ?_⟩
        · rw [HSJ.out]
          have h1 := HQ8.out
          have h2 := HQ7.out
          have h3 := HQ.out
          have h4 := HLE.out
          congr 1
          omega
        · by_cases e : i = j
          · subst e
            rw [upD_same]
            show D2.length = _
            rw [HL2.out]
            exact HLE.out
          · rw [show ∀ d, upD D' j d i = D' i from fun d => by simp [upD, e]]
            exact HMM.out.1 i
        · by_cases e : i = j
          · subst e
            rw [upD_same]
            have h1 := HQ.out
            have h2 := HQ7.out
            have h3 := HQ8.out
            have h4 := HD2.out
            rw [h1]
            refine ⟨rfl, rfl, rfl, rfl, rfl, rfl, rfl, by rw [h2]; exact h4, ?_⟩
            show q8 = _
            omega
          · rw [show ∀ d, upD D' j d i = D' i from fun d => by simp [upD, e]]
            exact HMM.out.2 i (by omega)
        · exact ((ht.trans (t7.sub (fun _ _ e => .inl e))).trans (t8.sub (fun b _ hb => .inr ⟨j, hlt, HF.out b hb⟩))).trans (t9.sub (fun _ _ e => .inl e))
      case measure => simp [intOf]; omega
    · have hjn : j = n := by omega
      subst hjn
      go_wp2
      go_ret
      exact ⟨rfl, ht, D', h, hl⟩

set_option maxRecDepth 100000 in
set_option maxHeartbeats 8000000 in
theorem held_CS {w : World} {G n cap : Nat} {D D' : Nat → RecD} {Fs : Nat → Nat → Prop} {k : Int} (S : Nat → Nat) (h : RecsAt w G n D' Fs) (hm : MarkedCS k S D D' n) (hn : n ≤ 1048576) (hS0 : S 0 = 0) (hS : ∀ j, j < n → S (j + 1) = S j + 8 + 2 * (D j).ps.length) (hSn : ∀ j, j ≤ n → S j ≤ 20000000) (hlen : ∀ j, j < n → (D j).ps.length ≤ 1048577) (hk0 : 0 ≤ k) (hk1 : k ≤ 10000000) :
    Calls Tryz.prog 93 #[.slice (some ⟨G, 0, none⟩) n cap, .int .i64 k] w fun e w' => e = .returned (.int .i64 (k + S n)) ∧ w = w' := by
  have HS := Lib.hid hS
  have HSN := Lib.hid hSn
  have HLN := Lib.hid hlen
  have HS0 := Lib.hid hS0
  have HM := Lib.hid hm
  clear hS hSn hlen hS0 hm
  go_enter Tryz.func93, Tryz.ntmps93
  go_wp2
  go_loopw [1, 5] (fun kv i wr => ∃ j : Nat, j ≤ n ∧ i = .int .i64 j ∧ kv = .int .i64 (k + S j) ∧ w = wr) (fun _ i _ => n - (intOf i).toNat)
  case atStart => exact ⟨0, Nat.zero_le _, rfl, by rw [HS0.out]; simp, rfl⟩
  case round =>
    obtain ⟨j, hj, rfl, rfl, rfl⟩ := hrel
    by_cases hlt : j < n
    · obtain ⟨u, hr, u2, e2, hO⟩ := h.row j hlt
      injection e2 with e2
      have hu : u = u2 := by simpa [RecD.cells] using e2
      subst hu
      clear e2
      obtain ⟨lo, hi, hRP, -⟩ := ownP_res9 hO
      obtain ⟨A, mc, eu, -, -, -⟩ := hO.at
      obtain ⟨m0, m1, m2, m3, m4, m5, m6, m7, m8⟩ := HM.out.2 j hlt
      have hSj := HSN.out j hj
      obtain ⟨q, hq⟩ : ∃ q : Int, k + (S j : Int) = q := ⟨_, rfl⟩
      rw [hq] at m0 m1 m2 m3 m4 m5 m6 m7 m8 ⊢
      have c0 : w.cell? ⟨G, j * 9, none⟩ = some (.int .i64 q) := m0 ▸ hr 0 _ rfl
      have c1 : w.cell? ⟨G, j * 9 + 1, none⟩ = some (.int .i64 (q + 1)) := m1 ▸ hr 1 _ rfl
      have c2 : w.cell? ⟨G, j * 9 + 2, none⟩ = some (.int .i64 (q + 1 + 1)) := m2 ▸ hr 2 _ rfl
      have c3 : w.cell? ⟨G, j * 9 + 3, none⟩ = some (.int .i64 (q + 1 + 1 + 1)) := m3 ▸ hr 3 _ rfl
      have c4 : w.cell? ⟨G, j * 9 + 4, none⟩ = some (.int .i64 (q + 1 + 1 + 1 + 1)) := m4 ▸ hr 4 _ rfl
      have c5 : w.cell? ⟨G, j * 9 + 5, none⟩ = some (.int .i64 (q + 1 + 1 + 1 + 1 + 1)) := m5 ▸ hr 5 _ rfl
      have c6 : w.cell? ⟨G, j * 9 + 6, none⟩ = some (.int .i64 (q + 1 + 1 + 1 + 1 + 1 + 1)) := m6 ▸ hr 6 _ rfl
      have c7 : w.cell? ⟨G, j * 9 + 7, none⟩ = some u := hr 7 _ rfl
      have c8 : w.cell? ⟨G, j * 9 + 8, none⟩ = some (.int .i64 (q + 1 + 1 + 1 + 1 + 1 + 1 + 1 + 2 * ((D j).ps.length : Int))) := m8 ▸ hr 8 _ rfl
      have hq0 : 0 ≤ q := by omega
      have hq1 : q ≤ 30000000 := by omega
      have HQ := Lib.hid hq
      have HSJ := Lib.hid (HS.out j hlt)
      have HLJ := Lib.hid (HLN.out j hlt)
      have HLE := Lib.hid (HM.out.1 j)
      rw [← HLE.out] at c8
      clear hq hSj hr hO m0 m1 m2 m3 m4 m5 m6 m8
      have v0 : IntKind.i64.wrap (q + 1) = q + 1 := IntWalk.i64_in _ (by omega)
      have v1 : IntKind.i64.wrap (q + 1 + 1) = q + 1 + 1 := IntWalk.i64_in _ (by omega)
      have v2 : IntKind.i64.wrap (q + 1 + 1 + 1) = q + 1 + 1 + 1 := IntWalk.i64_in _ (by omega)
      have v3 : IntKind.i64.wrap (q + 1 + 1 + 1 + 1) = q + 1 + 1 + 1 + 1 := IntWalk.i64_in _ (by omega)
      have v4 : IntKind.i64.wrap (q + 1 + 1 + 1 + 1 + 1) = q + 1 + 1 + 1 + 1 + 1 := IntWalk.i64_in _ (by omega)
      have v5 : IntKind.i64.wrap (q + 1 + 1 + 1 + 1 + 1 + 1) = q + 1 + 1 + 1 + 1 + 1 + 1 := IntWalk.i64_in _ (by omega)
      have v6 : IntKind.i64.wrap (q + 1 + 1 + 1 + 1 + 1 + 1 + 1) = q + 1 + 1 + 1 + 1 + 1 + 1 + 1 := IntWalk.i64_in _ (by omega)
      have hkw : IntKind.i64.wrap ((j : Int) + 1) = (j : Int) + 1 := IntWalk.i64_in _ (by omega)
      have hltI : (j : Int) < (n : Int) := by omega
      obtain ⟨q7, hq7⟩ : ∃ q7 : Int, q + 1 + 1 + 1 + 1 + 1 + 1 + 1 = q7 := ⟨_, rfl⟩
      rw [hq7] at c8 m7 v6
      have HQ7 := Lib.hid hq7
      have hp0 : 0 ≤ q7 := by omega
      have hp1 : q7 ≤ 30000007 := by omega
      have HM7 := Lib.hid m7
      have HRP := Lib.hid hRP
      have hql := HLJ.out
      have hqe := HLE.out
      subst eu
      obtain ⟨q8, hq8⟩ : ∃ q8 : Int, q7 + 2 * ((D' j).ps.length : Int) = q8 := ⟨_, rfl⟩
      rw [hq8] at c8
      have HQ8 := Lib.hid hq8
      have hneg : ¬ q8 < 0 := by omega
      have v8 : IntKind.i64.wrap (q8 + 1) = q8 + 1 := IntWalk.i64_in _ (by omega)
      have hw7 : IntKind.i64.wrap (q + 1 + 1 + 1 + 1 + 1 + 1 + 1) = q7 := by rw [hq7]; exact v6
      clear hq7 m7 hRP hql hqe hq8 v6
      clear v0 v1 v2 v3 v4 v5
      have v0 : IntKind.i64.wrap (q + 1) = q + 1 := IntWalk.i64_in _ (by omega)
      have v1 : IntKind.i64.wrap (q + 1 + 1) = q + 1 + 1 := IntWalk.i64_in _ (by omega)
      have v2 : IntKind.i64.wrap (q + 1 + 1 + 1) = q + 1 + 1 + 1 := IntWalk.i64_in _ (by omega)
      have v3 : IntKind.i64.wrap (q + 1 + 1 + 1 + 1) = q + 1 + 1 + 1 + 1 := IntWalk.i64_in _ (by omega)
      have v4 : IntKind.i64.wrap (q + 1 + 1 + 1 + 1 + 1) = q + 1 + 1 + 1 + 1 + 1 := IntWalk.i64_in _ (by omega)
      have v5 : IntKind.i64.wrap (q + 1 + 1 + 1 + 1 + 1 + 1) = q + 1 + 1 + 1 + 1 + 1 + 1 := IntWalk.i64_in _ (by omega)
      go_wp2_with (go_at_call 107; refine (heldP_is q7 HRP.out HM7.out (by rw [HLE.out]; exact HLJ.out) hp0 (by omega)).mono ?_; rintro e w8 ⟨rfl, rfl⟩; rw [HQ8.out])
      go_roundw
      case rel =>
        refine ⟨j + 1, by omega, by go_num, ?_, by trivial⟩
        rw [HSJ.out]
        have h1 := HQ8.out
        have h2 := HQ7.out
        have h3 := HQ.out
        have h4 := HLE.out
        congr 1
        omega
      case measure => simp [intOf]; omega
    · have hjn : j = n := by omega
      subst hjn
      go_wp2
      go_ret
      exact ⟨rfl, rfl⟩
end Go.Proofs.YtjdepjpjjgkmbaaGreat

namespace Go.Proofs.YtjdepjpjjgkmbaaGreat
open Go Go.RowKit

/-- How many marks the first j of these records take. -/
def sumM (D : Nat → RecD) : Nat → Nat
  | 0 => 0
  | j + 1 => sumM D j + 8 + 2 * (D j).ps.length
theorem sumM_le {ds : List RecD} {n : Nat} (hn : ds.length = n) (hz : totC ds ≤ 1048600) : ∀ j, j ≤ n → sumM (recsK ds n) j ≤ 8400000 := by
  have key : ∀ j, j ≤ n → sumM (recsK ds n) j ≤ 8 * totC (ds.take j) := by
    intro j
    induction j with
    | zero => intro _; exact Nat.zero_le _
    | succ j ih =>
      intro hj
      have hjd : j < ds.length := by omega
      have h1 := ih (by omega)
      have h2 := totC_snoc ds hjd
      have hd : recsK ds n j = ds[j] := recsK_at hn hjd
      unfold sumM
      rw [hd, h2]
      omega
  intro j hj
  have h1 := key j hj
  have h2 := totC_take ds j
  omega
def mkC (ds : List RecD) : Nat := sumM (recsK ds ds.length) ds.length
theorem mkC_le {ds : List RecD} (hz : totC ds ≤ 1048600) : mkC ds ≤ 8400000 := sumM_le rfl hz _ (Nat.le_refl _)
theorem lens_le {ds : List RecD} (hz : totC ds ≤ 1048577) : ∀ j, j < ds.length → (recsK ds ds.length j).ps.length ≤ 1048577 := fun j hj => by
  rw [recsK_at rfl hj]
  have := totC_mem ds hj
  omega
/-- The list's records are marked from k on. -/
def MarkedL (k : Int) (ds ds' : List RecD) : Prop := ds'.length = ds.length ∧ MarkedCS k (sumM (recsK ds ds.length)) (recsK ds ds.length) (recsK ds' ds.length) ds.length
theorem RecsAt.congr {w : World} {g n : Nat} {D D' : Nat → RecD} {Fs : Nat → Nat → Prop} (h : RecsAt w g n D Fs) (he : ∀ i, i < n → D i = D' i) : RecsAt w g n D' Fs :=
  ⟨h.lt, h.fr, fun i hi => he i hi ▸ h.row i hi, h.apart, h.two⟩
theorem mark_none (cap : Nat) (A : Option Addr) (k : Int) (w : World) : Calls Tryz.prog 92 #[.slice A 0 cap, .int .i64 k] w fun e w' => e = .returned (.int .i64 k) ∧ w = w' := by
  go_enter Tryz.func92, Tryz.ntmps92
  go_wp2
  go_loopw [1, 5] (fun kv i wr => i = .int .i64 0 ∧ kv = .int .i64 k ∧ w = wr) (fun _ _ _ => 0)
  case atStart => exact ⟨rfl, rfl, rfl⟩
  case round =>
    obtain ⟨rfl, rfl, rfl⟩ := hrel
    go_wp2
    go_ret
    exact ⟨rfl, rfl⟩
theorem held_none (cap : Nat) (A : Option Addr) (k : Int) (w : World) : Calls Tryz.prog 93 #[.slice A 0 cap, .int .i64 k] w fun e w' => e = .returned (.int .i64 k) ∧ w = w' := by
  go_enter Tryz.func93, Tryz.ntmps93
  go_wp2
  go_loopw [1, 5] (fun kv i wr => i = .int .i64 0 ∧ kv = .int .i64 k ∧ w = wr) (fun _ _ _ => 0)
  case atStart => exact ⟨rfl, rfl, rfl⟩
  case round =>
    obtain ⟨rfl, rfl, rfl⟩ := hrel
    go_wp2
    go_ret
    exact ⟨rfl, rfl⟩
theorem markd_L {ds : List RecD} {w : World} {F : Nat → Prop} {v : Value} {k : Int} (h : OwnCS ds w F v) (hn : ds.length ≤ 1048576) (hz : totC ds ≤ 1048577) (hk0 : 0 ≤ k) (hk1 : k ≤ 10000000) :
    Calls Tryz.prog 92 #[v, .int .i64 k] w fun e w' => e = .returned (.int .i64 (k + mkC ds)) ∧ Turns F w w' ∧ ∃ ds', MarkedL k ds ds' ∧ OwnCS ds' w' F v := by
  rcases h with ⟨rfl, rfl⟩ | ⟨G, c, Fs, hG, rfl, h1, h2, hR, hF⟩
  · refine (mark_none 0 none k w).mono ?_
    rintro e w' ⟨rfl, rfl⟩
    exact ⟨by simp [mkC, sumM], Turns.of_below (Below.refl _ _), [], ⟨rfl, fun _ => rfl, fun i hi => absurd hi (by simp)⟩, .inl ⟨rfl, rfl⟩⟩
  · refine (markd_CS (cap := c) hR hn (sumM (recsK ds ds.length)) rfl (fun _ _ => rfl) (fun j hj => Nat.le_trans (sumM_le rfl (by omega) j hj) (by omega)) (lens_le hz) hk0 hk1).mono ?_
    rintro e w' ⟨rfl, ht, D', hR', hm⟩
    have hl : ((List.range ds.length).map D').length = ds.length := by simp
    have he : ∀ i, i < ds.length → D' i = recsK ((List.range ds.length).map D') ds.length i := fun i hi => by
      rw [recsK_at hl (by rw [hl]; exact hi)]
      simp
    refine ⟨rfl, ht.sub (fun b _ hb => ?_), (List.range ds.length).map D', ⟨hl, fun i => ?_, fun i hi => ?_⟩, .inr ⟨G, c, Fs, hG, by rw [hl], by rw [hl]; exact h1, h2, by rw [hl]; exact hR'.congr he, by rw [hl]; exact fun i hi b hb => ⟨(hF i hi b hb).1, Nat.lt_of_lt_of_le (hF i hi b hb).2 ht.size⟩⟩⟩
    · rcases hb with rfl | ⟨i, hi, hb⟩
      · exact hG
      · exact (hF i hi b hb).1
    · rcases Nat.lt_or_ge i ds.length with hi | hi
      · rw [← he i hi]
        exact hm.1 i
      · have e1 : ∀ (es : List RecD), recsK es ds.length i = zeroC := fun es => by unfold recsK; rw [if_neg (by omega)]
        rw [e1, e1]
    · rw [← he i hi]
      exact hm.2 i hi
theorem held_L {ds ds' : List RecD} {w : World} {F : Nat → Prop} {v : Value} {k : Int} (h : OwnCS ds' w F v) (hm : MarkedL k ds ds') (hn : ds.length ≤ 1048576) (hz : totC ds ≤ 1048577) (hk0 : 0 ≤ k) (hk1 : k ≤ 10000000) :
    Calls Tryz.prog 93 #[v, .int .i64 k] w fun e w' => e = .returned (.int .i64 (k + mkC ds)) ∧ w = w' := by
  rcases h with ⟨rfl, rfl⟩ | ⟨G, c, Fs, hG, rfl, h1, h2, hR, hF⟩
  · obtain rfl : ds = [] := List.eq_nil_of_length_eq_zero hm.1.symm
    refine (held_none 0 none k w).mono ?_
    rintro e w' ⟨rfl, rfl⟩
    exact ⟨by simp [mkC, sumM], rfl⟩
  · rw [hm.1] at hR ⊢
    exact held_CS (cap := c) (sumM (recsK ds ds.length)) hR hm.2 hn rfl (fun _ _ => rfl) (fun j hj => Nat.le_trans (sumM_le rfl (by omega) j hj) (by omega)) (lens_le hz) hk0 hk1
def JourD.mk8 (d : JourD) : Int := mkC d.ks + mkC d.ls
def MarkedJ (k : Int) (d d' : JourD) : Prop := MarkedL k d.ks d'.ks ∧ MarkedL (k + mkC d.ks) d.ls d'.ls
/-- A journal short enough for its marks. -/
structure JourD.Fit (d : JourD) : Prop where
  nk : d.ks.length ≤ 1048576
  nl : d.ls.length ≤ 1048576
  tk : totC d.ks ≤ 1048577
  tl : totC d.ls ≤ 1048577
theorem JourD.fit {d : JourD} (h : d.sz ≤ 1048576) : d.Fit := by
  have h1 := totC_rest d.ks 0
  have h2 := totC_rest d.ls 0
  rw [totC_zero] at h1 h2
  unfold JourD.sz at h
  exact ⟨by omega, by omega, by omega, by omega⟩
set_option maxHeartbeats 2000000 in
theorem markd_J {d : JourD} {w : World} {F : Nat → Prop} {C : Array Value} {k : Int} (h : LieJ d w F (.agg C)) (hf : d.Fit) (hk0 : 0 ≤ k) (hk1 : k ≤ 1048600) :
    Calls Tryz.prog 35 #[.agg C, .int .i64 k] w fun e w' => e = .returned (.int .i64 (k + d.mk8)) ∧ Turns F w w' ∧ ∃ d', MarkedJ k d d' ∧ LieJ d' w' F (.agg C) := by
  obtain ⟨u, u', F1, F2, e, h1, h2, s1, s2, ha⟩ := h
  injection e with e
  subst e
  have hq1 := mkC_le (ds := d.ks) (by have := hf.tk; omega)
  obtain ⟨A, c, rfl, -⟩ := h1.reads
  obtain ⟨A', c', rfl, -⟩ := h2.reads
  have O1 := Lib.hid h1
  have O2 := Lib.hid h2
  clear h1 h2
  have hm8 : ∀ ds : List RecD, ds = d.ks → (mkC ds : Int) = mkC d.ks := fun _ e => by rw [e]
  generalize hn1 : d.ks.length = n1 at O1
  generalize hn2 : d.ls.length = n2 at O2
  have hb0 := bel_alloc w (.cells #[.slice A n1 c, .slice A' n2 c'] 29)
  have D := Box.new w 29 #[.slice A n1 c, .slice A' n2 c']
  have P1 := Lib.hid (O1.out.lt.later hb0)
  have P2 := Lib.hid (O2.out.lt.later hb0)
  clear O1 O2
  go_enter Tryz.func35, Tryz.ntmps35
  go_upto_region 1 with fail
  generalize hw0 : (w.alloc _ : World) = w0 at hb0 D P1 P2 ⊢
  have ht0 : Turns (fun b => F b ∨ w.heap.size ≤ b) w w0 := Turns.of_below hb0
  clear hw0
  obtain ⟨d0, d1⟩ := D.two
  go_wp2_with fail
  refine (markd_L P1.out hf.nk hf.tk hk0 (by omega)).mono ?_
  rintro e w1 ⟨rfl, t1, ks', m1, K1⟩
  have D1 := D.turn t1 (fun hb => by have := hb.2; omega)
  have P3 := Lib.hid (P2.out.turn t1 (fun b hb hb2 => ha b hb2.1 hb.1))
  have T1 := ht0.trans (t1.sub (T' := fun b => F b ∨ w.heap.size ≤ b) (fun b _ hb => .inl (s1 b hb.1)))
  have M1 := Lib.hid m1
  have KK := Lib.hid K1
  clear t1 D P2 ht0 m1 K1 d0 d1
  obtain ⟨d0, d1⟩ := D1.two
  go_wp2_with fail
  refine (markd_L P3.out hf.nl hf.tl (by omega) (by omega)).mono ?_
  rintro e w2 ⟨rfl, t2, ls', m2, K2⟩
  have T2 := Lib.hid (T1.trans (t2.sub (T' := fun b => F b ∨ w.heap.size ≤ b) (fun b _ hb => .inl (s2 b hb.1))))
  have KK2 := Lib.hid (KK.out.turn t2 (fun b hb hb2 => ha b hb.1 hb2.1))
  have M2 := Lib.hid m2
  have KL := Lib.hid K2
  clear T1 t2 m2 K2 KK D1 d0 d1
  go_wp2
  go_ret
  refine ⟨by unfold JourD.mk8; simp only [Int.add_assoc]; rfl, T2.out.sub (fun b hl hb => hb.resolve_right (by omega)), ⟨ks', ls'⟩, ⟨M1.out, M2.out⟩, _, _, _, _, rfl, KK2.out, KL.out, fun b hb => s1 b hb.1, fun b hb => s2 b hb.1, fun b hb hb2 => ha b hb.1 hb2.1⟩
theorem mark_J {d : JourD} {w : World} {F : Nat → Prop} {C : Array Value} {k : Int} (h : LieJ d w F (.agg C)) (hs : d.sz ≤ 1048576) (hk0 : 0 ≤ k) (hk1 : k ≤ 1048600) :
    Calls Tryz.prog 35 #[.agg C, .int .i64 k] w fun e w' => e = .returned (.int .i64 (k + d.mk8)) ∧ Turns F w w' := by
  refine (markd_J h (JourD.fit hs) hk0 hk1).mono ?_
  rintro e w' ⟨rfl, ht, -⟩
  exact ⟨rfl, ht⟩
set_option maxHeartbeats 2000000 in
theorem held_J {d d' : JourD} {w : World} {F : Nat → Prop} {C : Array Value} {k : Int} (h : LieJ d' w F (.agg C)) (hm : MarkedJ k d d') (hf : d.Fit) (hk0 : 0 ≤ k) (hk1 : k ≤ 1048600) :
    Calls Tryz.prog 37 #[.agg C, .int .i64 k] w fun e w' => e = .returned (.int .i64 (k + d.mk8)) ∧ Below w.heap.size w w' := by
  obtain ⟨u, u', F1, F2, e, h1, h2, -⟩ := h
  injection e with e
  subst e
  have hq1 := mkC_le (ds := d.ks) (by have := hf.tk; omega)
  have hq2 := mkC_le (ds := d.ls) (by have := hf.tl; omega)
  obtain ⟨A, c, rfl, -⟩ := h1.reads
  obtain ⟨A', c', rfl, -⟩ := h2.reads
  have O1 := Lib.hid h1
  have O2 := Lib.hid h2
  have M1 := Lib.hid hm.1
  have M2 := Lib.hid hm.2
  clear h1 h2 hm
  generalize hn1 : d'.ks.length = n1 at O1
  generalize hn2 : d'.ls.length = n2 at O2
  have hb0 := bel_alloc w (.cells #[.slice A n1 c, .slice A' n2 c'] 29)
  have D := Box.new w 29 #[.slice A n1 c, .slice A' n2 c']
  have P1 := Lib.hid (O1.out.later hb0)
  have P2 := Lib.hid (O2.out.later hb0)
  clear O1 O2
  go_enter Tryz.func37, Tryz.ntmps37
  go_upto_region 1 with fail
  generalize (w.alloc _ : World) = w0 at hb0 D P1 P2 ⊢
  obtain ⟨d0, d1⟩ := D.two
  go_wp2_with fail
  refine (held_L P1.out M1.out hf.nk hf.tk hk0 (by omega)).mono ?_
  rintro e w1 ⟨rfl, rfl⟩
  have hn1 : ¬ (k + (mkC d.ks : Int) < 0) := by omega
  go_wp2_with fail
  refine (held_L P2.out M2.out hf.nl hf.tl (by omega) (by omega)).mono ?_
  rintro e w2 ⟨rfl, rfl⟩
  obtain ⟨q, hq⟩ : ∃ q : Int, k + (mkC d.ks : Int) + (mkC d.ls : Int) = q := ⟨_, rfl⟩
  have HQ := Lib.hid hq
  have hn2 : ¬ (q < 0) := by omega
  rw [hq]
  clear hq
  go_wp2
  go_ret
  exact ⟨by unfold JourD.mk8; rw [← Int.add_assoc, HQ.out]; rfl, hb0⟩
theorem mkb_J {d : JourD} (hf : d.Fit) : 0 ≤ d.mk8 ∧ d.mk8 ≤ 16800000 := by
  have hq1 := mkC_le (ds := d.ks) (by have := hf.tk; omega)
  have hq2 := mkC_le (ds := d.ls) (by have := hf.tl; omega)
  unfold JourD.mk8
  omega
end Go.Proofs.YtjdepjpjjgkmbaaGreat
