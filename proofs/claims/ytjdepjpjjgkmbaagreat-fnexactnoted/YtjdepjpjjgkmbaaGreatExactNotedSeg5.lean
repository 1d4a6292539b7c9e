/- FnExactNoted: at every group, journal, four numbers, stamp and list of seals the program answers as its model and leaves its argument alone: the law answers true; no condition beyond the given row's own. -/
import Derived.Test.YtjdepjpjjgkmbaaGreatExactNotedSeg4
import Derived.Test.YtjdepjpjjgkmbaaGreatExactNotedSeg3
import Derived.Test.YtjdepjpjjgkmbaaGreatExactNotedSeg1
import Derived.Test.YtjdepjpjjgkmbaaGreatRows
import Derived.Test.YtjdepjpjjgkmbaaGreatExactNotedSeg0
import Derived.Test.YtjdepjpjjgkmbaaGreatChecked
import Derived.WalkKit
import Derived.ProofKit
import Derived.OpenShut
import Derived.ShutString
import Derived.ChangeOld
import Derived.Below
import Derived.Carry
import Derived.Deep.Fields
import Derived.Laws.Rows
import Derived.Deep.SlicePairs

/- Noted of the model: a journal with one record more, in memory of its own (written by jour_noted2.py); conditions: the sizes. -/
namespace Go.Proofs.YtjdepjpjjgkmbaaGreat
open Go Go.RowKit

theorem jok_snoc {g : GrpD} {d : JourD} {r : RecD} (h : jokD g d = true) (hr : r.r1 = ((d.ks.length + d.ls.length : Nat) : Int) + 1) : jokD g ⟨d.ks, d.ls ++ [r]⟩ = rokD g r := by
  have hl : (d.ks ++ (d.ls ++ [r])).length = d.ks.length + d.ls.length + 1 := by simp [Nat.add_assoc]
  have hg : (d.ks ++ (d.ls ++ [r]))[d.ks.length + d.ls.length]'(by omega) = r := by simp
  have h1 : okG g = true ∧ allAt g (d.ks ++ d.ls) = true := by
    unfold jokD replD at h
    split at h
    · rename_i hc
      rwa [Bool.and_eq_true] at hc
    · cases h
  have hold : ∀ i, i < d.ks.length + d.ls.length → isAt g (d.ks ++ (d.ls ++ [r])) i = true := fun i hi => by
    have h2 := allAt_of h1.2 i (by rw [List.length_append]; exact hi)
    rw [isAt_lt (by rw [List.length_append]; exact hi)] at h2
    rw [isAt_lt (by omega)]
    have e : (d.ks ++ (d.ls ++ [r]))[i]'(by omega) = (d.ks ++ d.ls)[i]'(by rw [List.length_append]; exact hi) := by
      simp only [← List.append_assoc]
      rw [List.getElem_append_left (by rw [List.length_append]; exact hi)]
    rw [e]
    exact h2
  have hat : isAt g (d.ks ++ (d.ls ++ [r])) (d.ks.length + d.ls.length) = rokD g r := by
    rw [isAt_lt (by omega), hg, hr]
    simp
  have e : jokD g ⟨d.ks, d.ls ++ [r]⟩ = allAt g (d.ks ++ (d.ls ++ [r])) := by
    unfold jokD replD
    show (if okG g && allAt g (d.ks ++ (d.ls ++ [r])) then (shelves g (d.ks ++ (d.ls ++ [r])), true) else ([], false)).2 = _
    rw [h1.1, Bool.true_and]
    cases allAt g (d.ks ++ (d.ls ++ [r])) <;> rfl
  rw [e]
  cases hy : rokD g r
  · exact allAt_false (i := d.ks.length + d.ls.length) (by omega) (by rw [hat, hy])
  · refine allAt_true (fun i hi => ?_)
    rcases Nat.lt_or_ge i (d.ks.length + d.ls.length) with h2 | h2
    · exact hold i h2
    · obtain rfl : i = d.ks.length + d.ls.length := by omega
      rw [hat, hy]
theorem RowK.turn2 {base : Nat} {wr w' : World} {ds : List RecD} {k g cap : Nat} {ms : List (RecD × Value)} {Fs : Nat → Nat → Prop} {T : Nat → Prop} (h : RowK base wr ds k g cap ms Fs) (ht : Turns T wr w') (hg : ¬ T g) (hF : ∀ i, i < k → ∀ b, Fs i b → ¬ T b) : RowK base w' ds k g cap ms Fs := by
  obtain ⟨g1, g2⟩ := h.gl
  refine ⟨⟨h.own.1, ?_⟩, h.map, fun i hi => (h.cert i hi).turn ht (hF i (by rw [h.len] at hi; exact hi)), fun i hi b hb => ⟨(h.far i hi b hb).1, Nat.lt_of_lt_of_le (h.far i hi b hb).2.1 ht.size, (h.far i hi b hb).2.2⟩, h.two⟩
  rcases h.own.2 with ⟨e, _⟩ | ⟨g', cap', cur, e, hb, hgg, h1, h2, h3, h4⟩
  · cases e
  · injection e with e1 _ e3
    injection e1 with e1
    injection e1 with e1 _ _
    subst e1 e3
    exact .inr ⟨g, cap, cur, rfl, hb, (ht.block g g2 hg).trans hgg, h1, h2, h3, h4⟩

set_option maxRecDepth 100000 in
set_option maxHeartbeats 8000000 in
theorem specNoted_is {g : GrpD} {d : JourD} {w : World} {F0 F1 : Nat → Prop} {C0 C1 : Array Value} (kd sh cl t1 t2 v : Int) {u0 : Value} {cs : List (Int × Int)} (h0 : AtG g w F0 (.agg C0)) (h1 : AtS9 d w F1 (.agg C1)) (hc : Slc w u0 cs) (hs : g.sz + d.sz + cs.length ≤ 1048576) {rr : JourD × Bool} (hr : notedD g d (newD d kd sh cl t1 t2 v cs) = rr) :
    Calls Tryz.prog 23 #[.agg C0, .agg C1, .int .i64 kd, .int .i64 sh, .int .i64 cl, .agg #[.int .i64 t1, .int .i64 t2], .int .i64 v, u0] w (MadeN rr w) := by
  obtain ⟨j0, hj0, hy0, hy1, hy2⟩ := info_parts Tryz.infoRecI
  obtain ⟨u1, u2, e, hk, hl⟩ := h1
  injection e with e
  subst e
  obtain ⟨A1, c1, rfl, -, -⟩ := hk.at
  obtain ⟨A2, c2, rfl, -, -⟩ := hl.at
  obtain ⟨A0, n0, c0, rfl⟩ := slc_form hc
  have HZ := Lib.hid hr
  have hsk : totC d.ks + totC d.ls = d.sz := rfl
  obtain ⟨n1, hn1⟩ : ∃ n, d.ks.length = n := ⟨_, rfl⟩
  obtain ⟨n2, hn2⟩ : ∃ n, d.ls.length = n := ⟨_, rfl⟩
  have hk0 : ListS d.ks w F1 (.slice A1 n1 c1) := by rw [← hn1]; exact hk
  have hl0 : ListS d.ls w F1 (.slice A2 n2 c2) := by rw [← hn2]; exact hl
  rw [hn1, hn2]
  have HN1 := Lib.hid hn1
  have HN2 := Lib.hid hn2
  have hnn : n1 + n2 ≤ 1048576 := by have := totC_len d.ks; have := totC_len d.ls; omega
  obtain ⟨s, hs1, hs2⟩ : ∃ s : Nat, (n1 : Int) + (n2 : Int) = (s : Int) ∧ n1 + n2 = s := ⟨n1 + n2, by omega, rfl⟩
  have hw1 : IntKind.i64.wrap ((s : Int) + 1) = (s : Int) + 1 := IntWalk.i64_in _ (by omega)
  have hnd : newD d kd sh cl t1 t2 v cs = ⟨(s : Int) + 1, kd, sh, cl, t1, t2, v, cs, sumN ((s : Int) + 1) kd sh cl t1 t2 v cs⟩ := by unfold newD; rw [hn1, hn2, hs2]
  have HND := Lib.hid hnd
  clear hk hl hr hn1 hn2 hnd
  have J0 := Lib.hid (sizeG h0).2
  have hb0 := bel_trans (bel_trans (bel_trans (bel_alloc w (.cells C0 26)) (bel_alloc _ (.cells #[.slice A1 n1 c1, .slice A2 n2 c2] 29))) (bel_alloc _ (.cells #[.int .i64 t1, .int .i64 t2] 39))) (bel_alloc _ (.cells #[.slice none 0 0, .slice none 0 0] 29))
  have G := (((Box.new w 26 C0).alloc (.cells #[.slice A1 n1 c1, .slice A2 n2 c2] 29)).alloc (.cells #[.int .i64 t1, .int .i64 t2] 39)).alloc (.cells #[.slice none 0 0, .slice none 0 0] 29)
  have J := ((Box.new (w.alloc (.cells C0 26)) 29 #[.slice A1 n1 c1, .slice A2 n2 c2]).alloc (.cells #[.int .i64 t1, .int .i64 t2] 39)).alloc (.cells #[.slice none 0 0, .slice none 0 0] 29)
  have X := (Box.new ((w.alloc (.cells C0 26)).alloc (.cells #[.slice A1 n1 c1, .slice A2 n2 c2] 29)) 39 #[.int .i64 t1, .int .i64 t2]).alloc (.cells #[.slice none 0 0, .slice none 0 0] 29)
  have R := Box.new (((w.alloc (.cells C0 26)).alloc (.cells #[.slice A1 n1 c1, .slice A2 n2 c2] 29)).alloc (.cells #[.int .i64 t1, .int .i64 t2] 39)) 29 #[.slice none 0 0, .slice none 0 0]
  simp only [World.size_alloc] at J X R
  have H0 := Lib.hid ((keepsG g).later h0 hb0)
  have HK := Lib.hid (hk0.later hb0)
  have HLL := Lib.hid (hl0.later hb0)
  have HC := Lib.hid (hc.later hb0)
  clear h0 hk0 hl0 hc
  go_enter Tryz.func23, Tryz.ntmps23
  go_upto_region 1 with fail
  generalize ((((w.alloc _).alloc _).alloc _).alloc _ : World) = w0 at hb0 G J X R H0 HK HLL HC ⊢
  have hw0 := hb0.size
  have hR0 := R.lt
  have HB := Below.refl w0.heap.size w0
  obtain ⟨z, hz⟩ : ∃ z, jokD g d = z := ⟨_, rfl⟩
  have HJ := Lib.hid hz
  clear hz
  go_wp2_with (first | (refine wpList_load_box 26 _ rfl (w.heap.size) rfl 26 C0 G _ Tryz.underlying26 rfl J0.out (by first | rfl | simp [Region.wanted, yielded] | (simp [Region.wanted, yielded, Act.put] <;> omega)) ?_) | (refine wpList_load_box 29 _ rfl (w.heap.size + 1) rfl 29 #[.slice A1 n1 c1, .slice A2 n2 c2] J _ Tryz.underlying29 rfl (by kernel_rfl) (by first | rfl | simp [Region.wanted, yielded] | (simp [Region.wanted, yielded, Act.put] <;> omega)) ?_))
  refine (specJournalOk_is H0.out ⟨_, _, rfl, HK.out, HLL.out⟩ (by omega) HJ.out).mono ?_
  rintro e w1 ⟨rfl, hb⟩
  replace G := G.later hb G.lt
  replace J := J.later hb J.lt
  replace X := X.later hb X.lt
  replace R := R.later hb R.lt
  replace HB := bel_trans HB hb
  clear hb
  cases z
  · have HD := Lib.hid (show rr = (⟨[], []⟩, false) by rw [← HZ.out]; unfold notedD; rw [HJ.out]; rfl)
    have R2 := R.setRow #[.slice none 0 0, .slice none 0 0]
    have E := Lib.hid (((turns_row9 w1 (w.heap.size + 1 + 1 + 1) #[.slice none 0 0, .slice none 0 0]).below (bel_trans hb0 HB) (fun b hb => by omega)))
    obtain ⟨r0, r1⟩ := R2.two
    clear R2 G J X
    go_wp2_with (refine wpList_store_row rfl 29 _ _ rfl (w.heap.size + 1 + 1 + 1) _ rfl rfl 29 #[.slice none 0 0, .slice none 0 0] R (by kernel_rfl) rfl (by simp [Value.oneCell']) ?_)
    exact bodyPost_ret (v := .tuple #[.agg #[.slice none 0 0, .slice none 0 0], .bool false]) (by simp [results, Tryz.results23, go_sem, r0, r1]) rfl ⟨_, by rw [HD.out], by rw [HD.out]; exact zeroJ _ _, E.out⟩
  · skip
    have hg1 := jok_grp HJ.out
    have hw1s := HB.size
    have hkk : totC d.ks ≤ 1048576 := by omega
    have hll : totC d.ls ≤ 1048576 := by omega
    go_wp2_with (refine wpList_load_box 29 _ rfl (w.heap.size + 1) rfl 29 #[.slice A1 n1 c1, .slice A2 n2 c2] J _ Tryz.underlying29 rfl (by kernel_rfl) (by first | rfl | simp [Region.wanted, yielded] | (simp [Region.wanted, yielded, Act.put] <;> omega)) ?_)
    refine (l10CopyK_is ⟨_, _, rfl, HK.out.later HB, HLL.out.later HB⟩ hkk hll).mono ?_
    rintro e w2 ⟨GK, ck, GL, lcp, ms, Fs, lo, rfl, OK, RL, hlo, hb⟩
    rw [HN1.out] at OK ⊢
    rw [HN2.out] at RL ⊢
    replace G := G.later hb G.lt
    replace J := J.later hb J.lt
    replace X := X.later hb X.lt
    replace R := R.later hb R.lt
    replace HB := bel_trans HB hb
    clear hb
    have hFV : ∀ i, i < n2 → ∀ b, Fs i b → b < w2.heap.size := fun i hi b hb => (RL.far i hi b hb).2.1
    have hGLb := RL.gl
    have hn := bel_new_row w2 #[.slice none 0 0, .slice none 0 0] 29 #[.slice (some ⟨GK, 0, none⟩) n1 ck, .slice (some ⟨GL, 0, none⟩) n2 lcp]
    have OX := (Box.new w2 29 #[.slice none 0 0, .slice none 0 0]).setRow #[.slice (some ⟨GK, 0, none⟩) n1 ck, .slice (some ⟨GL, 0, none⟩) n2 lcp]
    have ZB := Box.new w2 29 #[.slice none 0 0, .slice none 0 0]
    replace G := G.later hn G.lt
    replace J := J.later hn J.lt
    replace X := X.later hn X.lt
    replace R := R.later hn R.lt
    replace HB := bel_trans HB hn
    replace OK := OK.later hn
    replace RL := RL.later hn
    have hw2s := hn.size
    clear hn
    go_upto_region 4 with (refine wpList_store_row rfl 29 _ _ rfl w2.heap.size _ rfl rfl 29 #[.slice none 0 0, .slice none 0 0] ZB (by kernel_rfl) rfl (by simp [Value.oneCell']) ?_)
    clear ZB
    try simp only [Act.put]
    generalize ((w2.alloc _).setRow _ _ : World) = w3 at G J X R HB OX OK RL hw2s ⊢
    generalize w2.heap.size = V at OX hFV hGLb hw2s ⊢
    have hVl := OX.lt
    refine wp_region_sink 20 (fun w' => Box w' V 29 #[.slice (some ⟨GK, 0, none⟩) n1 ck, .slice (some ⟨GL, 0, none⟩) n2 lcp] ∧ Box w' (w.heap.size + 1) 29 #[.slice A1 n1 c1, .slice A2 n2 c2] ∧ Box w' (w.heap.size + 1 + 1) 39 #[.int .i64 t1, .int .i64 t2]) (by kernel_rfl) ⟨OX, J, X⟩ (fun hH => ?_)
    have hb := (Below.refl w3.heap.size w3).drew
    replace G := G.later hb G.lt
    replace J := J.later hb J.lt
    replace X := X.later hb X.lt
    replace R := R.later hb R.lt
    replace HB := bel_trans HB hb
    replace OX := OX.later hb OX.lt
    replace OK := OK.later hb
    replace RL := RL.later hb
    clear hb
    have hszd : w3.heap.size = w3.drew.heap.size := rfl
    rw [hszd] at hVl
    clear hszd hw2s
    generalize w3.drew = w4 at G J X R HB OX OK RL hH hVl ⊢
    have hw4 := HB.size
    have hwS : IntKind.i64.wrap (s : Int) = (s : Int) := IntWalk.i64_in _ (by omega)
    have hadd : IntKind.i64.wrap ((n1 : Int) + (n2 : Int)) = (s : Int) := by rw [hs1]; exact hwS
    refine wpAnyE_pure (i := 0) (v := ?vp0) (by simp only [List.getElem?_toArray, List.getElem?_cons_zero]; rfl) (by kernel_rfl) (by kernel_rfl) (by kernel_rfl) (by exact fun _ _ _ h => h) (by kernel_rfl) (Or.inl ⟨by rfl, ?yp0⟩) hH ?rp0
    case yp0 => (intro w' hSw; (try dsimp only at hSw); go_simp; try with_reducible rfl)
    try simp only [Act.put, List.setIfInBounds_toArray, List.set_cons_zero, List.set_cons_succ]
    refine wpAnyE_take (i := 1) (v := (.slice (some ⟨GL, 0, none⟩) n2 lcp)) (by simp only [List.getElem?_toArray, List.getElem?_cons_succ, List.getElem?_cons_zero]; rfl) (by kernel_rfl) (by kernel_rfl) (by kernel_rfl) (by exact fun _ _ _ h => h) (by kernel_rfl) ?yc1 hH ?_
    case yc1 => exact .inl ⟨(by first | rfl | simp [Region.wanted, yielded] | (simp [Region.wanted, yielded, Act.put] <;> omega)), fun w' hSw => by (try dsimp only at hSw); have hc := (Box.two hSw.1).2; go_simp; try with_reducible rfl⟩
    try simp only [Act.put, List.setIfInBounds_toArray, List.set_cons_zero, List.set_cons_succ]
    refine wpAnyE_pure (i := 2) (v := ?vp2) (by simp only [List.getElem?_toArray, List.getElem?_cons_succ, List.getElem?_cons_zero]; rfl) (by kernel_rfl) (by kernel_rfl) (by kernel_rfl) (by exact fun _ _ _ h => h) (by kernel_rfl) (Or.inl ⟨by rfl, ?yp2⟩) hH ?rp2
    case yp2 => (intro w' hSw; (try dsimp only at hSw); go_simp; try with_reducible rfl)
    try simp only [Act.put, List.setIfInBounds_toArray, List.set_cons_zero, List.set_cons_succ]
    refine wpAnyE_take (i := 3) (v := (.slice A1 n1 c1)) (by simp only [List.getElem?_toArray, List.getElem?_cons_succ, List.getElem?_cons_zero]; rfl) (by kernel_rfl) (by kernel_rfl) (by kernel_rfl) (by exact fun _ _ _ h => h) (by kernel_rfl) ?yc3 hH ?_
    case yc3 => exact .inl ⟨(by first | rfl | simp [Region.wanted, yielded] | (simp [Region.wanted, yielded, Act.put] <;> omega)), fun w' hSw => by (try dsimp only at hSw); have hc := (Box.two hSw.2.1).1; go_simp; try with_reducible rfl⟩
    try simp only [Act.put, List.setIfInBounds_toArray, List.set_cons_zero, List.set_cons_succ]
    refine wpAnyE_pure (i := 4) (v := ?vp4) (by simp only [List.getElem?_toArray, List.getElem?_cons_succ, List.getElem?_cons_zero]; rfl) (by kernel_rfl) (by kernel_rfl) (by kernel_rfl) (by exact fun _ _ _ h => h) (by kernel_rfl) (Or.inl ⟨by rfl, ?yp4⟩) hH ?rp4
    case yp4 => (intro w' hSw; (try dsimp only at hSw); go_simp; try with_reducible rfl)
    try simp only [Act.put, List.setIfInBounds_toArray, List.set_cons_zero, List.set_cons_succ]
    refine wpAnyE_pure (i := 5) (v := ?vp5) (by simp only [List.getElem?_toArray, List.getElem?_cons_succ, List.getElem?_cons_zero]; rfl) (by kernel_rfl) (by kernel_rfl) (by kernel_rfl) (by exact fun _ _ _ h => h) (by kernel_rfl) (Or.inl ⟨by rfl, ?yp5⟩) hH ?rp5
    case yp5 => (intro w' hSw; (try dsimp only at hSw); go_simp; try with_reducible rfl)
    try simp only [Act.put, List.setIfInBounds_toArray, List.set_cons_zero, List.set_cons_succ]
    refine wpAnyE_take (i := 6) (v := (.slice A2 n2 c2)) (by simp only [List.getElem?_toArray, List.getElem?_cons_succ, List.getElem?_cons_zero]; rfl) (by kernel_rfl) (by kernel_rfl) (by kernel_rfl) (by exact fun _ _ _ h => h) (by kernel_rfl) ?yc6 hH ?_
    case yc6 => exact .inl ⟨(by first | rfl | simp [Region.wanted, yielded] | (simp [Region.wanted, yielded, Act.put] <;> omega)), fun w' hSw => by (try dsimp only at hSw); have hc := (Box.two hSw.2.1).2; go_simp; try with_reducible rfl⟩
    try simp only [Act.put, List.setIfInBounds_toArray, List.set_cons_zero, List.set_cons_succ]
    refine wpAnyE_pure (i := 7) (v := ?vp7) (by simp only [List.getElem?_toArray, List.getElem?_cons_succ, List.getElem?_cons_zero]; rfl) (by kernel_rfl) (by kernel_rfl) (by kernel_rfl) (by exact fun _ _ _ h => h) (by kernel_rfl) (Or.inl ⟨by rfl, ?yp7⟩) hH ?rp7
    case yp7 => (intro w' hSw; (try dsimp only at hSw); go_simp; try with_reducible rfl)
    try simp only [Act.put, List.setIfInBounds_toArray, List.set_cons_zero, List.set_cons_succ]
    refine wpAnyE_pure (i := 8) (v := ?vp8) (by simp only [List.getElem?_toArray, List.getElem?_cons_succ, List.getElem?_cons_zero]; rfl) (by kernel_rfl) (by kernel_rfl) (by kernel_rfl) (by exact fun _ _ _ h => h) (by kernel_rfl) (Or.inl ⟨by rfl, ?yp8⟩) hH ?rp8
    case yp8 => (intro w' hSw; (try dsimp only at hSw); go_simp; try with_reducible rfl)
    try simp only [Act.put, List.setIfInBounds_toArray, List.set_cons_zero, List.set_cons_succ]
    refine wpAnyE_pure (i := 9) (v := ?vp9) (by simp only [List.getElem?_toArray, List.getElem?_cons_succ, List.getElem?_cons_zero]; rfl) (by kernel_rfl) (by kernel_rfl) (by kernel_rfl) (by exact fun _ _ _ h => h) (by kernel_rfl) (Or.inl ⟨by rfl, ?yp9⟩) hH ?rp9
    case yp9 => (intro w' hSw; (try dsimp only at hSw); go_simp; try with_reducible rfl)
    try simp only [Act.put, List.setIfInBounds_toArray, List.set_cons_zero, List.set_cons_succ]
    refine wpAnyE_pure (i := 10) (v := ?vp10) (by simp only [List.getElem?_toArray, List.getElem?_cons_succ, List.getElem?_cons_zero]; rfl) (by kernel_rfl) (by kernel_rfl) (by kernel_rfl) (by exact fun _ _ _ h => h) (by kernel_rfl) (Or.inl ⟨by rfl, ?yp10⟩) hH ?rp10
    case yp10 => (intro w' hSw; (try dsimp only at hSw); go_simp; try with_reducible rfl)
    try simp only [Act.put, List.setIfInBounds_toArray, List.set_cons_zero, List.set_cons_succ]
    refine wpAnyE_pure (i := 11) (v := ?vp11) (by simp only [List.getElem?_toArray, List.getElem?_cons_succ, List.getElem?_cons_zero]; rfl) (by kernel_rfl) (by kernel_rfl) (by kernel_rfl) (by exact fun _ _ _ h => h) (by kernel_rfl) (Or.inl ⟨by rfl, ?yp11⟩) hH ?rp11
    case yp11 => (intro w' hSw; (try dsimp only at hSw); go_simp; try with_reducible rfl)
    try simp only [Act.put, List.setIfInBounds_toArray, List.set_cons_zero, List.set_cons_succ]
    refine wpAnyE_pure (i := 12) (v := ?vp12) (by simp only [List.getElem?_toArray, List.getElem?_cons_succ, List.getElem?_cons_zero]; rfl) (by kernel_rfl) (by kernel_rfl) (by kernel_rfl) (by exact fun _ _ _ h => h) (by kernel_rfl) (Or.inl ⟨by rfl, ?yp12⟩) hH ?rp12
    case yp12 => (intro w' hSw; (try dsimp only at hSw); go_simp; try with_reducible rfl)
    try simp only [Act.put, List.setIfInBounds_toArray, List.set_cons_zero, List.set_cons_succ]
    refine wpAnyE_take (i := 13) (v := .agg #[.int .i64 t1, .int .i64 t2]) (by simp only [List.getElem?_toArray, List.getElem?_cons_succ, List.getElem?_cons_zero]; rfl) (by kernel_rfl) (by kernel_rfl) (by kernel_rfl) (by exact fun _ _ _ h => h) (by kernel_rfl) ?yx hH ?_
    case yx => exact yields_box 39 _ rfl (w.heap.size + 1 + 1) rfl 39 #[.int .i64 t1, .int .i64 t2] (fun _ h => h.2.2) _ Tryz.underlying39 rfl (by kernel_rfl) (by first | rfl | simp [Region.wanted, yielded] | (simp [Region.wanted, yielded, Act.put] <;> omega))
    try simp only [Act.put, List.setIfInBounds_toArray, List.set_cons_zero, List.set_cons_succ]
    refine wpAnyE_pure (i := 14) (v := ?vp14) (by simp only [List.getElem?_toArray, List.getElem?_cons_succ, List.getElem?_cons_zero]; rfl) (by kernel_rfl) (by kernel_rfl) (by kernel_rfl) (by exact fun _ _ _ h => h) (by kernel_rfl) (Or.inl ⟨by rfl, ?yp14⟩) hH ?rp14
    case yp14 => (intro w' hSw; (try dsimp only at hSw); go_simp; try with_reducible rfl)
    try simp only [Act.put, List.setIfInBounds_toArray, List.set_cons_zero, List.set_cons_succ]
    refine wpAnyE_pure (i := 15) (v := ?vp15) (by simp only [List.getElem?_toArray, List.getElem?_cons_succ, List.getElem?_cons_zero]; rfl) (by kernel_rfl) (by kernel_rfl) (by kernel_rfl) (by exact fun _ _ _ h => h) (by kernel_rfl) (Or.inl ⟨by rfl, ?yp15⟩) hH ?rp15
    case yp15 => (intro w' hSw; (try dsimp only at hSw); go_simp; try with_reducible rfl)
    try simp only [Act.put, List.setIfInBounds_toArray, List.set_cons_zero, List.set_cons_succ]
    refine wpAnyE_one (i := 16) (by kernel_rfl) (by simp only [List.getElem?_toArray, List.getElem?_cons_succ, List.getElem?_cons_zero]; rfl) (fun K hK => ?_)
    go_simp
    refine (specNewRec_is ((s : Int) + 1) kd sh cl t1 t2 v _ cs w4 (by omega) (HC.out.later HB)).mono ?_
    rintro e w5 ⟨CR, rfl, hL, hb⟩
    rw [← HND.out] at hL
    obtain ⟨r, hr⟩ : ∃ r, newD d kd sh cl t1 t2 v cs = r := ⟨_, rfl⟩
    have hrp : r.ps = cs := by rw [← hr]; rfl
    have hr1 : r.r1 = ((d.ks.length + d.ls.length : Nat) : Int) + 1 := by rw [← hr]; rfl
    have HR1 := Lib.hid hr1
    have HZ2 := Lib.hid HZ.out
    rw [hr] at hL HZ2
    clear hr hr1 HZ HND
    have hsV := hb.size
    obtain ⟨u, eC, hO⟩ := hL
    injection eC with eC
    obtain ⟨A3, m3, c3, rfl⟩ := slc_form hO.somewhere.slc
    subst eC
    unfold RecD.cells
    have hb5 := hb
    have RL4 := Lib.hid RL
    replace G := G.later hb G.lt
    replace J := J.later hb J.lt
    replace X := X.later hb X.lt
    replace R := R.later hb R.lt
    replace HB := bel_trans HB hb
    replace OX := OX.later hb OX.lt
    replace OK := OK.later hb
    replace RL := RL.later hb
    clear hb
    clear hH
    refine hK.out _ _ ⟨OX, J, X⟩ (fun hH => ?_)
    clear hK K
    try simp only [Act.put, List.setIfInBounds_toArray, List.set_cons_zero, List.set_cons_succ]
    refine wpAnyE_one (i := 17) (by kernel_rfl) (by simp only [List.getElem?_toArray, List.getElem?_cons_succ, List.getElem?_cons_zero]; rfl) (fun K hK => ?_)
    go_simp
    have hb := bel_alloc w5 (.cells #[.int .i64 r.r1, .int .i64 r.r2, .int .i64 r.r3, .int .i64 r.r4, .int .i64 r.r5, .int .i64 r.r6, .int .i64 r.r7, .slice A3 m3 c3, .int .i64 r.r8] 46)
    have Q := Box.new w5 46 #[.int .i64 r.r1, .int .i64 r.r2, .int .i64 r.r3, .int .i64 r.r4, .int .i64 r.r5, .int .i64 r.r6, .int .i64 r.r7, .slice A3 m3 c3, .int .i64 r.r8]
    replace G := G.later hb G.lt
    replace J := J.later hb J.lt
    replace X := X.later hb X.lt
    replace R := R.later hb R.lt
    replace HB := bel_trans HB hb
    replace OX := OX.later hb OX.lt
    replace OK := OK.later hb
    replace RL := RL.later hb
    have hb6 := bel_trans hb5 hb
    have hO6 := (OwnP.turn hO (T := fun _ => False) (Turns.of_below hb) (fun _ _ h => h))
    have hq := hb.size
    clear hb hb5 hO
    clear hH
    refine hK.out _ _ ⟨OX, J, X⟩ (fun hH => ?_)
    clear hK K
    try simp only [Act.put, List.setIfInBounds_toArray, List.set_cons_zero, List.set_cons_succ]
    have hq2 : w5.heap.size < (w5.alloc (.cells #[.int .i64 r.r1, .int .i64 r.r2, .int .i64 r.r3, .int .i64 r.r4, .int .i64 r.r5, .int .i64 r.r6, .int .i64 r.r7, .slice A3 m3 c3, .int .i64 r.r8] 46)).heap.size := Q.lt
    generalize hw6 : (w5.alloc _ : World) = w6 at G J X R HB OX OK RL hH Q hb6 hO6 hq hq2 ⊢
    clear hw6
    generalize w5.heap.size = q at Q hO6 hsV hq hq2 ⊢
    have OWN := Lib.hid RL.own
    have hflat : flatC [(r, .slice A3 m3 c3)] = (#[.int .i64 r.r1, .int .i64 r.r2, .int .i64 r.r3, .int .i64 r.r4, .int .i64 r.r5, .int .i64 r.r6, .int .i64 r.r7, .slice A3 m3 c3, .int .i64 r.r8] : Array Value).toList := rfl
    have NEWS := Lib.hid (show ∀ j x, (flatC [(r, .slice A3 m3 c3)])[j]? = some x → w6.cell? ((⟨q, 0, none⟩ : Addr).add j) = some x from fun j x hj => by
      rw [hflat] at hj
      rw [show (⟨q, 0, none⟩ : Addr).add j = ⟨q, j, none⟩ by unfold Addr.add; split <;> simp_all]
      rw [Q.cell j]
      simpa using hj)
    have ONE := Lib.hid (show ∀ x ∈ flatC [(r, .slice A3 m3 c3)], x.oneCell' = true from flatC_one (fun p hp => by rw [List.mem_singleton.1 hp]; rfl))
    clear hflat
    have hlo6 : lo ≤ w6.heap.size := by omega
    refine wpAnyE_one (i := 18) (by kernel_rfl) (by simp only [List.getElem?_toArray, List.getElem?_cons_succ, List.getElem?_cons_zero]; rfl) (fun K hK => ?_)
    refine step_append_lies _ (by rfl) _ _ _ (by rfl) lo 46 j0 _ 9 88 Tryz.underlying27 hj0 hy0 hy1 hy2 rfl (by omega) (.slice (some ⟨GL, 0, none⟩) n2 lcp) n2 (flatC ms) (by rfl) OWN.out ⟨q, 0, none⟩ 1 1 (flatC [(r, .slice A3 m3 c3)]) (by rfl) rfl NEWS.out ONE.out (by omega) (by unfold maxLen; omega) (by omega) hlo6 _ rfl ?_
    intro g' cap' w7 hown hgrow hlie hlg
    replace hgrow : w6.grownBy w7 (some GL) := hgrow
    have hlie2 : g' = GL ∨ w6.heap.size ≤ g' := by
      rcases hlie with h | h
      · injection h with h
        exact .inl h.symm
      · exact .inr (by rw [h]; exact Nat.le_refl _)
    rw [← flatC_app] at hown
    have hk9 : n2 < (d.ls ++ [r]).length := by rw [List.length_append, HN2.out]; simp
    have e9 : (d.ls ++ [r])[n2] = r := by rw [List.getElem_append_right (by rw [HN2.out]; exact Nat.le_refl _)]; simp [HN2.out]
    have RM : RowK lo w4 (d.ls ++ [r]) n2 GL lcp ms Fs := by
      have h := RL4.out
      rw [← HN2.out] at h
      have h2 := h.more [r]
      rw [HN2.out] at h2
      exact h2
    have nx := RM.next (w2 := w6) (w3 := w7) (g' := g') (cap' := cap') (u := .slice A3 m3 c3) hk9 hb6
    rw [e9] at nx
    have RN := nx (hO6.sub (fun b hb => ⟨hb.1, by have := hb.2; omega⟩)) hown hgrow hlie2
    clear nx RM hown hlie hO6 OWN NEWS ONE Q RL e9 hk9
    have ht := Turns.of_grown hgrow
    have hGX : w.heap.size + 1 + 1 + 1 < GL := by omega
    replace G := G.turn ht (by omega)
    replace J := J.turn ht (by omega)
    replace X := X.turn ht (by omega)
    replace R := R.turn ht (by omega)
    replace OX := OX.turn ht (by omega)
    replace OK := OK.turn ht (fun b hb e => by have h1 := hb.2; have e : b = GL := e; omega)
    have hg67 := hgrow.size
    replace HB := bel_grown HB hgrow (by omega)
    clear ht hgrow
    clear hH
    refine hK.out _ _ ⟨OX, J, X⟩ (fun hH => ?_)
    clear hK K
    try simp only [Act.put, List.setIfInBounds_toArray, List.set_cons_zero, List.set_cons_succ]
    clear hlg
    refine wpAnyE_pure (i := 19) (v := ?vp19) (by simp only [List.getElem?_toArray, List.getElem?_cons_succ, List.getElem?_cons_zero]; rfl) (by kernel_rfl) (by kernel_rfl) (by kernel_rfl) (by exact fun _ _ _ h => h) (by kernel_rfl) (Or.inl ⟨by rfl, ?yp19⟩) hH ?rp19
    case yp19 => (intro w' hSw; (try dsimp only at hSw); go_simp; try with_reducible rfl)
    try simp only [Act.put, List.setIfInBounds_toArray, List.set_cons_zero, List.set_cons_succ]
    refine wpAnyE_last (by kernel_rfl) (by simp only [List.getElem?_toArray, List.getElem?_cons_succ, List.getElem?_cons_zero]; rfl) (by kernel_rfl) (fun K hK => ?_)
    rw [if_pos (by first | rfl | kernel_rfl | simp [Region.wanted, yielded])]
    obtain ⟨v0, v1⟩ := OX.two
    have fv := OX.frozen
    go_simp
    refine hK.out _ _ ?_
    clear hK K hH v0 v1 fv
    have tv := turns_setCells9.turns_cell9 w7 V 1 (.slice (some ⟨g', 0, none⟩) (n2 + 1) cap')
    have OX2 : Box (w7.setCell ⟨V, 1, none⟩ (.slice (some ⟨g', 0, none⟩) (n2 + 1) cap')) V 29 #[.slice (some ⟨GK, 0, none⟩) n1 ck, .slice (some ⟨g', 0, none⟩) (n2 + 1) cap'] := OX.set 1 _
    replace G := G.turn tv (by omega)
    replace J := J.turn tv (by omega)
    replace X := X.turn tv (by omega)
    replace R := R.turn tv (by omega)
    replace OK := OK.turn tv (fun b hb e => by have h1 := hb.2; have e : b = V := e; omega)
    have RN2 := RN.turn2 tv (by omega) (fun i hi b hb e => by
      have e : b = V := e
      by_cases ei : i = n2
      · simp only [if_pos ei] at hb
        have := hb.1
        omega
      · simp only [if_neg ei] at hb
        have := hFV i (by omega) b hb
        omega)
    have EV := HB.setCell (p := ⟨V, 1, none⟩) (by show w0.heap.size ≤ V; omega) (.slice (some ⟨g', 0, none⟩) (n2 + 1) cap')
    have hL9 : (d.ls ++ [r]).length = n2 + 1 := by rw [List.length_append, HN2.out]; simp
    rw [← hL9] at RN2
    have LL := RN2.done
    rw [hL9] at LL
    clear RN RN2 OX HB tv hFV
    generalize (w7.setCell _ _ : World) = w8 at G J X R OK OX2 EV LL ⊢
    have hw8 := EV.size
    have hV8 := OX2.lt
    have LJ := twoJ OK LL (fun b hb hb2 => by have h1 := hb.2; have h2 := hb2.1; omega) (F := Iv w0.heap.size w8.heap.size) (fun b hb => ⟨by have := hb.1; omega, by have := hb.2; omega⟩) (fun b hb => ⟨by have := hb.1; omega, hb.2⟩)
    clear OK LL
    obtain ⟨y, hy⟩ : ∃ y, rokD g r = y := ⟨_, rfl⟩
    have HY := Lib.hid hy
    have HJ2 := Lib.hid ((jok_snoc HJ.out HR1.out).trans hy)
    clear hy
    have hsz8 : (⟨d.ks, d.ls ++ [r]⟩ : JourD).sz ≤ 1048576 := by show totC d.ks + totC (d.ls ++ [r]) ≤ _; rw [totC_app, totC_one, hrp]; omega
    have HB := EV
    clear EV
    go_wp2_with (first | (refine wpList_load_box 26 _ rfl (w.heap.size) rfl 26 C0 G _ Tryz.underlying26 rfl J0.out (by first | rfl | simp [Region.wanted, yielded] | (simp [Region.wanted, yielded, Act.put] <;> omega)) ?_) | (refine wpList_load_box 29 _ rfl (V) rfl 29 #[.slice (some ⟨GK, 0, none⟩) n1 ck, .slice (some ⟨g', 0, none⟩) (n2 + 1) cap'] OX2 _ Tryz.underlying29 rfl (by kernel_rfl) (by first | rfl | simp [Region.wanted, yielded] | (simp [Region.wanted, yielded, Act.put] <;> omega)) ?_))
    refine (specJournalOk_is ((keepsG g).later H0.out HB) LJ.somewhere hsz8 HJ2.out).mono ?_
    rintro e w9 ⟨rfl, hb⟩
    replace G := G.later hb G.lt
    replace J := J.later hb J.lt
    replace X := X.later hb X.lt
    replace R := R.later hb R.lt
    replace HB := bel_trans HB hb
    replace OX2 := OX2.later hb OX2.lt
    replace LJ := (keepsLJ _).later LJ hb
    have hw9 := hb.size
    clear hb
    cases y
    · have HD := Lib.hid (show rr = (d, false) by rw [← HZ2.out]; unfold notedD; rw [HJ.out, HY.out]; rfl)
      clear LJ OX2
      have hw9b := HB.size
      go_wp2_with (refine wpList_load_box 29 _ rfl (w.heap.size + 1) rfl 29 #[.slice A1 n1 c1, .slice A2 n2 c2] J _ Tryz.underlying29 rfl (by kernel_rfl) (by first | rfl | simp [Region.wanted, yielded] | (simp [Region.wanted, yielded, Act.put] <;> omega)) ?_)
      refine (l10Copy_is ⟨_, _, rfl, HK.out.later HB, HLL.out.later HB⟩ hkk hll).mono ?_
      rintro e w10 ⟨C5, rfl, LJ, hb⟩
      replace G := G.later hb G.lt
      replace J := J.later hb J.lt
      replace X := X.later hb X.lt
      replace R := R.later hb R.lt
      replace HB := bel_trans HB hb
      clear hb
      have JS := Lib.hid (sizeJ LJ.at).2
      have O := Lib.hid (oneJ LJ.at)
      obtain ⟨ua, ub, FA, FB, eC, -⟩ := id LJ
      injection eC with eC
      subst eC
      have ht := turns_row9 w10 (w.heap.size + 1 + 1 + 1) #[ua, ub]
      have R2 := R.setRow #[ua, ub]
      have L2 := Lib.hid ((keepsLJ _).sub ((keepsLJ _).turn LJ ht (fun b hb e => by have := hb.1; omega)) (F' := Iv w.heap.size (w10.setRow (w.heap.size + 1 + 1 + 1) #[ua, ub]).heap.size) (fun b hb => ⟨by have := hb.1; omega, by rw [size_setRow]; exact hb.2⟩))
      have E := Lib.hid (ht.below (bel_trans hb0 HB) (fun b hb => by omega))
      obtain ⟨r0, r1⟩ := R2.two
      clear R2 ht LJ
      go_wp2_with (refine wpList_store_row rfl 29 _ _ rfl (w.heap.size + 1 + 1 + 1) _ rfl rfl 29 #[.slice none 0 0, .slice none 0 0] R JS.out O.out.1.symm O.out.2 ?_)
      exact bodyPost_ret (v := .tuple #[.agg #[ua, ub], .bool false]) (by simp [results, Tryz.results23, go_sem, r0, r1]) rfl ⟨_, by rw [HD.out], by rw [HD.out]; exact L2.out, E.out⟩
    · have HD := Lib.hid (show rr = (⟨d.ks, d.ls ++ [r]⟩, true) by rw [← HZ2.out]; unfold notedD; rw [HJ.out, HY.out]; rfl)
      have ht := turns_row9 w9 (w.heap.size + 1 + 1 + 1) #[.slice (some ⟨GK, 0, none⟩) n1 ck, .slice (some ⟨g', 0, none⟩) (n2 + 1) cap']
      have R2 := R.setRow #[.slice (some ⟨GK, 0, none⟩) n1 ck, .slice (some ⟨g', 0, none⟩) (n2 + 1) cap']
      have L2 := Lib.hid ((keepsLJ _).sub ((keepsLJ _).turn LJ ht (fun b hb e => by have := hb.1; omega)) (F' := Iv w.heap.size (w9.setRow (w.heap.size + 1 + 1 + 1) #[.slice (some ⟨GK, 0, none⟩) n1 ck, .slice (some ⟨g', 0, none⟩) (n2 + 1) cap']).heap.size) (fun b hb => ⟨by have := hb.1; omega, by rw [size_setRow]; have := hb.2; omega⟩))
      have E := Lib.hid (ht.below (bel_trans hb0 HB) (fun b hb => by omega))
      obtain ⟨r0, r1⟩ := R2.two
      clear R2 ht LJ
      go_wp2_with (first | (refine wpList_load_box 29 _ rfl (V) rfl 29 #[.slice (some ⟨GK, 0, none⟩) n1 ck, .slice (some ⟨g', 0, none⟩) (n2 + 1) cap'] OX2 _ Tryz.underlying29 rfl (by kernel_rfl) (by first | rfl | simp [Region.wanted, yielded] | (simp [Region.wanted, yielded, Act.put] <;> omega)) ?_) | (refine wpList_store_row rfl 29 _ _ rfl (w.heap.size + 1 + 1 + 1) #[.slice (some ⟨GK, 0, none⟩) n1 ck, .slice (some ⟨g', 0, none⟩) (n2 + 1) cap'] rfl rfl 29 #[.slice none 0 0, .slice none 0 0] R (by kernel_rfl) rfl (by simp [Value.oneCell']) ?_))
      exact bodyPost_ret (v := .tuple #[.agg #[.slice (some ⟨GK, 0, none⟩) n1 ck, .slice (some ⟨g', 0, none⟩) (n2 + 1) cap'], .bool true]) (by simp [results, Tryz.results23, go_sem, r0, r1]) rfl ⟨_, by rw [HD.out], by rw [HD.out]; exact L2.out, E.out⟩

end Go.Proofs.YtjdepjpjjgkmbaaGreat

/- Records of one's own, a cell or a list of one of them written; conditions: the sizes. -/
namespace Go.Proofs.YtjdepjpjjgkmbaaGreat
open Go Go.RowKit

theorem upD_same (D : Nat → RecD) (i : Nat) (d : RecD) : upD D i d i = d := by simp [upD]
theorem upD_twice (D : Nat → RecD) (i : Nat) (a b : RecD) : upD (upD D i a) i b = upD D i b := by
  funext j
  unfold upD
  split <;> rfl
theorem far9 (w : World) (g : Nat) (v : Value) {a b : Nat} (h : a ≠ b) : (w.setCell ⟨g, a, none⟩ v).cell? ⟨g, b, none⟩ = w.cell? ⟨g, b, none⟩ := World.cell?_setCell_other _ _ _ _ (fun e => h (by injection e))
/-- One cell of one of them is written. -/
theorem RecsAt.cell {w : World} {g n : Nat} {D : Nat → RecD} {Fs : Nat → Nat → Prop} (h : RecsAt w g n D Fs) {i : Nat} (hi : i < n) {j : Nat} (hj : j < 9) (v : Value) (d' : RecD) (hps : d'.ps = (D i).ps) (hc : ∀ u, (d'.cells u).toList = ((D i).cells u).toList.set j v) :
    RecsAt (w.setCell ⟨g, i * 9 + j, none⟩ v) g n (upD D i d') Fs := by
  have ht := turns_setCells9 g [v] (i * 9 + j) w
  have hsz : (w.setCell ⟨g, i * 9 + j, none⟩ v).heap.size = w.heap.size := size_set _ _ _
  refine ⟨by rw [hsz]; exact h.lt, fun o => (World.frozen?_setCell _ _ _ _).trans (h.fr o), fun k hk => ?_, h.apart, h.two⟩
  obtain ⟨u, h1, h2⟩ := h.row k hk
  by_cases e : k = i
  · subst e
    rw [upD_same]
    refine ⟨u, fun p x hx => ?_, ?_⟩
    · rw [hc u] at hx
      by_cases hp : p = j
      · subst hp
        have hl : p < ((D k).cells u).toList.length := by rw [cells_len]; exact hj
        rw [List.getElem?_set_self hl] at hx
        injection hx with hx
        subst hx
        obtain ⟨y, hy⟩ : ∃ y, ((D k).cells u).toList[p]? = some y := ⟨_, List.getElem?_eq_getElem hl⟩
        exact World.cell?_setCell_same' _ _ _ (by rw [h1 p y hy]; rfl)
      · rw [List.getElem?_set_ne (Ne.symm hp)] at hx
        exact (far9 w g v (by omega)).trans (h1 p x hx)
    · obtain ⟨u2, e2, hO⟩ := h2
      injection e2 with e2
      have hu : u = u2 := by simpa [RecD.cells] using e2
      subst hu
      exact ⟨u, rfl, hps ▸ hO.turn ht (h.apart k hk)⟩
  · have hd : upD D i d' k = D k := by simp [upD, e]
    rw [hd]
    refine ⟨u, fun p x hx => ?_, (keepsLC _).turn h2 ht (h.apart k hk)⟩
    have hp : p < 9 := by
      have := (List.getElem?_eq_some_iff.1 hx).1
      rwa [cells_len] at this
    exact (far9 w g v (by omega)).trans (h1 p x hx)
/-- The seven numbers ahead of the list are written. -/
theorem RecsAt.seven {w : World} {g n : Nat} {D : Nat → RecD} {Fs : Nat → Nat → Prop} (h : RecsAt w g n D Fs) {i : Nat} (hi : i < n) (x0 x1 x2 x3 x4 x5 x6 : Int) :
    RecsAt (((((((w.setCell ⟨g, i * 9, none⟩ (.int .i64 x0)).setCell ⟨g, i * 9 + 1, none⟩ (.int .i64 x1)).setCell ⟨g, i * 9 + 2, none⟩ (.int .i64 x2)).setCell ⟨g, i * 9 + 3, none⟩ (.int .i64 x3)).setCell ⟨g, i * 9 + 4, none⟩ (.int .i64 x4)).setCell ⟨g, i * 9 + 5, none⟩ (.int .i64 x5)).setCell ⟨g, i * 9 + 6, none⟩ (.int .i64 x6)) g n (upD D i ⟨x0, x1, x2, x3, x4, x5, x6, (D i).ps, (D i).r8⟩) Fs := by
  have h0 := h.cell hi (j := 0) (by omega) (.int .i64 x0) ⟨x0, (D i).r2, (D i).r3, (D i).r4, (D i).r5, (D i).r6, (D i).r7, (D i).ps, (D i).r8⟩ rfl (fun _ => rfl)
  have h1 := h0.cell hi (j := 1) (by omega) (.int .i64 x1) ⟨x0, x1, (D i).r3, (D i).r4, (D i).r5, (D i).r6, (D i).r7, (D i).ps, (D i).r8⟩ (by rw [upD_same]) (fun _ => by rw [upD_same]; rfl)
  rw [upD_twice] at h1
  have h2 := h1.cell hi (j := 2) (by omega) (.int .i64 x2) ⟨x0, x1, x2, (D i).r4, (D i).r5, (D i).r6, (D i).r7, (D i).ps, (D i).r8⟩ (by rw [upD_same]) (fun _ => by rw [upD_same]; rfl)
  rw [upD_twice] at h2
  have h3 := h2.cell hi (j := 3) (by omega) (.int .i64 x3) ⟨x0, x1, x2, x3, (D i).r5, (D i).r6, (D i).r7, (D i).ps, (D i).r8⟩ (by rw [upD_same]) (fun _ => by rw [upD_same]; rfl)
  rw [upD_twice] at h3
  have h4 := h3.cell hi (j := 4) (by omega) (.int .i64 x4) ⟨x0, x1, x2, x3, x4, (D i).r6, (D i).r7, (D i).ps, (D i).r8⟩ (by rw [upD_same]) (fun _ => by rw [upD_same]; rfl)
  rw [upD_twice] at h4
  have h5 := h4.cell hi (j := 5) (by omega) (.int .i64 x5) ⟨x0, x1, x2, x3, x4, x5, (D i).r7, (D i).ps, (D i).r8⟩ (by rw [upD_same]) (fun _ => by rw [upD_same]; rfl)
  rw [upD_twice] at h5
  have h6 := h5.cell hi (j := 6) (by omega) (.int .i64 x6) ⟨x0, x1, x2, x3, x4, x5, x6, (D i).ps, (D i).r8⟩ (by rw [upD_same]) (fun _ => by rw [upD_same]; rfl)
  rw [upD_twice] at h6
  exact h6
/-- The list of one of them is written. -/
theorem RecsAt.list {w w' : World} {g n : Nat} {D : Nat → RecD} {Fs : Nat → Nat → Prop} (h : RecsAt w g n D Fs) {i : Nat} (hi : i < n) {T : Nat → Prop} (ht : Turns T w w') (hT : ∀ b, T b → Fs i b) {u : Value} {ps' : List (Int × Int)} (hu : w.cell? ⟨g, i * 9 + 7, none⟩ = some u) (hO : OwnP w' (Fs i) u ps') :
    RecsAt w' g n (upD D i ⟨(D i).r1, (D i).r2, (D i).r3, (D i).r4, (D i).r5, (D i).r6, (D i).r7, ps', (D i).r8⟩) Fs := by
  have hg : ¬ T g := fun hb => h.apart i hi g (hT g hb) rfl
  refine ⟨Nat.lt_of_lt_of_le h.lt ht.size, fun o => (ht.frozen h.lt hg o).trans (h.fr o), fun k hk => ?_, h.apart, h.two⟩
  obtain ⟨u1, h1, h2⟩ := h.row k hk
  by_cases e : k = i
  · subst e
    rw [upD_same]
    have hc : w.cell? ⟨g, k * 9 + 7, none⟩ = some u1 := h1 7 u1 rfl
    rw [hu] at hc
    injection hc with hc
    subst hc
    exact ⟨u, fun p x hx => (ht.cell h.lt hg _).trans (h1 p x hx), u, rfl, hO⟩
  · have hd : upD D i ⟨(D i).r1, (D i).r2, (D i).r3, (D i).r4, (D i).r5, (D i).r6, (D i).r7, ps', (D i).r8⟩ k = D k := by simp [upD, e]
    rw [hd]
    exact ⟨u1, fun p x hx => (ht.cell h.lt hg _).trans (h1 p x hx), (keepsLC _).turn h2 ht (fun b hb hb2 => h.two k i hk hi e b hb (hT b hb2))⟩
end Go.Proofs.YtjdepjpjjgkmbaaGreat

/- The laws' mark on a list of records of one's own; conditions: the sizes. -/
namespace Go.Proofs.YtjdepjpjjgkmbaaGreat
open Go Go.RowKit

theorem ownP_res9 {w : World} {F : Nat → Prop} {u : Value} {ps : List (Int × Int)} (h : OwnP w F u ps) : ∃ lo hi, ResP w lo hi u ps ∧ ∀ b, Iv lo hi b → F b := ownP_res h
theorem resP_own {w : World} {lo hi : Nat} {F : Nat → Prop} {u : Value} {ps : List (Int × Int)} (h : ResP w lo hi u ps) (hF : ∀ b, Iv lo hi b → F b) : OwnP w F u ps := by
  rcases h with h | ⟨g, cap, h1, h2, h3, h4, h5, h6⟩
  · exact .inl h
  · exact .inr ⟨g, cap, hF g ⟨h1, h2⟩, h3, h4, h5, h6⟩

end Go.Proofs.YtjdepjpjjgkmbaaGreat

/- The laws' marks on lists of one's own that may be empty, wherever those point; conditions: the sizes. -/
namespace Go.Proofs.YtjdepjpjjgkmbaaGreat
open Go Go.RowKit

end Go.Proofs.YtjdepjpjjgkmbaaGreat

/- The laws' mark on a list of records of one's own, and the look at it; conditions: the sizes. -/
namespace Go.Proofs.YtjdepjpjjgkmbaaGreat
open Go Go.RowKit

/-- The first j of them are marked, from k on. -/
def MarkedCS (k : Int) (S : Nat → Nat) (D D' : Nat → RecD) (j : Nat) : Prop :=
  (∀ i, (D' i).ps.length = (D i).ps.length) ∧ ∀ i, i < j → (D' i).r1 = k + S i ∧ (D' i).r2 = k + S i + 1 ∧ (D' i).r3 = k + S i + 1 + 1 ∧ (D' i).r4 = k + S i + 1 + 1 + 1 ∧ (D' i).r5 = k + S i + 1 + 1 + 1 + 1 ∧ (D' i).r6 = k + S i + 1 + 1 + 1 + 1 + 1 ∧ (D' i).r7 = k + S i + 1 + 1 + 1 + 1 + 1 + 1 ∧ Marked (k + S i + 1 + 1 + 1 + 1 + 1 + 1 + 1) (D' i).ps ∧ (D' i).r8 = k + S i + 1 + 1 + 1 + 1 + 1 + 1 + 1 + 2 * (D i).ps.length

set_option maxRecDepth 100000 in
set_option maxHeartbeats 8000000 in
theorem markd_CS {w : World} {G n cap : Nat} {D : Nat → RecD} {Fs : Nat → Nat → Prop} {k : Int} (h : RecsAt w G n D Fs) (hn : n ≤ 1048576) (S : Nat → Nat) (hS0 : S 0 = 0) (hS : ∀ j, j < n → S (j + 1) = S j + 8 + 2 * (D j).ps.length) (hSn : ∀ j, j ≤ n → S j ≤ 20000000) (hlen : ∀ j, j < n → (D j).ps.length ≤ 1048577) (hk0 : 0 ≤ k) (hk1 : k ≤ 10000000) :
    Calls Tryz.prog 92 #[.slice (some ⟨G, 0, none⟩) n cap, .int .i64 k] w fun e w' => e = .returned (.int .i64 (k + S n)) ∧ Turns (fun b => b = G ∨ ∃ i, i < n ∧ Fs i b) w w' ∧ ∃ D', RecsAt w' G n D' Fs ∧ MarkedCS k S D D' n := by
  have HS := Lib.hid hS
  have HSN := Lib.hid hSn
  have HLN := Lib.hid hlen
  have HS0 := Lib.hid hS0
  clear hS hSn hlen hS0
  go_enter Tryz.func92, Tryz.ntmps92
  go_wp2
  go_loopw [1, 5] (fun kv i wr => ∃ (j : Nat) (D' : Nat → RecD), j ≤ n ∧ i = .int .i64 j ∧ kv = .int .i64 (k + S j) ∧ RecsAt wr G n D' Fs ∧ MarkedCS k S D D' j ∧ Turns (fun b => b = G ∨ ∃ i, i < n ∧ Fs i b) w wr) (fun _ i _ => n - (intOf i).toNat)
  case atStart => exact ⟨0, D, Nat.zero_le _, rfl, by rw [HS0.out]; simp, h, ⟨fun _ => rfl, fun i hi => absurd hi (by omega)⟩, Turns.of_below (Below.refl _ _)⟩
  case round =>
    clear h
    obtain ⟨j, D', hj, rfl, rfl, h, hl, ht⟩ := hrel
    by_cases hlt : j < n
    · obtain ⟨u, hr, u2, e2, hO⟩ := h.row j hlt
      injection e2 with e2
      have hu : u = u2 := by simpa [RecD.cells] using e2
      subst hu
      clear e2
      have c0 : wr.cell? ⟨G, j * 9, none⟩ = some (.int .i64 (D' j).r1) := hr 0 _ rfl
      have c1 : wr.cell? ⟨G, j * 9 + 1, none⟩ = some (.int .i64 (D' j).r2) := hr 1 _ rfl
      have c2 : wr.cell? ⟨G, j * 9 + 2, none⟩ = some (.int .i64 (D' j).r3) := hr 2 _ rfl
      have c3 : wr.cell? ⟨G, j * 9 + 3, none⟩ = some (.int .i64 (D' j).r4) := hr 3 _ rfl
      have c4 : wr.cell? ⟨G, j * 9 + 4, none⟩ = some (.int .i64 (D' j).r5) := hr 4 _ rfl
      have c5 : wr.cell? ⟨G, j * 9 + 5, none⟩ = some (.int .i64 (D' j).r6) := hr 5 _ rfl
      have c6 : wr.cell? ⟨G, j * 9 + 6, none⟩ = some (.int .i64 (D' j).r7) := hr 6 _ rfl
      have c7 : wr.cell? ⟨G, j * 9 + 7, none⟩ = some u := hr 7 _ rfl
      have c8 : wr.cell? ⟨G, j * 9 + 8, none⟩ = some (.int .i64 (D' j).r8) := hr 8 _ rfl
      have fG := h.fr
      have hSj := HSN.out j hj
      obtain ⟨q, hq⟩ : ∃ q : Int, k + (S j : Int) = q := ⟨_, rfl⟩
      have hq0 : 0 ≤ q := by omega
      have hq1 : q ≤ 30000000 := by omega
      rw [hq]
      have HQ := Lib.hid hq
      clear hq hSj
      have v0 : IntKind.i64.wrap (q + 1) = q + 1 := IntWalk.i64_in _ (by omega)
      have v1 : IntKind.i64.wrap (q + 1 + 1) = q + 1 + 1 := IntWalk.i64_in _ (by omega)
      have v2 : IntKind.i64.wrap (q + 1 + 1 + 1) = q + 1 + 1 + 1 := IntWalk.i64_in _ (by omega)
      have v3 : IntKind.i64.wrap (q + 1 + 1 + 1 + 1) = q + 1 + 1 + 1 + 1 := IntWalk.i64_in _ (by omega)
      have v4 : IntKind.i64.wrap (q + 1 + 1 + 1 + 1 + 1) = q + 1 + 1 + 1 + 1 + 1 := IntWalk.i64_in _ (by omega)
      have v5 : IntKind.i64.wrap (q + 1 + 1 + 1 + 1 + 1 + 1) = q + 1 + 1 + 1 + 1 + 1 + 1 := IntWalk.i64_in _ (by omega)
      have v6 : IntKind.i64.wrap (q + 1 + 1 + 1 + 1 + 1 + 1 + 1) = q + 1 + 1 + 1 + 1 + 1 + 1 + 1 := IntWalk.i64_in _ (by omega)
      have hkw : IntKind.i64.wrap ((j : Int) + 1) = (j : Int) + 1 := IntWalk.i64_in _ (by omega)
      have hltI : (j : Int) < (n : Int) := by omega
      have HSJ := Lib.hid (HS.out j hlt)
      have HLJ := Lib.hid (HLN.out j hlt)
      have HMM := Lib.hid hl
      replace hl := hl.1
      have HLE := Lib.hid (hl j)
      go_upto_region 18 with fail
      have K7 := h.seven hlt (q) (q + 1) (q + 1 + 1) (q + 1 + 1 + 1) (q + 1 + 1 + 1 + 1) (q + 1 + 1 + 1 + 1 + 1) (q + 1 + 1 + 1 + 1 + 1 + 1)
      have t7 : Turns (· = G) wr (((((((wr.setCell ⟨G, j * 9, none⟩ (.int .i64 (q))).setCell ⟨G, j * 9 + 1, none⟩ (.int .i64 (q + 1))).setCell ⟨G, j * 9 + 2, none⟩ (.int .i64 (q + 1 + 1))).setCell ⟨G, j * 9 + 3, none⟩ (.int .i64 (q + 1 + 1 + 1))).setCell ⟨G, j * 9 + 4, none⟩ (.int .i64 (q + 1 + 1 + 1 + 1))).setCell ⟨G, j * 9 + 5, none⟩ (.int .i64 (q + 1 + 1 + 1 + 1 + 1))).setCell ⟨G, j * 9 + 6, none⟩ (.int .i64 (q + 1 + 1 + 1 + 1 + 1 + 1))) := turns_setCells9 G [.int .i64 (q), .int .i64 (q + 1), .int .i64 (q + 1 + 1), .int .i64 (q + 1 + 1 + 1), .int .i64 (q + 1 + 1 + 1 + 1), .int .i64 (q + 1 + 1 + 1 + 1 + 1), .int .i64 (q + 1 + 1 + 1 + 1 + 1 + 1)] (j * 9) wr
      have n7 := (K7.row j hlt)
      rw [upD_same] at n7
      obtain ⟨u3, hr3, u4, e4, hO4⟩ := n7
      injection e4 with e4
      have hu4 : u3 = u4 := by simpa [RecD.cells] using e4
      subst hu4
      clear e4
      clear c0 c1 c2 c3 c4 c5 c6 c7 c8 fG v0 v1 v2 v3 v4 v5 v6 hr hO
      generalize (((((((wr.setCell ⟨G, j * 9, none⟩ (.int .i64 (q))).setCell ⟨G, j * 9 + 1, none⟩ (.int .i64 (q + 1))).setCell ⟨G, j * 9 + 2, none⟩ (.int .i64 (q + 1 + 1))).setCell ⟨G, j * 9 + 3, none⟩ (.int .i64 (q + 1 + 1 + 1))).setCell ⟨G, j * 9 + 4, none⟩ (.int .i64 (q + 1 + 1 + 1 + 1))).setCell ⟨G, j * 9 + 5, none⟩ (.int .i64 (q + 1 + 1 + 1 + 1 + 1))).setCell ⟨G, j * 9 + 6, none⟩ (.int .i64 (q + 1 + 1 + 1 + 1 + 1 + 1))) = w7 at K7 t7 hr3 hO4 ⊢
      have c7 : w7.cell? ⟨G, j * 9 + 7, none⟩ = some u3 := hr3 7 _ rfl
      obtain ⟨q7, hq7⟩ : ∃ q7 : Int, q + 1 + 1 + 1 + 1 + 1 + 1 + 1 = q7 := ⟨_, rfl⟩
      rw [hq7]
      have HQ7 := Lib.hid hq7
      have hp0 : 0 ≤ q7 := by omega
      have hp1 : q7 ≤ 30000007 := by omega
      clear hq7 hq0 hq1
      obtain ⟨lo, hi, hRP, hFs⟩ := ownP_res9 hO4
      have HRP := Lib.hid hRP
      clear hRP hO4 hr3
      go_upto_region 19 with (go_at_call 36; refine (markP_is q7 HRP.out (by rw [HLE.out]; exact HLJ.out) hp0 (by omega)).mono ?_; rintro e w8 ⟨rfl, D2, hd1, hd2, hR2, hB⟩)
      have K8 := K7.list hlt (Turns.of_band hB) hFs c7 (resP_own hR2 hFs)
      rw [upD_twice, upD_same] at K8
      have t8 := Turns.of_band hB
      have n8 := K8.row j hlt
      rw [upD_same] at n8
      obtain ⟨u5, hr5, -⟩ := n8
      have c8 : w8.cell? ⟨G, j * 9 + 8, none⟩ = some (.int .i64 (D' j).r8) := hr5 8 _ rfl
      have fG := K8.fr
      have HL2 := Lib.hid hd1
      have HD2 := Lib.hid hd2
      have HF := Lib.hid hFs
      obtain ⟨q8, hq8⟩ : ∃ q8 : Int, q7 + 2 * ((D j).ps.length : Int) = q8 := ⟨_, rfl⟩
      have hql := HLJ.out
      rw [hq8]
      have HQ8 := Lib.hid hq8
      have v8 : IntKind.i64.wrap (q8 + 1) = q8 + 1 := IntWalk.i64_in _ (by omega)
      have t9 := turns_setCells9 G [.int .i64 q8] (j * 9 + 8) w8
      have K9 := K8.cell hlt (j := 8) (by omega) (.int .i64 q8) ⟨q, q + 1, q + 1 + 1, q + 1 + 1 + 1, q + 1 + 1 + 1 + 1, q + 1 + 1 + 1 + 1 + 1, q + 1 + 1 + 1 + 1 + 1 + 1, D2, q8⟩ (by rw [upD_same]) (fun _ => by rw [upD_same]; rfl)
      rw [upD_twice] at K9
      clear hq8 hql hd1 hd2 hR2 hB hr5 hFs c7
      go_wp2
      go_roundw
      case rel =>
        refine ⟨j + 1, _, by omega, by go_num, ?_, K9, ⟨fun i => ?_, fun i hi => ?_⟩, ?_⟩
        · rw [HSJ.out]
          have h1 := HQ8.out
          have h2 := HQ7.out
          have h3 := HQ.out
          have h4 := HLE.out
          congr 1
          omega
        · by_cases e : i = j
          · subst e
            rw [upD_same]
            show D2.length = _
            rw [HL2.out]
            exact HLE.out
          · rw [show ∀ d, upD D' j d i = D' i from fun d => by simp [upD, e]]
            exact HMM.out.1 i
        · by_cases e : i = j
          · subst e
            rw [upD_same]
            have h1 := HQ.out
            have h2 := HQ7.out
            have h3 := HQ8.out
            have h4 := HD2.out
            rw [h1]
            refine ⟨rfl, rfl, rfl, rfl, rfl, rfl, rfl, by rw [h2]; exact h4, ?_⟩
            show q8 = _
            omega
          · rw [show ∀ d, upD D' j d i = D' i from fun d => by simp [upD, e]]
            exact HMM.out.2 i (by omega)
        · exact ((ht.trans (t7.sub (fun _ _ e => .inl e))).trans (t8.sub (fun b _ hb => .inr ⟨j, hlt, HF.out b hb⟩))).trans (t9.sub (fun _ _ e => .inl e))
      case measure => simp [intOf]; omega
    · have hjn : j = n := by omega
      subst hjn
      go_wp2
      go_ret
      exact ⟨rfl, ht, D', h, hl⟩

set_option maxRecDepth 100000 in
set_option maxHeartbeats 8000000 in
theorem held_CS {w : World} {G n cap : Nat} {D D' : Nat → RecD} {Fs : Nat → Nat → Prop} {k : Int} (S : Nat → Nat) (h : RecsAt w G n D' Fs) (hm : MarkedCS k S D D' n) (hn : n ≤ 1048576) (hS0 : S 0 = 0) (hS : ∀ j, j < n → S (j + 1) = S j + 8 + 2 * (D j).ps.length) (hSn : ∀ j, j ≤ n → S j ≤ 20000000) (hlen : ∀ j, j < n → (D j).ps.length ≤ 1048577) (hk0 : 0 ≤ k) (hk1 : k ≤ 10000000) :
    Calls Tryz.prog 93 #[.slice (some ⟨G, 0, none⟩) n cap, .int .i64 k] w fun e w' => e = .returned (.int .i64 (k + S n)) ∧ w = w' := by
  have HS := Lib.hid hS
  have HSN := Lib.hid hSn
  have HLN := Lib.hid hlen
  have HS0 := Lib.hid hS0
  have HM := Lib.hid hm
  clear hS hSn hlen hS0 hm
  go_enter Tryz.func93, Tryz.ntmps93
  go_wp2
  go_loopw [1, 5] (fun kv i wr => ∃ j : Nat, j ≤ n ∧ i = .int .i64 j ∧ kv = .int .i64 (k + S j) ∧ w = wr) (fun _ i _ => n - (intOf i).toNat)
  case atStart => exact ⟨0, Nat.zero_le _, rfl, by rw [HS0.out]; simp, rfl⟩
  case round =>
    obtain ⟨j, hj, rfl, rfl, rfl⟩ := hrel
    by_cases hlt : j < n
    · obtain ⟨u, hr, u2, e2, hO⟩ := h.row j hlt
      injection e2 with e2
      have hu : u = u2 := by simpa [RecD.cells] using e2
      subst hu
      clear e2
      obtain ⟨lo, hi, hRP, -⟩ := ownP_res9 hO
      obtain ⟨A, mc, eu, -, -, -⟩ := hO.at
      obtain ⟨m0, m1, m2, m3, m4, m5, m6, m7, m8⟩ := HM.out.2 j hlt
      have hSj := HSN.out j hj
      obtain ⟨q, hq⟩ : ∃ q : Int, k + (S j : Int) = q := ⟨_, rfl⟩
      rw [hq] at m0 m1 m2 m3 m4 m5 m6 m7 m8 ⊢
      have c0 : w.cell? ⟨G, j * 9, none⟩ = some (.int .i64 q) := m0 ▸ hr 0 _ rfl
      have c1 : w.cell? ⟨G, j * 9 + 1, none⟩ = some (.int .i64 (q + 1)) := m1 ▸ hr 1 _ rfl
      have c2 : w.cell? ⟨G, j * 9 + 2, none⟩ = some (.int .i64 (q + 1 + 1)) := m2 ▸ hr 2 _ rfl
      have c3 : w.cell? ⟨G, j * 9 + 3, none⟩ = some (.int .i64 (q + 1 + 1 + 1)) := m3 ▸ hr 3 _ rfl
      have c4 : w.cell? ⟨G, j * 9 + 4, none⟩ = some (.int .i64 (q + 1 + 1 + 1 + 1)) := m4 ▸ hr 4 _ rfl
      have c5 : w.cell? ⟨G, j * 9 + 5, none⟩ = some (.int .i64 (q + 1 + 1 + 1 + 1 + 1)) := m5 ▸ hr 5 _ rfl
      have c6 : w.cell? ⟨G, j * 9 + 6, none⟩ = some (.int .i64 (q + 1 + 1 + 1 + 1 + 1 + 1)) := m6 ▸ hr 6 _ rfl
      have c7 : w.cell? ⟨G, j * 9 + 7, none⟩ = some u := hr 7 _ rfl
      have c8 : w.cell? ⟨G, j * 9 + 8, none⟩ = some (.int .i64 (q + 1 + 1 + 1 + 1 + 1 + 1 + 1 + 2 * ((D j).ps.length : Int))) := m8 ▸ hr 8 _ rfl
      have hq0 : 0 ≤ q := by omega
      have hq1 : q ≤ 30000000 := by omega
      have HQ := Lib.hid hq
      have HSJ := Lib.hid (HS.out j hlt)
      have HLJ := Lib.hid (HLN.out j hlt)
      have HLE := Lib.hid (HM.out.1 j)
      rw [← HLE.out] at c8
      clear hq hSj hr hO m0 m1 m2 m3 m4 m5 m6 m8
      have v0 : IntKind.i64.wrap (q + 1) = q + 1 := IntWalk.i64_in _ (by omega)
      have v1 : IntKind.i64.wrap (q + 1 + 1) = q + 1 + 1 := IntWalk.i64_in _ (by omega)
      have v2 : IntKind.i64.wrap (q + 1 + 1 + 1) = q + 1 + 1 + 1 := IntWalk.i64_in _ (by omega)
      have v3 : IntKind.i64.wrap (q + 1 + 1 + 1 + 1) = q + 1 + 1 + 1 + 1 := IntWalk.i64_in _ (by omega)
      have v4 : IntKind.i64.wrap (q + 1 + 1 + 1 + 1 + 1) = q + 1 + 1 + 1 + 1 + 1 := IntWalk.i64_in _ (by omega)
      have v5 : IntKind.i64.wrap (q + 1 + 1 + 1 + 1 + 1 + 1) = q + 1 + 1 + 1 + 1 + 1 + 1 := IntWalk.i64_in _ (by omega)
      have v6 : IntKind.i64.wrap (q + 1 + 1 + 1 + 1 + 1 + 1 + 1) = q + 1 + 1 + 1 + 1 + 1 + 1 + 1 := IntWalk.i64_in _ (by omega)
      have hkw : IntKind.i64.wrap ((j : Int) + 1) = (j : Int) + 1 := IntWalk.i64_in _ (by omega)
      have hltI : (j : Int) < (n : Int) := by omega
      obtain ⟨q7, hq7⟩ : ∃ q7 : Int, q + 1 + 1 + 1 + 1 + 1 + 1 + 1 = q7 := ⟨_, rfl⟩
      rw [hq7] at c8 m7 v6
      have HQ7 := Lib.hid hq7
      have hp0 : 0 ≤ q7 := by omega
      have hp1 : q7 ≤ 30000007 := by omega
      have HM7 := Lib.hid m7
      have HRP := Lib.hid hRP
      have hql := HLJ.out
      have hqe := HLE.out
      subst eu
      obtain ⟨q8, hq8⟩ : ∃ q8 : Int, q7 + 2 * ((D' j).ps.length : Int) = q8 := ⟨_, rfl⟩
      rw [hq8] at c8
      have HQ8 := Lib.hid hq8
      have hneg : ¬ q8 < 0 := by omega
      have v8 : IntKind.i64.wrap (q8 + 1) = q8 + 1 := IntWalk.i64_in _ (by omega)
      have hw7 : IntKind.i64.wrap (q + 1 + 1 + 1 + 1 + 1 + 1 + 1) = q7 := by rw [hq7]; exact v6
      clear hq7 m7 hRP hql hqe hq8 v6
      clear v0 v1 v2 v3 v4 v5
      have v0 : IntKind.i64.wrap (q + 1) = q + 1 := IntWalk.i64_in _ (by omega)
      have v1 : IntKind.i64.wrap (q + 1 + 1) = q + 1 + 1 := IntWalk.i64_in _ (by omega)
      have v2 : IntKind.i64.wrap (q + 1 + 1 + 1) = q + 1 + 1 + 1 := IntWalk.i64_in _ (by omega)
      have v3 : IntKind.i64.wrap (q + 1 + 1 + 1 + 1) = q + 1 + 1 + 1 + 1 := IntWalk.i64_in _ (by omega)
      have v4 : IntKind.i64.wrap (q + 1 + 1 + 1 + 1 + 1) = q + 1 + 1 + 1 + 1 + 1 := IntWalk.i64_in _ (by omega)
      have v5 : IntKind.i64.wrap (q + 1 + 1 + 1 + 1 + 1 + 1) = q + 1 + 1 + 1 + 1 + 1 + 1 := IntWalk.i64_in _ (by omega)
      go_wp2_with (go_at_call 107; refine (heldP_is q7 HRP.out HM7.out (by rw [HLE.out]; exact HLJ.out) hp0 (by omega)).mono ?_; rintro e w8 ⟨rfl, rfl⟩; rw [HQ8.out])
      go_roundw
      case rel =>
        refine ⟨j + 1, by omega, by go_num, ?_, by trivial⟩
        rw [HSJ.out]
        have h1 := HQ8.out
        have h2 := HQ7.out
        have h3 := HQ.out
        have h4 := HLE.out
        congr 1
        omega
      case measure => simp [intOf]; omega
    · have hjn : j = n := by omega
      subst hjn
      go_wp2
      go_ret
      exact ⟨rfl, rfl⟩
end Go.Proofs.YtjdepjpjjgkmbaaGreat

/- The laws' marks of a journal, and the look at them; conditions: the sizes. -/
namespace Go.Proofs.YtjdepjpjjgkmbaaGreat
open Go Go.RowKit

/-- How many marks the first j of these records take. -/
def sumM (D : Nat → RecD) : Nat → Nat
  | 0 => 0
  | j + 1 => sumM D j + 8 + 2 * (D j).ps.length
theorem sumM_le {ds : List RecD} {n : Nat} (hn : ds.length = n) (hz : totC ds ≤ 1048600) : ∀ j, j ≤ n → sumM (recsK ds n) j ≤ 8400000 := by
  have key : ∀ j, j ≤ n → sumM (recsK ds n) j ≤ 8 * totC (ds.take j) := by
    intro j
    induction j with
    | zero => intro _; exact Nat.zero_le _
    | succ j ih =>
      intro hj
      have hjd : j < ds.length := by omega
      have h1 := ih (by omega)
      have h2 := totC_snoc ds hjd
      have hd : recsK ds n j = ds[j] := recsK_at hn hjd
      unfold sumM
      rw [hd, h2]
      omega
  intro j hj
  have h1 := key j hj
  have h2 := totC_take ds j
  omega
def mkC (ds : List RecD) : Nat := sumM (recsK ds ds.length) ds.length
theorem mkC_le {ds : List RecD} (hz : totC ds ≤ 1048600) : mkC ds ≤ 8400000 := sumM_le rfl hz _ (Nat.le_refl _)
theorem lens_le {ds : List RecD} (hz : totC ds ≤ 1048577) : ∀ j, j < ds.length → (recsK ds ds.length j).ps.length ≤ 1048577 := fun j hj => by
  rw [recsK_at rfl hj]
  have := totC_mem ds hj
  omega
/-- The list's records are marked from k on. -/
def MarkedL (k : Int) (ds ds' : List RecD) : Prop := ds'.length = ds.length ∧ MarkedCS k (sumM (recsK ds ds.length)) (recsK ds ds.length) (recsK ds' ds.length) ds.length
theorem RecsAt.congr {w : World} {g n : Nat} {D D' : Nat → RecD} {Fs : Nat → Nat → Prop} (h : RecsAt w g n D Fs) (he : ∀ i, i < n → D i = D' i) : RecsAt w g n D' Fs :=
  ⟨h.lt, h.fr, fun i hi => he i hi ▸ h.row i hi, h.apart, h.two⟩
theorem mark_none (cap : Nat) (A : Option Addr) (k : Int) (w : World) : Calls Tryz.prog 92 #[.slice A 0 cap, .int .i64 k] w fun e w' => e = .returned (.int .i64 k) ∧ w = w' := by
  go_enter Tryz.func92, Tryz.ntmps92
  go_wp2
  go_loopw [1, 5] (fun kv i wr => i = .int .i64 0 ∧ kv = .int .i64 k ∧ w = wr) (fun _ _ _ => 0)
  case atStart => exact ⟨rfl, rfl, rfl⟩
  case round =>
    obtain ⟨rfl, rfl, rfl⟩ := hrel
    go_wp2
    go_ret
    exact ⟨rfl, rfl⟩
theorem held_none (cap : Nat) (A : Option Addr) (k : Int) (w : World) : Calls Tryz.prog 93 #[.slice A 0 cap, .int .i64 k] w fun e w' => e = .returned (.int .i64 k) ∧ w = w' := by
  go_enter Tryz.func93, Tryz.ntmps93
  go_wp2
  go_loopw [1, 5] (fun kv i wr => i = .int .i64 0 ∧ kv = .int .i64 k ∧ w = wr) (fun _ _ _ => 0)
  case atStart => exact ⟨rfl, rfl, rfl⟩
  case round =>
    obtain ⟨rfl, rfl, rfl⟩ := hrel
    go_wp2
    go_ret
    exact ⟨rfl, rfl⟩
theorem markd_L {ds : List RecD} {w : World} {F : Nat → Prop} {v : Value} {k : Int} (h : OwnCS ds w F v) (hn : ds.length ≤ 1048576) (hz : totC ds ≤ 1048577) (hk0 : 0 ≤ k) (hk1 : k ≤ 10000000) :
    Calls Tryz.prog 92 #[v, .int .i64 k] w fun e w' => e = .returned (.int .i64 (k + mkC ds)) ∧ Turns F w w' ∧ ∃ ds', MarkedL k ds ds' ∧ OwnCS ds' w' F v := by
  rcases h with ⟨rfl, rfl⟩ | ⟨G, c, Fs, hG, rfl, h1, h2, hR, hF⟩
  · refine (mark_none 0 none k w).mono ?_
    rintro e w' ⟨rfl, rfl⟩
    exact ⟨by simp [mkC, sumM], Turns.of_below (Below.refl _ _), [], ⟨rfl, fun _ => rfl, fun i hi => absurd hi (by simp)⟩, .inl ⟨rfl, rfl⟩⟩
  · refine (markd_CS (cap := c) hR hn (sumM (recsK ds ds.length)) rfl (fun _ _ => rfl) (fun j hj => Nat.le_trans (sumM_le rfl (by omega) j hj) (by omega)) (lens_le hz) hk0 hk1).mono ?_
    rintro e w' ⟨rfl, ht, D', hR', hm⟩
    have hl : ((List.range ds.length).map D').length = ds.length := by simp
    have he : ∀ i, i < ds.length → D' i = recsK ((List.range ds.length).map D') ds.length i := fun i hi => by
      rw [recsK_at hl (by rw [hl]; exact hi)]
      simp
    refine ⟨rfl, ht.sub (fun b _ hb => ?_), (List.range ds.length).map D', ⟨hl, fun i => ?_, fun i hi => ?_⟩, .inr ⟨G, c, Fs, hG, by rw [hl], by rw [hl]; exact h1, h2, by rw [hl]; exact hR'.congr he, by rw [hl]; exact fun i hi b hb => ⟨(hF i hi b hb).1, Nat.lt_of_lt_of_le (hF i hi b hb).2 ht.size⟩⟩⟩
    · rcases hb with rfl | ⟨i, hi, hb⟩
      · exact hG
      · exact (hF i hi b hb).1
    · rcases Nat.lt_or_ge i ds.length with hi | hi
      · rw [← he i hi]
        exact hm.1 i
      · have e1 : ∀ (es : List RecD), recsK es ds.length i = zeroC := fun es => by unfold recsK; rw [if_neg (by omega)]
        rw [e1, e1]
    · rw [← he i hi]
      exact hm.2 i hi
theorem held_L {ds ds' : List RecD} {w : World} {F : Nat → Prop} {v : Value} {k : Int} (h : OwnCS ds' w F v) (hm : MarkedL k ds ds') (hn : ds.length ≤ 1048576) (hz : totC ds ≤ 1048577) (hk0 : 0 ≤ k) (hk1 : k ≤ 10000000) :
    Calls Tryz.prog 93 #[v, .int .i64 k] w fun e w' => e = .returned (.int .i64 (k + mkC ds)) ∧ w = w' := by
  rcases h with ⟨rfl, rfl⟩ | ⟨G, c, Fs, hG, rfl, h1, h2, hR, hF⟩
  · obtain rfl : ds = [] := List.eq_nil_of_length_eq_zero hm.1.symm
    refine (held_none 0 none k w).mono ?_
    rintro e w' ⟨rfl, rfl⟩
    exact ⟨by simp [mkC, sumM], rfl⟩
  · rw [hm.1] at hR ⊢
    exact held_CS (cap := c) (sumM (recsK ds ds.length)) hR hm.2 hn rfl (fun _ _ => rfl) (fun j hj => Nat.le_trans (sumM_le rfl (by omega) j hj) (by omega)) (lens_le hz) hk0 hk1
def JourD.mk8 (d : JourD) : Int := mkC d.ks + mkC d.ls
def MarkedJ (k : Int) (d d' : JourD) : Prop := MarkedL k d.ks d'.ks ∧ MarkedL (k + mkC d.ks) d.ls d'.ls
/-- A journal short enough for its marks. -/
structure JourD.Fit (d : JourD) : Prop where
  nk : d.ks.length ≤ 1048576
  nl : d.ls.length ≤ 1048576
  tk : totC d.ks ≤ 1048577
  tl : totC d.ls ≤ 1048577
theorem JourD.fit {d : JourD} (h : d.sz ≤ 1048576) : d.Fit := by
  have h1 := totC_rest d.ks 0
  have h2 := totC_rest d.ls 0
  rw [totC_zero] at h1 h2
  unfold JourD.sz at h
  exact ⟨by omega, by omega, by omega, by omega⟩
set_option maxHeartbeats 2000000 in
theorem markd_J {d : JourD} {w : World} {F : Nat → Prop} {C : Array Value} {k : Int} (h : LieJ d w F (.agg C)) (hf : d.Fit) (hk0 : 0 ≤ k) (hk1 : k ≤ 1048600) :
    Calls Tryz.prog 35 #[.agg C, .int .i64 k] w fun e w' => e = .returned (.int .i64 (k + d.mk8)) ∧ Turns F w w' ∧ ∃ d', MarkedJ k d d' ∧ LieJ d' w' F (.agg C) := by
  obtain ⟨u, u', F1, F2, e, h1, h2, s1, s2, ha⟩ := h
  injection e with e
  subst e
  have hq1 := mkC_le (ds := d.ks) (by have := hf.tk; omega)
  obtain ⟨A, c, rfl, -⟩ := h1.reads
  obtain ⟨A', c', rfl, -⟩ := h2.reads
  have O1 := Lib.hid h1
  have O2 := Lib.hid h2
  clear h1 h2
  have hm8 : ∀ ds : List RecD, ds = d.ks → (mkC ds : Int) = mkC d.ks := fun _ e => by rw [e]
  generalize hn1 : d.ks.length = n1 at O1
  generalize hn2 : d.ls.length = n2 at O2
  have hb0 := bel_alloc w (.cells #[.slice A n1 c, .slice A' n2 c'] 29)
  have D := Box.new w 29 #[.slice A n1 c, .slice A' n2 c']
  have P1 := Lib.hid (O1.out.lt.later hb0)
  have P2 := Lib.hid (O2.out.lt.later hb0)
  clear O1 O2
  go_enter Tryz.func35, Tryz.ntmps35
  go_upto_region 1 with fail
  generalize hw0 : (w.alloc _ : World) = w0 at hb0 D P1 P2 ⊢
  have ht0 : Turns (fun b => F b ∨ w.heap.size ≤ b) w w0 := Turns.of_below hb0
  clear hw0
  obtain ⟨d0, d1⟩ := D.two
  go_wp2_with fail
  refine (markd_L P1.out hf.nk hf.tk hk0 (by omega)).mono ?_
  rintro e w1 ⟨rfl, t1, ks', m1, K1⟩
  have D1 := D.turn t1 (fun hb => by have := hb.2; omega)
  have P3 := Lib.hid (P2.out.turn t1 (fun b hb hb2 => ha b hb2.1 hb.1))
  have T1 := ht0.trans (t1.sub (T' := fun b => F b ∨ w.heap.size ≤ b) (fun b _ hb => .inl (s1 b hb.1)))
  have M1 := Lib.hid m1
  have KK := Lib.hid K1
  clear t1 D P2 ht0 m1 K1 d0 d1
  obtain ⟨d0, d1⟩ := D1.two
  go_wp2_with fail
  refine (markd_L P3.out hf.nl hf.tl (by omega) (by omega)).mono ?_
  rintro e w2 ⟨rfl, t2, ls', m2, K2⟩
  have T2 := Lib.hid (T1.trans (t2.sub (T' := fun b => F b ∨ w.heap.size ≤ b) (fun b _ hb => .inl (s2 b hb.1))))
  have KK2 := Lib.hid (KK.out.turn t2 (fun b hb hb2 => ha b hb.1 hb2.1))
  have M2 := Lib.hid m2
  have KL := Lib.hid K2
  clear T1 t2 m2 K2 KK D1 d0 d1
  go_wp2
  go_ret
  refine ⟨by unfold JourD.mk8; simp only [Int.add_assoc]; rfl, T2.out.sub (fun b hl hb => hb.resolve_right (by omega)), ⟨ks', ls'⟩, ⟨M1.out, M2.out⟩, _, _, _, _, rfl, KK2.out, KL.out, fun b hb => s1 b hb.1, fun b hb => s2 b hb.1, fun b hb hb2 => ha b hb.1 hb2.1⟩
theorem mark_J {d : JourD} {w : World} {F : Nat → Prop} {C : Array Value} {k : Int} (h : LieJ d w F (.agg C)) (hs : d.sz ≤ 1048576) (hk0 : 0 ≤ k) (hk1 : k ≤ 1048600) :
    Calls Tryz.prog 35 #[.agg C, .int .i64 k] w fun e w' => e = .returned (.int .i64 (k + d.mk8)) ∧ Turns F w w' := by
  refine (markd_J h (JourD.fit hs) hk0 hk1).mono ?_
  rintro e w' ⟨rfl, ht, -⟩
  exact ⟨rfl, ht⟩
set_option maxHeartbeats 2000000 in
theorem held_J {d d' : JourD} {w : World} {F : Nat → Prop} {C : Array Value} {k : Int} (h : LieJ d' w F (.agg C)) (hm : MarkedJ k d d') (hf : d.Fit) (hk0 : 0 ≤ k) (hk1 : k ≤ 1048600) :
    Calls Tryz.prog 37 #[.agg C, .int .i64 k] w fun e w' => e = .returned (.int .i64 (k + d.mk8)) ∧ Below w.heap.size w w' := by
  obtain ⟨u, u', F1, F2, e, h1, h2, -⟩ := h
  injection e with e
  subst e
  have hq1 := mkC_le (ds := d.ks) (by have := hf.tk; omega)
  have hq2 := mkC_le (ds := d.ls) (by have := hf.tl; omega)
  obtain ⟨A, c, rfl, -⟩ := h1.reads
  obtain ⟨A', c', rfl, -⟩ := h2.reads
  have O1 := Lib.hid h1
  have O2 := Lib.hid h2
  have M1 := Lib.hid hm.1
  have M2 := Lib.hid hm.2
  clear h1 h2 hm
  generalize hn1 : d'.ks.length = n1 at O1
  generalize hn2 : d'.ls.length = n2 at O2
  have hb0 := bel_alloc w (.cells #[.slice A n1 c, .slice A' n2 c'] 29)
  have D := Box.new w 29 #[.slice A n1 c, .slice A' n2 c']
  have P1 := Lib.hid (O1.out.later hb0)
  have P2 := Lib.hid (O2.out.later hb0)
  clear O1 O2
  go_enter Tryz.func37, Tryz.ntmps37
  go_upto_region 1 with fail
  generalize (w.alloc _ : World) = w0 at hb0 D P1 P2 ⊢
  obtain ⟨d0, d1⟩ := D.two
  go_wp2_with fail
  refine (held_L P1.out M1.out hf.nk hf.tk hk0 (by omega)).mono ?_
  rintro e w1 ⟨rfl, rfl⟩
  have hn1 : ¬ (k + (mkC d.ks : Int) < 0) := by omega
  go_wp2_with fail
  refine (held_L P2.out M2.out hf.nl hf.tl (by omega) (by omega)).mono ?_
  rintro e w2 ⟨rfl, rfl⟩
  obtain ⟨q, hq⟩ : ∃ q : Int, k + (mkC d.ks : Int) + (mkC d.ls : Int) = q := ⟨_, rfl⟩
  have HQ := Lib.hid hq
  have hn2 : ¬ (q < 0) := by omega
  rw [hq]
  clear hq
  go_wp2
  go_ret
  exact ⟨by unfold JourD.mk8; rw [← Int.add_assoc, HQ.out]; rfl, hb0⟩
theorem mkb_J {d : JourD} (hf : d.Fit) : 0 ≤ d.mk8 ∧ d.mk8 ≤ 16800000 := by
  have hq1 := mkC_le (ds := d.ks) (by have := hf.tk; omega)
  have hq2 := mkC_le (ds := d.ls) (by have := hf.tl; omega)
  unfold JourD.mk8
  omega
end Go.Proofs.YtjdepjpjjgkmbaaGreat

/- The exact law of Noted answers true, whatever it is given: its walk (written by laws_noted.py). -/
namespace Go.Proofs.YtjdepjpjjgkmbaaGreat
open Go Go.RowKit

/-- The copy of the list of seals. -/
structure SealOf (ps : List (Int × Int)) (wr : World) (g : Nat) : Prop where
  dat : Held wr g ps
theorem SealOf.later {ps : List (Int × Int)} {wr w' : World} {g : Nat} (h : SealOf ps wr g) (_ : Unit) (hb : Below wr.heap.size wr w') : SealOf ps w' g := ⟨h.dat.later hb⟩
theorem SealOf.turn {ps : List (Int × Int)} {wr w' : World} {g : Nat} {T : Nat → Prop} (h : SealOf ps wr g) (_ : Unit) (ht : Turns T wr w') (hg : ¬ T g) : SealOf ps w' g := ⟨Held.turn h.dat ht hg⟩
theorem SealOf.pairs {ps : List (Int × Int)} {wr : World} {g n : Nat} (h : SealOf ps wr g) (hn : ps.length = n) : Pairs wr wr.heap.size (some ⟨g, 0, none⟩) n ps := hn ▸ h.dat.pairs
theorem SealOf.slc {ps : List (Int × Int)} {wr : World} {g n c : Nat} (h : SealOf ps wr g) (hn : ps.length = n) : Slc wr (.slice (some ⟨g, 0, none⟩) n c) ps := .inr ⟨g, 0, n, c, rfl, h.pairs hn⟩
/-- The variables of the arguments, as they were given. -/
structure PreNo (w wr : World) (C0 C1 : Array Value) (t1 t2 : Int) (A7 : Option Addr) (n7 : Nat) (ps : List (Int × Int)) (d0 : GrpD) (d1 : JourD) : Prop where
  v0 : VarOf (AtG d0) 47 wr (· < w.heap.size) (w.heap.size) C0
  v1 : VarOf (AtJ d1) 50 wr (· < w.heap.size) (w.heap.size + 1) C1
  st : Box wr (w.heap.size + 1 + 1) 57 #[.int .i64 t1, .int .i64 t2]
  l2 : PairsF wr (· < w.heap.size) A7 n7 ps
  bel : Below w.heap.size w wr
theorem PreNo.later {w wr w' : World} {C0 C1 : Array Value} {t1 t2 : Int} {A7 : Option Addr} {n7 : Nat} {ps : List (Int × Int)} {d0 : GrpD} {d1 : JourD} (h : PreNo w wr C0 C1 t1 t2 A7 n7 ps d0 d1) (hb : Below wr.heap.size wr w') : PreNo w w' C0 C1 t1 t2 A7 n7 ps d0 d1 :=
  ⟨h.v0.later (keepsG d0) hb, h.v1.later (keepsJ d1) hb, h.st.later hb h.st.lt, h.l2.turn (T := fun _ => False) (Turns.of_below hb) (fun _ _ h => h), bel_trans h.bel hb⟩
theorem PreNo.turn {w wr w' : World} {C0 C1 : Array Value} {t1 t2 : Int} {A7 : Option Addr} {n7 : Nat} {ps : List (Int × Int)} {d0 : GrpD} {d1 : JourD} {T : Nat → Prop} (h : PreNo w wr C0 C1 t1 t2 A7 n7 ps d0 d1) (ht : Turns T wr w') (hT : ∀ b, T b → w.heap.size + 1 + 1 < b) : PreNo w w' C0 C1 t1 t2 A7 n7 ps d0 d1 :=
  ⟨h.v0.turn (keepsG d0) ht (fun hb => by have := hT _ hb; omega) (fun b hb hb2 => by have := hT b hb2; omega), h.v1.turn (keepsJ d1) ht (fun hb => by have := hT _ hb; omega) (fun b hb hb2 => by have := hT b hb2; omega), h.st.turn ht (fun hb => by have := hT _ hb; omega), h.l2.turn ht (fun b hb hb2 => by have := hT b hb2; have hb : b < w.heap.size := hb; omega), ht.below h.bel (fun b hb => by have := hT b hb; omega)⟩
theorem PreNo.start {w : World} {C0 C1 : Array Value} {t1 t2 : Int} {A7 : Option Addr} {n7 : Nat} {ps : List (Int × Int)} {d0 : GrpD} {d1 : JourD} (h0 : AtG d0 w (· < w.heap.size) (.agg C0)) (h1 : AtJ d1 w (· < w.heap.size) (.agg C1)) (hP : PairsF w (· < w.heap.size) A7 n7 ps) : PreNo w (((w.alloc (.cells C0 47)).alloc (.cells C1 50)).alloc (.cells #[.int .i64 t1, .int .i64 t2] 57)) C0 C1 t1 t2 A7 n7 ps d0 d1 := by
  have E2 := bel_trans (bel_trans (bel_alloc w (.cells C0 47)) (bel_alloc _ (.cells C1 50))) (bel_alloc _ (.cells #[.int .i64 t1, .int .i64 t2] 57))
  have B0 := ((Box.new w 47 C0).alloc (.cells C1 50)).alloc (.cells #[.int .i64 t1, .int .i64 t2] 57)
  have B1 := (Box.new (w.alloc (.cells C0 47)) 50 C1).alloc (.cells #[.int .i64 t1, .int .i64 t2] 57)
  have B2 := Box.new ((w.alloc (.cells C0 47)).alloc (.cells C1 50)) 57 #[.int .i64 t1, .int .i64 t2]
  simp only [World.size_alloc] at B1 B2
  exact ⟨⟨B0, by omega, (keepsG d0).later h0 E2⟩, ⟨B1, by omega, (keepsJ d1).later h1 E2⟩, B2, hP.turn (T := fun _ => False) (Turns.of_below E2) (fun _ _ h => h), E2⟩
/-- The heap has come this far. -/
structure Big (H : Nat) (wr : World) : Prop where
  le : H ≤ wr.heap.size
theorem Big.later {H : Nat} {wr w' : World} (h : Big H wr) (_ : Unit) (hb : Below wr.heap.size wr w') : Big H w' := ⟨Nat.le_trans h.le hb.size⟩
theorem Big.turn {H : Nat} {wr w' : World} {T : Nat → Prop} (h : Big H wr) (_ : Unit) (ht : Turns T wr w') : Big H w' := ⟨Nat.le_trans h.le ht.size⟩
theorem LieJ.low {d : JourD} {w : World} {F : Nat → Prop} {v : Value} (h : LieJ d w F v) : LieJ d w (fun b => F b ∧ b < w.heap.size) v := by
  obtain ⟨u, u', F1, F2, e, h1, h2, s1, s2, ha⟩ := h
  exact ⟨u, u', _, _, e, h1.lt, h2.lt, fun b hb => ⟨s1 b hb.1, hb.2⟩, fun b hb => ⟨s2 b hb.1, hb.2⟩, fun b hb hb2 => ha b hb.1 hb2.1⟩
theorem noted_sz {g : GrpD} {d : JourD} {kd sh cl t1 t2 v : Int} {ps : List (Int × Int)} (h : g.sz + d.sz + ps.length ≤ 1048576) : (notedD g d (newD d kd sh cl t1 t2 v ps)).1.sz ≤ 1048576 := by
  unfold notedD
  split
  · rename_i hj
    have hg := jok_grp hj
    split
    · show totC d.ks + totC (d.ls ++ [newD d kd sh cl t1 t2 v ps]) ≤ 1048576
      rw [totC_app, totC_one]
      have e : (newD d kd sh cl t1 t2 v ps).ps = ps := rfl
      rw [e]
      have : d.sz = totC d.ks + totC d.ls := rfl
      omega
    · show d.sz ≤ 1048576
      omega
  · exact Nat.zero_le _
theorem specNoted8_is {g : GrpD} {d : JourD} {w : World} {F0 F1 : Nat → Prop} {C0 C1 : Array Value} (kd sh cl t1 t2 v : Int) {gs n : Nat} {ps : List (Int × Int)} {rr : JourD} {z : Bool} (h0 : LieG g w F0 (.agg C0)) (h1 : LieJ d w F1 (.agg C1)) (hc : SealOf ps w gs) (hl : ps.length = n) (hs : g.sz + d.sz + n ≤ 1048576) (hr : notedD g d (newD d kd sh cl t1 t2 v ps) = (rr, z)) :
    Calls Tryz.prog 23 #[.agg C0, .agg C1, .int .i64 kd, .int .i64 sh, .int .i64 cl, .agg #[.int .i64 t1, .int .i64 t2], .int .i64 v, .slice (some ⟨gs, 0, none⟩) n n] w fun e w' => ∃ C, e = .returned (.tuple #[.agg C, .bool z]) ∧ LieJ rr w' (Iv w.heap.size w'.heap.size) (.agg C) ∧ Below w.heap.size w w' := specNoted_is kd sh cl t1 t2 v h0.at h1.somewhere (hc.slc hl) (hl ▸ hs) hr
theorem noted8_is {g : GrpD} {d : JourD} {w : World} {F0 F1 : Nat → Prop} {C0 C1 : Array Value} (kd sh cl t1 t2 v : Int) {gs n : Nat} {ps : List (Int × Int)} {rr : JourD} {z : Bool} (h0 : LieG g w F0 (.agg C0)) (h1 : LieJ d w F1 (.agg C1)) (hc : SealOf ps w gs) (hl : ps.length = n) (hs : g.sz + d.sz + n ≤ 1048576) (hr : notedD g d (newD d kd sh cl t1 t2 v ps) = (rr, z)) :
    Calls Tryz.prog 22 #[.agg C0, .agg C1, .int .i64 kd, .int .i64 sh, .int .i64 cl, .agg #[.int .i64 t1, .int .i64 t2], .int .i64 v, .slice (some ⟨gs, 0, none⟩) n n] w fun e w' => ∃ C, e = .returned (.tuple #[.agg C, .bool z]) ∧ LieJ rr w' (Iv w.heap.size w'.heap.size) (.agg C) ∧ Below w.heap.size w w' := noted_is kd sh cl t1 t2 v h0.at h1.somewhere (hc.slc hl) (hl ▸ hs) hr

set_option maxRecDepth 100000 in
set_option maxHeartbeats 16000000 in
theorem exactNo10_any (C0 C1 : Array Value) (d0 : GrpD) (d1 : JourD) (kd sh cl t1 t2 v : Int) (A7 : Option Addr) (n7 c7 : Nat) (ps : List (Int × Int)) (w : World) (h0 : AtG d0 w (· < w.heap.size) (.agg C0)) (h1 : AtJ d1 w (· < w.heap.size) (.agg C1)) (hP : PairsF w (· < w.heap.size) A7 n7 ps) (hm7 : n7 ≤ maxLen) :
    Calls Tryz.prog 6 #[.agg C0, .agg C1, .int .i64 kd, .int .i64 sh, .int .i64 cl, .agg #[.int .i64 t1, .int .i64 t2], .int .i64 v, .slice A7 n7 c7] w fun e w' => e = .returned (.bool true) ∧ Below w.heap.size w w' := by
  have HPL := Lib.hid hP.1.1
  have I0 := Lib.hid (sizeG h0).1
  have J0 := Lib.hid (sizeG h0).2
  have I1 := Lib.hid (sizeJ h1).1
  have J1 := Lib.hid (sizeJ h1).2
  have K0 := PreNo.start (t1 := t1) (t2 := t2) h0 h1 hP
  clear h0 h1 hP
  go_enter Tryz.func6, Tryz.ntmps6
  go_wp2_with (refine wpList_load_box 47 _ rfl (w.heap.size) rfl 47 C0 K0.v0.box _ Tryz.underlying47 rfl I0.out (by first | rfl | simp [Region.wanted, yielded] | (simp [Region.wanted, yielded, Act.put] <;> omega)) ?_)
  generalize (((w.alloc _).alloc _).alloc _ : World) = w0 at K0 ⊢
  refine (sz_G K0.v0.dat).mono ?_
  rintro e w1 ⟨⟨u, rfl, hle, hgt⟩, hb⟩
  replace K0 := K0.later hb
  clear hb
  rcases Int.lt_or_le (1048576) (d0.sz : Int) with hs0 | hs0
  · have hu := hgt hs0
    clear hle hgt
    have E := K0.bel
    go_wp2
    go_ret
    exact ⟨rfl, E⟩
  have hu := hle hs0
  clear hle hgt
  subst hu
  have hu0 : ¬ (1048576 - (d0.sz : Int) < 0) := by omega
  go_wp2_with (refine wpList_load_box 50 _ rfl (w.heap.size + 1) rfl 50 C1 K0.v1.box _ Tryz.underlying50 rfl I1.out (by first | rfl | simp [Region.wanted, yielded] | (simp [Region.wanted, yielded, Act.put] <;> omega)) ?_)
  refine (sz_J K0.v1.dat (L := 1048576 - (d0.sz : Int)) (by omega) (by omega)).mono ?_
  rintro e w1 ⟨⟨u, rfl, hle, hgt⟩, hb⟩
  replace K0 := K0.later hb
  clear hb
  rcases Int.lt_or_le (1048576 - (d0.sz : Int)) (d1.sz : Int) with hs1 | hs1
  · have hu := hgt hs1
    clear hle hgt
    have E := K0.bel
    go_wp2
    go_ret
    exact ⟨rfl, E⟩
  have hu := hle hs1
  clear hle hgt
  subst hu
  have hu1 : ¬ (1048576 - (d0.sz : Int) - (d1.sz : Int) < 0) := by omega
  go_wp2_with fail
  rcases Int.lt_or_le (1048576 - (d0.sz : Int) - (d1.sz : Int)) (n7 : Int) with hs2 | hs2
  · refine (szSeals_gt A7 n7 c7 _ _ (by omega) (by omega) hs2 hm7).mono ?_
    rintro e w2 ⟨rfl, rfl⟩
    have E := K0.bel
    go_wp2
    go_ret
    exact ⟨rfl, E⟩
  refine (szSeals_le A7 n7 c7 _ _ (by omega) hs2).mono ?_
  rintro e w2 ⟨rfl, rfl⟩
  have hu2 : ¬ (1048576 - (d0.sz : Int) - (d1.sz : Int) - (n7 : Int) < 0) := by omega
  have hz0 : d0.sz ≤ 1048576 := by omega
  have hz1 : d1.sz ≤ 1048576 := by omega
  have hz7 : n7 ≤ 1048576 := by omega
  have hsum : d0.sz + d1.sz + n7 ≤ 1048576 := by omega
  have m0 : 0 ≤ d0.mk8 ∧ d0.mk8 ≤ 1048576 := by unfold GrpD.mk8; have h8 : d0.zs.length ≤ 1048576 := hz0; omega
  have m1 := mkb_J (JourD.fit hz1)
  obtain ⟨rr, z, hr⟩ : ∃ rr z, notedD d0 d1 (newD d1 kd sh cl t1 t2 v ps) = (rr, z) := ⟨_, _, rfl⟩
  have hq : rr.sz ≤ 1048576 := by have h9 := noted_sz (g := d0) (d := d1) (kd := kd) (sh := sh) (cl := cl) (t1 := t1) (t2 := t2) (v := v) (ps := ps) (by rw [HPL.out]; exact hsum); rw [hr] at h9; exact h9
  have HZ := Lib.hid hr
  have FIT := Lib.hid (JourD.fit hq)
  have hzz : (z != z) = false := by simp
  clear hr
  go_upto_region 11 with fail
  clear hs0 hs1 hs2 hu0 hu1 hu2
  -- the model, on copies
  go_cut [18, 19] (fun pv sv wr => ∃ (V : Nat) (C : Array Value) (F : Nat → Prop), pv = .pointer (some ⟨V, 0, none⟩) ∧ sv = .bool z ∧ VarOf (AtJ rr) 29 wr F V C ∧ (∀ b, F b → b < wr.heap.size) ∧ w.heap.size + 1 + 1 < V ∧ PreNo w wr C0 C1 t1 t2 A7 n7 ps d0 d1)
  case first =>
    refine wp_region_sink 19 (fun w' => Box w' (w.heap.size) 47 C0 ∧ Box w' (w.heap.size + 1) 50 C1 ∧ Box w' (w.heap.size + 1 + 1) 57 #[.int .i64 t1, .int .i64 t2]) (by kernel_rfl) ⟨K0.v0.box, K0.v1.box, K0.st⟩ (fun hH => ?_)
    have hb := (Below.refl w1.heap.size w1).drew
    replace K0 := K0.later hb
    clear hb
    generalize w1.drew = w3 at K0 hH ⊢
    refine wpAnyE_takeS (i := 0) (v := .agg C0) (by simp only [List.getElem?_toArray, List.getElem?_cons_zero]; rfl) (by kernel_rfl) (by kernel_rfl) (by kernel_rfl) (by exact fun _ _ _ h => h) (by kernel_rfl) ?yat0 hH ?_
    case yat0 => exact yields_box 47 _ rfl (w.heap.size) rfl 47 C0 (fun _ h => h.1) _ Tryz.underlying47 rfl I0.out (by first | rfl | simp [Region.wanted, yielded] | (simp [Region.wanted, yielded, Act.put] <;> omega))
    try simp only [Act.put, List.setIfInBounds_toArray, List.set_cons_zero, List.set_cons_succ]
    refine wpAnyE_takeS (i := 2) (v := .agg C1) (by simp only [List.getElem?_toArray, List.getElem?_cons_succ, List.getElem?_cons_zero]; rfl) (by kernel_rfl) (by kernel_rfl) (by kernel_rfl) (by exact fun _ _ _ h => h) (by kernel_rfl) ?yat1 hH ?_
    case yat1 => exact yields_box 50 _ rfl (w.heap.size + 1) rfl 50 C1 (fun _ h => h.2.1) _ Tryz.underlying50 rfl I1.out (by first | rfl | simp [Region.wanted, yielded] | (simp [Region.wanted, yielded, Act.put] <;> omega))
    try simp only [Act.put, List.setIfInBounds_toArray, List.set_cons_zero, List.set_cons_succ]
    refine wpAnyE_takeS (i := 7) (v := .agg #[.int .i64 t1, .int .i64 t2]) (by simp only [List.getElem?_toArray, List.getElem?_cons_succ, List.getElem?_cons_zero]; rfl) (by kernel_rfl) (by kernel_rfl) (by kernel_rfl) (by exact fun _ _ _ h => h) (by kernel_rfl) ?yat2 hH ?_
    case yat2 => exact yields_box 57 _ rfl (w.heap.size + 1 + 1) rfl 57 #[.int .i64 t1, .int .i64 t2] (fun _ h => h.2.2) _ Tryz.underlying57 rfl (by kernel_rfl) (by first | rfl | simp [Region.wanted, yielded] | (simp [Region.wanted, yielded, Act.put] <;> omega))
    try simp only [Act.put, List.setIfInBounds_toArray, List.set_cons_zero, List.set_cons_succ]
    refine wpAnyE_pure (i := 4) (v := ?vam4) (by simp only [List.getElem?_toArray, List.getElem?_cons_succ, List.getElem?_cons_zero]; rfl) (by kernel_rfl) (by kernel_rfl) (by kernel_rfl) (by exact fun _ _ _ h => h) (by kernel_rfl) (Or.inl ⟨by rfl, ?yam4⟩) hH ?ram4
    case yam4 => (intro w' hSw; (try dsimp only at hSw); go_simp; try with_reducible rfl)
    try simp only [Act.put, List.setIfInBounds_toArray, List.set_cons_zero, List.set_cons_succ]
    refine wpAnyE_pure (i := 5) (v := ?vam5) (by simp only [List.getElem?_toArray, List.getElem?_cons_succ, List.getElem?_cons_zero]; rfl) (by kernel_rfl) (by kernel_rfl) (by kernel_rfl) (by exact fun _ _ _ h => h) (by kernel_rfl) (Or.inl ⟨by rfl, ?yam5⟩) hH ?ram5
    case yam5 => (intro w' hSw; (try dsimp only at hSw); go_simp; try with_reducible rfl)
    try simp only [Act.put, List.setIfInBounds_toArray, List.set_cons_zero, List.set_cons_succ]
    refine wpAnyE_pure (i := 6) (v := ?vam6) (by simp only [List.getElem?_toArray, List.getElem?_cons_succ, List.getElem?_cons_zero]; rfl) (by kernel_rfl) (by kernel_rfl) (by kernel_rfl) (by exact fun _ _ _ h => h) (by kernel_rfl) (Or.inl ⟨by rfl, ?yam6⟩) hH ?ram6
    case yam6 => (intro w' hSw; (try dsimp only at hSw); go_simp; try with_reducible rfl)
    try simp only [Act.put, List.setIfInBounds_toArray, List.set_cons_zero, List.set_cons_succ]
    refine wpAnyE_pure (i := 9) (v := ?vam9) (by simp only [List.getElem?_toArray, List.getElem?_cons_succ, List.getElem?_cons_zero]; rfl) (by kernel_rfl) (by kernel_rfl) (by kernel_rfl) (by exact fun _ _ _ h => h) (by kernel_rfl) (Or.inl ⟨by rfl, ?yam9⟩) hH ?ram9
    case yam9 => (intro w' hSw; (try dsimp only at hSw); go_simp; try with_reducible rfl)
    try simp only [Act.put, List.setIfInBounds_toArray, List.set_cons_zero, List.set_cons_succ]
    refine wpAnyE_pure (i := 10) (v := ?vam10) (by simp only [List.getElem?_toArray, List.getElem?_cons_succ, List.getElem?_cons_zero]; rfl) (by kernel_rfl) (by kernel_rfl) (by kernel_rfl) (by exact fun _ _ _ h => h) (by kernel_rfl) (Or.inl ⟨by rfl, ?yam10⟩) hH ?ram10
    case yam10 => (intro w' hSw; (try dsimp only at hSw); go_simp; try with_reducible rfl)
    try simp only [Act.put, List.setIfInBounds_toArray, List.set_cons_zero, List.set_cons_succ]
    refine wpAnyE_two (i := 1) (j := 16) (by kernel_rfl) (by simp only [List.getElem?_toArray, List.getElem?_cons_succ, List.getElem?_cons_zero]; rfl) (by simp only [List.getElem?_toArray, List.getElem?_cons_succ, List.getElem?_cons_zero]; rfl) (fun K hK => ?_) (fun K hK => ?_)
    · skip
      go_simp
      refine (to_G K0.v0.dat hz0).mono ?_
      rintro e w4 ⟨D0, rfl, L0, hb⟩
      replace K0 := K0.later hb
      clear hb
      obtain ⟨w3, rfl⟩ : ∃ x, x = w4 := ⟨_, rfl⟩
      clear hH
      refine hK.out _ _ ⟨K0.v0.box, K0.v1.box, K0.st⟩ (fun hH => ?_)
      clear hK K
      try simp only [Act.put, List.setIfInBounds_toArray, List.set_cons_zero, List.set_cons_succ]
      refine wpAnyE_two (i := 3) (j := 16) (by kernel_rfl) (by simp only [List.getElem?_toArray, List.getElem?_cons_succ, List.getElem?_cons_zero]; rfl) (by simp only [List.getElem?_toArray, List.getElem?_cons_succ, List.getElem?_cons_zero]; rfl) (fun K hK => ?_) (fun K hK => ?_)
      · skip
        go_simp
        refine (to_J K0.v1.dat hz1).mono ?_
        rintro e w4 ⟨D1, rfl, L1, hb⟩
        replace K0 := K0.later hb
        replace L0 := (keepsLG d0).later L0 hb
        clear hb
        obtain ⟨w3, rfl⟩ : ∃ x, x = w4 := ⟨_, rfl⟩
        clear hH
        refine hK.out _ _ ⟨K0.v0.box, K0.v1.box, K0.st⟩ (fun hH => ?_)
        clear hK K
        try simp only [Act.put, List.setIfInBounds_toArray, List.set_cons_zero, List.set_cons_succ]
        refine wpAnyE_two (i := 8) (j := 16) (by kernel_rfl) (by simp only [List.getElem?_toArray, List.getElem?_cons_succ, List.getElem?_cons_zero]; rfl) (by simp only [List.getElem?_toArray, List.getElem?_cons_succ, List.getElem?_cons_zero]; rfl) (fun K hK => ?_) (fun K hK => ?_)
        · skip
          go_simp
          refine (toStamp_any t1 t2 w3).mono ?_
          rintro e w4 ⟨rfl, hb⟩
          replace K0 := K0.later hb
          replace L0 := (keepsLG d0).later L0 hb
          replace L1 := (keepsLJ d1).later L1 hb
          clear hb
          obtain ⟨w3, rfl⟩ : ∃ x, x = w4 := ⟨_, rfl⟩
          clear hH
          refine hK.out _ _ ⟨K0.v0.box, K0.v1.box, K0.st⟩ (fun hH => ?_)
          clear hK K
          try simp only [Act.put, List.setIfInBounds_toArray, List.set_cons_zero, List.set_cons_succ]
          refine wpAnyE_two (i := 11) (j := 16) (by kernel_rfl) (by simp only [List.getElem?_toArray, List.getElem?_cons_succ, List.getElem?_cons_zero]; rfl) (by simp only [List.getElem?_toArray, List.getElem?_cons_succ, List.getElem?_cons_zero]; rfl) (fun K hK => ?_) (fun K hK => ?_)
          · skip
            go_simp
            refine (toSeals_any A7 n7 c7 ps w3 hz7 K0.l2.1).mono ?_
            rintro e w4 ⟨gs, -, rfl, -, LH, hb⟩
            replace K0 := K0.later hb
            replace L0 := (keepsLG d0).later L0 hb
            replace L1 := (keepsLJ d1).later L1 hb
            clear hb
            obtain ⟨w3, rfl⟩ : ∃ x, x = w4 := ⟨_, rfl⟩
            clear hH
            refine hK.out _ _ ⟨K0.v0.box, K0.v1.box, K0.st⟩ (fun hH => ?_)
            clear hK K
            try simp only [Act.put, List.setIfInBounds_toArray, List.set_cons_zero, List.set_cons_succ]
            refine wpAnyE_two (i := 12) (j := 16) (by kernel_rfl) (by simp only [List.getElem?_toArray, List.getElem?_cons_succ, List.getElem?_cons_zero]; rfl) (by simp only [List.getElem?_toArray, List.getElem?_cons_succ, List.getElem?_cons_zero]; rfl) (fun K hK => ?_) (fun K hK => ?_)
            · skip
              go_simp
              refine (specNoted8_is kd sh cl t1 t2 v L0 L1 ⟨LH⟩ HPL.out hsum HZ.out).mono ?_
              rintro e w4 ⟨C, rfl, LR, hb⟩
              replace K0 := K0.later hb
              generalize w3.heap.size = S at LR
              obtain ⟨E, hE⟩ : ∃ E, w4.heap.size = E := ⟨_, rfl⟩
              rw [hE] at LR
              have hEl : E ≤ w4.heap.size := Nat.le_of_eq hE.symm
              clear hE
              clear hb L0 L1 LH
              obtain ⟨w3, rfl⟩ : ∃ x, x = w4 := ⟨_, rfl⟩
              clear hH
              refine hK.out _ _ ⟨K0.v0.box, K0.v1.box, K0.st⟩ (fun hH => ?_)
              clear hK K
              try simp only [Act.put, List.setIfInBounds_toArray, List.set_cons_zero, List.set_cons_succ]
              refine wpAnyE_pure (i := 13) (v := ?val0p13) (by simp only [List.getElem?_toArray, List.getElem?_cons_succ, List.getElem?_cons_zero]; rfl) (by kernel_rfl) (by kernel_rfl) (by kernel_rfl) (by exact fun _ _ _ h => h) (by kernel_rfl) (Or.inl ⟨by rfl, ?yal0p13⟩) hH ?ral0p13
              case yal0p13 => (intro w' hSw; (try dsimp only at hSw); go_simp; try with_reducible rfl)
              try simp only [Act.put, List.setIfInBounds_toArray, List.set_cons_zero, List.set_cons_succ]
              refine wpAnyE_pure (i := 14) (v := ?val0p14) (by simp only [List.getElem?_toArray, List.getElem?_cons_succ, List.getElem?_cons_zero]; rfl) (by kernel_rfl) (by kernel_rfl) (by kernel_rfl) (by exact fun _ _ _ h => h) (by kernel_rfl) (Or.inl ⟨by rfl, ?yal0p14⟩) hH ?ral0p14
              case yal0p14 => (intro w' hSw; (try dsimp only at hSw); go_simp; try with_reducible rfl)
              try simp only [Act.put, List.setIfInBounds_toArray, List.set_cons_zero, List.set_cons_succ]
              refine wpAnyE_pure (i := 15) (v := ?val0p15) (by simp only [List.getElem?_toArray, List.getElem?_cons_succ, List.getElem?_cons_zero]; rfl) (by kernel_rfl) (by kernel_rfl) (by kernel_rfl) (by exact fun _ _ _ h => h) (by kernel_rfl) (Or.inl ⟨by rfl, ?yal0p15⟩) hH ?ral0p15
              case yal0p15 => (intro w' hSw; (try dsimp only at hSw); go_simp; try with_reducible rfl)
              try simp only [Act.put, List.setIfInBounds_toArray, List.set_cons_zero, List.set_cons_succ]
              refine wpAnyE_one (i := 16) (by kernel_rfl) (by simp only [List.getElem?_toArray, List.getElem?_cons_succ, List.getElem?_cons_zero]; rfl) (fun K hK => ?_)
              go_simp
              have hV := K0.st.lt
              have hn := bel_alloc w3 (.cells #[.slice none 0 0, .slice none 0 0] 29)
              replace K0 := K0.later hn
              have ZB := Box.new w3 29 #[.slice none 0 0, .slice none 0 0]
              have hF : ¬ Iv S E w3.heap.size := iv_not (.inr hEl)
              replace LR := (keepsLJ rr).later LR hn
              replace hEl := Nat.le_trans hEl hn.size
              clear hn
              generalize (w3.alloc _ : World) = w4 at K0 ZB LR hEl ⊢
              generalize w3.heap.size = V at hV ZB hF ⊢
              obtain ⟨w3, rfl⟩ : ∃ x, x = w4 := ⟨_, rfl⟩
              clear hH
              refine hK.out _ _ ⟨K0.v0.box, K0.v1.box, K0.st⟩ (fun hH => ?_)
              clear hK K
              try simp only [Act.put, List.setIfInBounds_toArray, List.set_cons_zero, List.set_cons_succ]
              refine wpAnyE_one (i := 17) (by kernel_rfl) (by simp only [List.getElem?_toArray, List.getElem?_cons_succ, List.getElem?_cons_zero]; rfl) (fun K hK => ?_)
              rw [if_pos (by first | rfl | kernel_rfl | simp [Region.wanted, yielded])]
              have O := Lib.hid (oneJ LR.at)
              have JS := Lib.hid (sizeJ LR.at).2
              have ht := turns_setRow w3 V C
              have Ma := VarOf.put (keepsJ rr) ZB LR.at hF
              replace K0 := K0.turn ht (fun b hb => by omega)
              clear hH
              refine wp_store_row 29 _ _ rfl V _ rfl rfl 29 #[.slice none 0 0, .slice none 0 0] ZB JS.out O.out.1.symm O.out.2 ?_
              refine hK.out _ _ ⟨K0.v0.box, K0.v1.box, K0.st⟩ (fun hH => ?_)
              clear hK K
              try simp only [Act.put]
              have hEs : E ≤ (w3.setRow V C).heap.size := by rw [size_setRow]; exact hEl
              clear ZB LR ht O JS
              generalize (w3.setRow _ _ : World) = w4 at K0 Ma hEs hH  ⊢
              refine wpAnyE_end (i := 18) (by kernel_rfl) (by simp only [List.getElem?_toArray, List.getElem?_cons_succ, List.getElem?_cons_zero]; rfl) (by kernel_rfl) (fun K hK => ?_)
              go_simp
              refine hK.out _ _ ⟨K0.v0.box, K0.v1.box, K0.st⟩ ?_
              clear hK K hH
              try simp only [Act.put, List.setIfInBounds_toArray, List.set_cons_zero, List.set_cons_succ]
              go_wp2_with fail
              go_meet
              exact ⟨V, C, _, rfl, rfl, Ma, fun b hb => Nat.lt_of_lt_of_le hb.2 hEs, hV, K0⟩
            · skip
              go_simp
              have hV := K0.st.lt
              have hn := bel_alloc w3 (.cells #[.slice none 0 0, .slice none 0 0] 29)
              replace K0 := K0.later hn
              replace L0 := (keepsLG d0).later L0 hn
              replace L1 := (keepsLJ d1).later L1 hn
              replace LH := LH.later hn
              have ZB := Box.new w3 29 #[.slice none 0 0, .slice none 0 0]
              clear hn
              generalize (w3.alloc _ : World) = w4 at K0 L0 L1 LH ZB ⊢
              generalize w3.heap.size = V at hV ZB ⊢
              obtain ⟨w3, rfl⟩ : ∃ x, x = w4 := ⟨_, rfl⟩
              clear hH
              refine hK.out _ _ ⟨K0.v0.box, K0.v1.box, K0.st⟩ (fun hH => ?_)
              clear hK K
              try simp only [Act.put, List.setIfInBounds_toArray, List.set_cons_zero, List.set_cons_succ]
              refine wpAnyE_one (i := 12) (by kernel_rfl) (by simp only [List.getElem?_toArray, List.getElem?_cons_succ, List.getElem?_cons_zero]; rfl) (fun K hK => ?_)
              go_simp
              have hVS := ZB.lt
              refine (specNoted8_is kd sh cl t1 t2 v L0 L1 ⟨LH⟩ HPL.out hsum HZ.out).mono ?_
              rintro e w4 ⟨C, rfl, LR, hb⟩
              replace K0 := K0.later hb
              replace ZB := ZB.later hb ZB.lt
              generalize w3.heap.size = S at LR hVS
              obtain ⟨E, hE⟩ : ∃ E, w4.heap.size = E := ⟨_, rfl⟩
              rw [hE] at LR
              have hEl : E ≤ w4.heap.size := Nat.le_of_eq hE.symm
              clear hE
              have hF : ¬ Iv S E V := iv_not (.inl hVS)
              clear hVS
              clear hb L0 L1 LH
              obtain ⟨w3, rfl⟩ : ∃ x, x = w4 := ⟨_, rfl⟩
              clear hH
              refine hK.out _ _ ⟨K0.v0.box, K0.v1.box, K0.st⟩ (fun hH => ?_)
              clear hK K
              try simp only [Act.put, List.setIfInBounds_toArray, List.set_cons_zero, List.set_cons_succ]
              refine wpAnyE_pure (i := 13) (v := ?val1p13) (by simp only [List.getElem?_toArray, List.getElem?_cons_succ, List.getElem?_cons_zero]; rfl) (by kernel_rfl) (by kernel_rfl) (by kernel_rfl) (by exact fun _ _ _ h => h) (by kernel_rfl) (Or.inl ⟨by rfl, ?yal1p13⟩) hH ?ral1p13
              case yal1p13 => (intro w' hSw; (try dsimp only at hSw); go_simp; try with_reducible rfl)
              try simp only [Act.put, List.setIfInBounds_toArray, List.set_cons_zero, List.set_cons_succ]
              refine wpAnyE_pure (i := 14) (v := ?val1p14) (by simp only [List.getElem?_toArray, List.getElem?_cons_succ, List.getElem?_cons_zero]; rfl) (by kernel_rfl) (by kernel_rfl) (by kernel_rfl) (by exact fun _ _ _ h => h) (by kernel_rfl) (Or.inl ⟨by rfl, ?yal1p14⟩) hH ?ral1p14
              case yal1p14 => (intro w' hSw; (try dsimp only at hSw); go_simp; try with_reducible rfl)
              try simp only [Act.put, List.setIfInBounds_toArray, List.set_cons_zero, List.set_cons_succ]
              refine wpAnyE_pure (i := 15) (v := ?val1p15) (by simp only [List.getElem?_toArray, List.getElem?_cons_succ, List.getElem?_cons_zero]; rfl) (by kernel_rfl) (by kernel_rfl) (by kernel_rfl) (by exact fun _ _ _ h => h) (by kernel_rfl) (Or.inl ⟨by rfl, ?yal1p15⟩) hH ?ral1p15
              case yal1p15 => (intro w' hSw; (try dsimp only at hSw); go_simp; try with_reducible rfl)
              try simp only [Act.put, List.setIfInBounds_toArray, List.set_cons_zero, List.set_cons_succ]
              refine wpAnyE_one (i := 17) (by kernel_rfl) (by simp only [List.getElem?_toArray, List.getElem?_cons_succ, List.getElem?_cons_zero]; rfl) (fun K hK => ?_)
              rw [if_pos (by first | rfl | kernel_rfl | simp [Region.wanted, yielded])]
              have O := Lib.hid (oneJ LR.at)
              have JS := Lib.hid (sizeJ LR.at).2
              have ht := turns_setRow w3 V C
              have Ma := VarOf.put (keepsJ rr) ZB LR.at hF
              replace K0 := K0.turn ht (fun b hb => by omega)
              clear hH
              refine wp_store_row 29 _ _ rfl V _ rfl rfl 29 #[.slice none 0 0, .slice none 0 0] ZB JS.out O.out.1.symm O.out.2 ?_
              refine hK.out _ _ ⟨K0.v0.box, K0.v1.box, K0.st⟩ (fun hH => ?_)
              clear hK K
              try simp only [Act.put]
              have hEs : E ≤ (w3.setRow V C).heap.size := by rw [size_setRow]; exact hEl
              clear ZB LR ht O JS
              generalize (w3.setRow _ _ : World) = w4 at K0 Ma hEs hH  ⊢
              refine wpAnyE_end (i := 18) (by kernel_rfl) (by simp only [List.getElem?_toArray, List.getElem?_cons_succ, List.getElem?_cons_zero]; rfl) (by kernel_rfl) (fun K hK => ?_)
              go_simp
              refine hK.out _ _ ⟨K0.v0.box, K0.v1.box, K0.st⟩ ?_
              clear hK K hH
              try simp only [Act.put, List.setIfInBounds_toArray, List.set_cons_zero, List.set_cons_succ]
              go_wp2_with fail
              go_meet
              exact ⟨V, C, _, rfl, rfl, Ma, fun b hb => Nat.lt_of_lt_of_le hb.2 hEs, hV, K0⟩
          · skip
            go_simp
            have hV := K0.st.lt
            have hn := bel_alloc w3 (.cells #[.slice none 0 0, .slice none 0 0] 29)
            replace K0 := K0.later hn
            replace L0 := (keepsLG d0).later L0 hn
            replace L1 := (keepsLJ d1).later L1 hn
            have ZB := Box.new w3 29 #[.slice none 0 0, .slice none 0 0]
            clear hn
            generalize (w3.alloc _ : World) = w4 at K0 L0 L1 ZB ⊢
            generalize w3.heap.size = V at hV ZB ⊢
            obtain ⟨w3, rfl⟩ : ∃ x, x = w4 := ⟨_, rfl⟩
            clear hH
            refine hK.out _ _ ⟨K0.v0.box, K0.v1.box, K0.st⟩ (fun hH => ?_)
            clear hK K
            try simp only [Act.put, List.setIfInBounds_toArray, List.set_cons_zero, List.set_cons_succ]
            refine wpAnyE_one (i := 11) (by kernel_rfl) (by simp only [List.getElem?_toArray, List.getElem?_cons_succ, List.getElem?_cons_zero]; rfl) (fun K hK => ?_)
            go_simp
            refine (toSeals_any A7 n7 c7 ps w3 hz7 K0.l2.1).mono ?_
            rintro e w4 ⟨gs, -, rfl, -, LH, hb⟩
            replace K0 := K0.later hb
            replace L0 := (keepsLG d0).later L0 hb
            replace L1 := (keepsLJ d1).later L1 hb
            replace ZB := ZB.later hb ZB.lt
            clear hb
            obtain ⟨w3, rfl⟩ : ∃ x, x = w4 := ⟨_, rfl⟩
            clear hH
            refine hK.out _ _ ⟨K0.v0.box, K0.v1.box, K0.st⟩ (fun hH => ?_)
            clear hK K
            try simp only [Act.put, List.setIfInBounds_toArray, List.set_cons_zero, List.set_cons_succ]
            refine wpAnyE_one (i := 12) (by kernel_rfl) (by simp only [List.getElem?_toArray, List.getElem?_cons_succ, List.getElem?_cons_zero]; rfl) (fun K hK => ?_)
            go_simp
            have hVS := ZB.lt
            refine (specNoted8_is kd sh cl t1 t2 v L0 L1 ⟨LH⟩ HPL.out hsum HZ.out).mono ?_
            rintro e w4 ⟨C, rfl, LR, hb⟩
            replace K0 := K0.later hb
            replace ZB := ZB.later hb ZB.lt
            generalize w3.heap.size = S at LR hVS
            obtain ⟨E, hE⟩ : ∃ E, w4.heap.size = E := ⟨_, rfl⟩
            rw [hE] at LR
            have hEl : E ≤ w4.heap.size := Nat.le_of_eq hE.symm
            clear hE
            have hF : ¬ Iv S E V := iv_not (.inl hVS)
            clear hVS
            clear hb L0 L1 LH
            obtain ⟨w3, rfl⟩ : ∃ x, x = w4 := ⟨_, rfl⟩
            clear hH
            refine hK.out _ _ ⟨K0.v0.box, K0.v1.box, K0.st⟩ (fun hH => ?_)
            clear hK K
            try simp only [Act.put, List.setIfInBounds_toArray, List.set_cons_zero, List.set_cons_succ]
            refine wpAnyE_pure (i := 13) (v := ?val2p13) (by simp only [List.getElem?_toArray, List.getElem?_cons_succ, List.getElem?_cons_zero]; rfl) (by kernel_rfl) (by kernel_rfl) (by kernel_rfl) (by exact fun _ _ _ h => h) (by kernel_rfl) (Or.inl ⟨by rfl, ?yal2p13⟩) hH ?ral2p13
            case yal2p13 => (intro w' hSw; (try dsimp only at hSw); go_simp; try with_reducible rfl)
            try simp only [Act.put, List.setIfInBounds_toArray, List.set_cons_zero, List.set_cons_succ]
            refine wpAnyE_pure (i := 14) (v := ?val2p14) (by simp only [List.getElem?_toArray, List.getElem?_cons_succ, List.getElem?_cons_zero]; rfl) (by kernel_rfl) (by kernel_rfl) (by kernel_rfl) (by exact fun _ _ _ h => h) (by kernel_rfl) (Or.inl ⟨by rfl, ?yal2p14⟩) hH ?ral2p14
            case yal2p14 => (intro w' hSw; (try dsimp only at hSw); go_simp; try with_reducible rfl)
            try simp only [Act.put, List.setIfInBounds_toArray, List.set_cons_zero, List.set_cons_succ]
            refine wpAnyE_pure (i := 15) (v := ?val2p15) (by simp only [List.getElem?_toArray, List.getElem?_cons_succ, List.getElem?_cons_zero]; rfl) (by kernel_rfl) (by kernel_rfl) (by kernel_rfl) (by exact fun _ _ _ h => h) (by kernel_rfl) (Or.inl ⟨by rfl, ?yal2p15⟩) hH ?ral2p15
            case yal2p15 => (intro w' hSw; (try dsimp only at hSw); go_simp; try with_reducible rfl)
            try simp only [Act.put, List.setIfInBounds_toArray, List.set_cons_zero, List.set_cons_succ]
            refine wpAnyE_one (i := 17) (by kernel_rfl) (by simp only [List.getElem?_toArray, List.getElem?_cons_succ, List.getElem?_cons_zero]; rfl) (fun K hK => ?_)
            rw [if_pos (by first | rfl | kernel_rfl | simp [Region.wanted, yielded])]
            have O := Lib.hid (oneJ LR.at)
            have JS := Lib.hid (sizeJ LR.at).2
            have ht := turns_setRow w3 V C
            have Ma := VarOf.put (keepsJ rr) ZB LR.at hF
            replace K0 := K0.turn ht (fun b hb => by omega)
            clear hH
            refine wp_store_row 29 _ _ rfl V _ rfl rfl 29 #[.slice none 0 0, .slice none 0 0] ZB JS.out O.out.1.symm O.out.2 ?_
            refine hK.out _ _ ⟨K0.v0.box, K0.v1.box, K0.st⟩ (fun hH => ?_)
            clear hK K
            try simp only [Act.put]
            have hEs : E ≤ (w3.setRow V C).heap.size := by rw [size_setRow]; exact hEl
            clear ZB LR ht O JS
            generalize (w3.setRow _ _ : World) = w4 at K0 Ma hEs hH  ⊢
            refine wpAnyE_end (i := 18) (by kernel_rfl) (by simp only [List.getElem?_toArray, List.getElem?_cons_succ, List.getElem?_cons_zero]; rfl) (by kernel_rfl) (fun K hK => ?_)
            go_simp
            refine hK.out _ _ ⟨K0.v0.box, K0.v1.box, K0.st⟩ ?_
            clear hK K hH
            try simp only [Act.put, List.setIfInBounds_toArray, List.set_cons_zero, List.set_cons_succ]
            go_wp2_with fail
            go_meet
            exact ⟨V, C, _, rfl, rfl, Ma, fun b hb => Nat.lt_of_lt_of_le hb.2 hEs, hV, K0⟩
        · skip
          go_simp
          have hV := K0.st.lt
          have hn := bel_alloc w3 (.cells #[.slice none 0 0, .slice none 0 0] 29)
          replace K0 := K0.later hn
          replace L0 := (keepsLG d0).later L0 hn
          replace L1 := (keepsLJ d1).later L1 hn
          have ZB := Box.new w3 29 #[.slice none 0 0, .slice none 0 0]
          clear hn
          generalize (w3.alloc _ : World) = w4 at K0 L0 L1 ZB ⊢
          generalize w3.heap.size = V at hV ZB ⊢
          obtain ⟨w3, rfl⟩ : ∃ x, x = w4 := ⟨_, rfl⟩
          clear hH
          refine hK.out _ _ ⟨K0.v0.box, K0.v1.box, K0.st⟩ (fun hH => ?_)
          clear hK K
          try simp only [Act.put, List.setIfInBounds_toArray, List.set_cons_zero, List.set_cons_succ]
          refine wpAnyE_one (i := 8) (by kernel_rfl) (by simp only [List.getElem?_toArray, List.getElem?_cons_succ, List.getElem?_cons_zero]; rfl) (fun K hK => ?_)
          go_simp
          refine (toStamp_any t1 t2 w3).mono ?_
          rintro e w4 ⟨rfl, hb⟩
          replace K0 := K0.later hb
          replace L0 := (keepsLG d0).later L0 hb
          replace L1 := (keepsLJ d1).later L1 hb
          replace ZB := ZB.later hb ZB.lt
          clear hb
          obtain ⟨w3, rfl⟩ : ∃ x, x = w4 := ⟨_, rfl⟩
          clear hH
          refine hK.out _ _ ⟨K0.v0.box, K0.v1.box, K0.st⟩ (fun hH => ?_)
          clear hK K
          try simp only [Act.put, List.setIfInBounds_toArray, List.set_cons_zero, List.set_cons_succ]
          refine wpAnyE_one (i := 11) (by kernel_rfl) (by simp only [List.getElem?_toArray, List.getElem?_cons_succ, List.getElem?_cons_zero]; rfl) (fun K hK => ?_)
          go_simp
          refine (toSeals_any A7 n7 c7 ps w3 hz7 K0.l2.1).mono ?_
          rintro e w4 ⟨gs, -, rfl, -, LH, hb⟩
          replace K0 := K0.later hb
          replace L0 := (keepsLG d0).later L0 hb
          replace L1 := (keepsLJ d1).later L1 hb
          replace ZB := ZB.later hb ZB.lt
          clear hb
          obtain ⟨w3, rfl⟩ : ∃ x, x = w4 := ⟨_, rfl⟩
          clear hH
          refine hK.out _ _ ⟨K0.v0.box, K0.v1.box, K0.st⟩ (fun hH => ?_)
          clear hK K
          try simp only [Act.put, List.setIfInBounds_toArray, List.set_cons_zero, List.set_cons_succ]
          refine wpAnyE_one (i := 12) (by kernel_rfl) (by simp only [List.getElem?_toArray, List.getElem?_cons_succ, List.getElem?_cons_zero]; rfl) (fun K hK => ?_)
          go_simp
          have hVS := ZB.lt
          refine (specNoted8_is kd sh cl t1 t2 v L0 L1 ⟨LH⟩ HPL.out hsum HZ.out).mono ?_
          rintro e w4 ⟨C, rfl, LR, hb⟩
          replace K0 := K0.later hb
          replace ZB := ZB.later hb ZB.lt
          generalize w3.heap.size = S at LR hVS
          obtain ⟨E, hE⟩ : ∃ E, w4.heap.size = E := ⟨_, rfl⟩
          rw [hE] at LR
          have hEl : E ≤ w4.heap.size := Nat.le_of_eq hE.symm
          clear hE
          have hF : ¬ Iv S E V := iv_not (.inl hVS)
          clear hVS
          clear hb L0 L1 LH
          obtain ⟨w3, rfl⟩ : ∃ x, x = w4 := ⟨_, rfl⟩
          clear hH
          refine hK.out _ _ ⟨K0.v0.box, K0.v1.box, K0.st⟩ (fun hH => ?_)
          clear hK K
          try simp only [Act.put, List.setIfInBounds_toArray, List.set_cons_zero, List.set_cons_succ]
          refine wpAnyE_pure (i := 13) (v := ?val3p13) (by simp only [List.getElem?_toArray, List.getElem?_cons_succ, List.getElem?_cons_zero]; rfl) (by kernel_rfl) (by kernel_rfl) (by kernel_rfl) (by exact fun _ _ _ h => h) (by kernel_rfl) (Or.inl ⟨by rfl, ?yal3p13⟩) hH ?ral3p13
          case yal3p13 => (intro w' hSw; (try dsimp only at hSw); go_simp; try with_reducible rfl)
          try simp only [Act.put, List.setIfInBounds_toArray, List.set_cons_zero, List.set_cons_succ]
          refine wpAnyE_pure (i := 14) (v := ?val3p14) (by simp only [List.getElem?_toArray, List.getElem?_cons_succ, List.getElem?_cons_zero]; rfl) (by kernel_rfl) (by kernel_rfl) (by kernel_rfl) (by exact fun _ _ _ h => h) (by kernel_rfl) (Or.inl ⟨by rfl, ?yal3p14⟩) hH ?ral3p14
          case yal3p14 => (intro w' hSw; (try dsimp only at hSw); go_simp; try with_reducible rfl)
          try simp only [Act.put, List.setIfInBounds_toArray, List.set_cons_zero, List.set_cons_succ]
          refine wpAnyE_pure (i := 15) (v := ?val3p15) (by simp only [List.getElem?_toArray, List.getElem?_cons_succ, List.getElem?_cons_zero]; rfl) (by kernel_rfl) (by kernel_rfl) (by kernel_rfl) (by exact fun _ _ _ h => h) (by kernel_rfl) (Or.inl ⟨by rfl, ?yal3p15⟩) hH ?ral3p15
          case yal3p15 => (intro w' hSw; (try dsimp only at hSw); go_simp; try with_reducible rfl)
          try simp only [Act.put, List.setIfInBounds_toArray, List.set_cons_zero, List.set_cons_succ]
          refine wpAnyE_one (i := 17) (by kernel_rfl) (by simp only [List.getElem?_toArray, List.getElem?_cons_succ, List.getElem?_cons_zero]; rfl) (fun K hK => ?_)
          rw [if_pos (by first | rfl | kernel_rfl | simp [Region.wanted, yielded])]
          have O := Lib.hid (oneJ LR.at)
          have JS := Lib.hid (sizeJ LR.at).2
          have ht := turns_setRow w3 V C
          have Ma := VarOf.put (keepsJ rr) ZB LR.at hF
          replace K0 := K0.turn ht (fun b hb => by omega)
          clear hH
          refine wp_store_row 29 _ _ rfl V _ rfl rfl 29 #[.slice none 0 0, .slice none 0 0] ZB JS.out O.out.1.symm O.out.2 ?_
          refine hK.out _ _ ⟨K0.v0.box, K0.v1.box, K0.st⟩ (fun hH => ?_)
          clear hK K
          try simp only [Act.put]
          have hEs : E ≤ (w3.setRow V C).heap.size := by rw [size_setRow]; exact hEl
          clear ZB LR ht O JS
          generalize (w3.setRow _ _ : World) = w4 at K0 Ma hEs hH  ⊢
          refine wpAnyE_end (i := 18) (by kernel_rfl) (by simp only [List.getElem?_toArray, List.getElem?_cons_succ, List.getElem?_cons_zero]; rfl) (by kernel_rfl) (fun K hK => ?_)
          go_simp
          refine hK.out _ _ ⟨K0.v0.box, K0.v1.box, K0.st⟩ ?_
          clear hK K hH
          try simp only [Act.put, List.setIfInBounds_toArray, List.set_cons_zero, List.set_cons_succ]
          go_wp2_with fail
          go_meet
          exact ⟨V, C, _, rfl, rfl, Ma, fun b hb => Nat.lt_of_lt_of_le hb.2 hEs, hV, K0⟩
      · skip
        go_simp
        have hV := K0.st.lt
        have hn := bel_alloc w3 (.cells #[.slice none 0 0, .slice none 0 0] 29)
        replace K0 := K0.later hn
        replace L0 := (keepsLG d0).later L0 hn
        have ZB := Box.new w3 29 #[.slice none 0 0, .slice none 0 0]
        clear hn
        generalize (w3.alloc _ : World) = w4 at K0 L0 ZB ⊢
        generalize w3.heap.size = V at hV ZB ⊢
        obtain ⟨w3, rfl⟩ : ∃ x, x = w4 := ⟨_, rfl⟩
        clear hH
        refine hK.out _ _ ⟨K0.v0.box, K0.v1.box, K0.st⟩ (fun hH => ?_)
        clear hK K
        try simp only [Act.put, List.setIfInBounds_toArray, List.set_cons_zero, List.set_cons_succ]
        refine wpAnyE_one (i := 3) (by kernel_rfl) (by simp only [List.getElem?_toArray, List.getElem?_cons_succ, List.getElem?_cons_zero]; rfl) (fun K hK => ?_)
        go_simp
        refine (to_J K0.v1.dat hz1).mono ?_
        rintro e w4 ⟨D1, rfl, L1, hb⟩
        replace K0 := K0.later hb
        replace L0 := (keepsLG d0).later L0 hb
        replace ZB := ZB.later hb ZB.lt
        clear hb
        obtain ⟨w3, rfl⟩ : ∃ x, x = w4 := ⟨_, rfl⟩
        clear hH
        refine hK.out _ _ ⟨K0.v0.box, K0.v1.box, K0.st⟩ (fun hH => ?_)
        clear hK K
        try simp only [Act.put, List.setIfInBounds_toArray, List.set_cons_zero, List.set_cons_succ]
        refine wpAnyE_one (i := 8) (by kernel_rfl) (by simp only [List.getElem?_toArray, List.getElem?_cons_succ, List.getElem?_cons_zero]; rfl) (fun K hK => ?_)
        go_simp
        refine (toStamp_any t1 t2 w3).mono ?_
        rintro e w4 ⟨rfl, hb⟩
        replace K0 := K0.later hb
        replace L0 := (keepsLG d0).later L0 hb
        replace L1 := (keepsLJ d1).later L1 hb
        replace ZB := ZB.later hb ZB.lt
        clear hb
        obtain ⟨w3, rfl⟩ : ∃ x, x = w4 := ⟨_, rfl⟩
        clear hH
        refine hK.out _ _ ⟨K0.v0.box, K0.v1.box, K0.st⟩ (fun hH => ?_)
        clear hK K
        try simp only [Act.put, List.setIfInBounds_toArray, List.set_cons_zero, List.set_cons_succ]
        refine wpAnyE_one (i := 11) (by kernel_rfl) (by simp only [List.getElem?_toArray, List.getElem?_cons_succ, List.getElem?_cons_zero]; rfl) (fun K hK => ?_)
        go_simp
        refine (toSeals_any A7 n7 c7 ps w3 hz7 K0.l2.1).mono ?_
        rintro e w4 ⟨gs, -, rfl, -, LH, hb⟩
        replace K0 := K0.later hb
        replace L0 := (keepsLG d0).later L0 hb
        replace L1 := (keepsLJ d1).later L1 hb
        replace ZB := ZB.later hb ZB.lt
        clear hb
        obtain ⟨w3, rfl⟩ : ∃ x, x = w4 := ⟨_, rfl⟩
        clear hH
        refine hK.out _ _ ⟨K0.v0.box, K0.v1.box, K0.st⟩ (fun hH => ?_)
        clear hK K
        try simp only [Act.put, List.setIfInBounds_toArray, List.set_cons_zero, List.set_cons_succ]
        refine wpAnyE_one (i := 12) (by kernel_rfl) (by simp only [List.getElem?_toArray, List.getElem?_cons_succ, List.getElem?_cons_zero]; rfl) (fun K hK => ?_)
        go_simp
        have hVS := ZB.lt
        refine (specNoted8_is kd sh cl t1 t2 v L0 L1 ⟨LH⟩ HPL.out hsum HZ.out).mono ?_
        rintro e w4 ⟨C, rfl, LR, hb⟩
        replace K0 := K0.later hb
        replace ZB := ZB.later hb ZB.lt
        generalize w3.heap.size = S at LR hVS
        obtain ⟨E, hE⟩ : ∃ E, w4.heap.size = E := ⟨_, rfl⟩
        rw [hE] at LR
        have hEl : E ≤ w4.heap.size := Nat.le_of_eq hE.symm
        clear hE
        have hF : ¬ Iv S E V := iv_not (.inl hVS)
        clear hVS
        clear hb L0 L1 LH
        obtain ⟨w3, rfl⟩ : ∃ x, x = w4 := ⟨_, rfl⟩
        clear hH
        refine hK.out _ _ ⟨K0.v0.box, K0.v1.box, K0.st⟩ (fun hH => ?_)
        clear hK K
        try simp only [Act.put, List.setIfInBounds_toArray, List.set_cons_zero, List.set_cons_succ]
        refine wpAnyE_pure (i := 13) (v := ?val4p13) (by simp only [List.getElem?_toArray, List.getElem?_cons_succ, List.getElem?_cons_zero]; rfl) (by kernel_rfl) (by kernel_rfl) (by kernel_rfl) (by exact fun _ _ _ h => h) (by kernel_rfl) (Or.inl ⟨by rfl, ?yal4p13⟩) hH ?ral4p13
        case yal4p13 => (intro w' hSw; (try dsimp only at hSw); go_simp; try with_reducible rfl)
        try simp only [Act.put, List.setIfInBounds_toArray, List.set_cons_zero, List.set_cons_succ]
        refine wpAnyE_pure (i := 14) (v := ?val4p14) (by simp only [List.getElem?_toArray, List.getElem?_cons_succ, List.getElem?_cons_zero]; rfl) (by kernel_rfl) (by kernel_rfl) (by kernel_rfl) (by exact fun _ _ _ h => h) (by kernel_rfl) (Or.inl ⟨by rfl, ?yal4p14⟩) hH ?ral4p14
        case yal4p14 => (intro w' hSw; (try dsimp only at hSw); go_simp; try with_reducible rfl)
        try simp only [Act.put, List.setIfInBounds_toArray, List.set_cons_zero, List.set_cons_succ]
        refine wpAnyE_pure (i := 15) (v := ?val4p15) (by simp only [List.getElem?_toArray, List.getElem?_cons_succ, List.getElem?_cons_zero]; rfl) (by kernel_rfl) (by kernel_rfl) (by kernel_rfl) (by exact fun _ _ _ h => h) (by kernel_rfl) (Or.inl ⟨by rfl, ?yal4p15⟩) hH ?ral4p15
        case yal4p15 => (intro w' hSw; (try dsimp only at hSw); go_simp; try with_reducible rfl)
        try simp only [Act.put, List.setIfInBounds_toArray, List.set_cons_zero, List.set_cons_succ]
        refine wpAnyE_one (i := 17) (by kernel_rfl) (by simp only [List.getElem?_toArray, List.getElem?_cons_succ, List.getElem?_cons_zero]; rfl) (fun K hK => ?_)
        rw [if_pos (by first | rfl | kernel_rfl | simp [Region.wanted, yielded])]
        have O := Lib.hid (oneJ LR.at)
        have JS := Lib.hid (sizeJ LR.at).2
        have ht := turns_setRow w3 V C
        have Ma := VarOf.put (keepsJ rr) ZB LR.at hF
        replace K0 := K0.turn ht (fun b hb => by omega)
        clear hH
        refine wp_store_row 29 _ _ rfl V _ rfl rfl 29 #[.slice none 0 0, .slice none 0 0] ZB JS.out O.out.1.symm O.out.2 ?_
        refine hK.out _ _ ⟨K0.v0.box, K0.v1.box, K0.st⟩ (fun hH => ?_)
        clear hK K
        try simp only [Act.put]
        have hEs : E ≤ (w3.setRow V C).heap.size := by rw [size_setRow]; exact hEl
        clear ZB LR ht O JS
        generalize (w3.setRow _ _ : World) = w4 at K0 Ma hEs hH  ⊢
        refine wpAnyE_end (i := 18) (by kernel_rfl) (by simp only [List.getElem?_toArray, List.getElem?_cons_succ, List.getElem?_cons_zero]; rfl) (by kernel_rfl) (fun K hK => ?_)
        go_simp
        refine hK.out _ _ ⟨K0.v0.box, K0.v1.box, K0.st⟩ ?_
        clear hK K hH
        try simp only [Act.put, List.setIfInBounds_toArray, List.set_cons_zero, List.set_cons_succ]
        go_wp2_with fail
        go_meet
        exact ⟨V, C, _, rfl, rfl, Ma, fun b hb => Nat.lt_of_lt_of_le hb.2 hEs, hV, K0⟩
    · skip
      go_simp
      have hV := K0.st.lt
      have hn := bel_alloc w3 (.cells #[.slice none 0 0, .slice none 0 0] 29)
      replace K0 := K0.later hn
      have ZB := Box.new w3 29 #[.slice none 0 0, .slice none 0 0]
      clear hn
      generalize (w3.alloc _ : World) = w4 at K0 ZB ⊢
      generalize w3.heap.size = V at hV ZB ⊢
      obtain ⟨w3, rfl⟩ : ∃ x, x = w4 := ⟨_, rfl⟩
      clear hH
      refine hK.out _ _ ⟨K0.v0.box, K0.v1.box, K0.st⟩ (fun hH => ?_)
      clear hK K
      try simp only [Act.put, List.setIfInBounds_toArray, List.set_cons_zero, List.set_cons_succ]
      refine wpAnyE_one (i := 1) (by kernel_rfl) (by simp only [List.getElem?_toArray, List.getElem?_cons_succ, List.getElem?_cons_zero]; rfl) (fun K hK => ?_)
      go_simp
      refine (to_G K0.v0.dat hz0).mono ?_
      rintro e w4 ⟨D0, rfl, L0, hb⟩
      replace K0 := K0.later hb
      replace ZB := ZB.later hb ZB.lt
      clear hb
      obtain ⟨w3, rfl⟩ : ∃ x, x = w4 := ⟨_, rfl⟩
      clear hH
      refine hK.out _ _ ⟨K0.v0.box, K0.v1.box, K0.st⟩ (fun hH => ?_)
      clear hK K
      try simp only [Act.put, List.setIfInBounds_toArray, List.set_cons_zero, List.set_cons_succ]
      refine wpAnyE_one (i := 3) (by kernel_rfl) (by simp only [List.getElem?_toArray, List.getElem?_cons_succ, List.getElem?_cons_zero]; rfl) (fun K hK => ?_)
      go_simp
      refine (to_J K0.v1.dat hz1).mono ?_
      rintro e w4 ⟨D1, rfl, L1, hb⟩
      replace K0 := K0.later hb
      replace L0 := (keepsLG d0).later L0 hb
      replace ZB := ZB.later hb ZB.lt
      clear hb
      obtain ⟨w3, rfl⟩ : ∃ x, x = w4 := ⟨_, rfl⟩
      clear hH
      refine hK.out _ _ ⟨K0.v0.box, K0.v1.box, K0.st⟩ (fun hH => ?_)
      clear hK K
      try simp only [Act.put, List.setIfInBounds_toArray, List.set_cons_zero, List.set_cons_succ]
      refine wpAnyE_one (i := 8) (by kernel_rfl) (by simp only [List.getElem?_toArray, List.getElem?_cons_succ, List.getElem?_cons_zero]; rfl) (fun K hK => ?_)
      go_simp
      refine (toStamp_any t1 t2 w3).mono ?_
      rintro e w4 ⟨rfl, hb⟩
      replace K0 := K0.later hb
      replace L0 := (keepsLG d0).later L0 hb
      replace L1 := (keepsLJ d1).later L1 hb
      replace ZB := ZB.later hb ZB.lt
      clear hb
      obtain ⟨w3, rfl⟩ : ∃ x, x = w4 := ⟨_, rfl⟩
      clear hH
      refine hK.out _ _ ⟨K0.v0.box, K0.v1.box, K0.st⟩ (fun hH => ?_)
      clear hK K
      try simp only [Act.put, List.setIfInBounds_toArray, List.set_cons_zero, List.set_cons_succ]
      refine wpAnyE_one (i := 11) (by kernel_rfl) (by simp only [List.getElem?_toArray, List.getElem?_cons_succ, List.getElem?_cons_zero]; rfl) (fun K hK => ?_)
      go_simp
      refine (toSeals_any A7 n7 c7 ps w3 hz7 K0.l2.1).mono ?_
      rintro e w4 ⟨gs, -, rfl, -, LH, hb⟩
      replace K0 := K0.later hb
      replace L0 := (keepsLG d0).later L0 hb
      replace L1 := (keepsLJ d1).later L1 hb
      replace ZB := ZB.later hb ZB.lt
      clear hb
      obtain ⟨w3, rfl⟩ : ∃ x, x = w4 := ⟨_, rfl⟩
      clear hH
      refine hK.out _ _ ⟨K0.v0.box, K0.v1.box, K0.st⟩ (fun hH => ?_)
      clear hK K
      try simp only [Act.put, List.setIfInBounds_toArray, List.set_cons_zero, List.set_cons_succ]
      refine wpAnyE_one (i := 12) (by kernel_rfl) (by simp only [List.getElem?_toArray, List.getElem?_cons_succ, List.getElem?_cons_zero]; rfl) (fun K hK => ?_)
      go_simp
      have hVS := ZB.lt
      refine (specNoted8_is kd sh cl t1 t2 v L0 L1 ⟨LH⟩ HPL.out hsum HZ.out).mono ?_
      rintro e w4 ⟨C, rfl, LR, hb⟩
      replace K0 := K0.later hb
      replace ZB := ZB.later hb ZB.lt
      generalize w3.heap.size = S at LR hVS
      obtain ⟨E, hE⟩ : ∃ E, w4.heap.size = E := ⟨_, rfl⟩
      rw [hE] at LR
      have hEl : E ≤ w4.heap.size := Nat.le_of_eq hE.symm
      clear hE
      have hF : ¬ Iv S E V := iv_not (.inl hVS)
      clear hVS
      clear hb L0 L1 LH
      obtain ⟨w3, rfl⟩ : ∃ x, x = w4 := ⟨_, rfl⟩
      clear hH
      refine hK.out _ _ ⟨K0.v0.box, K0.v1.box, K0.st⟩ (fun hH => ?_)
      clear hK K
      try simp only [Act.put, List.setIfInBounds_toArray, List.set_cons_zero, List.set_cons_succ]
      refine wpAnyE_pure (i := 13) (v := ?val5p13) (by simp only [List.getElem?_toArray, List.getElem?_cons_succ, List.getElem?_cons_zero]; rfl) (by kernel_rfl) (by kernel_rfl) (by kernel_rfl) (by exact fun _ _ _ h => h) (by kernel_rfl) (Or.inl ⟨by rfl, ?yal5p13⟩) hH ?ral5p13
      case yal5p13 => (intro w' hSw; (try dsimp only at hSw); go_simp; try with_reducible rfl)
      try simp only [Act.put, List.setIfInBounds_toArray, List.set_cons_zero, List.set_cons_succ]
      refine wpAnyE_pure (i := 14) (v := ?val5p14) (by simp only [List.getElem?_toArray, List.getElem?_cons_succ, List.getElem?_cons_zero]; rfl) (by kernel_rfl) (by kernel_rfl) (by kernel_rfl) (by exact fun _ _ _ h => h) (by kernel_rfl) (Or.inl ⟨by rfl, ?yal5p14⟩) hH ?ral5p14
      case yal5p14 => (intro w' hSw; (try dsimp only at hSw); go_simp; try with_reducible rfl)
      try simp only [Act.put, List.setIfInBounds_toArray, List.set_cons_zero, List.set_cons_succ]
      refine wpAnyE_pure (i := 15) (v := ?val5p15) (by simp only [List.getElem?_toArray, List.getElem?_cons_succ, List.getElem?_cons_zero]; rfl) (by kernel_rfl) (by kernel_rfl) (by kernel_rfl) (by exact fun _ _ _ h => h) (by kernel_rfl) (Or.inl ⟨by rfl, ?yal5p15⟩) hH ?ral5p15
      case yal5p15 => (intro w' hSw; (try dsimp only at hSw); go_simp; try with_reducible rfl)
      try simp only [Act.put, List.setIfInBounds_toArray, List.set_cons_zero, List.set_cons_succ]
      refine wpAnyE_one (i := 17) (by kernel_rfl) (by simp only [List.getElem?_toArray, List.getElem?_cons_succ, List.getElem?_cons_zero]; rfl) (fun K hK => ?_)
      rw [if_pos (by first | rfl | kernel_rfl | simp [Region.wanted, yielded])]
      have O := Lib.hid (oneJ LR.at)
      have JS := Lib.hid (sizeJ LR.at).2
      have ht := turns_setRow w3 V C
      have Ma := VarOf.put (keepsJ rr) ZB LR.at hF
      replace K0 := K0.turn ht (fun b hb => by omega)
      clear hH
      refine wp_store_row 29 _ _ rfl V _ rfl rfl 29 #[.slice none 0 0, .slice none 0 0] ZB JS.out O.out.1.symm O.out.2 ?_
      refine hK.out _ _ ⟨K0.v0.box, K0.v1.box, K0.st⟩ (fun hH => ?_)
      clear hK K
      try simp only [Act.put]
      have hEs : E ≤ (w3.setRow V C).heap.size := by rw [size_setRow]; exact hEl
      clear ZB LR ht O JS
      generalize (w3.setRow _ _ : World) = w4 at K0 Ma hEs hH  ⊢
      refine wpAnyE_end (i := 18) (by kernel_rfl) (by simp only [List.getElem?_toArray, List.getElem?_cons_succ, List.getElem?_cons_zero]; rfl) (by kernel_rfl) (fun K hK => ?_)
      go_simp
      refine hK.out _ _ ⟨K0.v0.box, K0.v1.box, K0.st⟩ ?_
      clear hK K hH
      try simp only [Act.put, List.setIfInBounds_toArray, List.set_cons_zero, List.set_cons_succ]
      go_wp2_with fail
      go_meet
      exact ⟨V, C, _, rfl, rfl, Ma, fun b hb => Nat.lt_of_lt_of_le hb.2 hEs, hV, K0⟩
  case rest =>
  clear K0
  obtain ⟨VM, CM, FM, rfl, rfl, M, hFM, hV, K0⟩ := hcut
  obtain ⟨w1, rfl⟩ : ∃ x, x = wc := ⟨_, rfl⟩
  have JM := Lib.hid (sizeJ M.dat).2
  -- a copy that is handed in
  go_wp2_with (refine wpList_load_box 47 _ rfl (w.heap.size) rfl 47 C0 K0.v0.box _ Tryz.underlying47 rfl I0.out (by first | rfl | simp [Region.wanted, yielded] | (simp [Region.wanted, yielded, Act.put] <;> omega)) ?_)
  refine (to_G K0.v0.dat hz0).mono ?_
  rintro e w2 ⟨D0, rfl, hL, hb⟩
  have s0 := hb.size
  have q0 := M.box.lt
  have O := Lib.hid (oneG hL.at)
  have JS := Lib.hid (sizeG hL.at).2
  have J0 := JS
  have hn := bel_new_row w2 #[.int .i64 0, .int .i64 0, .int .i64 0, .int .i64 0, .slice none 0 0] 26 D0
  have X0 := var_new_row (keepsLG d0) (Z := #[.int .i64 0, .int .i64 0, .int .i64 0, .int .i64 0, .slice none 0 0]) 26 hL (fun b hb => hb.2)
  replace M := (M.later (keepsJ rr) hb).later (keepsJ rr) hn
  replace K0 := (K0.later hb).later hn
  have ZB := Box.new w2 26 #[.int .i64 0, .int .i64 0, .int .i64 0, .int .i64 0, .slice none 0 0]
  generalize w1.heap.size = S0 at s0 q0 X0 hFM
  clear hb hL hn
  go_upto_region 13 with (refine wpList_store_row rfl 26 _ _ rfl w2.heap.size _ rfl rfl 26 #[.int .i64 0, .int .i64 0, .int .i64 0, .int .i64 0, .slice none 0 0] ZB JS.out O.out.1.symm O.out.2 ?_)
  clear ZB O JS
  generalize ((w2.alloc _).setRow _ _ : World) = w3 at K0 X0 M ⊢
  generalize w2.heap.size = V0 at s0 X0 ⊢
  obtain ⟨w1, rfl⟩ : ∃ x, x = w3 := ⟨_, rfl⟩
  -- a copy that is handed in
  go_wp2_with (refine wpList_load_box 50 _ rfl (w.heap.size + 1) rfl 50 C1 K0.v1.box _ Tryz.underlying50 rfl I1.out (by first | rfl | simp [Region.wanted, yielded] | (simp [Region.wanted, yielded, Act.put] <;> omega)) ?_)
  refine (to_J K0.v1.dat hz1).mono ?_
  rintro e w2 ⟨D1, rfl, hL, hb⟩
  have s1 := hb.size
  have q1 := X0.box.lt
  have O := Lib.hid (oneJ hL.at)
  have JS := Lib.hid (sizeJ hL.at).2
  have J1 := JS
  have hn := bel_new_row w2 #[.slice none 0 0, .slice none 0 0] 29 D1
  have X1 := var_new_row (keepsLJ d1) (Z := #[.slice none 0 0, .slice none 0 0]) 29 hL (fun b hb => hb.2)
  replace X0 := (X0.later (keepsLG d0) hb).later (keepsLG d0) hn
  replace M := (M.later (keepsJ rr) hb).later (keepsJ rr) hn
  replace K0 := (K0.later hb).later hn
  have ZB := Box.new w2 29 #[.slice none 0 0, .slice none 0 0]
  generalize w1.heap.size = S1 at s1 q1 X1 
  clear hb hL hn
  go_upto_region 14 with (refine wpList_store_row rfl 29 _ _ rfl w2.heap.size _ rfl rfl 29 #[.slice none 0 0, .slice none 0 0] ZB JS.out O.out.1.symm O.out.2 ?_)
  clear ZB O JS
  generalize ((w2.alloc _).setRow _ _ : World) = w3 at K0 X0 X1 M ⊢
  generalize w2.heap.size = V1 at s1 X1 ⊢
  obtain ⟨w1, rfl⟩ : ∃ x, x = w3 := ⟨_, rfl⟩
  -- the list of seals
  go_wp2_with fail
  refine (toSeals_any A7 n7 c7 ps w1 hz7 K0.l2.1).mono ?_
  rintro e w2 ⟨GB, sB, rfl, -, hB9, hb⟩
  have qB := X1.box.lt
  have XB : SealOf ps w2 GB := ⟨hB9⟩
  replace K0 := K0.later hb
  replace X0 := X0.later (keepsLG d0) hb
  replace X1 := X1.later (keepsLJ d1) hb
  replace M := M.later (keepsJ rr) hb
  generalize w1.heap.size = SB at sB qB
  clear hb hB9
  obtain ⟨w1, rfl⟩ : ∃ x, x = w2 := ⟨_, rfl⟩
  -- the program
  go_upto_region 15 with fail
  go_cut [23, 24] (fun pv sv wr => ∃ (V : Nat) (C : Array Value) (S E : Nat), pv = .pointer (some ⟨V, 0, none⟩) ∧ sv = .bool z ∧ VarOf (LieJ rr) 29 wr (Iv S E) V C ∧ GB < S ∧ GB < V ∧ PreNo w wr C0 C1 t1 t2 A7 n7 ps d0 d1 ∧ VarOf (AtJ rr) 29 wr FM VM CM ∧ VarOf (LieG d0) 26 wr (Iv S0 V0) V0 D0 ∧ VarOf (LieJ d1) 29 wr (Iv S1 V1) V1 D1 ∧ SealOf ps wr GB)
  case first =>
    refine wp_region_sink 16 (fun w' => Box w' V0 26 D0 ∧ Box w' V1 29 D1 ∧ Box w' (w.heap.size + 1 + 1) 57 #[.int .i64 t1, .int .i64 t2]) (by kernel_rfl) ⟨X0.box, X1.box, K0.st⟩ (fun hH => ?_)
    have hb := (Below.refl w1.heap.size w1).drew
    replace K0 := K0.later hb
    replace M := M.later (keepsJ rr) hb
    replace X0 := X0.later (keepsLG d0) hb
    replace X1 := X1.later (keepsLJ d1) hb
    replace XB := XB.later () hb
    clear hb
    generalize w1.drew = w3 at K0 M X0 X1 XB hH ⊢
    refine wpAnyE_takeS (i := 0) (v := .agg D0) (by simp only [List.getElem?_toArray, List.getElem?_cons_zero]; rfl) (by kernel_rfl) (by kernel_rfl) (by kernel_rfl) (by exact fun _ _ _ h => h) (by kernel_rfl) ?ypt0 hH ?_
    case ypt0 => exact yields_box 26 _ rfl (V0) rfl 26 D0 (fun _ h => h.1) _ Tryz.underlying26 rfl J0.out (by first | rfl | simp [Region.wanted, yielded] | (simp [Region.wanted, yielded, Act.put] <;> omega))
    try simp only [Act.put, List.setIfInBounds_toArray, List.set_cons_zero, List.set_cons_succ]
    refine wpAnyE_takeS (i := 1) (v := .agg D1) (by simp only [List.getElem?_toArray, List.getElem?_cons_succ, List.getElem?_cons_zero]; rfl) (by kernel_rfl) (by kernel_rfl) (by kernel_rfl) (by exact fun _ _ _ h => h) (by kernel_rfl) ?ypt1 hH ?_
    case ypt1 => exact yields_box 29 _ rfl (V1) rfl 29 D1 (fun _ h => h.2.1) _ Tryz.underlying29 rfl J1.out (by first | rfl | simp [Region.wanted, yielded] | (simp [Region.wanted, yielded, Act.put] <;> omega))
    try simp only [Act.put, List.setIfInBounds_toArray, List.set_cons_zero, List.set_cons_succ]
    refine wpAnyE_takeS (i := 5) (v := .agg #[.int .i64 t1, .int .i64 t2]) (by simp only [List.getElem?_toArray, List.getElem?_cons_succ, List.getElem?_cons_zero]; rfl) (by kernel_rfl) (by kernel_rfl) (by kernel_rfl) (by exact fun _ _ _ h => h) (by kernel_rfl) ?ypt2 hH ?_
    case ypt2 => exact yields_box 57 _ rfl (w.heap.size + 1 + 1) rfl 57 #[.int .i64 t1, .int .i64 t2] (fun _ h => h.2.2) _ Tryz.underlying57 rfl (by kernel_rfl) (by first | rfl | simp [Region.wanted, yielded] | (simp [Region.wanted, yielded, Act.put] <;> omega))
    try simp only [Act.put, List.setIfInBounds_toArray, List.set_cons_zero, List.set_cons_succ]
    refine wpAnyE_pure (i := 2) (v := ?vpm2) (by simp only [List.getElem?_toArray, List.getElem?_cons_succ, List.getElem?_cons_zero]; rfl) (by kernel_rfl) (by kernel_rfl) (by kernel_rfl) (by exact fun _ _ _ h => h) (by kernel_rfl) (Or.inl ⟨by rfl, ?ypm2⟩) hH ?rpm2
    case ypm2 => (intro w' hSw; (try dsimp only at hSw); go_simp; try with_reducible rfl)
    try simp only [Act.put, List.setIfInBounds_toArray, List.set_cons_zero, List.set_cons_succ]
    refine wpAnyE_pure (i := 3) (v := ?vpm3) (by simp only [List.getElem?_toArray, List.getElem?_cons_succ, List.getElem?_cons_zero]; rfl) (by kernel_rfl) (by kernel_rfl) (by kernel_rfl) (by exact fun _ _ _ h => h) (by kernel_rfl) (Or.inl ⟨by rfl, ?ypm3⟩) hH ?rpm3
    case ypm3 => (intro w' hSw; (try dsimp only at hSw); go_simp; try with_reducible rfl)
    try simp only [Act.put, List.setIfInBounds_toArray, List.set_cons_zero, List.set_cons_succ]
    refine wpAnyE_pure (i := 4) (v := ?vpm4) (by simp only [List.getElem?_toArray, List.getElem?_cons_succ, List.getElem?_cons_zero]; rfl) (by kernel_rfl) (by kernel_rfl) (by kernel_rfl) (by exact fun _ _ _ h => h) (by kernel_rfl) (Or.inl ⟨by rfl, ?ypm4⟩) hH ?rpm4
    case ypm4 => (intro w' hSw; (try dsimp only at hSw); go_simp; try with_reducible rfl)
    try simp only [Act.put, List.setIfInBounds_toArray, List.set_cons_zero, List.set_cons_succ]
    refine wpAnyE_pure (i := 7) (v := ?vpm7) (by simp only [List.getElem?_toArray, List.getElem?_cons_succ, List.getElem?_cons_zero]; rfl) (by kernel_rfl) (by kernel_rfl) (by kernel_rfl) (by exact fun _ _ _ h => h) (by kernel_rfl) (Or.inl ⟨by rfl, ?ypm7⟩) hH ?rpm7
    case ypm7 => (intro w' hSw; (try dsimp only at hSw); go_simp; try with_reducible rfl)
    try simp only [Act.put, List.setIfInBounds_toArray, List.set_cons_zero, List.set_cons_succ]
    refine wpAnyE_pure (i := 8) (v := ?vpm8) (by simp only [List.getElem?_toArray, List.getElem?_cons_succ, List.getElem?_cons_zero]; rfl) (by kernel_rfl) (by kernel_rfl) (by kernel_rfl) (by exact fun _ _ _ h => h) (by kernel_rfl) (Or.inl ⟨by rfl, ?ypm8⟩) hH ?rpm8
    case ypm8 => (intro w' hSw; (try dsimp only at hSw); go_simp; try with_reducible rfl)
    try simp only [Act.put, List.setIfInBounds_toArray, List.set_cons_zero, List.set_cons_succ]
    refine wpAnyE_two (i := 6) (j := 13) (by kernel_rfl) (by simp only [List.getElem?_toArray, List.getElem?_cons_succ, List.getElem?_cons_zero]; rfl) (by simp only [List.getElem?_toArray, List.getElem?_cons_succ, List.getElem?_cons_zero]; rfl) (fun K hK => ?_) (fun K hK => ?_)
    · skip
      go_simp
      refine (toStamp_any t1 t2 w3).mono ?_
      rintro e w4 ⟨rfl, hb⟩
      replace K0 := K0.later hb
      replace M := M.later (keepsJ rr) hb
      replace X0 := X0.later (keepsLG d0) hb
      replace X1 := X1.later (keepsLJ d1) hb
      replace XB := XB.later () hb
      clear hb
      obtain ⟨w3, rfl⟩ : ∃ x, x = w4 := ⟨_, rfl⟩
      clear hH
      refine hK.out _ _ ⟨X0.box, X1.box, K0.st⟩ (fun hH => ?_)
      clear hK K
      try simp only [Act.put, List.setIfInBounds_toArray, List.set_cons_zero, List.set_cons_succ]
      refine wpAnyE_two (i := 9) (j := 13) (by kernel_rfl) (by simp only [List.getElem?_toArray, List.getElem?_cons_succ, List.getElem?_cons_zero]; rfl) (by simp only [List.getElem?_toArray, List.getElem?_cons_succ, List.getElem?_cons_zero]; rfl) (fun K hK => ?_) (fun K hK => ?_)
      · skip
        go_simp
        have hSl := XB.dat.lt
        refine (noted8_is kd sh cl t1 t2 v X0.dat X1.dat XB HPL.out hsum HZ.out).mono ?_
        rintro e w4 ⟨C, rfl, LR, hb⟩
        replace K0 := K0.later hb
        replace M := M.later (keepsJ rr) hb
        replace X0 := X0.later (keepsLG d0) hb
        replace X1 := X1.later (keepsLJ d1) hb
        replace XB := XB.later () hb
        generalize w3.heap.size = S at LR hSl
        obtain ⟨E, hE⟩ : ∃ E, w4.heap.size = E := ⟨_, rfl⟩
        rw [hE] at LR
        have hEl : E ≤ w4.heap.size := Nat.le_of_eq hE.symm
        clear hE
        clear hb 
        obtain ⟨w3, rfl⟩ : ∃ x, x = w4 := ⟨_, rfl⟩
        clear hH
        refine hK.out _ _ ⟨X0.box, X1.box, K0.st⟩ (fun hH => ?_)
        clear hK K
        try simp only [Act.put, List.setIfInBounds_toArray, List.set_cons_zero, List.set_cons_succ]
        refine wpAnyE_pure (i := 10) (v := ?vpl0p10) (by simp only [List.getElem?_toArray, List.getElem?_cons_succ, List.getElem?_cons_zero]; rfl) (by kernel_rfl) (by kernel_rfl) (by kernel_rfl) (by exact fun _ _ _ h => h) (by kernel_rfl) (Or.inl ⟨by rfl, ?ypl0p10⟩) hH ?rpl0p10
        case ypl0p10 => (intro w' hSw; (try dsimp only at hSw); go_simp; try with_reducible rfl)
        try simp only [Act.put, List.setIfInBounds_toArray, List.set_cons_zero, List.set_cons_succ]
        refine wpAnyE_pure (i := 11) (v := ?vpl0p11) (by simp only [List.getElem?_toArray, List.getElem?_cons_succ, List.getElem?_cons_zero]; rfl) (by kernel_rfl) (by kernel_rfl) (by kernel_rfl) (by exact fun _ _ _ h => h) (by kernel_rfl) (Or.inl ⟨by rfl, ?ypl0p11⟩) hH ?rpl0p11
        case ypl0p11 => (intro w' hSw; (try dsimp only at hSw); go_simp; try with_reducible rfl)
        try simp only [Act.put, List.setIfInBounds_toArray, List.set_cons_zero, List.set_cons_succ]
        refine wpAnyE_pure (i := 12) (v := ?vpl0p12) (by simp only [List.getElem?_toArray, List.getElem?_cons_succ, List.getElem?_cons_zero]; rfl) (by kernel_rfl) (by kernel_rfl) (by kernel_rfl) (by exact fun _ _ _ h => h) (by kernel_rfl) (Or.inl ⟨by rfl, ?ypl0p12⟩) hH ?rpl0p12
        case ypl0p12 => (intro w' hSw; (try dsimp only at hSw); go_simp; try with_reducible rfl)
        try simp only [Act.put, List.setIfInBounds_toArray, List.set_cons_zero, List.set_cons_succ]
        refine wpAnyE_one (i := 13) (by kernel_rfl) (by simp only [List.getElem?_toArray, List.getElem?_cons_succ, List.getElem?_cons_zero]; rfl) (fun K hK => ?_)
        go_simp
        have hV := XB.dat.lt
        have hn := bel_alloc w3 (.cells #[.slice none 0 0, .slice none 0 0] 29)
        replace K0 := K0.later hn
        replace M := M.later (keepsJ rr) hn
        replace X0 := X0.later (keepsLG d0) hn
        replace X1 := X1.later (keepsLJ d1) hn
        replace XB := XB.later () hn
        have ZB := Box.new w3 29 #[.slice none 0 0, .slice none 0 0]
        have hF : ¬ Iv S E w3.heap.size := iv_not (.inr hEl)
        replace LR := (keepsLJ rr).later LR hn
        replace hEl := Nat.le_trans hEl hn.size
        clear hn
        generalize (w3.alloc _ : World) = w4 at K0 M X0 X1 XB ZB LR hEl ⊢
        generalize w3.heap.size = V at hV ZB hF ⊢
        obtain ⟨w3, rfl⟩ : ∃ x, x = w4 := ⟨_, rfl⟩
        clear hH
        refine hK.out _ _ ⟨X0.box, X1.box, K0.st⟩ (fun hH => ?_)
        clear hK K
        try simp only [Act.put, List.setIfInBounds_toArray, List.set_cons_zero, List.set_cons_succ]
        refine wpAnyE_one (i := 14) (by kernel_rfl) (by simp only [List.getElem?_toArray, List.getElem?_cons_succ, List.getElem?_cons_zero]; rfl) (fun K hK => ?_)
        rw [if_pos (by first | rfl | kernel_rfl | simp [Region.wanted, yielded])]
        have O := Lib.hid (oneJ LR.at)
        have JS := Lib.hid (sizeJ LR.at).2
        have ht := turns_setRow w3 V C
        have Mp := VarOf.put (keepsLJ rr) ZB LR hF
        replace K0 := K0.turn ht (fun b hb => by omega)
        replace M := M.turn (keepsJ rr) ht (by omega) (fun b hb e => by have h1 := hFM b hb; have e : b = V := e; omega)
        replace X0 := X0.turn (keepsLG d0) ht (by omega) (fun b hb e => by have h1 := hb.2; have e : b = V := e; omega)
        replace X1 := X1.turn (keepsLJ d1) ht (by omega) (fun b hb e => by have h1 := hb.2; have e : b = V := e; omega)
        replace XB := XB.turn () ht (by omega)
        clear hH
        refine wp_store_row 29 _ _ rfl V _ rfl rfl 29 #[.slice none 0 0, .slice none 0 0] ZB JS.out O.out.1.symm O.out.2 ?_
        refine hK.out _ _ ⟨X0.box, X1.box, K0.st⟩ (fun hH => ?_)
        clear hK K
        try simp only [Act.put]
        have hEs : E ≤ (w3.setRow V C).heap.size := by rw [size_setRow]; exact hEl
        clear ZB LR ht O JS
        generalize (w3.setRow _ _ : World) = w4 at K0 Mp hEs hH M X0 X1 XB ⊢
        refine wpAnyE_end (i := 15) (by kernel_rfl) (by simp only [List.getElem?_toArray, List.getElem?_cons_succ, List.getElem?_cons_zero]; rfl) (by kernel_rfl) (fun K hK => ?_)
        go_simp
        refine hK.out _ _ ⟨X0.box, X1.box, K0.st⟩ ?_
        clear hK K hH
        try simp only [Act.put, List.setIfInBounds_toArray, List.set_cons_zero, List.set_cons_succ]
        go_wp2_with fail
        go_meet
        exact ⟨V, C, S, E, rfl, rfl, Mp, hSl, hV, K0, M, X0, X1, XB⟩
      · skip
        go_simp
        have hV := XB.dat.lt
        have hn := bel_alloc w3 (.cells #[.slice none 0 0, .slice none 0 0] 29)
        replace K0 := K0.later hn
        replace M := M.later (keepsJ rr) hn
        replace X0 := X0.later (keepsLG d0) hn
        replace X1 := X1.later (keepsLJ d1) hn
        replace XB := XB.later () hn
        have ZB := Box.new w3 29 #[.slice none 0 0, .slice none 0 0]
        clear hn
        generalize (w3.alloc _ : World) = w4 at K0 M X0 X1 XB ZB ⊢
        generalize w3.heap.size = V at hV ZB ⊢
        obtain ⟨w3, rfl⟩ : ∃ x, x = w4 := ⟨_, rfl⟩
        clear hH
        refine hK.out _ _ ⟨X0.box, X1.box, K0.st⟩ (fun hH => ?_)
        clear hK K
        try simp only [Act.put, List.setIfInBounds_toArray, List.set_cons_zero, List.set_cons_succ]
        refine wpAnyE_one (i := 9) (by kernel_rfl) (by simp only [List.getElem?_toArray, List.getElem?_cons_succ, List.getElem?_cons_zero]; rfl) (fun K hK => ?_)
        go_simp
        have hVS := ZB.lt
        have hSl := XB.dat.lt
        refine (noted8_is kd sh cl t1 t2 v X0.dat X1.dat XB HPL.out hsum HZ.out).mono ?_
        rintro e w4 ⟨C, rfl, LR, hb⟩
        replace K0 := K0.later hb
        replace M := M.later (keepsJ rr) hb
        replace X0 := X0.later (keepsLG d0) hb
        replace X1 := X1.later (keepsLJ d1) hb
        replace XB := XB.later () hb
        replace ZB := ZB.later hb ZB.lt
        generalize w3.heap.size = S at LR hSl hVS
        obtain ⟨E, hE⟩ : ∃ E, w4.heap.size = E := ⟨_, rfl⟩
        rw [hE] at LR
        have hEl : E ≤ w4.heap.size := Nat.le_of_eq hE.symm
        clear hE
        have hF : ¬ Iv S E V := iv_not (.inl hVS)
        clear hVS
        clear hb 
        obtain ⟨w3, rfl⟩ : ∃ x, x = w4 := ⟨_, rfl⟩
        clear hH
        refine hK.out _ _ ⟨X0.box, X1.box, K0.st⟩ (fun hH => ?_)
        clear hK K
        try simp only [Act.put, List.setIfInBounds_toArray, List.set_cons_zero, List.set_cons_succ]
        refine wpAnyE_pure (i := 10) (v := ?vpl1p10) (by simp only [List.getElem?_toArray, List.getElem?_cons_succ, List.getElem?_cons_zero]; rfl) (by kernel_rfl) (by kernel_rfl) (by kernel_rfl) (by exact fun _ _ _ h => h) (by kernel_rfl) (Or.inl ⟨by rfl, ?ypl1p10⟩) hH ?rpl1p10
        case ypl1p10 => (intro w' hSw; (try dsimp only at hSw); go_simp; try with_reducible rfl)
        try simp only [Act.put, List.setIfInBounds_toArray, List.set_cons_zero, List.set_cons_succ]
        refine wpAnyE_pure (i := 11) (v := ?vpl1p11) (by simp only [List.getElem?_toArray, List.getElem?_cons_succ, List.getElem?_cons_zero]; rfl) (by kernel_rfl) (by kernel_rfl) (by kernel_rfl) (by exact fun _ _ _ h => h) (by kernel_rfl) (Or.inl ⟨by rfl, ?ypl1p11⟩) hH ?rpl1p11
        case ypl1p11 => (intro w' hSw; (try dsimp only at hSw); go_simp; try with_reducible rfl)
        try simp only [Act.put, List.setIfInBounds_toArray, List.set_cons_zero, List.set_cons_succ]
        refine wpAnyE_pure (i := 12) (v := ?vpl1p12) (by simp only [List.getElem?_toArray, List.getElem?_cons_succ, List.getElem?_cons_zero]; rfl) (by kernel_rfl) (by kernel_rfl) (by kernel_rfl) (by exact fun _ _ _ h => h) (by kernel_rfl) (Or.inl ⟨by rfl, ?ypl1p12⟩) hH ?rpl1p12
        case ypl1p12 => (intro w' hSw; (try dsimp only at hSw); go_simp; try with_reducible rfl)
        try simp only [Act.put, List.setIfInBounds_toArray, List.set_cons_zero, List.set_cons_succ]
        refine wpAnyE_one (i := 14) (by kernel_rfl) (by simp only [List.getElem?_toArray, List.getElem?_cons_succ, List.getElem?_cons_zero]; rfl) (fun K hK => ?_)
        rw [if_pos (by first | rfl | kernel_rfl | simp [Region.wanted, yielded])]
        have O := Lib.hid (oneJ LR.at)
        have JS := Lib.hid (sizeJ LR.at).2
        have ht := turns_setRow w3 V C
        have Mp := VarOf.put (keepsLJ rr) ZB LR hF
        replace K0 := K0.turn ht (fun b hb => by omega)
        replace M := M.turn (keepsJ rr) ht (by omega) (fun b hb e => by have h1 := hFM b hb; have e : b = V := e; omega)
        replace X0 := X0.turn (keepsLG d0) ht (by omega) (fun b hb e => by have h1 := hb.2; have e : b = V := e; omega)
        replace X1 := X1.turn (keepsLJ d1) ht (by omega) (fun b hb e => by have h1 := hb.2; have e : b = V := e; omega)
        replace XB := XB.turn () ht (by omega)
        clear hH
        refine wp_store_row 29 _ _ rfl V _ rfl rfl 29 #[.slice none 0 0, .slice none 0 0] ZB JS.out O.out.1.symm O.out.2 ?_
        refine hK.out _ _ ⟨X0.box, X1.box, K0.st⟩ (fun hH => ?_)
        clear hK K
        try simp only [Act.put]
        have hEs : E ≤ (w3.setRow V C).heap.size := by rw [size_setRow]; exact hEl
        clear ZB LR ht O JS
        generalize (w3.setRow _ _ : World) = w4 at K0 Mp hEs hH M X0 X1 XB ⊢
        refine wpAnyE_end (i := 15) (by kernel_rfl) (by simp only [List.getElem?_toArray, List.getElem?_cons_succ, List.getElem?_cons_zero]; rfl) (by kernel_rfl) (fun K hK => ?_)
        go_simp
        refine hK.out _ _ ⟨X0.box, X1.box, K0.st⟩ ?_
        clear hK K hH
        try simp only [Act.put, List.setIfInBounds_toArray, List.set_cons_zero, List.set_cons_succ]
        go_wp2_with fail
        go_meet
        exact ⟨V, C, S, E, rfl, rfl, Mp, hSl, hV, K0, M, X0, X1, XB⟩
    · skip
      go_simp
      have hV := XB.dat.lt
      have hn := bel_alloc w3 (.cells #[.slice none 0 0, .slice none 0 0] 29)
      replace K0 := K0.later hn
      replace M := M.later (keepsJ rr) hn
      replace X0 := X0.later (keepsLG d0) hn
      replace X1 := X1.later (keepsLJ d1) hn
      replace XB := XB.later () hn
      have ZB := Box.new w3 29 #[.slice none 0 0, .slice none 0 0]
      clear hn
      generalize (w3.alloc _ : World) = w4 at K0 M X0 X1 XB ZB ⊢
      generalize w3.heap.size = V at hV ZB ⊢
      obtain ⟨w3, rfl⟩ : ∃ x, x = w4 := ⟨_, rfl⟩
      clear hH
      refine hK.out _ _ ⟨X0.box, X1.box, K0.st⟩ (fun hH => ?_)
      clear hK K
      try simp only [Act.put, List.setIfInBounds_toArray, List.set_cons_zero, List.set_cons_succ]
      refine wpAnyE_one (i := 6) (by kernel_rfl) (by simp only [List.getElem?_toArray, List.getElem?_cons_succ, List.getElem?_cons_zero]; rfl) (fun K hK => ?_)
      go_simp
      refine (toStamp_any t1 t2 w3).mono ?_
      rintro e w4 ⟨rfl, hb⟩
      replace K0 := K0.later hb
      replace M := M.later (keepsJ rr) hb
      replace X0 := X0.later (keepsLG d0) hb
      replace X1 := X1.later (keepsLJ d1) hb
      replace XB := XB.later () hb
      replace ZB := ZB.later hb ZB.lt
      clear hb
      obtain ⟨w3, rfl⟩ : ∃ x, x = w4 := ⟨_, rfl⟩
      clear hH
      refine hK.out _ _ ⟨X0.box, X1.box, K0.st⟩ (fun hH => ?_)
      clear hK K
      try simp only [Act.put, List.setIfInBounds_toArray, List.set_cons_zero, List.set_cons_succ]
      refine wpAnyE_one (i := 9) (by kernel_rfl) (by simp only [List.getElem?_toArray, List.getElem?_cons_succ, List.getElem?_cons_zero]; rfl) (fun K hK => ?_)
      go_simp
      have hVS := ZB.lt
      have hSl := XB.dat.lt
      refine (noted8_is kd sh cl t1 t2 v X0.dat X1.dat XB HPL.out hsum HZ.out).mono ?_
      rintro e w4 ⟨C, rfl, LR, hb⟩
      replace K0 := K0.later hb
      replace M := M.later (keepsJ rr) hb
      replace X0 := X0.later (keepsLG d0) hb
      replace X1 := X1.later (keepsLJ d1) hb
      replace XB := XB.later () hb
      replace ZB := ZB.later hb ZB.lt
      generalize w3.heap.size = S at LR hSl hVS
      obtain ⟨E, hE⟩ : ∃ E, w4.heap.size = E := ⟨_, rfl⟩
      rw [hE] at LR
      have hEl : E ≤ w4.heap.size := Nat.le_of_eq hE.symm
      clear hE
      have hF : ¬ Iv S E V := iv_not (.inl hVS)
      clear hVS
      clear hb 
      obtain ⟨w3, rfl⟩ : ∃ x, x = w4 := ⟨_, rfl⟩
      clear hH
      refine hK.out _ _ ⟨X0.box, X1.box, K0.st⟩ (fun hH => ?_)
      clear hK K
      try simp only [Act.put, List.setIfInBounds_toArray, List.set_cons_zero, List.set_cons_succ]
      refine wpAnyE_pure (i := 10) (v := ?vpl2p10) (by simp only [List.getElem?_toArray, List.getElem?_cons_succ, List.getElem?_cons_zero]; rfl) (by kernel_rfl) (by kernel_rfl) (by kernel_rfl) (by exact fun _ _ _ h => h) (by kernel_rfl) (Or.inl ⟨by rfl, ?ypl2p10⟩) hH ?rpl2p10
      case ypl2p10 => (intro w' hSw; (try dsimp only at hSw); go_simp; try with_reducible rfl)
      try simp only [Act.put, List.setIfInBounds_toArray, List.set_cons_zero, List.set_cons_succ]
      refine wpAnyE_pure (i := 11) (v := ?vpl2p11) (by simp only [List.getElem?_toArray, List.getElem?_cons_succ, List.getElem?_cons_zero]; rfl) (by kernel_rfl) (by kernel_rfl) (by kernel_rfl) (by exact fun _ _ _ h => h) (by kernel_rfl) (Or.inl ⟨by rfl, ?ypl2p11⟩) hH ?rpl2p11
      case ypl2p11 => (intro w' hSw; (try dsimp only at hSw); go_simp; try with_reducible rfl)
      try simp only [Act.put, List.setIfInBounds_toArray, List.set_cons_zero, List.set_cons_succ]
      refine wpAnyE_pure (i := 12) (v := ?vpl2p12) (by simp only [List.getElem?_toArray, List.getElem?_cons_succ, List.getElem?_cons_zero]; rfl) (by kernel_rfl) (by kernel_rfl) (by kernel_rfl) (by exact fun _ _ _ h => h) (by kernel_rfl) (Or.inl ⟨by rfl, ?ypl2p12⟩) hH ?rpl2p12
      case ypl2p12 => (intro w' hSw; (try dsimp only at hSw); go_simp; try with_reducible rfl)
      try simp only [Act.put, List.setIfInBounds_toArray, List.set_cons_zero, List.set_cons_succ]
      refine wpAnyE_one (i := 14) (by kernel_rfl) (by simp only [List.getElem?_toArray, List.getElem?_cons_succ, List.getElem?_cons_zero]; rfl) (fun K hK => ?_)
      rw [if_pos (by first | rfl | kernel_rfl | simp [Region.wanted, yielded])]
      have O := Lib.hid (oneJ LR.at)
      have JS := Lib.hid (sizeJ LR.at).2
      have ht := turns_setRow w3 V C
      have Mp := VarOf.put (keepsLJ rr) ZB LR hF
      replace K0 := K0.turn ht (fun b hb => by omega)
      replace M := M.turn (keepsJ rr) ht (by omega) (fun b hb e => by have h1 := hFM b hb; have e : b = V := e; omega)
      replace X0 := X0.turn (keepsLG d0) ht (by omega) (fun b hb e => by have h1 := hb.2; have e : b = V := e; omega)
      replace X1 := X1.turn (keepsLJ d1) ht (by omega) (fun b hb e => by have h1 := hb.2; have e : b = V := e; omega)
      replace XB := XB.turn () ht (by omega)
      clear hH
      refine wp_store_row 29 _ _ rfl V _ rfl rfl 29 #[.slice none 0 0, .slice none 0 0] ZB JS.out O.out.1.symm O.out.2 ?_
      refine hK.out _ _ ⟨X0.box, X1.box, K0.st⟩ (fun hH => ?_)
      clear hK K
      try simp only [Act.put]
      have hEs : E ≤ (w3.setRow V C).heap.size := by rw [size_setRow]; exact hEl
      clear ZB LR ht O JS
      generalize (w3.setRow _ _ : World) = w4 at K0 Mp hEs hH M X0 X1 XB ⊢
      refine wpAnyE_end (i := 15) (by kernel_rfl) (by simp only [List.getElem?_toArray, List.getElem?_cons_succ, List.getElem?_cons_zero]; rfl) (by kernel_rfl) (fun K hK => ?_)
      go_simp
      refine hK.out _ _ ⟨X0.box, X1.box, K0.st⟩ ?_
      clear hK K hH
      try simp only [Act.put, List.setIfInBounds_toArray, List.set_cons_zero, List.set_cons_succ]
      go_wp2_with fail
      go_meet
      exact ⟨V, C, S, E, rfl, rfl, Mp, hSl, hV, K0, M, X0, X1, XB⟩
  case rest =>
  clear K0 M X0 X1 XB
  obtain ⟨VG, CG, SG, EG, rfl, rfl, G, hSG, hVG, K0, M, X0, X1, XB⟩ := hcut
  obtain ⟨w1, rfl⟩ : ∃ x, x = wc := ⟨_, rfl⟩
  have JG := Lib.hid (sizeJ G.dat.at).2
  -- both answers are alike
  go_wp2_with (first | (refine wpList_load_box 29 _ rfl (VG) rfl 29 CG G.box _ Tryz.underlying29 rfl JG.out (by first | rfl | simp [Region.wanted, yielded] | (simp [Region.wanted, yielded, Act.put] <;> omega)) ?_) | (refine wpList_load_box 29 _ rfl (VM) rfl 29 CM M.box _ Tryz.underlying29 rfl JM.out (by first | rfl | simp [Region.wanted, yielded] | (simp [Region.wanted, yielded, Act.put] <;> omega)) ?_))
  refine (eq_J G.dat.at M.dat hq).mono ?_
  rintro e w2 ⟨rfl, hb⟩
  replace K0 := K0.later hb
  replace X0 := X0.later (keepsLG d0) hb
  replace X1 := X1.later (keepsLJ d1) hb
  replace XB := XB.later () hb
  replace M := M.later (keepsJ rr) hb
  replace G := G.later (keepsLJ rr) hb
  clear hb
  obtain ⟨w1, rfl⟩ : ∃ x, x = w2 := ⟨_, rfl⟩
  -- an argument is as it was
  go_upto_region 18 with fail
  refine wp_region_sink 5 (fun w' => Box w' V0 26 D0 ∧ Box w' (w.heap.size) 47 C0) (by kernel_rfl) ⟨X0.box, K0.v0.box⟩ (fun hH => ?_)
  have hb := (Below.refl w1.heap.size w1).drew
  replace K0 := K0.later hb
  replace X0 := X0.later (keepsLG d0) hb
  replace X1 := X1.later (keepsLJ d1) hb
  replace XB := XB.later () hb
  replace M := M.later (keepsJ rr) hb
  replace G := G.later (keepsLJ rr) hb
  clear hb
  generalize w1.drew = w2 at K0 hH X0 X1 XB M G ⊢
  refine wpAnyE_takeS (i := 0) (v := .agg D0) (by simp only [List.getElem?_toArray, List.getElem?_cons_zero]; rfl) (by kernel_rfl) (by kernel_rfl) (by kernel_rfl) (by exact fun _ _ _ h => h) (by kernel_rfl) ?yx0 hH ?_
  case yx0 => exact yields_box 26 _ rfl (V0) rfl 26 D0 (fun _ h => h.1) _ Tryz.underlying26 rfl J0.out (by first | rfl | simp [Region.wanted, yielded] | (simp [Region.wanted, yielded, Act.put] <;> omega))
  try simp only [Act.put, List.setIfInBounds_toArray, List.set_cons_zero, List.set_cons_succ]
  refine wpAnyE_takeS (i := 1) (v := .agg C0) (by simp only [List.getElem?_toArray, List.getElem?_cons_succ, List.getElem?_cons_zero]; rfl) (by kernel_rfl) (by kernel_rfl) (by kernel_rfl) (by exact fun _ _ _ h => h) (by kernel_rfl) ?yo0 hH ?_
  case yo0 => exact yields_box 47 _ rfl (w.heap.size) rfl 47 C0 (fun _ h => h.2) _ Tryz.underlying47 rfl I0.out (by first | rfl | simp [Region.wanted, yielded] | (simp [Region.wanted, yielded, Act.put] <;> omega))
  try simp only [Act.put, List.setIfInBounds_toArray, List.set_cons_zero, List.set_cons_succ]
  refine wpAnyE_one (i := 2) (by kernel_rfl) (by simp only [List.getElem?_toArray, List.getElem?_cons_succ, List.getElem?_cons_zero]; rfl) (fun K hK => ?_)
  go_simp
  refine (to_G K0.v0.dat hz0).mono ?_
  rintro e w3 ⟨D, rfl, L, hb⟩
  replace K0 := K0.later hb
  replace X0 := X0.later (keepsLG d0) hb
  replace X1 := X1.later (keepsLJ d1) hb
  replace XB := XB.later () hb
  replace M := M.later (keepsJ rr) hb
  replace G := G.later (keepsLJ rr) hb
  clear hb
  clear hH
  refine hK.out _ _ ⟨X0.box, K0.v0.box⟩ (fun hH => ?_)
  clear hK K
  try simp only [Act.put, List.setIfInBounds_toArray, List.set_cons_zero, List.set_cons_succ]
  refine wpAnyE_one (i := 3) (by kernel_rfl) (by simp only [List.getElem?_toArray, List.getElem?_cons_succ, List.getElem?_cons_zero]; rfl) (fun K hK => ?_)
  go_simp
  refine (eq_G X0.dat.at L.at hz0).mono ?_
  rintro e w4 ⟨rfl, hb⟩
  replace K0 := K0.later hb
  replace X0 := X0.later (keepsLG d0) hb
  replace X1 := X1.later (keepsLJ d1) hb
  replace XB := XB.later () hb
  replace M := M.later (keepsJ rr) hb
  replace G := G.later (keepsLJ rr) hb
  clear hb L
  clear hH
  refine hK.out _ _ ⟨X0.box, K0.v0.box⟩ (fun hH => ?_)
  clear hK K
  try simp only [Act.put, List.setIfInBounds_toArray, List.set_cons_zero, List.set_cons_succ]
  refine wpAnyE_end (i := 4) (by kernel_rfl) (by simp only [List.getElem?_toArray, List.getElem?_cons_succ, List.getElem?_cons_zero]; rfl) (by kernel_rfl) (fun K hK => ?_)
  go_simp
  refine hK.out _ _ ⟨X0.box, K0.v0.box⟩ ?_
  clear hK K
  try simp only [Act.put, List.setIfInBounds_toArray, List.set_cons_zero, List.set_cons_succ]
  obtain ⟨w1, rfl⟩ : ∃ x, x = w4 := ⟨_, rfl⟩
  clear hH
  -- an argument is as it was
  go_upto_region 20 with fail
  refine wp_region_sink 5 (fun w' => Box w' V1 29 D1 ∧ Box w' (w.heap.size + 1) 50 C1) (by kernel_rfl) ⟨X1.box, K0.v1.box⟩ (fun hH => ?_)
  have hb := (Below.refl w1.heap.size w1).drew
  replace K0 := K0.later hb
  replace X0 := X0.later (keepsLG d0) hb
  replace X1 := X1.later (keepsLJ d1) hb
  replace XB := XB.later () hb
  replace M := M.later (keepsJ rr) hb
  replace G := G.later (keepsLJ rr) hb
  clear hb
  generalize w1.drew = w2 at K0 hH X0 X1 XB M G ⊢
  refine wpAnyE_takeS (i := 0) (v := .agg D1) (by simp only [List.getElem?_toArray, List.getElem?_cons_zero]; rfl) (by kernel_rfl) (by kernel_rfl) (by kernel_rfl) (by exact fun _ _ _ h => h) (by kernel_rfl) ?yx1 hH ?_
  case yx1 => exact yields_box 29 _ rfl (V1) rfl 29 D1 (fun _ h => h.1) _ Tryz.underlying29 rfl J1.out (by first | rfl | simp [Region.wanted, yielded] | (simp [Region.wanted, yielded, Act.put] <;> omega))
  try simp only [Act.put, List.setIfInBounds_toArray, List.set_cons_zero, List.set_cons_succ]
  refine wpAnyE_takeS (i := 1) (v := .agg C1) (by simp only [List.getElem?_toArray, List.getElem?_cons_succ, List.getElem?_cons_zero]; rfl) (by kernel_rfl) (by kernel_rfl) (by kernel_rfl) (by exact fun _ _ _ h => h) (by kernel_rfl) ?yo1 hH ?_
  case yo1 => exact yields_box 50 _ rfl (w.heap.size + 1) rfl 50 C1 (fun _ h => h.2) _ Tryz.underlying50 rfl I1.out (by first | rfl | simp [Region.wanted, yielded] | (simp [Region.wanted, yielded, Act.put] <;> omega))
  try simp only [Act.put, List.setIfInBounds_toArray, List.set_cons_zero, List.set_cons_succ]
  refine wpAnyE_one (i := 2) (by kernel_rfl) (by simp only [List.getElem?_toArray, List.getElem?_cons_succ, List.getElem?_cons_zero]; rfl) (fun K hK => ?_)
  go_simp
  refine (to_J K0.v1.dat hz1).mono ?_
  rintro e w3 ⟨D, rfl, L, hb⟩
  replace K0 := K0.later hb
  replace X0 := X0.later (keepsLG d0) hb
  replace X1 := X1.later (keepsLJ d1) hb
  replace XB := XB.later () hb
  replace M := M.later (keepsJ rr) hb
  replace G := G.later (keepsLJ rr) hb
  clear hb
  clear hH
  refine hK.out _ _ ⟨X1.box, K0.v1.box⟩ (fun hH => ?_)
  clear hK K
  try simp only [Act.put, List.setIfInBounds_toArray, List.set_cons_zero, List.set_cons_succ]
  refine wpAnyE_one (i := 3) (by kernel_rfl) (by simp only [List.getElem?_toArray, List.getElem?_cons_succ, List.getElem?_cons_zero]; rfl) (fun K hK => ?_)
  go_simp
  refine (eq_J X1.dat.at L.at hz1).mono ?_
  rintro e w4 ⟨rfl, hb⟩
  replace K0 := K0.later hb
  replace X0 := X0.later (keepsLG d0) hb
  replace X1 := X1.later (keepsLJ d1) hb
  replace XB := XB.later () hb
  replace M := M.later (keepsJ rr) hb
  replace G := G.later (keepsLJ rr) hb
  clear hb L
  clear hH
  refine hK.out _ _ ⟨X1.box, K0.v1.box⟩ (fun hH => ?_)
  clear hK K
  try simp only [Act.put, List.setIfInBounds_toArray, List.set_cons_zero, List.set_cons_succ]
  refine wpAnyE_end (i := 4) (by kernel_rfl) (by simp only [List.getElem?_toArray, List.getElem?_cons_succ, List.getElem?_cons_zero]; rfl) (by kernel_rfl) (fun K hK => ?_)
  go_simp
  refine hK.out _ _ ⟨X1.box, K0.v1.box⟩ ?_
  clear hK K
  try simp only [Act.put, List.setIfInBounds_toArray, List.set_cons_zero, List.set_cons_succ]
  obtain ⟨w1, rfl⟩ : ∃ x, x = w4 := ⟨_, rfl⟩
  clear hH
  go_wp2_with fail
  refine (toSeals_any A7 n7 c7 ps w1 hz7 K0.l2.1).mono ?_
  rintro e w2 ⟨GE, -, rfl, -, hE9, hb⟩
  replace K0 := K0.later hb
  replace X0 := X0.later (keepsLG d0) hb
  replace X1 := X1.later (keepsLJ d1) hb
  replace XB := XB.later () hb
  replace M := M.later (keepsJ rr) hb
  replace G := G.later (keepsLJ rr) hb
  clear hb
  have XE : SealOf ps w2 GE := ⟨hE9⟩
  clear hE9
  go_wp2_with fail
  refine (eqSeals_same _ _ n7 _ _ ps w2 hz7 (XB.pairs HPL.out) (XE.pairs HPL.out)).mono ?_
  rintro e w3 ⟨rfl, hb⟩
  replace K0 := K0.later hb
  replace X0 := X0.later (keepsLG d0) hb
  replace X1 := X1.later (keepsLJ d1) hb
  replace XB := XB.later () hb
  replace M := M.later (keepsJ rr) hb
  replace G := G.later (keepsLJ rr) hb
  clear hb XE
  obtain ⟨w1, rfl⟩ : ∃ x, x = w3 := ⟨_, rfl⟩
  -- the marks
  go_wp2_with (refine wpList_load_box 26 _ rfl (V0) rfl 26 D0 X0.box _ Tryz.underlying26 rfl J0.out (by first | rfl | simp [Region.wanted, yielded] | (simp [Region.wanted, yielded, Act.put] <;> omega)) ?_)
  refine (mark_G (k := 1) X0.dat hz0 (by omega) (by omega)).mono ?_
  rintro e w2 ⟨rfl, ht⟩
  replace K0 := K0.turn ht (fun b hb => by have := hb.1; omega)
  replace X1 := X1.turn (keepsLJ d1) ht (iv_not (.inr (by omega))) (iv_far (.inr (by omega)))
  replace XB := XB.turn () ht (iv_not (.inr (by omega)))
  replace M := M.turn (keepsJ rr) ht (iv_not (.inl (by omega))) (fun b hb hi => by have := hFM b hb; have := hi.1; omega)
  replace G := G.turn (keepsLJ rr) ht (iv_not (.inr (by omega))) (fun b hb hi => by have := hb.1; have := hi.2; omega)
  clear ht X0
  obtain ⟨w1, rfl⟩ : ∃ x, x = w2 := ⟨_, rfl⟩
  go_wp2_with (refine wpList_load_box 29 _ rfl (V1) rfl 29 D1 X1.box _ Tryz.underlying29 rfl J1.out (by first | rfl | simp [Region.wanted, yielded] | (simp [Region.wanted, yielded, Act.put] <;> omega)) ?_)
  refine (mark_J (k := 1 + d0.mk8) X1.dat hz1 (by omega) (by omega)).mono ?_
  rintro e w2 ⟨rfl, ht⟩
  replace K0 := K0.turn ht (fun b hb => by have := hb.1; omega)
  replace XB := XB.turn () ht (iv_not (.inr (by omega)))
  replace M := M.turn (keepsJ rr) ht (iv_not (.inl (by omega))) (fun b hb hi => by have := hFM b hb; have := hi.1; omega)
  replace G := G.turn (keepsLJ rr) ht (iv_not (.inr (by omega))) (fun b hb hi => by have := hb.1; have := hi.2; omega)
  clear ht X1
  obtain ⟨w1, rfl⟩ : ∃ x, x = w2 := ⟨_, rfl⟩
  have hRP : ResP w1 GB (GB + 1) (.slice (some ⟨GB, 0, none⟩) n7 n7) ps := .inr ⟨GB, n7, Nat.le_refl _, Nat.lt_succ_self _, by rw [HPL.out], by rw [HPL.out]; exact Nat.le_refl _, by unfold maxLen; omega, XB.dat⟩
  go_wp2_with fail
  refine (markP_is (1 + d0.mk8 + d1.mk8) hRP (by rw [HPL.out]; omega) (by omega) (by omega)).mono ?_
  rintro e w2 ⟨rfl, D2, -, -, -, hB⟩
  have ht := Turns.of_band hB
  rw [HPL.out]
  replace K0 := K0.turn ht (fun b hb => by have := hb.1; omega)
  replace M := M.turn (keepsJ rr) ht (iv_not (.inl (by omega))) (fun b hb hi => by have := hFM b hb; have := hi.1; omega)
  replace G := G.turn (keepsLJ rr) ht (iv_not (.inr (by omega))) (fun b hb hi => by have := hb.1; have := hi.2; omega)
  clear ht hB XB hRP
  obtain ⟨w1, rfl⟩ : ∃ x, x = w2 := ⟨_, rfl⟩
  have hk : ¬ (1 + d0.mk8 + d1.mk8 + 2 * (n7 : Int) < 0) := by omega
  go_wp2_with (first | (refine wpList_load_box 29 _ rfl (VG) rfl 29 CG G.box _ Tryz.underlying29 rfl JG.out (by first | rfl | simp [Region.wanted, yielded] | (simp [Region.wanted, yielded, Act.put] <;> omega)) ?_) | (refine wpList_load_box 29 _ rfl (VM) rfl 29 CM M.box _ Tryz.underlying29 rfl JM.out (by first | rfl | simp [Region.wanted, yielded] | (simp [Region.wanted, yielded, Act.put] <;> omega)) ?_))
  refine (eq_J G.dat.at M.dat hq).mono ?_
  rintro e w2 ⟨rfl, hb⟩
  replace K0 := K0.later hb
  replace M := M.later (keepsJ rr) hb
  replace G := G.later (keepsLJ rr) hb
  clear hb
  obtain ⟨w1, rfl⟩ : ∃ x, x = w2 := ⟨_, rfl⟩
  go_wp2_with (refine wpList_load_box 29 _ rfl (VG) rfl 29 CG G.box _ Tryz.underlying29 rfl JG.out (by first | rfl | simp [Region.wanted, yielded] | (simp [Region.wanted, yielded, Act.put] <;> omega)) ?_)
  refine (markd_J (k := 1) G.dat FIT.out (by omega) (by omega)).mono ?_
  rintro e w2 ⟨rfl, ht, r', hm, LG⟩
  replace K0 := K0.turn ht (fun b hb => by have := hb.1; omega)
  replace M := M.turn (keepsJ rr) ht (iv_not (.inl (by omega))) (fun b hb hi => by have := hFM b hb; have := hi.1; omega)
  have G2 : VarOf (LieJ r') 29 w2 (Iv SG EG) VG CG := ⟨G.box.turn ht G.far, G.far, LG⟩
  clear ht LG G hk
  have HM := Lib.hid hm
  clear hm
  obtain ⟨w1, rfl⟩ : ∃ x, x = w2 := ⟨_, rfl⟩
  have mr := mkb_J FIT.out
  have hk : ¬ (1 + rr.mk8 < 0) := by omega
  have hqq : (1 + rr.mk8 != 1 + rr.mk8) = false := by simp
  go_wp2_with (refine wpList_load_box 29 _ rfl (VG) rfl 29 CG G2.box _ Tryz.underlying29 rfl JG.out (by first | rfl | simp [Region.wanted, yielded] | (simp [Region.wanted, yielded, Act.put] <;> omega)) ?_)
  refine (held_J (k := 1) G2.dat HM.out FIT.out (by omega) (by omega)).mono ?_
  rintro e w2 ⟨rfl, hb⟩
  replace K0 := K0.later hb
  replace M := M.later (keepsJ rr) hb
  replace G2 := G2.later (keepsLJ r') hb
  clear hb
  obtain ⟨w1, rfl⟩ : ∃ x, x = w2 := ⟨_, rfl⟩
  go_upto_region 38 with fail
  -- again
  have HH : Big w1.heap.size w1 := ⟨Nat.le_refl _⟩
  have hVM1 := M.box.lt
  have hVG1 := G2.box.lt
  have G3 : VarOf (LieJ r') 29 w1 (fun b => Iv SG EG b ∧ b < w1.heap.size) VG CG := ⟨G2.box, fun h => G2.far h.1, LieJ.low G2.dat⟩
  clear G2
  generalize w1.heap.size = H1 at HH hVM1 hVG1 G3
  go_cut [28, 29] (fun pv sv wr => ∃ (V : Nat) (C : Array Value) (F : Nat → Prop), pv = .pointer (some ⟨V, 0, none⟩) ∧ sv = .bool z ∧ VarOf (AtJ rr) 29 wr F V C ∧ PreNo w wr C0 C1 t1 t2 A7 n7 ps d0 d1 ∧ VarOf (AtJ rr) 29 wr FM VM CM ∧ VarOf (LieJ r') 29 wr (fun b => Iv SG EG b ∧ b < H1) VG CG)
  case first =>
    refine wp_region_sink 19 (fun w' => Box w' (w.heap.size) 47 C0 ∧ Box w' (w.heap.size + 1) 50 C1 ∧ Box w' (w.heap.size + 1 + 1) 57 #[.int .i64 t1, .int .i64 t2]) (by kernel_rfl) ⟨K0.v0.box, K0.v1.box, K0.st⟩ (fun hH => ?_)
    have hb := (Below.refl w1.heap.size w1).drew
    replace K0 := K0.later hb
    replace M := M.later (keepsJ rr) hb
    replace G3 := G3.later (keepsLJ r') hb
    replace HH := HH.later () hb
    clear hb
    generalize w1.drew = w3 at K0 M G3 HH hH ⊢
    refine wpAnyE_takeS (i := 0) (v := .agg C0) (by simp only [List.getElem?_toArray, List.getElem?_cons_zero]; rfl) (by kernel_rfl) (by kernel_rfl) (by kernel_rfl) (by exact fun _ _ _ h => h) (by kernel_rfl) ?ybt0 hH ?_
    case ybt0 => exact yields_box 47 _ rfl (w.heap.size) rfl 47 C0 (fun _ h => h.1) _ Tryz.underlying47 rfl I0.out (by first | rfl | simp [Region.wanted, yielded] | (simp [Region.wanted, yielded, Act.put] <;> omega))
    try simp only [Act.put, List.setIfInBounds_toArray, List.set_cons_zero, List.set_cons_succ]
    refine wpAnyE_takeS (i := 2) (v := .agg C1) (by simp only [List.getElem?_toArray, List.getElem?_cons_succ, List.getElem?_cons_zero]; rfl) (by kernel_rfl) (by kernel_rfl) (by kernel_rfl) (by exact fun _ _ _ h => h) (by kernel_rfl) ?ybt1 hH ?_
    case ybt1 => exact yields_box 50 _ rfl (w.heap.size + 1) rfl 50 C1 (fun _ h => h.2.1) _ Tryz.underlying50 rfl I1.out (by first | rfl | simp [Region.wanted, yielded] | (simp [Region.wanted, yielded, Act.put] <;> omega))
    try simp only [Act.put, List.setIfInBounds_toArray, List.set_cons_zero, List.set_cons_succ]
    refine wpAnyE_takeS (i := 7) (v := .agg #[.int .i64 t1, .int .i64 t2]) (by simp only [List.getElem?_toArray, List.getElem?_cons_succ, List.getElem?_cons_zero]; rfl) (by kernel_rfl) (by kernel_rfl) (by kernel_rfl) (by exact fun _ _ _ h => h) (by kernel_rfl) ?ybt2 hH ?_
    case ybt2 => exact yields_box 57 _ rfl (w.heap.size + 1 + 1) rfl 57 #[.int .i64 t1, .int .i64 t2] (fun _ h => h.2.2) _ Tryz.underlying57 rfl (by kernel_rfl) (by first | rfl | simp [Region.wanted, yielded] | (simp [Region.wanted, yielded, Act.put] <;> omega))
    try simp only [Act.put, List.setIfInBounds_toArray, List.set_cons_zero, List.set_cons_succ]
    refine wpAnyE_pure (i := 4) (v := ?vbm4) (by simp only [List.getElem?_toArray, List.getElem?_cons_succ, List.getElem?_cons_zero]; rfl) (by kernel_rfl) (by kernel_rfl) (by kernel_rfl) (by exact fun _ _ _ h => h) (by kernel_rfl) (Or.inl ⟨by rfl, ?ybm4⟩) hH ?rbm4
    case ybm4 => (intro w' hSw; (try dsimp only at hSw); go_simp; try with_reducible rfl)
    try simp only [Act.put, List.setIfInBounds_toArray, List.set_cons_zero, List.set_cons_succ]
    refine wpAnyE_pure (i := 5) (v := ?vbm5) (by simp only [List.getElem?_toArray, List.getElem?_cons_succ, List.getElem?_cons_zero]; rfl) (by kernel_rfl) (by kernel_rfl) (by kernel_rfl) (by exact fun _ _ _ h => h) (by kernel_rfl) (Or.inl ⟨by rfl, ?ybm5⟩) hH ?rbm5
    case ybm5 => (intro w' hSw; (try dsimp only at hSw); go_simp; try with_reducible rfl)
    try simp only [Act.put, List.setIfInBounds_toArray, List.set_cons_zero, List.set_cons_succ]
    refine wpAnyE_pure (i := 6) (v := ?vbm6) (by simp only [List.getElem?_toArray, List.getElem?_cons_succ, List.getElem?_cons_zero]; rfl) (by kernel_rfl) (by kernel_rfl) (by kernel_rfl) (by exact fun _ _ _ h => h) (by kernel_rfl) (Or.inl ⟨by rfl, ?ybm6⟩) hH ?rbm6
    case ybm6 => (intro w' hSw; (try dsimp only at hSw); go_simp; try with_reducible rfl)
    try simp only [Act.put, List.setIfInBounds_toArray, List.set_cons_zero, List.set_cons_succ]
    refine wpAnyE_pure (i := 9) (v := ?vbm9) (by simp only [List.getElem?_toArray, List.getElem?_cons_succ, List.getElem?_cons_zero]; rfl) (by kernel_rfl) (by kernel_rfl) (by kernel_rfl) (by exact fun _ _ _ h => h) (by kernel_rfl) (Or.inl ⟨by rfl, ?ybm9⟩) hH ?rbm9
    case ybm9 => (intro w' hSw; (try dsimp only at hSw); go_simp; try with_reducible rfl)
    try simp only [Act.put, List.setIfInBounds_toArray, List.set_cons_zero, List.set_cons_succ]
    refine wpAnyE_pure (i := 10) (v := ?vbm10) (by simp only [List.getElem?_toArray, List.getElem?_cons_succ, List.getElem?_cons_zero]; rfl) (by kernel_rfl) (by kernel_rfl) (by kernel_rfl) (by exact fun _ _ _ h => h) (by kernel_rfl) (Or.inl ⟨by rfl, ?ybm10⟩) hH ?rbm10
    case ybm10 => (intro w' hSw; (try dsimp only at hSw); go_simp; try with_reducible rfl)
    try simp only [Act.put, List.setIfInBounds_toArray, List.set_cons_zero, List.set_cons_succ]
    refine wpAnyE_two (i := 1) (j := 16) (by kernel_rfl) (by simp only [List.getElem?_toArray, List.getElem?_cons_succ, List.getElem?_cons_zero]; rfl) (by simp only [List.getElem?_toArray, List.getElem?_cons_succ, List.getElem?_cons_zero]; rfl) (fun K hK => ?_) (fun K hK => ?_)
    · skip
      go_simp
      refine (to_G K0.v0.dat hz0).mono ?_
      rintro e w4 ⟨D0, rfl, L0, hb⟩
      replace K0 := K0.later hb
      replace M := M.later (keepsJ rr) hb
      replace G3 := G3.later (keepsLJ r') hb
      replace HH := HH.later () hb
      clear hb
      obtain ⟨w3, rfl⟩ : ∃ x, x = w4 := ⟨_, rfl⟩
      clear hH
      refine hK.out _ _ ⟨K0.v0.box, K0.v1.box, K0.st⟩ (fun hH => ?_)
      clear hK K
      try simp only [Act.put, List.setIfInBounds_toArray, List.set_cons_zero, List.set_cons_succ]
      refine wpAnyE_two (i := 3) (j := 16) (by kernel_rfl) (by simp only [List.getElem?_toArray, List.getElem?_cons_succ, List.getElem?_cons_zero]; rfl) (by simp only [List.getElem?_toArray, List.getElem?_cons_succ, List.getElem?_cons_zero]; rfl) (fun K hK => ?_) (fun K hK => ?_)
      · skip
        go_simp
        refine (to_J K0.v1.dat hz1).mono ?_
        rintro e w4 ⟨D1, rfl, L1, hb⟩
        replace K0 := K0.later hb
        replace M := M.later (keepsJ rr) hb
        replace G3 := G3.later (keepsLJ r') hb
        replace HH := HH.later () hb
        replace L0 := (keepsLG d0).later L0 hb
        clear hb
        obtain ⟨w3, rfl⟩ : ∃ x, x = w4 := ⟨_, rfl⟩
        clear hH
        refine hK.out _ _ ⟨K0.v0.box, K0.v1.box, K0.st⟩ (fun hH => ?_)
        clear hK K
        try simp only [Act.put, List.setIfInBounds_toArray, List.set_cons_zero, List.set_cons_succ]
        refine wpAnyE_two (i := 8) (j := 16) (by kernel_rfl) (by simp only [List.getElem?_toArray, List.getElem?_cons_succ, List.getElem?_cons_zero]; rfl) (by simp only [List.getElem?_toArray, List.getElem?_cons_succ, List.getElem?_cons_zero]; rfl) (fun K hK => ?_) (fun K hK => ?_)
        · skip
          go_simp
          refine (toStamp_any t1 t2 w3).mono ?_
          rintro e w4 ⟨rfl, hb⟩
          replace K0 := K0.later hb
          replace M := M.later (keepsJ rr) hb
          replace G3 := G3.later (keepsLJ r') hb
          replace HH := HH.later () hb
          replace L0 := (keepsLG d0).later L0 hb
          replace L1 := (keepsLJ d1).later L1 hb
          clear hb
          obtain ⟨w3, rfl⟩ : ∃ x, x = w4 := ⟨_, rfl⟩
          clear hH
          refine hK.out _ _ ⟨K0.v0.box, K0.v1.box, K0.st⟩ (fun hH => ?_)
          clear hK K
          try simp only [Act.put, List.setIfInBounds_toArray, List.set_cons_zero, List.set_cons_succ]
          refine wpAnyE_two (i := 11) (j := 16) (by kernel_rfl) (by simp only [List.getElem?_toArray, List.getElem?_cons_succ, List.getElem?_cons_zero]; rfl) (by simp only [List.getElem?_toArray, List.getElem?_cons_succ, List.getElem?_cons_zero]; rfl) (fun K hK => ?_) (fun K hK => ?_)
          · skip
            go_simp
            refine (toSeals_any A7 n7 c7 ps w3 hz7 K0.l2.1).mono ?_
            rintro e w4 ⟨gs, -, rfl, -, LH, hb⟩
            replace K0 := K0.later hb
            replace M := M.later (keepsJ rr) hb
            replace G3 := G3.later (keepsLJ r') hb
            replace HH := HH.later () hb
            replace L0 := (keepsLG d0).later L0 hb
            replace L1 := (keepsLJ d1).later L1 hb
            clear hb
            obtain ⟨w3, rfl⟩ : ∃ x, x = w4 := ⟨_, rfl⟩
            clear hH
            refine hK.out _ _ ⟨K0.v0.box, K0.v1.box, K0.st⟩ (fun hH => ?_)
            clear hK K
            try simp only [Act.put, List.setIfInBounds_toArray, List.set_cons_zero, List.set_cons_succ]
            refine wpAnyE_two (i := 12) (j := 16) (by kernel_rfl) (by simp only [List.getElem?_toArray, List.getElem?_cons_succ, List.getElem?_cons_zero]; rfl) (by simp only [List.getElem?_toArray, List.getElem?_cons_succ, List.getElem?_cons_zero]; rfl) (fun K hK => ?_) (fun K hK => ?_)
            · skip
              go_simp
              refine (noted8_is kd sh cl t1 t2 v L0 L1 ⟨LH⟩ HPL.out hsum HZ.out).mono ?_
              rintro e w4 ⟨C, rfl, LR, hb⟩
              replace K0 := K0.later hb
              replace M := M.later (keepsJ rr) hb
              replace G3 := G3.later (keepsLJ r') hb
              replace HH := HH.later () hb
              generalize w3.heap.size = S at LR
              obtain ⟨E, hE⟩ : ∃ E, w4.heap.size = E := ⟨_, rfl⟩
              rw [hE] at LR
              have hEl : E ≤ w4.heap.size := Nat.le_of_eq hE.symm
              clear hE
              clear hb L0 L1 LH
              obtain ⟨w3, rfl⟩ : ∃ x, x = w4 := ⟨_, rfl⟩
              clear hH
              refine hK.out _ _ ⟨K0.v0.box, K0.v1.box, K0.st⟩ (fun hH => ?_)
              clear hK K
              try simp only [Act.put, List.setIfInBounds_toArray, List.set_cons_zero, List.set_cons_succ]
              refine wpAnyE_pure (i := 13) (v := ?vbl0p13) (by simp only [List.getElem?_toArray, List.getElem?_cons_succ, List.getElem?_cons_zero]; rfl) (by kernel_rfl) (by kernel_rfl) (by kernel_rfl) (by exact fun _ _ _ h => h) (by kernel_rfl) (Or.inl ⟨by rfl, ?ybl0p13⟩) hH ?rbl0p13
              case ybl0p13 => (intro w' hSw; (try dsimp only at hSw); go_simp; try with_reducible rfl)
              try simp only [Act.put, List.setIfInBounds_toArray, List.set_cons_zero, List.set_cons_succ]
              refine wpAnyE_pure (i := 14) (v := ?vbl0p14) (by simp only [List.getElem?_toArray, List.getElem?_cons_succ, List.getElem?_cons_zero]; rfl) (by kernel_rfl) (by kernel_rfl) (by kernel_rfl) (by exact fun _ _ _ h => h) (by kernel_rfl) (Or.inl ⟨by rfl, ?ybl0p14⟩) hH ?rbl0p14
              case ybl0p14 => (intro w' hSw; (try dsimp only at hSw); go_simp; try with_reducible rfl)
              try simp only [Act.put, List.setIfInBounds_toArray, List.set_cons_zero, List.set_cons_succ]
              refine wpAnyE_pure (i := 15) (v := ?vbl0p15) (by simp only [List.getElem?_toArray, List.getElem?_cons_succ, List.getElem?_cons_zero]; rfl) (by kernel_rfl) (by kernel_rfl) (by kernel_rfl) (by exact fun _ _ _ h => h) (by kernel_rfl) (Or.inl ⟨by rfl, ?ybl0p15⟩) hH ?rbl0p15
              case ybl0p15 => (intro w' hSw; (try dsimp only at hSw); go_simp; try with_reducible rfl)
              try simp only [Act.put, List.setIfInBounds_toArray, List.set_cons_zero, List.set_cons_succ]
              refine wpAnyE_one (i := 16) (by kernel_rfl) (by simp only [List.getElem?_toArray, List.getElem?_cons_succ, List.getElem?_cons_zero]; rfl) (fun K hK => ?_)
              go_simp
              have hV := HH.le
              have hn := bel_alloc w3 (.cells #[.slice none 0 0, .slice none 0 0] 29)
              replace K0 := K0.later hn
              replace M := M.later (keepsJ rr) hn
              replace G3 := G3.later (keepsLJ r') hn
              replace HH := HH.later () hn
              have ZB := Box.new w3 29 #[.slice none 0 0, .slice none 0 0]
              have hF : ¬ Iv S E w3.heap.size := iv_not (.inr hEl)
              replace LR := (keepsLJ rr).later LR hn
              replace hEl := Nat.le_trans hEl hn.size
              clear hn
              generalize (w3.alloc _ : World) = w4 at K0 M G3 HH ZB LR hEl ⊢
              generalize w3.heap.size = V at hV ZB hF ⊢
              obtain ⟨w3, rfl⟩ : ∃ x, x = w4 := ⟨_, rfl⟩
              clear hH
              refine hK.out _ _ ⟨K0.v0.box, K0.v1.box, K0.st⟩ (fun hH => ?_)
              clear hK K
              try simp only [Act.put, List.setIfInBounds_toArray, List.set_cons_zero, List.set_cons_succ]
              refine wpAnyE_one (i := 17) (by kernel_rfl) (by simp only [List.getElem?_toArray, List.getElem?_cons_succ, List.getElem?_cons_zero]; rfl) (fun K hK => ?_)
              rw [if_pos (by first | rfl | kernel_rfl | simp [Region.wanted, yielded])]
              have O := Lib.hid (oneJ LR.at)
              have JS := Lib.hid (sizeJ LR.at).2
              have ht := turns_setRow w3 V C
              have Mb := VarOf.put (keepsJ rr) ZB LR.at hF
              replace K0 := K0.turn ht (fun b hb => by omega)
              replace M := M.turn (keepsJ rr) ht (by omega) (fun b hb e => by have h1 := hFM b hb; have e : b = V := e; omega)
              replace G3 := G3.turn (keepsLJ r') ht (by omega) (fun b hb e => by have h1 := hb.2; have e : b = V := e; omega)
              replace HH := HH.turn () ht 
              clear hH
              refine wp_store_row 29 _ _ rfl V _ rfl rfl 29 #[.slice none 0 0, .slice none 0 0] ZB JS.out O.out.1.symm O.out.2 ?_
              refine hK.out _ _ ⟨K0.v0.box, K0.v1.box, K0.st⟩ (fun hH => ?_)
              clear hK K
              try simp only [Act.put]
              have hEs : E ≤ (w3.setRow V C).heap.size := by rw [size_setRow]; exact hEl
              clear ZB LR ht O JS
              generalize (w3.setRow _ _ : World) = w4 at K0 Mb hEs hH M G3 HH ⊢
              refine wpAnyE_end (i := 18) (by kernel_rfl) (by simp only [List.getElem?_toArray, List.getElem?_cons_succ, List.getElem?_cons_zero]; rfl) (by kernel_rfl) (fun K hK => ?_)
              go_simp
              refine hK.out _ _ ⟨K0.v0.box, K0.v1.box, K0.st⟩ ?_
              clear hK K hH
              try simp only [Act.put, List.setIfInBounds_toArray, List.set_cons_zero, List.set_cons_succ]
              go_wp2_with fail
              go_meet
              exact ⟨V, C, _, rfl, rfl, Mb, K0, M, G3⟩
            · skip
              go_simp
              have hV := HH.le
              have hn := bel_alloc w3 (.cells #[.slice none 0 0, .slice none 0 0] 29)
              replace K0 := K0.later hn
              replace M := M.later (keepsJ rr) hn
              replace G3 := G3.later (keepsLJ r') hn
              replace HH := HH.later () hn
              replace L0 := (keepsLG d0).later L0 hn
              replace L1 := (keepsLJ d1).later L1 hn
              replace LH := LH.later hn
              have ZB := Box.new w3 29 #[.slice none 0 0, .slice none 0 0]
              clear hn
              generalize (w3.alloc _ : World) = w4 at K0 M G3 HH L0 L1 LH ZB ⊢
              generalize w3.heap.size = V at hV ZB ⊢
              obtain ⟨w3, rfl⟩ : ∃ x, x = w4 := ⟨_, rfl⟩
              clear hH
              refine hK.out _ _ ⟨K0.v0.box, K0.v1.box, K0.st⟩ (fun hH => ?_)
              clear hK K
              try simp only [Act.put, List.setIfInBounds_toArray, List.set_cons_zero, List.set_cons_succ]
              refine wpAnyE_one (i := 12) (by kernel_rfl) (by simp only [List.getElem?_toArray, List.getElem?_cons_succ, List.getElem?_cons_zero]; rfl) (fun K hK => ?_)
              go_simp
              have hVS := ZB.lt
              refine (noted8_is kd sh cl t1 t2 v L0 L1 ⟨LH⟩ HPL.out hsum HZ.out).mono ?_
              rintro e w4 ⟨C, rfl, LR, hb⟩
              replace K0 := K0.later hb
              replace M := M.later (keepsJ rr) hb
              replace G3 := G3.later (keepsLJ r') hb
              replace HH := HH.later () hb
              replace ZB := ZB.later hb ZB.lt
              generalize w3.heap.size = S at LR hVS
              obtain ⟨E, hE⟩ : ∃ E, w4.heap.size = E := ⟨_, rfl⟩
              rw [hE] at LR
              have hEl : E ≤ w4.heap.size := Nat.le_of_eq hE.symm
              clear hE
              have hF : ¬ Iv S E V := iv_not (.inl hVS)
              clear hVS
              clear hb L0 L1 LH
              obtain ⟨w3, rfl⟩ : ∃ x, x = w4 := ⟨_, rfl⟩
              clear hH
              refine hK.out _ _ ⟨K0.v0.box, K0.v1.box, K0.st⟩ (fun hH => ?_)
              clear hK K
              try simp only [Act.put, List.setIfInBounds_toArray, List.set_cons_zero, List.set_cons_succ]
              refine wpAnyE_pure (i := 13) (v := ?vbl1p13) (by simp only [List.getElem?_toArray, List.getElem?_cons_succ, List.getElem?_cons_zero]; rfl) (by kernel_rfl) (by kernel_rfl) (by kernel_rfl) (by exact fun _ _ _ h => h) (by kernel_rfl) (Or.inl ⟨by rfl, ?ybl1p13⟩) hH ?rbl1p13
              case ybl1p13 => (intro w' hSw; (try dsimp only at hSw); go_simp; try with_reducible rfl)
              try simp only [Act.put, List.setIfInBounds_toArray, List.set_cons_zero, List.set_cons_succ]
              refine wpAnyE_pure (i := 14) (v := ?vbl1p14) (by simp only [List.getElem?_toArray, List.getElem?_cons_succ, List.getElem?_cons_zero]; rfl) (by kernel_rfl) (by kernel_rfl) (by kernel_rfl) (by exact fun _ _ _ h => h) (by kernel_rfl) (Or.inl ⟨by rfl, ?ybl1p14⟩) hH ?rbl1p14
              case ybl1p14 => (intro w' hSw; (try dsimp only at hSw); go_simp; try with_reducible rfl)
              try simp only [Act.put, List.setIfInBounds_toArray, List.set_cons_zero, List.set_cons_succ]
              refine wpAnyE_pure (i := 15) (v := ?vbl1p15) (by simp only [List.getElem?_toArray, List.getElem?_cons_succ, List.getElem?_cons_zero]; rfl) (by kernel_rfl) (by kernel_rfl) (by kernel_rfl) (by exact fun _ _ _ h => h) (by kernel_rfl) (Or.inl ⟨by rfl, ?ybl1p15⟩) hH ?rbl1p15
              case ybl1p15 => (intro w' hSw; (try dsimp only at hSw); go_simp; try with_reducible rfl)
              try simp only [Act.put, List.setIfInBounds_toArray, List.set_cons_zero, List.set_cons_succ]
              refine wpAnyE_one (i := 17) (by kernel_rfl) (by simp only [List.getElem?_toArray, List.getElem?_cons_succ, List.getElem?_cons_zero]; rfl) (fun K hK => ?_)
              rw [if_pos (by first | rfl | kernel_rfl | simp [Region.wanted, yielded])]
              have O := Lib.hid (oneJ LR.at)
              have JS := Lib.hid (sizeJ LR.at).2
              have ht := turns_setRow w3 V C
              have Mb := VarOf.put (keepsJ rr) ZB LR.at hF
              replace K0 := K0.turn ht (fun b hb => by omega)
              replace M := M.turn (keepsJ rr) ht (by omega) (fun b hb e => by have h1 := hFM b hb; have e : b = V := e; omega)
              replace G3 := G3.turn (keepsLJ r') ht (by omega) (fun b hb e => by have h1 := hb.2; have e : b = V := e; omega)
              replace HH := HH.turn () ht 
              clear hH
              refine wp_store_row 29 _ _ rfl V _ rfl rfl 29 #[.slice none 0 0, .slice none 0 0] ZB JS.out O.out.1.symm O.out.2 ?_
              refine hK.out _ _ ⟨K0.v0.box, K0.v1.box, K0.st⟩ (fun hH => ?_)
              clear hK K
              try simp only [Act.put]
              have hEs : E ≤ (w3.setRow V C).heap.size := by rw [size_setRow]; exact hEl
              clear ZB LR ht O JS
              generalize (w3.setRow _ _ : World) = w4 at K0 Mb hEs hH M G3 HH ⊢
              refine wpAnyE_end (i := 18) (by kernel_rfl) (by simp only [List.getElem?_toArray, List.getElem?_cons_succ, List.getElem?_cons_zero]; rfl) (by kernel_rfl) (fun K hK => ?_)
              go_simp
              refine hK.out _ _ ⟨K0.v0.box, K0.v1.box, K0.st⟩ ?_
              clear hK K hH
              try simp only [Act.put, List.setIfInBounds_toArray, List.set_cons_zero, List.set_cons_succ]
              go_wp2_with fail
              go_meet
              exact ⟨V, C, _, rfl, rfl, Mb, K0, M, G3⟩
          · skip
            go_simp
            have hV := HH.le
            have hn := bel_alloc w3 (.cells #[.slice none 0 0, .slice none 0 0] 29)
            replace K0 := K0.later hn
            replace M := M.later (keepsJ rr) hn
            replace G3 := G3.later (keepsLJ r') hn
            replace HH := HH.later () hn
            replace L0 := (keepsLG d0).later L0 hn
            replace L1 := (keepsLJ d1).later L1 hn
            have ZB := Box.new w3 29 #[.slice none 0 0, .slice none 0 0]
            clear hn
            generalize (w3.alloc _ : World) = w4 at K0 M G3 HH L0 L1 ZB ⊢
            generalize w3.heap.size = V at hV ZB ⊢
            obtain ⟨w3, rfl⟩ : ∃ x, x = w4 := ⟨_, rfl⟩
            clear hH
            refine hK.out _ _ ⟨K0.v0.box, K0.v1.box, K0.st⟩ (fun hH => ?_)
            clear hK K
            try simp only [Act.put, List.setIfInBounds_toArray, List.set_cons_zero, List.set_cons_succ]
            refine wpAnyE_one (i := 11) (by kernel_rfl) (by simp only [List.getElem?_toArray, List.getElem?_cons_succ, List.getElem?_cons_zero]; rfl) (fun K hK => ?_)
            go_simp
            refine (toSeals_any A7 n7 c7 ps w3 hz7 K0.l2.1).mono ?_
            rintro e w4 ⟨gs, -, rfl, -, LH, hb⟩
            replace K0 := K0.later hb
            replace M := M.later (keepsJ rr) hb
            replace G3 := G3.later (keepsLJ r') hb
            replace HH := HH.later () hb
            replace L0 := (keepsLG d0).later L0 hb
            replace L1 := (keepsLJ d1).later L1 hb
            replace ZB := ZB.later hb ZB.lt
            clear hb
            obtain ⟨w3, rfl⟩ : ∃ x, x = w4 := ⟨_, rfl⟩
            clear hH
            refine hK.out _ _ ⟨K0.v0.box, K0.v1.box, K0.st⟩ (fun hH => ?_)
            clear hK K
            try simp only [Act.put, List.setIfInBounds_toArray, List.set_cons_zero, List.set_cons_succ]
            refine wpAnyE_one (i := 12) (by kernel_rfl) (by simp only [List.getElem?_toArray, List.getElem?_cons_succ, List.getElem?_cons_zero]; rfl) (fun K hK => ?_)
            go_simp
            have hVS := ZB.lt
            refine (noted8_is kd sh cl t1 t2 v L0 L1 ⟨LH⟩ HPL.out hsum HZ.out).mono ?_
            rintro e w4 ⟨C, rfl, LR, hb⟩
            replace K0 := K0.later hb
            replace M := M.later (keepsJ rr) hb
            replace G3 := G3.later (keepsLJ r') hb
            replace HH := HH.later () hb
            replace ZB := ZB.later hb ZB.lt
            generalize w3.heap.size = S at LR hVS
            obtain ⟨E, hE⟩ : ∃ E, w4.heap.size = E := ⟨_, rfl⟩
            rw [hE] at LR
            have hEl : E ≤ w4.heap.size := Nat.le_of_eq hE.symm
            clear hE
            have hF : ¬ Iv S E V := iv_not (.inl hVS)
            clear hVS
            clear hb L0 L1 LH
            obtain ⟨w3, rfl⟩ : ∃ x, x = w4 := ⟨_, rfl⟩
            clear hH
            refine hK.out _ _ ⟨K0.v0.box, K0.v1.box, K0.st⟩ (fun hH => ?_)
            clear hK K
            try simp only [Act.put, List.setIfInBounds_toArray, List.set_cons_zero, List.set_cons_succ]
            refine wpAnyE_pure (i := 13) (v := ?vbl2p13) (by simp only [List.getElem?_toArray, List.getElem?_cons_succ, List.getElem?_cons_zero]; rfl) (by kernel_rfl) (by kernel_rfl) (by kernel_rfl) (by exact fun _ _ _ h => h) (by kernel_rfl) (Or.inl ⟨by rfl, ?ybl2p13⟩) hH ?rbl2p13
            case ybl2p13 => (intro w' hSw; (try dsimp only at hSw); go_simp; try with_reducible rfl)
            try simp only [Act.put, List.setIfInBounds_toArray, List.set_cons_zero, List.set_cons_succ]
            refine wpAnyE_pure (i := 14) (v := ?vbl2p14) (by simp only [List.getElem?_toArray, List.getElem?_cons_succ, List.getElem?_cons_zero]; rfl) (by kernel_rfl) (by kernel_rfl) (by kernel_rfl) (by exact fun _ _ _ h => h) (by kernel_rfl) (Or.inl ⟨by rfl, ?ybl2p14⟩) hH ?rbl2p14
            case ybl2p14 => (intro w' hSw; (try dsimp only at hSw); go_simp; try with_reducible rfl)
            try simp only [Act.put, List.setIfInBounds_toArray, List.set_cons_zero, List.set_cons_succ]
            refine wpAnyE_pure (i := 15) (v := ?vbl2p15) (by simp only [List.getElem?_toArray, List.getElem?_cons_succ, List.getElem?_cons_zero]; rfl) (by kernel_rfl) (by kernel_rfl) (by kernel_rfl) (by exact fun _ _ _ h => h) (by kernel_rfl) (Or.inl ⟨by rfl, ?ybl2p15⟩) hH ?rbl2p15
            case ybl2p15 => (intro w' hSw; (try dsimp only at hSw); go_simp; try with_reducible rfl)
            try simp only [Act.put, List.setIfInBounds_toArray, List.set_cons_zero, List.set_cons_succ]
            refine wpAnyE_one (i := 17) (by kernel_rfl) (by simp only [List.getElem?_toArray, List.getElem?_cons_succ, List.getElem?_cons_zero]; rfl) (fun K hK => ?_)
            rw [if_pos (by first | rfl | kernel_rfl | simp [Region.wanted, yielded])]
            have O := Lib.hid (oneJ LR.at)
            have JS := Lib.hid (sizeJ LR.at).2
            have ht := turns_setRow w3 V C
            have Mb := VarOf.put (keepsJ rr) ZB LR.at hF
            replace K0 := K0.turn ht (fun b hb => by omega)
            replace M := M.turn (keepsJ rr) ht (by omega) (fun b hb e => by have h1 := hFM b hb; have e : b = V := e; omega)
            replace G3 := G3.turn (keepsLJ r') ht (by omega) (fun b hb e => by have h1 := hb.2; have e : b = V := e; omega)
            replace HH := HH.turn () ht 
            clear hH
            refine wp_store_row 29 _ _ rfl V _ rfl rfl 29 #[.slice none 0 0, .slice none 0 0] ZB JS.out O.out.1.symm O.out.2 ?_
            refine hK.out _ _ ⟨K0.v0.box, K0.v1.box, K0.st⟩ (fun hH => ?_)
            clear hK K
            try simp only [Act.put]
            have hEs : E ≤ (w3.setRow V C).heap.size := by rw [size_setRow]; exact hEl
            clear ZB LR ht O JS
            generalize (w3.setRow _ _ : World) = w4 at K0 Mb hEs hH M G3 HH ⊢
            refine wpAnyE_end (i := 18) (by kernel_rfl) (by simp only [List.getElem?_toArray, List.getElem?_cons_succ, List.getElem?_cons_zero]; rfl) (by kernel_rfl) (fun K hK => ?_)
            go_simp
            refine hK.out _ _ ⟨K0.v0.box, K0.v1.box, K0.st⟩ ?_
            clear hK K hH
            try simp only [Act.put, List.setIfInBounds_toArray, List.set_cons_zero, List.set_cons_succ]
            go_wp2_with fail
            go_meet
            exact ⟨V, C, _, rfl, rfl, Mb, K0, M, G3⟩
        · skip
          go_simp
          have hV := HH.le
          have hn := bel_alloc w3 (.cells #[.slice none 0 0, .slice none 0 0] 29)
          replace K0 := K0.later hn
          replace M := M.later (keepsJ rr) hn
          replace G3 := G3.later (keepsLJ r') hn
          replace HH := HH.later () hn
          replace L0 := (keepsLG d0).later L0 hn
          replace L1 := (keepsLJ d1).later L1 hn
          have ZB := Box.new w3 29 #[.slice none 0 0, .slice none 0 0]
          clear hn
          generalize (w3.alloc _ : World) = w4 at K0 M G3 HH L0 L1 ZB ⊢
          generalize w3.heap.size = V at hV ZB ⊢
          obtain ⟨w3, rfl⟩ : ∃ x, x = w4 := ⟨_, rfl⟩
          clear hH
          refine hK.out _ _ ⟨K0.v0.box, K0.v1.box, K0.st⟩ (fun hH => ?_)
          clear hK K
          try simp only [Act.put, List.setIfInBounds_toArray, List.set_cons_zero, List.set_cons_succ]
          refine wpAnyE_one (i := 8) (by kernel_rfl) (by simp only [List.getElem?_toArray, List.getElem?_cons_succ, List.getElem?_cons_zero]; rfl) (fun K hK => ?_)
          go_simp
          refine (toStamp_any t1 t2 w3).mono ?_
          rintro e w4 ⟨rfl, hb⟩
          replace K0 := K0.later hb
          replace M := M.later (keepsJ rr) hb
          replace G3 := G3.later (keepsLJ r') hb
          replace HH := HH.later () hb
          replace L0 := (keepsLG d0).later L0 hb
          replace L1 := (keepsLJ d1).later L1 hb
          replace ZB := ZB.later hb ZB.lt
          clear hb
          obtain ⟨w3, rfl⟩ : ∃ x, x = w4 := ⟨_, rfl⟩
          clear hH
          refine hK.out _ _ ⟨K0.v0.box, K0.v1.box, K0.st⟩ (fun hH => ?_)
          clear hK K
          try simp only [Act.put, List.setIfInBounds_toArray, List.set_cons_zero, List.set_cons_succ]
          refine wpAnyE_one (i := 11) (by kernel_rfl) (by simp only [List.getElem?_toArray, List.getElem?_cons_succ, List.getElem?_cons_zero]; rfl) (fun K hK => ?_)
          go_simp
          refine (toSeals_any A7 n7 c7 ps w3 hz7 K0.l2.1).mono ?_
          rintro e w4 ⟨gs, -, rfl, -, LH, hb⟩
          replace K0 := K0.later hb
          replace M := M.later (keepsJ rr) hb
          replace G3 := G3.later (keepsLJ r') hb
          replace HH := HH.later () hb
          replace L0 := (keepsLG d0).later L0 hb
          replace L1 := (keepsLJ d1).later L1 hb
          replace ZB := ZB.later hb ZB.lt
          clear hb
          obtain ⟨w3, rfl⟩ : ∃ x, x = w4 := ⟨_, rfl⟩
          clear hH
          refine hK.out _ _ ⟨K0.v0.box, K0.v1.box, K0.st⟩ (fun hH => ?_)
          clear hK K
          try simp only [Act.put, List.setIfInBounds_toArray, List.set_cons_zero, List.set_cons_succ]
          refine wpAnyE_one (i := 12) (by kernel_rfl) (by simp only [List.getElem?_toArray, List.getElem?_cons_succ, List.getElem?_cons_zero]; rfl) (fun K hK => ?_)
          go_simp
          have hVS := ZB.lt
          refine (noted8_is kd sh cl t1 t2 v L0 L1 ⟨LH⟩ HPL.out hsum HZ.out).mono ?_
          rintro e w4 ⟨C, rfl, LR, hb⟩
          replace K0 := K0.later hb
          replace M := M.later (keepsJ rr) hb
          replace G3 := G3.later (keepsLJ r') hb
          replace HH := HH.later () hb
          replace ZB := ZB.later hb ZB.lt
          generalize w3.heap.size = S at LR hVS
          obtain ⟨E, hE⟩ : ∃ E, w4.heap.size = E := ⟨_, rfl⟩
          rw [hE] at LR
          have hEl : E ≤ w4.heap.size := Nat.le_of_eq hE.symm
          clear hE
          have hF : ¬ Iv S E V := iv_not (.inl hVS)
          clear hVS
          clear hb L0 L1 LH
          obtain ⟨w3, rfl⟩ : ∃ x, x = w4 := ⟨_, rfl⟩
          clear hH
          refine hK.out _ _ ⟨K0.v0.box, K0.v1.box, K0.st⟩ (fun hH => ?_)
          clear hK K
          try simp only [Act.put, List.setIfInBounds_toArray, List.set_cons_zero, List.set_cons_succ]
          refine wpAnyE_pure (i := 13) (v := ?vbl3p13) (by simp only [List.getElem?_toArray, List.getElem?_cons_succ, List.getElem?_cons_zero]; rfl) (by kernel_rfl) (by kernel_rfl) (by kernel_rfl) (by exact fun _ _ _ h => h) (by kernel_rfl) (Or.inl ⟨by rfl, ?ybl3p13⟩) hH ?rbl3p13
          case ybl3p13 => (intro w' hSw; (try dsimp only at hSw); go_simp; try with_reducible rfl)
          try simp only [Act.put, List.setIfInBounds_toArray, List.set_cons_zero, List.set_cons_succ]
          refine wpAnyE_pure (i := 14) (v := ?vbl3p14) (by simp only [List.getElem?_toArray, List.getElem?_cons_succ, List.getElem?_cons_zero]; rfl) (by kernel_rfl) (by kernel_rfl) (by kernel_rfl) (by exact fun _ _ _ h => h) (by kernel_rfl) (Or.inl ⟨by rfl, ?ybl3p14⟩) hH ?rbl3p14
          case ybl3p14 => (intro w' hSw; (try dsimp only at hSw); go_simp; try with_reducible rfl)
          try simp only [Act.put, List.setIfInBounds_toArray, List.set_cons_zero, List.set_cons_succ]
          refine wpAnyE_pure (i := 15) (v := ?vbl3p15) (by simp only [List.getElem?_toArray, List.getElem?_cons_succ, List.getElem?_cons_zero]; rfl) (by kernel_rfl) (by kernel_rfl) (by kernel_rfl) (by exact fun _ _ _ h => h) (by kernel_rfl) (Or.inl ⟨by rfl, ?ybl3p15⟩) hH ?rbl3p15
          case ybl3p15 => (intro w' hSw; (try dsimp only at hSw); go_simp; try with_reducible rfl)
          try simp only [Act.put, List.setIfInBounds_toArray, List.set_cons_zero, List.set_cons_succ]
          refine wpAnyE_one (i := 17) (by kernel_rfl) (by simp only [List.getElem?_toArray, List.getElem?_cons_succ, List.getElem?_cons_zero]; rfl) (fun K hK => ?_)
          rw [if_pos (by first | rfl | kernel_rfl | simp [Region.wanted, yielded])]
          have O := Lib.hid (oneJ LR.at)
          have JS := Lib.hid (sizeJ LR.at).2
          have ht := turns_setRow w3 V C
          have Mb := VarOf.put (keepsJ rr) ZB LR.at hF
          replace K0 := K0.turn ht (fun b hb => by omega)
          replace M := M.turn (keepsJ rr) ht (by omega) (fun b hb e => by have h1 := hFM b hb; have e : b = V := e; omega)
          replace G3 := G3.turn (keepsLJ r') ht (by omega) (fun b hb e => by have h1 := hb.2; have e : b = V := e; omega)
          replace HH := HH.turn () ht 
          clear hH
          refine wp_store_row 29 _ _ rfl V _ rfl rfl 29 #[.slice none 0 0, .slice none 0 0] ZB JS.out O.out.1.symm O.out.2 ?_
          refine hK.out _ _ ⟨K0.v0.box, K0.v1.box, K0.st⟩ (fun hH => ?_)
          clear hK K
          try simp only [Act.put]
          have hEs : E ≤ (w3.setRow V C).heap.size := by rw [size_setRow]; exact hEl
          clear ZB LR ht O JS
          generalize (w3.setRow _ _ : World) = w4 at K0 Mb hEs hH M G3 HH ⊢
          refine wpAnyE_end (i := 18) (by kernel_rfl) (by simp only [List.getElem?_toArray, List.getElem?_cons_succ, List.getElem?_cons_zero]; rfl) (by kernel_rfl) (fun K hK => ?_)
          go_simp
          refine hK.out _ _ ⟨K0.v0.box, K0.v1.box, K0.st⟩ ?_
          clear hK K hH
          try simp only [Act.put, List.setIfInBounds_toArray, List.set_cons_zero, List.set_cons_succ]
          go_wp2_with fail
          go_meet
          exact ⟨V, C, _, rfl, rfl, Mb, K0, M, G3⟩
      · skip
        go_simp
        have hV := HH.le
        have hn := bel_alloc w3 (.cells #[.slice none 0 0, .slice none 0 0] 29)
        replace K0 := K0.later hn
        replace M := M.later (keepsJ rr) hn
        replace G3 := G3.later (keepsLJ r') hn
        replace HH := HH.later () hn
        replace L0 := (keepsLG d0).later L0 hn
        have ZB := Box.new w3 29 #[.slice none 0 0, .slice none 0 0]
        clear hn
        generalize (w3.alloc _ : World) = w4 at K0 M G3 HH L0 ZB ⊢
        generalize w3.heap.size = V at hV ZB ⊢
        obtain ⟨w3, rfl⟩ : ∃ x, x = w4 := ⟨_, rfl⟩
        clear hH
        refine hK.out _ _ ⟨K0.v0.box, K0.v1.box, K0.st⟩ (fun hH => ?_)
        clear hK K
        try simp only [Act.put, List.setIfInBounds_toArray, List.set_cons_zero, List.set_cons_succ]
        refine wpAnyE_one (i := 3) (by kernel_rfl) (by simp only [List.getElem?_toArray, List.getElem?_cons_succ, List.getElem?_cons_zero]; rfl) (fun K hK => ?_)
        go_simp
        refine (to_J K0.v1.dat hz1).mono ?_
        rintro e w4 ⟨D1, rfl, L1, hb⟩
        replace K0 := K0.later hb
        replace M := M.later (keepsJ rr) hb
        replace G3 := G3.later (keepsLJ r') hb
        replace HH := HH.later () hb
        replace L0 := (keepsLG d0).later L0 hb
        replace ZB := ZB.later hb ZB.lt
        clear hb
        obtain ⟨w3, rfl⟩ : ∃ x, x = w4 := ⟨_, rfl⟩
        clear hH
        refine hK.out _ _ ⟨K0.v0.box, K0.v1.box, K0.st⟩ (fun hH => ?_)
        clear hK K
        try simp only [Act.put, List.setIfInBounds_toArray, List.set_cons_zero, List.set_cons_succ]
        refine wpAnyE_one (i := 8) (by kernel_rfl) (by simp only [List.getElem?_toArray, List.getElem?_cons_succ, List.getElem?_cons_zero]; rfl) (fun K hK => ?_)
        go_simp
        refine (toStamp_any t1 t2 w3).mono ?_
        rintro e w4 ⟨rfl, hb⟩
        replace K0 := K0.later hb
        replace M := M.later (keepsJ rr) hb
        replace G3 := G3.later (keepsLJ r') hb
        replace HH := HH.later () hb
        replace L0 := (keepsLG d0).later L0 hb
        replace L1 := (keepsLJ d1).later L1 hb
        replace ZB := ZB.later hb ZB.lt
        clear hb
        obtain ⟨w3, rfl⟩ : ∃ x, x = w4 := ⟨_, rfl⟩
        clear hH
        refine hK.out _ _ ⟨K0.v0.box, K0.v1.box, K0.st⟩ (fun hH => ?_)
        clear hK K
        try simp only [Act.put, List.setIfInBounds_toArray, List.set_cons_zero, List.set_cons_succ]
        refine wpAnyE_one (i := 11) (by kernel_rfl) (by simp only [List.getElem?_toArray, List.getElem?_cons_succ, List.getElem?_cons_zero]; rfl) (fun K hK => ?_)
        go_simp
        refine (toSeals_any A7 n7 c7 ps w3 hz7 K0.l2.1).mono ?_
        rintro e w4 ⟨gs, -, rfl, -, LH, hb⟩
        replace K0 := K0.later hb
        replace M := M.later (keepsJ rr) hb
        replace G3 := G3.later (keepsLJ r') hb
        replace HH := HH.later () hb
        replace L0 := (keepsLG d0).later L0 hb
        replace L1 := (keepsLJ d1).later L1 hb
        replace ZB := ZB.later hb ZB.lt
        clear hb
        obtain ⟨w3, rfl⟩ : ∃ x, x = w4 := ⟨_, rfl⟩
        clear hH
        refine hK.out _ _ ⟨K0.v0.box, K0.v1.box, K0.st⟩ (fun hH => ?_)
        clear hK K
        try simp only [Act.put, List.setIfInBounds_toArray, List.set_cons_zero, List.set_cons_succ]
        refine wpAnyE_one (i := 12) (by kernel_rfl) (by simp only [List.getElem?_toArray, List.getElem?_cons_succ, List.getElem?_cons_zero]; rfl) (fun K hK => ?_)
        go_simp
        have hVS := ZB.lt
        refine (noted8_is kd sh cl t1 t2 v L0 L1 ⟨LH⟩ HPL.out hsum HZ.out).mono ?_
        rintro e w4 ⟨C, rfl, LR, hb⟩
        replace K0 := K0.later hb
        replace M := M.later (keepsJ rr) hb
        replace G3 := G3.later (keepsLJ r') hb
        replace HH := HH.later () hb
        replace ZB := ZB.later hb ZB.lt
        generalize w3.heap.size = S at LR hVS
        obtain ⟨E, hE⟩ : ∃ E, w4.heap.size = E := ⟨_, rfl⟩
        rw [hE] at LR
        have hEl : E ≤ w4.heap.size := Nat.le_of_eq hE.symm
        clear hE
        have hF : ¬ Iv S E V := iv_not (.inl hVS)
        clear hVS
        clear hb L0 L1 LH
        obtain ⟨w3, rfl⟩ : ∃ x, x = w4 := ⟨_, rfl⟩
        clear hH
        refine hK.out _ _ ⟨K0.v0.box, K0.v1.box, K0.st⟩ (fun hH => ?_)
        clear hK K
        try simp only [Act.put, List.setIfInBounds_toArray, List.set_cons_zero, List.set_cons_succ]
        refine wpAnyE_pure (i := 13) (v := ?vbl4p13) (by simp only [List.getElem?_toArray, List.getElem?_cons_succ, List.getElem?_cons_zero]; rfl) (by kernel_rfl) (by kernel_rfl) (by kernel_rfl) (by exact fun _ _ _ h => h) (by kernel_rfl) (Or.inl ⟨by rfl, ?ybl4p13⟩) hH ?rbl4p13
        case ybl4p13 => (intro w' hSw; (try dsimp only at hSw); go_simp; try with_reducible rfl)
        try simp only [Act.put, List.setIfInBounds_toArray, List.set_cons_zero, List.set_cons_succ]
        refine wpAnyE_pure (i := 14) (v := ?vbl4p14) (by simp only [List.getElem?_toArray, List.getElem?_cons_succ, List.getElem?_cons_zero]; rfl) (by kernel_rfl) (by kernel_rfl) (by kernel_rfl) (by exact fun _ _ _ h => h) (by kernel_rfl) (Or.inl ⟨by rfl, ?ybl4p14⟩) hH ?rbl4p14
        case ybl4p14 => (intro w' hSw; (try dsimp only at hSw); go_simp; try with_reducible rfl)
        try simp only [Act.put, List.setIfInBounds_toArray, List.set_cons_zero, List.set_cons_succ]
        refine wpAnyE_pure (i := 15) (v := ?vbl4p15) (by simp only [List.getElem?_toArray, List.getElem?_cons_succ, List.getElem?_cons_zero]; rfl) (by kernel_rfl) (by kernel_rfl) (by kernel_rfl) (by exact fun _ _ _ h => h) (by kernel_rfl) (Or.inl ⟨by rfl, ?ybl4p15⟩) hH ?rbl4p15
        case ybl4p15 => (intro w' hSw; (try dsimp only at hSw); go_simp; try with_reducible rfl)
        try simp only [Act.put, List.setIfInBounds_toArray, List.set_cons_zero, List.set_cons_succ]
        refine wpAnyE_one (i := 17) (by kernel_rfl) (by simp only [List.getElem?_toArray, List.getElem?_cons_succ, List.getElem?_cons_zero]; rfl) (fun K hK => ?_)
        rw [if_pos (by first | rfl | kernel_rfl | simp [Region.wanted, yielded])]
        have O := Lib.hid (oneJ LR.at)
        have JS := Lib.hid (sizeJ LR.at).2
        have ht := turns_setRow w3 V C
        have Mb := VarOf.put (keepsJ rr) ZB LR.at hF
        replace K0 := K0.turn ht (fun b hb => by omega)
        replace M := M.turn (keepsJ rr) ht (by omega) (fun b hb e => by have h1 := hFM b hb; have e : b = V := e; omega)
        replace G3 := G3.turn (keepsLJ r') ht (by omega) (fun b hb e => by have h1 := hb.2; have e : b = V := e; omega)
        replace HH := HH.turn () ht 
        clear hH
        refine wp_store_row 29 _ _ rfl V _ rfl rfl 29 #[.slice none 0 0, .slice none 0 0] ZB JS.out O.out.1.symm O.out.2 ?_
        refine hK.out _ _ ⟨K0.v0.box, K0.v1.box, K0.st⟩ (fun hH => ?_)
        clear hK K
        try simp only [Act.put]
        have hEs : E ≤ (w3.setRow V C).heap.size := by rw [size_setRow]; exact hEl
        clear ZB LR ht O JS
        generalize (w3.setRow _ _ : World) = w4 at K0 Mb hEs hH M G3 HH ⊢
        refine wpAnyE_end (i := 18) (by kernel_rfl) (by simp only [List.getElem?_toArray, List.getElem?_cons_succ, List.getElem?_cons_zero]; rfl) (by kernel_rfl) (fun K hK => ?_)
        go_simp
        refine hK.out _ _ ⟨K0.v0.box, K0.v1.box, K0.st⟩ ?_
        clear hK K hH
        try simp only [Act.put, List.setIfInBounds_toArray, List.set_cons_zero, List.set_cons_succ]
        go_wp2_with fail
        go_meet
        exact ⟨V, C, _, rfl, rfl, Mb, K0, M, G3⟩
    · skip
      go_simp
      have hV := HH.le
      have hn := bel_alloc w3 (.cells #[.slice none 0 0, .slice none 0 0] 29)
      replace K0 := K0.later hn
      replace M := M.later (keepsJ rr) hn
      replace G3 := G3.later (keepsLJ r') hn
      replace HH := HH.later () hn
      have ZB := Box.new w3 29 #[.slice none 0 0, .slice none 0 0]
      clear hn
      generalize (w3.alloc _ : World) = w4 at K0 M G3 HH ZB ⊢
      generalize w3.heap.size = V at hV ZB ⊢
      obtain ⟨w3, rfl⟩ : ∃ x, x = w4 := ⟨_, rfl⟩
      clear hH
      refine hK.out _ _ ⟨K0.v0.box, K0.v1.box, K0.st⟩ (fun hH => ?_)
      clear hK K
      try simp only [Act.put, List.setIfInBounds_toArray, List.set_cons_zero, List.set_cons_succ]
      refine wpAnyE_one (i := 1) (by kernel_rfl) (by simp only [List.getElem?_toArray, List.getElem?_cons_succ, List.getElem?_cons_zero]; rfl) (fun K hK => ?_)
      go_simp
      refine (to_G K0.v0.dat hz0).mono ?_
      rintro e w4 ⟨D0, rfl, L0, hb⟩
      replace K0 := K0.later hb
      replace M := M.later (keepsJ rr) hb
      replace G3 := G3.later (keepsLJ r') hb
      replace HH := HH.later () hb
      replace ZB := ZB.later hb ZB.lt
      clear hb
      obtain ⟨w3, rfl⟩ : ∃ x, x = w4 := ⟨_, rfl⟩
      clear hH
      refine hK.out _ _ ⟨K0.v0.box, K0.v1.box, K0.st⟩ (fun hH => ?_)
      clear hK K
      try simp only [Act.put, List.setIfInBounds_toArray, List.set_cons_zero, List.set_cons_succ]
      refine wpAnyE_one (i := 3) (by kernel_rfl) (by simp only [List.getElem?_toArray, List.getElem?_cons_succ, List.getElem?_cons_zero]; rfl) (fun K hK => ?_)
      go_simp
      refine (to_J K0.v1.dat hz1).mono ?_
      rintro e w4 ⟨D1, rfl, L1, hb⟩
      replace K0 := K0.later hb
      replace M := M.later (keepsJ rr) hb
      replace G3 := G3.later (keepsLJ r') hb
      replace HH := HH.later () hb
      replace L0 := (keepsLG d0).later L0 hb
      replace ZB := ZB.later hb ZB.lt
      clear hb
      obtain ⟨w3, rfl⟩ : ∃ x, x = w4 := ⟨_, rfl⟩
      clear hH
      refine hK.out _ _ ⟨K0.v0.box, K0.v1.box, K0.st⟩ (fun hH => ?_)
      clear hK K
      try simp only [Act.put, List.setIfInBounds_toArray, List.set_cons_zero, List.set_cons_succ]
      refine wpAnyE_one (i := 8) (by kernel_rfl) (by simp only [List.getElem?_toArray, List.getElem?_cons_succ, List.getElem?_cons_zero]; rfl) (fun K hK => ?_)
      go_simp
      refine (toStamp_any t1 t2 w3).mono ?_
      rintro e w4 ⟨rfl, hb⟩
      replace K0 := K0.later hb
      replace M := M.later (keepsJ rr) hb
      replace G3 := G3.later (keepsLJ r') hb
      replace HH := HH.later () hb
      replace L0 := (keepsLG d0).later L0 hb
      replace L1 := (keepsLJ d1).later L1 hb
      replace ZB := ZB.later hb ZB.lt
      clear hb
      obtain ⟨w3, rfl⟩ : ∃ x, x = w4 := ⟨_, rfl⟩
      clear hH
      refine hK.out _ _ ⟨K0.v0.box, K0.v1.box, K0.st⟩ (fun hH => ?_)
      clear hK K
      try simp only [Act.put, List.setIfInBounds_toArray, List.set_cons_zero, List.set_cons_succ]
      refine wpAnyE_one (i := 11) (by kernel_rfl) (by simp only [List.getElem?_toArray, List.getElem?_cons_succ, List.getElem?_cons_zero]; rfl) (fun K hK => ?_)
      go_simp
      refine (toSeals_any A7 n7 c7 ps w3 hz7 K0.l2.1).mono ?_
      rintro e w4 ⟨gs, -, rfl, -, LH, hb⟩
      replace K0 := K0.later hb
      replace M := M.later (keepsJ rr) hb
      replace G3 := G3.later (keepsLJ r') hb
      replace HH := HH.later () hb
      replace L0 := (keepsLG d0).later L0 hb
      replace L1 := (keepsLJ d1).later L1 hb
      replace ZB := ZB.later hb ZB.lt
      clear hb
      obtain ⟨w3, rfl⟩ : ∃ x, x = w4 := ⟨_, rfl⟩
      clear hH
      refine hK.out _ _ ⟨K0.v0.box, K0.v1.box, K0.st⟩ (fun hH => ?_)
      clear hK K
      try simp only [Act.put, List.setIfInBounds_toArray, List.set_cons_zero, List.set_cons_succ]
      refine wpAnyE_one (i := 12) (by kernel_rfl) (by simp only [List.getElem?_toArray, List.getElem?_cons_succ, List.getElem?_cons_zero]; rfl) (fun K hK => ?_)
      go_simp
      have hVS := ZB.lt
      refine (noted8_is kd sh cl t1 t2 v L0 L1 ⟨LH⟩ HPL.out hsum HZ.out).mono ?_
      rintro e w4 ⟨C, rfl, LR, hb⟩
      replace K0 := K0.later hb
      replace M := M.later (keepsJ rr) hb
      replace G3 := G3.later (keepsLJ r') hb
      replace HH := HH.later () hb
      replace ZB := ZB.later hb ZB.lt
      generalize w3.heap.size = S at LR hVS
      obtain ⟨E, hE⟩ : ∃ E, w4.heap.size = E := ⟨_, rfl⟩
      rw [hE] at LR
      have hEl : E ≤ w4.heap.size := Nat.le_of_eq hE.symm
      clear hE
      have hF : ¬ Iv S E V := iv_not (.inl hVS)
      clear hVS
      clear hb L0 L1 LH
      obtain ⟨w3, rfl⟩ : ∃ x, x = w4 := ⟨_, rfl⟩
      clear hH
      refine hK.out _ _ ⟨K0.v0.box, K0.v1.box, K0.st⟩ (fun hH => ?_)
      clear hK K
      try simp only [Act.put, List.setIfInBounds_toArray, List.set_cons_zero, List.set_cons_succ]
      refine wpAnyE_pure (i := 13) (v := ?vbl5p13) (by simp only [List.getElem?_toArray, List.getElem?_cons_succ, List.getElem?_cons_zero]; rfl) (by kernel_rfl) (by kernel_rfl) (by kernel_rfl) (by exact fun _ _ _ h => h) (by kernel_rfl) (Or.inl ⟨by rfl, ?ybl5p13⟩) hH ?rbl5p13
      case ybl5p13 => (intro w' hSw; (try dsimp only at hSw); go_simp; try with_reducible rfl)
      try simp only [Act.put, List.setIfInBounds_toArray, List.set_cons_zero, List.set_cons_succ]
      refine wpAnyE_pure (i := 14) (v := ?vbl5p14) (by simp only [List.getElem?_toArray, List.getElem?_cons_succ, List.getElem?_cons_zero]; rfl) (by kernel_rfl) (by kernel_rfl) (by kernel_rfl) (by exact fun _ _ _ h => h) (by kernel_rfl) (Or.inl ⟨by rfl, ?ybl5p14⟩) hH ?rbl5p14
      case ybl5p14 => (intro w' hSw; (try dsimp only at hSw); go_simp; try with_reducible rfl)
      try simp only [Act.put, List.setIfInBounds_toArray, List.set_cons_zero, List.set_cons_succ]
      refine wpAnyE_pure (i := 15) (v := ?vbl5p15) (by simp only [List.getElem?_toArray, List.getElem?_cons_succ, List.getElem?_cons_zero]; rfl) (by kernel_rfl) (by kernel_rfl) (by kernel_rfl) (by exact fun _ _ _ h => h) (by kernel_rfl) (Or.inl ⟨by rfl, ?ybl5p15⟩) hH ?rbl5p15
      case ybl5p15 => (intro w' hSw; (try dsimp only at hSw); go_simp; try with_reducible rfl)
      try simp only [Act.put, List.setIfInBounds_toArray, List.set_cons_zero, List.set_cons_succ]
      refine wpAnyE_one (i := 17) (by kernel_rfl) (by simp only [List.getElem?_toArray, List.getElem?_cons_succ, List.getElem?_cons_zero]; rfl) (fun K hK => ?_)
      rw [if_pos (by first | rfl | kernel_rfl | simp [Region.wanted, yielded])]
      have O := Lib.hid (oneJ LR.at)
      have JS := Lib.hid (sizeJ LR.at).2
      have ht := turns_setRow w3 V C
      have Mb := VarOf.put (keepsJ rr) ZB LR.at hF
      replace K0 := K0.turn ht (fun b hb => by omega)
      replace M := M.turn (keepsJ rr) ht (by omega) (fun b hb e => by have h1 := hFM b hb; have e : b = V := e; omega)
      replace G3 := G3.turn (keepsLJ r') ht (by omega) (fun b hb e => by have h1 := hb.2; have e : b = V := e; omega)
      replace HH := HH.turn () ht 
      clear hH
      refine wp_store_row 29 _ _ rfl V _ rfl rfl 29 #[.slice none 0 0, .slice none 0 0] ZB JS.out O.out.1.symm O.out.2 ?_
      refine hK.out _ _ ⟨K0.v0.box, K0.v1.box, K0.st⟩ (fun hH => ?_)
      clear hK K
      try simp only [Act.put]
      have hEs : E ≤ (w3.setRow V C).heap.size := by rw [size_setRow]; exact hEl
      clear ZB LR ht O JS
      generalize (w3.setRow _ _ : World) = w4 at K0 Mb hEs hH M G3 HH ⊢
      refine wpAnyE_end (i := 18) (by kernel_rfl) (by simp only [List.getElem?_toArray, List.getElem?_cons_succ, List.getElem?_cons_zero]; rfl) (by kernel_rfl) (fun K hK => ?_)
      go_simp
      refine hK.out _ _ ⟨K0.v0.box, K0.v1.box, K0.st⟩ ?_
      clear hK K hH
      try simp only [Act.put, List.setIfInBounds_toArray, List.set_cons_zero, List.set_cons_succ]
      go_wp2_with fail
      go_meet
      exact ⟨V, C, _, rfl, rfl, Mb, K0, M, G3⟩
  case rest =>
  clear K0 M G3 HH
  obtain ⟨VH, CH, FH, rfl, rfl, H, K0, M, G2⟩ := hcut
  obtain ⟨w1, rfl⟩ : ∃ x, x = wc := ⟨_, rfl⟩
  have JH := Lib.hid (sizeJ H.dat).2
  go_wp2_with (first | (refine wpList_load_box 29 _ rfl (VH) rfl 29 CH H.box _ Tryz.underlying29 rfl JH.out (by first | rfl | simp [Region.wanted, yielded] | (simp [Region.wanted, yielded, Act.put] <;> omega)) ?_) | (refine wpList_load_box 29 _ rfl (VM) rfl 29 CM M.box _ Tryz.underlying29 rfl JM.out (by first | rfl | simp [Region.wanted, yielded] | (simp [Region.wanted, yielded, Act.put] <;> omega)) ?_))
  refine (eq_J H.dat M.dat hq).mono ?_
  rintro e w2 ⟨rfl, hb⟩
  replace K0 := K0.later hb
  replace M := M.later (keepsJ rr) hb
  replace G2 := G2.later (keepsLJ r') hb
  clear hb H
  obtain ⟨w1, rfl⟩ : ∃ x, x = w2 := ⟨_, rfl⟩
  go_wp2_with (refine wpList_load_box 29 _ rfl (VG) rfl 29 CG G2.box _ Tryz.underlying29 rfl JG.out (by first | rfl | simp [Region.wanted, yielded] | (simp [Region.wanted, yielded, Act.put] <;> omega)) ?_)
  refine (held_J (k := 1) G2.dat HM.out FIT.out (by omega) (by omega)).mono ?_
  rintro e w2 ⟨rfl, hb⟩
  have E := (K0.later hb).bel
  clear K0 M G2 hb
  go_wp2
  go_ret
  exact ⟨rfl, E⟩

end Go.Proofs.YtjdepjpjjgkmbaaGreat

/- A struct of one-cell fields that comes in is read field by field; two facts of the program's own; no conditions. -/
namespace Go.Proofs.YtjdepjpjjgkmbaaGreat
open Go.ChangeShapes Go.WideShapes Go.ChangeAt Go.RowKit Go.Deep
set_option linter.unusedVariables false

/-- A struct of one-cell fields, by value: its cells, each with its own reading. -/
theorem one_fields {H : Type} {enc : TypeId × Value → H} {P : Program} {W : World} {r : Reach} {b0 : Nat} {t : TypeId} {fs : Array Field} {v : Value} {d : DataW H} {p : List MemPlace} (hs : P.underlying t = some (.struct fs)) (hone : oneCellFields P fs = true) (hC : P.cellsOf t = fs.size)
    (hv : Value.okWide P W r b0 t v) (h : DataW.Trod enc P W 0 (fun _ => true) true t v d p) :
    ∃ (l : List Value) (m : Nat), v = .agg l.toArray ∧ l.length = fs.size ∧ ∀ (i : Nat) (f : Field) (u : Value), fs[i]? = some f → l[i]? = some u → ∃ y, DataW.trod enc P W 0 (fun _ => true) true m f.type [u] = some y := by
  obtain ⟨cs, rfl, hsz⟩ := okWide_struct hs hv
  obtain ⟨fuel, hf⟩ := h
  obtain ⟨xs, m, _, _, _, hxl, hg⟩ := DataW.trod_struct hs hf
  obtain ⟨l⟩ := cs
  refine ⟨l, m, rfl, by simpa using hsz.trans hC, fun i f u hi hu => ?_⟩
  have h1 := hg i f hi
  obtain ⟨ho, hk⟩ := hone_of hone i f hi
  rw [ho, hk] at h1
  have e : ((Value.agg (List.toArray l)).cells.toList.drop i).take 1 = [u] := by
    show (l.drop i).take 1 = [u]
    rw [List.take_one, List.head?_drop, hu]
    rfl
  rw [e] at h1
  have hlt : i < xs.length := by rw [hxl]; exact (Array.getElem?_eq_some_iff.1 hi).1
  exact ⟨_, h1.trans (List.getElem?_eq_getElem hlt)⟩

/-- Whatever struct, its cells laid out: each field's own cells with their own reading. -/
theorem sub_fields {H : Type} {enc : TypeId × Value → H} {P : Program} {W : World} {t : TypeId} {fs : Array Field} {fuel : Nat} {cs : List Value} {x : DataW H × List MemPlace} (hs : P.underlying t = some (.struct fs)) (h : DataW.trod enc P W 0 (fun _ => true) true fuel t cs = some x) :
    ∃ m, ∀ (i : Nat) (f : Field), fs[i]? = some f → ∃ y, DataW.trod enc P W 0 (fun _ => true) true m f.type ((cs.drop f.offset).take (P.cellsOf f.type)) = some y := by
  obtain ⟨xs, m, _, _, _, hxl, hg⟩ := DataW.trod_struct hs h
  refine ⟨m, fun i f hi => ?_⟩
  have h1 := hg i f hi
  have hlt : i < xs.length := by rw [hxl]; exact (Array.getElem?_eq_some_iff.1 hi).1
  exact ⟨_, h1.trans (List.getElem?_eq_getElem hlt)⟩

theorem own : ownKnob Tryz.prog.godebug = none := by kernel_rfl
theorem laidOut : laidOutB Tryz.prog = true := by kernel_rfl

end Go.Proofs.YtjdepjpjjgkmbaaGreat

/- A group that comes in is read as four numbers and a row of keys. -/
namespace Go.Proofs.YtjdepjpjjgkmbaaGreat
set_option maxRecDepth 100000
open Go.ChangeShapes Go.WideShapes Go.ChangeAt Go.RowKit Go.Deep
set_option linter.unusedVariables false

/-- What the reading of a group that came in tells: its four numbers, and its keys as a row. -/
theorem group_read {H : Type} {enc : TypeId × Value → H} {W : World} {r : Reach} {b0 : Nat} {v : Value} {d : DataW H} {p : List MemPlace} (hv : Value.okWide Tryz.prog W r b0 47 v) (h : DataW.Trod enc Tryz.prog W 0 (fun _ => true) true 47 v d p) :
    ∃ (s l c sh : Int) (A : Option Addr) (n cap : Nat) (zs : List Int), v = .agg #[.int .i64 s, .int .i64 l, .int .i64 c, .int .i64 sh, .slice A n cap] ∧ Row W W.heap.size A n zs ∧ n ≤ maxLen := by
  obtain ⟨l0, m, rfl, h5, get⟩ := one_fields Tryz.underlying47 (by kernel_rfl) (by kernel_rfl) hv h
  have h5 : l0.length = 5 := h5
  obtain ⟨c0, l1, rfl⟩ : ∃ c0 l1, l0 = c0 :: l1 := List.exists_cons_of_length_pos (by omega)
  obtain ⟨c1, l2, rfl⟩ : ∃ c0 l2, l1 = c0 :: l2 := List.exists_cons_of_length_pos (by simp only [List.length_cons] at h5; omega)
  obtain ⟨c2, l3, rfl⟩ : ∃ c0 l3, l2 = c0 :: l3 := List.exists_cons_of_length_pos (by simp only [List.length_cons] at h5; omega)
  obtain ⟨c3, l4, rfl⟩ : ∃ c0 l4, l3 = c0 :: l4 := List.exists_cons_of_length_pos (by simp only [List.length_cons] at h5; omega)
  obtain ⟨c4, l5, rfl⟩ : ∃ c0 l5, l4 = c0 :: l5 := List.exists_cons_of_length_pos (by simp only [List.length_cons] at h5; omega)
  obtain rfl : l5 = [] := List.eq_nil_of_length_eq_zero (by simp only [List.length_cons] at h5; omega)
  obtain ⟨y0, g0⟩ := get 0 _ _ rfl rfl
  obtain ⟨y1, g1⟩ := get 1 _ _ rfl rfl
  obtain ⟨y2, g2⟩ := get 2 _ _ rfl rfl
  obtain ⟨y3, g3⟩ := get 3 _ _ rfl rfl
  obtain ⟨y4, g4⟩ := get 4 _ _ rfl rfl
  obtain ⟨s, e0, _, _⟩ := DataW.trod_int Tryz.underlying2 g0
  obtain ⟨l, e1, _, _⟩ := DataW.trod_int Tryz.underlying2 g1
  obtain ⟨c, e2, _, _⟩ := DataW.trod_int Tryz.underlying2 g2
  obtain ⟨sh, e3, _, _⟩ := DataW.trod_int Tryz.underlying2 g3
  simp only [List.cons.injEq, and_true] at e0 e1 e2 e3
  subst e0 e1 e2 e3
  rcases open_ints Tryz.underlying24 Tryz.underlying2 (by kernel_rfl) g4 with ⟨e4, _⟩ | ⟨a, len, cap, zs, e4, _, hl, hm, hz, _, hcell, _⟩
  · simp only [List.cons.injEq, and_true] at e4
    subst e4
    exact ⟨s, l, c, sh, none, 0, 0, [], rfl, ⟨rfl, fun h => absurd h (by omega)⟩, by unfold maxLen; omega⟩
  · simp only [List.cons.injEq, and_true] at e4
    subst e4
    have hzc : zs.length = cap := by simpa using hz
    refine ⟨s, l, c, sh, some a, len, cap, zs.take len, rfl, ⟨by rw [List.length_take]; omega, fun hn => ?_⟩, by omega⟩
    obtain ⟨b, o, spot⟩ := a
    have hc0 := hcell 0 (by omega)
    have hs : spot = none := by simpa [Addr.add] using World.cell?_spot hc0
    subst hs
    refine ⟨b, o, rfl, ?_, fun i hi => ?_⟩
    · have := block_lt_of_cell hc0
      simpa [Addr.add] using this
    · have hci := hcell i (by omega)
      have ea : (⟨b, o, none⟩ : Addr).add i = ⟨b, o + i, none⟩ := by
        unfold Addr.add
        split
        · simp_all
        · rfl
      rw [ea] at hci
      rw [hci]
      have : nth (zs.take len) i = zs.getD i 0 := by simp [nth, hi]
      rw [this]

end Go.Proofs.YtjdepjpjjgkmbaaGreat

/- A stamp that comes in is read as two numbers, a list of stamps as a list of pairs; no conditions. -/
namespace Go.Proofs.YtjdepjpjjgkmbaaGreat
set_option maxRecDepth 100000
open Go.ChangeShapes Go.WideShapes Go.ChangeAt Go.RowKit Go.Deep
set_option linter.unusedVariables false

/-- What the reading of a stamp that came in tells: its two numbers. -/
theorem stamp_read {H : Type} {enc : TypeId × Value → H} {W : World} {r : Reach} {b0 : Nat} {v : Value} {d : DataW H} {p : List MemPlace} (hv : Value.okWide Tryz.prog W r b0 57 v) (h : DataW.Trod enc Tryz.prog W 0 (fun _ => true) true 57 v d p) :
    ∃ (c k : Int), v = .agg #[.int .i64 c, .int .i64 k] := by
  obtain ⟨l0, m, rfl, h5, get⟩ := one_fields Tryz.underlying57 (by kernel_rfl) (by kernel_rfl) hv h
  have h5 : l0.length = 2 := h5
  obtain ⟨c0, l1, rfl⟩ : ∃ c0 l1, l0 = c0 :: l1 := List.exists_cons_of_length_pos (by omega)
  obtain ⟨c1, l2, rfl⟩ : ∃ c0 l2, l1 = c0 :: l2 := List.exists_cons_of_length_pos (by simp only [List.length_cons] at h5; omega)
  obtain rfl : l2 = [] := List.eq_nil_of_length_eq_zero (by simp only [List.length_cons] at h5; omega)
  obtain ⟨y0, g0⟩ := get 0 _ _ rfl rfl
  obtain ⟨y1, g1⟩ := get 1 _ _ rfl rfl
  obtain ⟨s, e0, _, _⟩ := DataW.trod_int Tryz.underlying2 g0
  obtain ⟨l, e1, _, _⟩ := DataW.trod_int Tryz.underlying2 g1
  simp only [List.cons.injEq, and_true] at e0 e1
  subst e0 e1
  exact ⟨s, l, rfl⟩

/-- The number that a value is. -/
def intV : Value → Int
  | .int _ z => z
  | _ => 0

/-- What the reading of a slice of structs of two int64 tells: a list of pairs. -/
theorem pairs_of {H : Type} {enc : TypeId × Value → H} {P : Program} {W : World} {t e : TypeId} {f0 f1 : Field} {fuel : Nat} {v : Value} {x : DataW H × List MemPlace} (ht : P.underlying t = some (.slice e)) (he : P.underlying e = some (.struct #[f0, f1]))
    (ce : P.cellsOf e = 2) (o0 : f0.offset = 0) (o1 : f1.offset = 1) (c0 : P.cellsOf f0.type = 1) (c1 : P.cellsOf f1.type = 1) (u0 : P.underlying f0.type = some (.int .i64)) (u1 : P.underlying f1.type = some (.int .i64))
    (h : DataW.trod enc P W 0 (fun _ => true) true fuel t [v] = some x) :
    ∃ (A : Option Addr) (n cap : Nat) (ps : List (Int × Int)), v = .slice A n cap ∧ Pairs W W.heap.size A n ps ∧ n ≤ maxLen := by
  rcases open_slice_pairs ht he ce o0 o1 c0 c1 h with ⟨e4, _⟩ | ⟨a, len, cap, m, n, V0, V1, D0, D1, P0, P1, e4, _, hl, hm, hmm, _, hc⟩
  · simp only [List.cons.injEq, and_true] at e4
    subst e4
    exact ⟨none, 0, 0, [], rfl, ⟨rfl, fun h => absurd h (by omega)⟩, by unfold maxLen; omega⟩
  · simp only [List.cons.injEq, and_true] at e4
    subst e4
    have hmm : m = cap := by simpa using hmm
    refine ⟨some a, len, cap, (List.range len).map fun i => (intV (V0 i), intV (V1 i)), rfl, ⟨by simp, fun hn => ?_⟩, by omega⟩
    obtain ⟨b, o, spot⟩ := a
    have hs : spot = none := by
      have := (hc 0 (by omega)).1
      simpa [Addr.add] using World.cell?_spot this
    subst hs
    have ea : ∀ i, (⟨b, o, none⟩ : Addr).add i = ⟨b, o + i, none⟩ := fun i => by
      unfold Addr.add
      split
      · simp_all
      · rfl
    refine ⟨b, o, rfl, ?_, fun i hi => ?_⟩
    · have := block_lt_of_cell (hc 0 (by omega)).1
      rw [ea] at this
      exact this
    · obtain ⟨h0, h1, t0, t1⟩ := hc i (by omega)
      obtain ⟨z0, e0, _, _⟩ := DataW.trod_int u0 t0
      obtain ⟨z1, e1, _, _⟩ := DataW.trod_int u1 t1
      simp only [List.cons.injEq, and_true] at e0 e1
      rw [ea] at h0 h1
      have ep : pth ((List.range len).map fun i => (intV (V0 i), intV (V1 i))) i = (intV (V0 i), intV (V1 i)) := by simp [pth, hi]
      rw [ep, h0, show o + i * 2 + 1 = o + (i * 2 + 1) by omega, h1, e0, e1]
      exact ⟨rfl, rfl⟩

end Go.Proofs.YtjdepjpjjgkmbaaGreat

/- A list of seals that comes in is read as a list of pairs. -/
namespace Go.Proofs.YtjdepjpjjgkmbaaGreat
set_option maxRecDepth 100000
open Go.ChangeShapes Go.WideShapes Go.ChangeAt Go.RowKit Go.Deep

theorem seals_read {H : Type} {enc : TypeId × Value → H} {W : World} {r : Reach} {b0 : Nat} {v : Value} {d : DataW H} {p : List MemPlace} (hv : Value.okWide Tryz.prog W r b0 58 v) (h : DataW.Trod enc Tryz.prog W 0 (fun _ => true) true 58 v d p) :
    ∃ (A : Option Addr) (n cap : Nat) (ps : List (Int × Int)), v = .slice A n cap ∧ Pairs W W.heap.size A n ps ∧ n ≤ maxLen := by
  obtain ⟨a0, len0, cap0, rfl⟩ := okWide_slice Tryz.underlying58 hv
  obtain ⟨fuel, hf⟩ := h
  exact pairs_of Tryz.underlying58 Tryz.underlying138 (by kernel_rfl) rfl rfl (by kernel_rfl) (by kernel_rfl) Tryz.underlying2 Tryz.underlying2 hf

end Go.Proofs.YtjdepjpjjgkmbaaGreat

/- A claim that comes in is read as five numbers, a seal as two. -/
namespace Go.Proofs.YtjdepjpjjgkmbaaGreat
set_option maxRecDepth 100000
open Go.ChangeShapes Go.WideShapes Go.ChangeAt Go.RowKit Go.Deep
set_option linter.unusedVariables false

theorem cells_int : Tryz.prog.cellsOf 2 = 1 := by kernel_rfl
theorem cells_stamp : Tryz.prog.cellsOf 57 = 2 := by kernel_rfl
end Go.Proofs.YtjdepjpjjgkmbaaGreat

/- A note that comes in is read as fourteen numbers and two lists of pairs. -/
namespace Go.Proofs.YtjdepjpjjgkmbaaGreat
set_option maxRecDepth 100000
open Go.ChangeShapes Go.WideShapes Go.ChangeAt Go.RowKit Go.Deep
set_option linter.unusedVariables false

/-- One number, read. -/
theorem int_of {H : Type} {enc : TypeId × Value → H} {W : World} {m : Nat} {x : Value} {y : DataW H × List MemPlace} (h : DataW.trod enc Tryz.prog W 0 (fun _ => true) true m 2 [x] = some y) : ∃ z : Int, x = .int .i64 z := by
  obtain ⟨z, e, _, _⟩ := DataW.trod_int Tryz.underlying2 h
  simp only [List.cons.injEq, and_true] at e
  exact ⟨z, e⟩
/-- A stamp's two cells, read. -/
theorem two_of {H : Type} {enc : TypeId × Value → H} {W : World} {m : Nat} {x x' : Value} {y : DataW H × List MemPlace} (h : DataW.trod enc Tryz.prog W 0 (fun _ => true) true m 57 [x, x'] = some y) : ∃ z z' : Int, x = .int .i64 z ∧ x' = .int .i64 z' := by
  obtain ⟨m', get'⟩ := sub_fields Tryz.underlying57 h
  obtain ⟨z0, k0⟩ := get' 0 _ rfl
  obtain ⟨z1, k1⟩ := get' 1 _ rfl
  have k0 : DataW.trod enc Tryz.prog W 0 (fun _ => true) true m' 2 (List.take (Tryz.prog.cellsOf 2) (List.drop 0 [x, x'])) = some z0 := k0
  rw [cells_int] at k0
  have k1 : DataW.trod enc Tryz.prog W 0 (fun _ => true) true m' 2 (List.take (Tryz.prog.cellsOf 2) (List.drop 1 [x, x'])) = some z1 := k1
  rw [cells_int] at k1
  obtain ⟨a, ha⟩ := int_of (show DataW.trod enc Tryz.prog W 0 (fun _ => true) true m' 2 [x] = some z0 from k0)
  obtain ⟨b, hb⟩ := int_of (show DataW.trod enc Tryz.prog W 0 (fun _ => true) true m' 2 [x'] = some z1 from k1)
  exact ⟨a, b, ha, hb⟩

end Go.Proofs.YtjdepjpjjgkmbaaGreat

/- A record that comes in is read as eight numbers and a list of pairs; no conditions. -/
namespace Go.Proofs.YtjdepjpjjgkmbaaGreat
set_option maxRecDepth 100000
open Go.ChangeShapes Go.WideShapes Go.ChangeAt Go.RowKit Go.Deep
set_option linter.unusedVariables false

theorem cells_sealsR : Tryz.prog.cellsOf 58 = 1 := by kernel_rfl
theorem cells_rec : Tryz.prog.cellsOf 188 = 9 := by kernel_rfl

/-- A record's nine cells, read. -/
theorem nine_of {H : Type} {enc : TypeId × Value → H} {W : World} {m : Nat} {c0 c1 c2 c3 c4 c5 c6 c7 c8 : Value} {y : DataW H × List MemPlace} (h : DataW.trod enc Tryz.prog W 0 (fun _ => true) true m 188 [c0, c1, c2, c3, c4, c5, c6, c7, c8] = some y) :
    ∃ (r1 r2 r3 r4 r5 r6 r7 : Int) (L : Option Addr) (n mc : Nat) (r8 : Int) (ps : List (Int × Int)), c0 = .int .i64 r1 ∧ c1 = .int .i64 r2 ∧ c2 = .int .i64 r3 ∧ c3 = .int .i64 r4 ∧ c4 = .int .i64 r5 ∧ c5 = .int .i64 r6 ∧ c6 = .int .i64 r7 ∧ c7 = .slice L n mc ∧ c8 = .int .i64 r8 ∧ Pairs W W.heap.size L n ps ∧ n ≤ maxLen := by
  obtain ⟨m', get⟩ := sub_fields Tryz.underlying188 h
  obtain ⟨z0, g0⟩ := get 0 _ rfl
  have g0 : DataW.trod enc Tryz.prog W 0 (fun _ => true) true m' 2 (List.take (Tryz.prog.cellsOf 2) (List.drop 0 [c0, c1, c2, c3, c4, c5, c6, c7, c8])) = some z0 := g0
  rw [cells_int] at g0
  obtain ⟨z1, g1⟩ := get 1 _ rfl
  have g1 : DataW.trod enc Tryz.prog W 0 (fun _ => true) true m' 2 (List.take (Tryz.prog.cellsOf 2) (List.drop 1 [c0, c1, c2, c3, c4, c5, c6, c7, c8])) = some z1 := g1
  rw [cells_int] at g1
  obtain ⟨z2, g2⟩ := get 2 _ rfl
  have g2 : DataW.trod enc Tryz.prog W 0 (fun _ => true) true m' 2 (List.take (Tryz.prog.cellsOf 2) (List.drop 2 [c0, c1, c2, c3, c4, c5, c6, c7, c8])) = some z2 := g2
  rw [cells_int] at g2
  obtain ⟨z3, g3⟩ := get 3 _ rfl
  have g3 : DataW.trod enc Tryz.prog W 0 (fun _ => true) true m' 2 (List.take (Tryz.prog.cellsOf 2) (List.drop 3 [c0, c1, c2, c3, c4, c5, c6, c7, c8])) = some z3 := g3
  rw [cells_int] at g3
  obtain ⟨z4, g4⟩ := get 4 _ rfl
  have g4 : DataW.trod enc Tryz.prog W 0 (fun _ => true) true m' 57 (List.take (Tryz.prog.cellsOf 57) (List.drop 4 [c0, c1, c2, c3, c4, c5, c6, c7, c8])) = some z4 := g4
  rw [cells_stamp] at g4
  obtain ⟨z5, g5⟩ := get 5 _ rfl
  have g5 : DataW.trod enc Tryz.prog W 0 (fun _ => true) true m' 2 (List.take (Tryz.prog.cellsOf 2) (List.drop 6 [c0, c1, c2, c3, c4, c5, c6, c7, c8])) = some z5 := g5
  rw [cells_int] at g5
  obtain ⟨z6, g6⟩ := get 6 _ rfl
  have g6 : DataW.trod enc Tryz.prog W 0 (fun _ => true) true m' 58 (List.take (Tryz.prog.cellsOf 58) (List.drop 7 [c0, c1, c2, c3, c4, c5, c6, c7, c8])) = some z6 := g6
  rw [cells_sealsR] at g6
  obtain ⟨z7, g7⟩ := get 7 _ rfl
  have g7 : DataW.trod enc Tryz.prog W 0 (fun _ => true) true m' 2 (List.take (Tryz.prog.cellsOf 2) (List.drop 8 [c0, c1, c2, c3, c4, c5, c6, c7, c8])) = some z7 := g7
  rw [cells_int] at g7
  obtain ⟨r1, rfl⟩ := int_of (show DataW.trod enc Tryz.prog W 0 (fun _ => true) true m' 2 [c0] = some z0 from g0)
  obtain ⟨r2, rfl⟩ := int_of (show DataW.trod enc Tryz.prog W 0 (fun _ => true) true m' 2 [c1] = some z1 from g1)
  obtain ⟨r3, rfl⟩ := int_of (show DataW.trod enc Tryz.prog W 0 (fun _ => true) true m' 2 [c2] = some z2 from g2)
  obtain ⟨r4, rfl⟩ := int_of (show DataW.trod enc Tryz.prog W 0 (fun _ => true) true m' 2 [c3] = some z3 from g3)
  obtain ⟨r5, r6, rfl, rfl⟩ := two_of (show DataW.trod enc Tryz.prog W 0 (fun _ => true) true m' 57 [c4, c5] = some z4 from g4)
  obtain ⟨r7, rfl⟩ := int_of (show DataW.trod enc Tryz.prog W 0 (fun _ => true) true m' 2 [c6] = some z5 from g5)
  obtain ⟨L, n, mc, ps, rfl, hp, hm⟩ := pairs_of Tryz.underlying58 Tryz.underlying138 (by kernel_rfl) rfl rfl (by kernel_rfl) (by kernel_rfl) Tryz.underlying2 Tryz.underlying2 (show DataW.trod enc Tryz.prog W 0 (fun _ => true) true m' 58 [c7] = some z6 from g6)
  obtain ⟨r8, rfl⟩ := int_of (show DataW.trod enc Tryz.prog W 0 (fun _ => true) true m' 2 [c8] = some z7 from g7)
  exact ⟨r1, r2, r3, r4, r5, r6, r7, L, n, mc, r8, ps, rfl, rfl, rfl, rfl, rfl, rfl, rfl, rfl, rfl, hp, hm⟩

end Go.Proofs.YtjdepjpjjgkmbaaGreat

/- An open that comes in is read as four numbers, a list of opens as a list of them, a shelf as three numbers and two lists; no conditions. -/
namespace Go.Proofs.YtjdepjpjjgkmbaaGreat
set_option maxRecDepth 100000
open Go.ChangeShapes Go.WideShapes Go.ChangeAt Go.RowKit Go.Deep
set_option linter.unusedVariables false

end Go.Proofs.YtjdepjpjjgkmbaaGreat

/- A list of records that comes in is read as a list of records, each with its list of pairs; no conditions. -/
namespace Go.Proofs.YtjdepjpjjgkmbaaGreat
set_option maxRecDepth 100000
open Go.ChangeShapes Go.WideShapes Go.ChangeAt Go.RowKit Go.Deep
set_option linter.unusedVariables false

theorem recs_of {H : Type} {enc : TypeId × Value → H} {W : World} {fuel : Nat} {v : Value} {x : DataW H × List MemPlace} (h : DataW.trod enc Tryz.prog W 0 (fun _ => true) true fuel 48 [v] = some x) :
    ∃ (A : Option Addr) (n cap : Nat) (ds : List RecD), v = .slice A n cap ∧ RecsF ds W (· < W.heap.size) A n ∧ n ≤ maxLen := by
  rcases open_slice Tryz.underlying48 h with ⟨e4, _⟩ | ⟨a, len, cap, m, n, D, Pl, e4, _, hl, hm, hmm, _, hx⟩
  · simp only [List.cons.injEq, and_true] at e4
    subst e4
    exact ⟨none, 0, 0, [], rfl, ⟨rfl, fun h => absurd h (by omega)⟩, by unfold maxLen; omega⟩
  · simp only [List.cons.injEq, and_true] at e4
    subst e4
    have hmm : m = cap := by simpa using hmm
    have each : ∀ i, i < len → ∃ q : RecD × Option Addr × Nat × Nat, (∀ j v, (q.1.cells (.slice q.2.1 q.2.2.1 q.2.2.2))[j]? = some v → W.cell? (a.add (i * 9 + j)) = some v) ∧ PairsF W (· < W.heap.size) q.2.1 q.2.2.1 q.1.ps ∧ q.2.2.1 ≤ maxLen := by
      intro i hi
      obtain ⟨cs', h1, h2⟩ := hx i (by omega)
      rw [cells_rec] at h1
      obtain ⟨_, hlen, hcell⟩ := World.cells?_some h1
      match cs', hlen with
      | [c0, c1, c2, c3, c4, c5, c6, c7, c8], hl9 =>
        obtain ⟨r1, r2, r3, r4, r5, r6, r7, L, n, mc, r8, ps, rfl, rfl, rfl, rfl, rfl, rfl, rfl, rfl, rfl, hp, hm⟩ := nine_of h2
        refine ⟨(⟨r1, r2, r3, r4, r5, r6, r7, ps, r8⟩, L, n, mc), fun j v hv => ?_, hp.all, hm⟩
        have hj : j < 9 := (Array.getElem?_eq_some_iff.1 hv).1
        have e := hcell j hj
        rw [add_add] at e
        rw [e]
        simpa [RecD.cells] using hv
    haveI : Inhabited (RecD × Option Addr × Nat × Nat) := ⟨(⟨0, 0, 0, 0, 0, 0, 0, [], 0⟩, none, 0, 0)⟩
    obtain ⟨q, hq⟩ := choose_lt each
    refine ⟨some a, len, cap, (List.range len).map fun i => (q i).1, rfl, ⟨by simp, fun hn => ?_⟩, by omega⟩
    obtain ⟨b, o, spot⟩ := a
    have hs : spot = none := by
      have := (hq 0 (by omega)).1 0 _ rfl
      simpa [Addr.add] using World.cell?_spot this
    subst hs
    have ea : ∀ i, (⟨b, o, none⟩ : Addr).add i = ⟨b, o + i, none⟩ := fun i => by
      unfold Addr.add
      split
      · simp_all
      · rfl
    have hb : b < W.heap.size := by
      have := block_lt_of_cell ((hq 0 (by omega)).1 0 _ rfl)
      rw [ea] at this
      exact this
    refine ⟨b, o, rfl, hb, hb, fun i hi => ?_⟩
    have hi' : i < len := by simpa using hi
    obtain ⟨h0, h1, h2⟩ := hq i hi'
    have ep : ((List.range len).map fun i => (q i).1)[i] = (q i).1 := by simp
    rw [ep]
    have C : ∀ j v, ((q i).1.cells (.slice (q i).2.1 (q i).2.2.1 (q i).2.2.2))[j]? = some v → W.cell? ⟨b, o + i * 9 + j, none⟩ = some v := fun j v hv => by
      have := h0 j v hv
      rw [ea, show o + (i * 9 + j) = o + i * 9 + j by omega] at this
      exact this
    exact ⟨(q i).2.1, (q i).2.2.1, (q i).2.2.2, ⟨C 0 _ rfl, C 1 _ rfl, C 2 _ rfl, C 3 _ rfl, C 4 _ rfl, C 5 _ rfl, C 6 _ rfl, C 7 _ rfl, C 8 _ rfl⟩, h2, h1⟩

end Go.Proofs.YtjdepjpjjgkmbaaGreat

/- A journal that comes in is read as two lists of records; no conditions. -/
namespace Go.Proofs.YtjdepjpjjgkmbaaGreat
set_option maxRecDepth 100000
open Go.ChangeShapes Go.WideShapes Go.ChangeAt Go.RowKit Go.Deep
set_option linter.unusedVariables false

theorem cells_recs : Tryz.prog.cellsOf 48 = 1 := by kernel_rfl
theorem cells_jour : Tryz.prog.cellsOf 50 = 2 := by kernel_rfl
/-- What the reading of a journal that came in tells. -/
theorem jour_read {H : Type} {enc : TypeId × Value → H} {W : World} {r : Reach} {b0 : Nat} {v : Value} {d : DataW H} {p : List MemPlace} (hv : Value.okWide Tryz.prog W r b0 50 v) (h : DataW.Trod enc Tryz.prog W 0 (fun _ => true) true 50 v d p) :
    ∃ (A : Option Addr) (n c : Nat) (A' : Option Addr) (n' c' : Nat) (ks ls : List RecD), v = .agg #[.slice A n c, .slice A' n' c'] ∧ RecsF ks W (· < W.heap.size) A n ∧ n ≤ maxLen ∧ RecsF ls W (· < W.heap.size) A' n' ∧ n' ≤ maxLen := by
  obtain ⟨cs, rfl, hsz⟩ := okWide_struct Tryz.underlying50 hv
  obtain ⟨y0⟩ := cs
  have h5 : y0.length = 2 := by simpa using hsz.trans cells_jour
  obtain ⟨fuel, hf⟩ := h
  have hf : DataW.trod enc Tryz.prog W 0 (fun _ => true) true fuel 50 y0 = some (d, p) := hf
  match y0, h5 with
  | [c0, c1], _ =>
    obtain ⟨m', get⟩ := sub_fields Tryz.underlying50 hf
    obtain ⟨z0, g0⟩ := get 0 _ rfl
    have g0 : DataW.trod enc Tryz.prog W 0 (fun _ => true) true m' 48 (List.take (Tryz.prog.cellsOf 48) (List.drop 0 [c0, c1])) = some z0 := g0
    rw [cells_recs] at g0
    obtain ⟨z1, g1⟩ := get 1 _ rfl
    have g1 : DataW.trod enc Tryz.prog W 0 (fun _ => true) true m' 48 (List.take (Tryz.prog.cellsOf 48) (List.drop 1 [c0, c1])) = some z1 := g1
    rw [cells_recs] at g1
    obtain ⟨A, n, c, ks, rfl, h1, m1⟩ := recs_of (show DataW.trod enc Tryz.prog W 0 (fun _ => true) true m' 48 [c0] = some z0 from g0)
    obtain ⟨A', n', c', ls, rfl, h2, m2⟩ := recs_of (show DataW.trod enc Tryz.prog W 0 (fun _ => true) true m' 48 [c1] = some z1 from g1)
    exact ⟨A, n, c, A', n', c', ks, ls, rfl, h1, m1, h2, m2⟩
end Go.Proofs.YtjdepjpjjgkmbaaGreat

namespace Go.Proofs.YtjdepjpjjgkmbaaGreat
open Go.ChangeShapes Go.WideShapes Go.ChangeAt Go.RowKit Go.Deep
set_option linter.unusedVariables false

namespace fnExactNotedF
set_option maxRecDepth 100000 in
theorem lifted (os : Os) (started : os.Started) (H : Type) (enc : TypeId × Value → H) :
    ReturnsInHanded {} Tryz.checked os 6 .any (Rows.fnExactNotedSpec.pre6 enc Tryz.prog Tryz.f6 Rows.fnExactNotedRow.domain false) (Rows.fnExactNotedSpec.post enc Tryz.prog Tryz.f6 false true false false) := by
  refine returnsInHanded_of_change (C := Tryz.checked) own started (by kernel_rfl) Tryz.func6
    (ChangeSpec.witness6 (enc := enc) (C := Tryz.checked) false ⟨#[], #[.agg #[.int .i64 0, .int .i64 0, .int .i64 0, .int .i64 0, .slice none 0 0], .agg #[.slice none 0 0, .slice none 0 0], .int .i64 0, .int .i64 0, .int .i64 0, .agg #[.int .i64 0, .int .i64 0], .int .i64 0, .slice none 0 0], []⟩ 8 (by kernel_rfl) (by kernel_rfl) (by kernel_rfl) (by kernel_rfl)) ?_
  intro W base args ds gs before hval0 hW hcnd _
  have hval : ∀ (j : Nat) t v, Tryz.f6.params[j]? = some t → args[j]? = some v → Value.okWide Tryz.prog W .any base t v := hval0
  have hW' := hW
  obtain ⟨p, q, hA0, hV, rfl, hfz, hnd⟩ := hW
  have hA : DataW.TrodAll enc Tryz.prog W 0 (fun _ => true) true Tryz.f6.params.toList args.toList ds p := hA0
  rw [Tryz.params6] at hA hval
  obtain ⟨v0, vs0, d0, ds0, p0, q0, hargs, rfl, rfl, h0, r0⟩ := trodAll_cons hA
  obtain ⟨v1, vs1, d1, ds1, p1, q1, rfl, rfl, rfl, h1, r1⟩ := trodAll_cons r0
  obtain ⟨v2, vs2, d2, ds2, p2, q2, rfl, rfl, rfl, h2, r2⟩ := trodAll_cons r1
  obtain ⟨v3, vs3, d3, ds3, p3, q3, rfl, rfl, rfl, h3, r3⟩ := trodAll_cons r2
  obtain ⟨v4, vs4, d4, ds4, p4, q4, rfl, rfl, rfl, h4, r4⟩ := trodAll_cons r3
  obtain ⟨v5, vs5, d5, ds5, p5, q5, rfl, rfl, rfl, h5, r5⟩ := trodAll_cons r4
  obtain ⟨v6, vs6, d6, ds6, p6, q6, rfl, rfl, rfl, h6, r6⟩ := trodAll_cons r5
  obtain ⟨v7, vs7, d7, ds7, p7, q7, rfl, rfl, rfl, h7, r7⟩ := trodAll_cons r6
  obtain ⟨rfl, rfl, rfl⟩ := trodAll_nil r7
  obtain rfl : args = #[v0, v1, v2, v3, v4, v5, v6, v7] := by cases args; simp_all
  obtain ⟨rfl, rfl⟩ := trodVars_none hV
  have t0 := h0
  have lt0 : ∀ x ∈ p0, x.block < W.heap.size := by obtain ⟨m, hm⟩ := t0; exact DataW.trod_lt m _ _ _ hm
  obtain ⟨s0, l0, c0, sh0, A0, n0, cap0, zs0, rfl, hp0, hm0⟩ := group_read (hval 0 47 v0 rfl rfl) h0
  have t1 := h1
  have lt1 : ∀ x ∈ p1, x.block < W.heap.size := by obtain ⟨m, hm⟩ := t1; exact DataW.trod_lt m _ _ _ hm
  obtain ⟨KA1, kn1, kc1, LA1, ln1, lc1, ks1, ls1, rfl, hp1, hm1, hq1, hmq1⟩ := jour_read (hval 1 50 v1 rfl rfl) h1
  obtain ⟨x2, rfl, rfl, rfl, wi2⟩ := open_int Tryz.underlying2 (hval 2 2 v2 rfl rfl) h2
  obtain ⟨x3, rfl, rfl, rfl, wi3⟩ := open_int Tryz.underlying2 (hval 3 2 v3 rfl rfl) h3
  obtain ⟨x4, rfl, rfl, rfl, wi4⟩ := open_int Tryz.underlying2 (hval 4 2 v4 rfl rfl) h4
  have t5 := h5
  have lt5 : ∀ x ∈ p5, x.block < W.heap.size := by obtain ⟨m, hm⟩ := t5; exact DataW.trod_lt m _ _ _ hm
  obtain ⟨c5, k5, rfl⟩ := stamp_read (hval 5 57 v5 rfl rfl) h5
  obtain ⟨x6, rfl, rfl, rfl, wi6⟩ := open_int Tryz.underlying2 (hval 6 2 v6 rfl rfl) h6
  have t7 := h7
  have lt7 : ∀ x ∈ p7, x.block < W.heap.size := by obtain ⟨m, hm⟩ := t7; exact DataW.trod_lt m _ _ _ hm
  obtain ⟨A7, n7, cap7, ps7, rfl, hp7, hm7⟩ := seals_read (hval 7 58 v7 rfl rfl) h7
  clear hA0 hval0
  have walk : Calls Tryz.prog 6 #[.agg #[.int .i64 s0, .int .i64 l0, .int .i64 c0, .int .i64 sh0, .slice A0 n0 cap0], .agg #[.slice KA1 kn1 kc1, .slice LA1 ln1 lc1], .int .i64 x2, .int .i64 x3, .int .i64 x4, .agg #[.int .i64 c5, .int .i64 k5], .int .i64 x6, .slice A7 n7 cap7] W fun e w' => e = .returned (.bool true) ∧ Below W.heap.size W w' := by
    exact exactNo10_any _ _ ⟨s0, l0, c0, sh0, zs0⟩ ⟨ks1, ls1⟩ x2 x3 x4 c5 k5 x6 A7 n7 cap7 ps7 W ⟨A0, n0, cap0, rfl, hm0, hp0.all⟩ ⟨KA1, kn1, kc1, LA1, ln1, lc1, rfl, hm1, hmq1, hp1, hq1⟩ hp7.all hm7
  refine walk.mono fun e W' ⟨he, bel⟩ => ?_
  subst he
  exact ⟨_, rfl, _, _, _, [], _, [], hW', trodAll_mk1 (shut_bool Tryz.underlying4 _), (trodAll_cons_mk (Below.trod laidOut (by kernel_rfl) (of_decide_eq_true (by kernel_rfl)) t0 bel lt0) (trodAll_cons_mk (Below.trod laidOut (by kernel_rfl) (of_decide_eq_true (by kernel_rfl)) t1 bel lt1) (trodAll_cons_mk (shut_int Tryz.underlying2 wi2) (trodAll_cons_mk (shut_int Tryz.underlying2 wi3) (trodAll_cons_mk (shut_int Tryz.underlying2 wi4) (trodAll_cons_mk (Below.trod laidOut (by kernel_rfl) (of_decide_eq_true (by kernel_rfl)) t5 bel lt5) (trodAll_cons_mk (shut_int Tryz.underlying2 wi6) (trodAll_cons_mk (Below.trod laidOut (by kernel_rfl) (of_decide_eq_true (by kernel_rfl)) t7 bel lt7) trodAll_mk0)))))))), rfl, bel.frame _, fun h => by cases h⟩

theorem proved : Rows.FnExactNotedSaid :=
  OpenClaim.holds_of_wide 6 Tryz.f6 rfl rfl rfl rfl rfl rfl rfl ⟨rfl, rfl, rfl, rfl, rfl⟩ rfl rfl rfl rfl rfl (by kernel_rfl) Tryz.func6 (by kernel_rfl)
    (of_decide_eq_true (by kernel_rfl)) (by unfold Func.isWrapper; first | (rw [if_pos (by decide +kernel)]; kernel_rfl) | (rw [if_neg (by decide +kernel)]; exact ⟨rfl, rfl⟩))
    (fun os started H enc _ => lifted os started H enc)
end fnExactNotedF

theorem fnExactNoted_holds : Rows.FnExactNotedSaid := fnExactNotedF.proved
end Go.Proofs.YtjdepjpjjgkmbaaGreat
