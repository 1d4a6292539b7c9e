/- NewRec of the model at whatever it is given; conditions: how many seals it has. -/
import Derived.Test.YtmooajppfjglaaaGreatNewRec9
import Derived.Test.YtmooajppfjglaaaGreatSpecReg1
namespace Go.Proofs.YtmooajppfjglaaaGreat
open Go Go.RowKit

theorem rowC_of {w : World} {base : Nat} {g cap : Nat} {ps : List (Int × Int)} (h : w.ownsRow base 127 2 (.slice (some ⟨g, 0, none⟩) ps.length cap) ps.length (flatP ps)) : RowC ps w (Iv base w.heap.size) (.slice (some ⟨g, 0, none⟩) ps.length cap) :=
  ⟨g, cap, ⟨(h.lt g rfl).1, (h.lt g rfl).2⟩, rfl, ownLow h (Nat.zero_le _)⟩
/-- The list lies apart from a variable of another type. -/
theorem rowC_other {w : World} {base V : Nat} {t' : TypeId} {Z : Array Value} {g cap : Nat} {ps : List (Int × Int)} (h : w.ownsRow base 127 2 (.slice (some ⟨g, 0, none⟩) ps.length cap) ps.length (flatP ps)) (B : Box w V t' Z) (hne : 127 ≠ t') : RowC ps w (fun b => base ≤ b ∧ b ≠ V) (.slice (some ⟨g, 0, none⟩) ps.length cap) := by
  have hV : g ≠ V := by
    rintro rfl
    rcases h.2 with ⟨h', _⟩ | ⟨g', cap', cur, h', hb, hg, _⟩
    · cases h'
    · injection h' with e1 _ e3
      injection e1 with e1
      injection e1 with e1 _ _
      subst e1
      have e := hg.symm.trans B
      injection e with e
      injection e with _ e
      exact hne e
  exact ⟨g, cap, ⟨(h.lt g rfl).1, hV⟩, rfl, ownLow h (Nat.zero_le _)⟩
theorem RowC.own {ps : List (Int × Int)} {w : World} {F : Nat → Prop} {v : Value} (h : RowC ps w F v) : OwnPs ps w F v := by
  obtain ⟨g, cap, hF, rfl, h⟩ := h
  rcases own_resP h with h' | ⟨g', cap', h1, h2, h0, h3⟩
  · cases h'.1
  · injection h0 with e1 _ e3
    injection e1 with e1
    injection e1 with e1 _ _
    subst e1 e3
    exact .inr ⟨g, cap, hF, rfl, h3⟩
theorem rowC_at {ps : List (Int × Int)} {w : World} {F : Nat → Prop} {A : Option Addr} {n c : Nat} (h : RowC ps w F (.slice A n c)) : n ≤ maxLen ∧ ps.length = n ∧ Pairs w w.heap.size A n ps := ownPs_at h.own
/-- A record of one's own, whose list's block is known whole. -/
def LieCR (d : RecD) (w : World) (F : Nat → Prop) (v : Value) : Prop := ∃ u, v = .agg (d.cells u) ∧ RowC d.ps w F u
theorem LieCR.lie {d : RecD} {w : World} {F : Nat → Prop} {v : Value} (h : LieCR d w F v) : LieC d w F v := by
  obtain ⟨u, e, h⟩ := h
  exact ⟨u, e, h.own⟩
theorem keepsCR (d : RecD) : Keeps (LieCR d) := ⟨fun ⟨u, e, h⟩ ht hd => ⟨u, e, (keepsRow d.ps).turn h ht hd⟩, fun ⟨u, e, h⟩ hs => ⟨u, e, (keepsRow d.ps).sub h hs⟩⟩

set_option maxRecDepth 100000 in
set_option maxHeartbeats 4000000 in
theorem specNewRow_is (r1 r2 r3 r4 r5 r6 r7 : Int) (u0 : Value) (ps : List (Int × Int)) (w : World) (hn : ps.length ≤ 1048576) (h : Slc w u0 ps) :
    Calls Tryz.prog 82 #[.int .i64 r1, .int .i64 r2, .int .i64 r3, .int .i64 r4, .agg #[.int .i64 r5, .int .i64 r6], .int .i64 r7, u0] w (Copied (LieCR ⟨r1, r2, r3, r4, r5, r6, r7, ps, sumN r1 r2 r3 r4 r5 r6 r7 ps⟩) w) := by
  obtain ⟨i0, hi0, hz0, hz1, hz2⟩ := info_parts Tryz.infoSealI
  obtain ⟨A0, n0, c0, rfl⟩ := slc_form h
  have S := (Box.new w 36 #[.int .i64 r5, .int .i64 r6]).alloc (.cells #[.int .i64 0, .int .i64 0, .int .i64 0, .int .i64 0, .int .i64 0, .int .i64 0, .int .i64 0, .slice none 0 0, .int .i64 0] 42)
  have R := Box.new (w.alloc (.cells #[.int .i64 r5, .int .i64 r6] 36)) 42 #[.int .i64 0, .int .i64 0, .int .i64 0, .int .i64 0, .int .i64 0, .int .i64 0, .int .i64 0, .slice none 0 0, .int .i64 0]
  have hb0 := bel_trans (bel_alloc w (.cells #[.int .i64 r5, .int .i64 r6] 36)) (bel_alloc _ (.cells #[.int .i64 0, .int .i64 0, .int .i64 0, .int .i64 0, .int .i64 0, .int .i64 0, .int .i64 0, .slice none 0 0, .int .i64 0] 42))
  simp only [World.size_alloc] at R
  have H := h.later hb0
  have hnn := Lib.hid hn
  clear h
  go_enter Tryz.func82, Tryz.ntmps82
  go_upto_region 1 with fail
  generalize ((w.alloc _).alloc _ : World) = w0 at hb0 S R H ⊢
  go_cut [15] (fun pv wr => ∃ (V : Nat) (A : Option Addr) (n c : Nat), pv = .pointer (some ⟨V, 0, none⟩) ∧ NewR (RowC ps) w wr V r1 r2 r3 r4 r5 r6 r7 (.slice A n c))
  case first =>
    refine wp_region_sink 12 (fun w' => Box w' w.heap.size 36 #[.int .i64 r5, .int .i64 r6]) (by kernel_rfl) S (fun hH => ?_)
    have hb := (Below.refl w0.heap.size w0).drew
    replace hb0 := bel_trans hb0 hb
    replace S := S.later hb S.lt
    replace R := R.later hb R.lt
    replace H := H.later hb
    clear hb
    generalize w0.drew = w3 at hb0 S R H hH ⊢
    have hRl := R.lt
    refine wpAnyE_takeS (i := 4) (v := .agg #[.int .i64 r5, .int .i64 r6]) (by simp only [List.getElem?_toArray, List.getElem?_cons_succ, List.getElem?_cons_zero]; rfl) (by kernel_rfl) (by kernel_rfl) (by kernel_rfl) (by exact fun _ _ _ h => h) (by kernel_rfl) ?yl hH ?_
    case yl => exact yields_box 36 _ rfl (w.heap.size) rfl 36 #[.int .i64 r5, .int .i64 r6] (fun _ h => h) _ Tryz.underlying36 rfl (by kernel_rfl) (by first | rfl | simp [Region.wanted, yielded] | (simp [Region.wanted, yielded, Act.put] <;> omega))
    try simp only [Act.put, List.setIfInBounds_toArray, List.set_cons_zero, List.set_cons_succ]
    refine wpAnyE_pure (i := 0) (v := ?vm0) (by simp only [List.getElem?_toArray, List.getElem?_cons_zero]; rfl) (by kernel_rfl) (by kernel_rfl) (by kernel_rfl) (by exact fun _ _ _ h => h) (by kernel_rfl) (Or.inl ⟨by rfl, ?ym0⟩) hH ?rm0
    case ym0 => (intro w' hSw; (try dsimp only at hSw); go_simp; try with_reducible rfl)
    try simp only [Act.put, List.setIfInBounds_toArray, List.set_cons_zero, List.set_cons_succ]
    refine wpAnyE_pure (i := 1) (v := ?vm1) (by simp only [List.getElem?_toArray, List.getElem?_cons_succ, List.getElem?_cons_zero]; rfl) (by kernel_rfl) (by kernel_rfl) (by kernel_rfl) (by exact fun _ _ _ h => h) (by kernel_rfl) (Or.inl ⟨by rfl, ?ym1⟩) hH ?rm1
    case ym1 => (intro w' hSw; (try dsimp only at hSw); go_simp; try with_reducible rfl)
    try simp only [Act.put, List.setIfInBounds_toArray, List.set_cons_zero, List.set_cons_succ]
    refine wpAnyE_pure (i := 2) (v := ?vm2) (by simp only [List.getElem?_toArray, List.getElem?_cons_succ, List.getElem?_cons_zero]; rfl) (by kernel_rfl) (by kernel_rfl) (by kernel_rfl) (by exact fun _ _ _ h => h) (by kernel_rfl) (Or.inl ⟨by rfl, ?ym2⟩) hH ?rm2
    case ym2 => (intro w' hSw; (try dsimp only at hSw); go_simp; try with_reducible rfl)
    try simp only [Act.put, List.setIfInBounds_toArray, List.set_cons_zero, List.set_cons_succ]
    refine wpAnyE_pure (i := 3) (v := ?vm3) (by simp only [List.getElem?_toArray, List.getElem?_cons_succ, List.getElem?_cons_zero]; rfl) (by kernel_rfl) (by kernel_rfl) (by kernel_rfl) (by exact fun _ _ _ h => h) (by kernel_rfl) (Or.inl ⟨by rfl, ?ym3⟩) hH ?rm3
    case ym3 => (intro w' hSw; (try dsimp only at hSw); go_simp; try with_reducible rfl)
    try simp only [Act.put, List.setIfInBounds_toArray, List.set_cons_zero, List.set_cons_succ]
    refine wpAnyE_pure (i := 5) (v := ?vm5) (by simp only [List.getElem?_toArray, List.getElem?_cons_succ, List.getElem?_cons_zero]; rfl) (by kernel_rfl) (by kernel_rfl) (by kernel_rfl) (by exact fun _ _ _ h => h) (by kernel_rfl) (Or.inl ⟨by rfl, ?ym5⟩) hH ?rm5
    case ym5 => (intro w' hSw; (try dsimp only at hSw); go_simp; try with_reducible rfl)
    try simp only [Act.put, List.setIfInBounds_toArray, List.set_cons_zero, List.set_cons_succ]
    refine wpAnyE_pure (i := 7) (v := ?vm7) (by simp only [List.getElem?_toArray, List.getElem?_cons_succ, List.getElem?_cons_zero]; rfl) (by kernel_rfl) (by kernel_rfl) (by kernel_rfl) (by exact fun _ _ _ h => h) (by kernel_rfl) (Or.inl ⟨by rfl, ?ym7⟩) hH ?rm7
    case ym7 => (intro w' hSw; (try dsimp only at hSw); go_simp; try with_reducible rfl)
    try simp only [Act.put, List.setIfInBounds_toArray, List.set_cons_zero, List.set_cons_succ]
    refine wpAnyE_two (i := 6) (j := 10) (by kernel_rfl) (by simp only [List.getElem?_toArray, List.getElem?_cons_succ, List.getElem?_cons_zero]; rfl) (by simp only [List.getElem?_toArray, List.getElem?_cons_succ, List.getElem?_cons_zero]; rfl) (fun K hK => ?_) (fun K hK => ?_)
    · skip
      go_simp
      have hn := bel_alloc w3 (.cells #[] 127)
      have O3 := own_new w3 127 2
      replace S := S.alloc (.cells #[] 127)
      replace R := R.alloc (.cells #[] 127)
      replace H := H.later hn
      replace hb0 := bel_trans hb0 hn
      clear hH
      refine hK.out _ _ S (fun hH => ?_)
      clear hK K
      try simp only [Act.put, List.setIfInBounds_toArray, List.set_cons_zero, List.set_cons_succ]
      clear hn
      have hz3 : w3.heap.size < (w3.alloc (.cells #[] 127)).heap.size := by simp
      generalize (w3.alloc _ : World) = w5 at S R H hb0 O3 hH hz3 ⊢
      refine wpAnyE_two (i := 8) (j := 10) (by kernel_rfl) (by simp only [List.getElem?_toArray, List.getElem?_cons_succ, List.getElem?_cons_zero]; rfl) (by simp only [List.getElem?_toArray, List.getElem?_cons_succ, List.getElem?_cons_zero]; rfl) (fun K hK => ?_) (fun K hK => ?_)
      · skip
        refine step_append_srcN (by rfl) _ _ _ (by rfl) w3.heap.size 127 i0 _ 2 16 Tryz.underlying37 hi0 hz0 hz1 hz2 rfl (by omega) (.slice (some ⟨w3.heap.size, 0, none⟩) 0 0) 0 [] (by rfl) O3 (by simp) _ ps.length (flatP ps) (by rfl) H.src ps.length (flatP ps) (Nat.zero_add _) (List.nil_append _) (by have := hnn.out; unfold maxLen; omega) (by have := hnn.out; omega) (by (try simp only [World.size_alloc]); omega) ?_
        intro g1 cap1 w4 hown4 hgrow hbg hlg
        replace hgrow : World.grownBy _ w4 (some (w3.heap.size)) := hgrow
        have S4 := S.kept hgrow (by intro e; injection e with e; omega)
        have R4 := R.kept hgrow (by intro e; injection e with e; omega)
        have hb4 := bel_grown hb0 hgrow (by omega)
        clear hH
        refine hK.out _ _ S4 (fun hH => ?_)
        clear hK K
        try simp only [Act.put, List.setIfInBounds_toArray, List.set_cons_zero, List.set_cons_succ]
        refine wpAnyE_pure (i := 9) (v := ?va9) (by simp only [List.getElem?_toArray, List.getElem?_cons_succ, List.getElem?_cons_zero]; rfl) (by kernel_rfl) (by kernel_rfl) (by kernel_rfl) (by exact fun _ _ _ h => h) (by kernel_rfl) (Or.inl ⟨by rfl, ?ya9⟩) hH ?ra9
        case ya9 => (intro w' hSw; (try dsimp only at hSw); go_simp; try with_reducible rfl)
        try simp only [Act.put, List.setIfInBounds_toArray, List.set_cons_zero, List.set_cons_succ]
        refine wpAnyE_one (i := 10) (by kernel_rfl) (by simp only [List.getElem?_toArray, List.getElem?_cons_succ, List.getElem?_cons_zero]; rfl) (fun K hK => ?_)
        go_simp
        clear hH
        refine hK.out _ _ (S4.alloc _) (fun hH => ?_)
        clear hK K
        try simp only [Act.put, List.setIfInBounds_toArray, List.set_cons_zero, List.set_cons_succ]
        refine wpAnyE_end (i := 11) (by kernel_rfl) (by simp only [List.getElem?_toArray, List.getElem?_cons_succ, List.getElem?_cons_zero]; rfl) (by kernel_rfl) (fun K hK => ?_)
        rw [if_pos (by first | rfl | kernel_rfl | simp [Region.wanted, yielded])]
        refine wp_store_row 42 _ _ rfl w4.heap.size #[.int .i64 r1, .int .i64 r2, .int .i64 r3, .int .i64 r4, .int .i64 r5, .int .i64 r6, .int .i64 r7, .slice (some ⟨g1, 0, none⟩) ps.length cap1, .int .i64 0] rfl rfl 42 #[.int .i64 0, .int .i64 0, .int .i64 0, .int .i64 0, .int .i64 0, .int .i64 0, .int .i64 0, .slice none 0 0, .int .i64 0] (Box.new w4 42 #[.int .i64 0, .int .i64 0, .int .i64 0, .int .i64 0, .int .i64 0, .int .i64 0, .int .i64 0, .slice none 0 0, .int .i64 0]) (by kernel_rfl) rfl (by simp [Value.oneCell']) ?_
        refine hK.out _ _ (S4.later (bel_new_row w4 #[.int .i64 0, .int .i64 0, .int .i64 0, .int .i64 0, .int .i64 0, .int .i64 0, .int .i64 0, .slice none 0 0, .int .i64 0] 42 #[.int .i64 r1, .int .i64 r2, .int .i64 r3, .int .i64 r4, .int .i64 r5, .int .i64 r6, .int .i64 r7, .slice (some ⟨g1, 0, none⟩) ps.length cap1, .int .i64 0]) S4.lt) ?_
        clear hK K
        try simp only [Act.put]
        have HN := Lib.hid (newR_a (keepsRow ps) (r1 := r1) (r2 := r2) (r3 := r3) (r4 := r4) (r5 := r5) (r6 := r6) (r7 := r7) hb4 R4 (rowC_of hown4) (by omega))
        clear hH
        go_wp2_with fail
        go_meet
        exact ⟨_, _, _, _, rfl, HN.out⟩
      · skip
        go_simp
        have hn := bel_alloc w5 (.cells #[.int .i64 0, .int .i64 0, .int .i64 0, .int .i64 0, .int .i64 0, .int .i64 0, .int .i64 0, .slice none 0 0, .int .i64 0] 42)
        have V5 := Box.new w5 42 #[.int .i64 0, .int .i64 0, .int .i64 0, .int .i64 0, .int .i64 0, .int .i64 0, .int .i64 0, .slice none 0 0, .int .i64 0]
        replace S := S.alloc (.cells #[.int .i64 0, .int .i64 0, .int .i64 0, .int .i64 0, .int .i64 0, .int .i64 0, .int .i64 0, .slice none 0 0, .int .i64 0] 42)
        replace R := R.alloc (.cells #[.int .i64 0, .int .i64 0, .int .i64 0, .int .i64 0, .int .i64 0, .int .i64 0, .int .i64 0, .slice none 0 0, .int .i64 0] 42)
        replace H := H.later hn
        replace hb0 := bel_trans hb0 hn
        replace O3 := O3.alloc (.cells #[.int .i64 0, .int .i64 0, .int .i64 0, .int .i64 0, .int .i64 0, .int .i64 0, .int .i64 0, .slice none 0 0, .int .i64 0] 42)
        clear hH
        refine hK.out _ _ S (fun hH => ?_)
        clear hK K
        try simp only [Act.put, List.setIfInBounds_toArray, List.set_cons_zero, List.set_cons_succ]
        refine wpAnyE_one (i := 8) (by kernel_rfl) (by simp only [List.getElem?_toArray, List.getElem?_cons_succ, List.getElem?_cons_zero]; rfl) (fun K hK => ?_)
        refine step_append_srcN (by rfl) _ _ _ (by rfl) w3.heap.size 127 i0 _ 2 16 Tryz.underlying37 hi0 hz0 hz1 hz2 rfl (by omega) (.slice (some ⟨w3.heap.size, 0, none⟩) 0 0) 0 [] (by rfl) O3 (by simp) _ ps.length (flatP ps) (by rfl) H.src ps.length (flatP ps) (Nat.zero_add _) (List.nil_append _) (by have := hnn.out; unfold maxLen; omega) (by have := hnn.out; omega) (by (try simp only [World.size_alloc]); omega) ?_
        intro g1 cap1 w4 hown4 hgrow hbg hlg
        replace hgrow : World.grownBy _ w4 (some (w3.heap.size)) := hgrow
        have S4 := S.kept hgrow (by intro e; injection e with e; omega)
        have R4 := R.kept hgrow (by intro e; injection e with e; omega)
        have V4 := V5.kept hgrow (by intro e; injection e with e; omega)
        have hb4 := bel_grown hb0 hgrow (by omega)
        clear hH
        refine hK.out _ _ S4 (fun hH => ?_)
        clear hK K
        try simp only [Act.put, List.setIfInBounds_toArray, List.set_cons_zero, List.set_cons_succ]
        refine wpAnyE_pure (i := 9) (v := ?vb9) (by simp only [List.getElem?_toArray, List.getElem?_cons_succ, List.getElem?_cons_zero]; rfl) (by kernel_rfl) (by kernel_rfl) (by kernel_rfl) (by exact fun _ _ _ h => h) (by kernel_rfl) (Or.inl ⟨by rfl, ?yb9⟩) hH ?rb9
        case yb9 => (intro w' hSw; (try dsimp only at hSw); go_simp; try with_reducible rfl)
        try simp only [Act.put, List.setIfInBounds_toArray, List.set_cons_zero, List.set_cons_succ]
        refine wpAnyE_end (i := 11) (by kernel_rfl) (by simp only [List.getElem?_toArray, List.getElem?_cons_succ, List.getElem?_cons_zero]; rfl) (by kernel_rfl) (fun K hK => ?_)
        rw [if_pos (by first | rfl | kernel_rfl | simp [Region.wanted, yielded])]
        refine wp_store_row 42 _ _ rfl w5.heap.size #[.int .i64 r1, .int .i64 r2, .int .i64 r3, .int .i64 r4, .int .i64 r5, .int .i64 r6, .int .i64 r7, .slice (some ⟨g1, 0, none⟩) ps.length cap1, .int .i64 0] rfl rfl 42 #[.int .i64 0, .int .i64 0, .int .i64 0, .int .i64 0, .int .i64 0, .int .i64 0, .int .i64 0, .slice none 0 0, .int .i64 0] V4 (by kernel_rfl) rfl (by simp [Value.oneCell']) ?_
        refine hK.out _ _ (S4.turn (turns_setRow w4 w5.heap.size #[.int .i64 r1, .int .i64 r2, .int .i64 r3, .int .i64 r4, .int .i64 r5, .int .i64 r6, .int .i64 r7, .slice (some ⟨g1, 0, none⟩) ps.length cap1, .int .i64 0]) (by omega)) ?_
        clear hK K
        try simp only [Act.put]
        have HN := Lib.hid (newR_b (keepsRow ps) (r1 := r1) (r2 := r2) (r3 := r3) (r4 := r4) (r5 := r5) (r6 := r6) (r7 := r7) hb4 R4 V4 (by omega) (rowC_other hown4 V4 (by decide)) (fun b hb => ⟨by have := hb.1; omega, hb.2⟩))
        clear hH
        go_wp2_with fail
        go_meet
        exact ⟨_, _, _, _, rfl, HN.out⟩
    · skip
      go_simp
      have hn := bel_alloc w3 (.cells #[.int .i64 0, .int .i64 0, .int .i64 0, .int .i64 0, .int .i64 0, .int .i64 0, .int .i64 0, .slice none 0 0, .int .i64 0] 42)
      have V5 := Box.new w3 42 #[.int .i64 0, .int .i64 0, .int .i64 0, .int .i64 0, .int .i64 0, .int .i64 0, .int .i64 0, .slice none 0 0, .int .i64 0]
      replace S := S.alloc (.cells #[.int .i64 0, .int .i64 0, .int .i64 0, .int .i64 0, .int .i64 0, .int .i64 0, .int .i64 0, .slice none 0 0, .int .i64 0] 42)
      replace R := R.alloc (.cells #[.int .i64 0, .int .i64 0, .int .i64 0, .int .i64 0, .int .i64 0, .int .i64 0, .int .i64 0, .slice none 0 0, .int .i64 0] 42)
      replace H := H.later hn
      replace hb0 := bel_trans hb0 hn
      have hz3 : w3.heap.size < (w3.alloc (.cells #[.int .i64 0, .int .i64 0, .int .i64 0, .int .i64 0, .int .i64 0, .int .i64 0, .int .i64 0, .slice none 0 0, .int .i64 0] 42)).heap.size := by simp
      have hVb := hRl
      generalize w3.heap.size = V at V5 hz3 hVb ⊢
      generalize hw5 : (w3.alloc _ : World) = w5 at S R H hb0 V5 hz3 ⊢
      clear hH
      refine hK.out _ _ S (fun hH => ?_)
      clear hK K
      try simp only [Act.put, List.setIfInBounds_toArray, List.set_cons_zero, List.set_cons_succ]
      refine wpAnyE_one (i := 6) (by kernel_rfl) (by simp only [List.getElem?_toArray, List.getElem?_cons_succ, List.getElem?_cons_zero]; rfl) (fun K hK => ?_)
      go_simp
      have hn := bel_alloc w5 (.cells #[] 127)
      have O3 := own_new w5 127 2
      replace S := S.alloc (.cells #[] 127)
      replace R := R.alloc (.cells #[] 127)
      replace V5 := V5.alloc (.cells #[] 127)
      replace H := H.later hn
      replace hb0 := bel_trans hb0 hn
      clear hH
      refine hK.out _ _ S (fun hH => ?_)
      clear hK K
      try simp only [Act.put, List.setIfInBounds_toArray, List.set_cons_zero, List.set_cons_succ]
      refine wpAnyE_one (i := 8) (by kernel_rfl) (by simp only [List.getElem?_toArray, List.getElem?_cons_succ, List.getElem?_cons_zero]; rfl) (fun K hK => ?_)
      refine step_append_srcN (by rfl) _ _ _ (by rfl) w5.heap.size 127 i0 _ 2 16 Tryz.underlying37 hi0 hz0 hz1 hz2 rfl (by omega) (.slice (some ⟨w5.heap.size, 0, none⟩) 0 0) 0 [] (by rfl) O3 (by simp) _ ps.length (flatP ps) (by rfl) H.src ps.length (flatP ps) (Nat.zero_add _) (List.nil_append _) (by have := hnn.out; unfold maxLen; omega) (by have := hnn.out; omega) (by (try simp only [World.size_alloc]); omega) ?_
      intro g1 cap1 w4 hown4 hgrow hbg hlg
      replace hgrow : World.grownBy _ w4 (some (w5.heap.size)) := hgrow
      have S4 := S.kept hgrow (by intro e; injection e with e; omega)
      have R4 := R.kept hgrow (by intro e; injection e with e; omega)
      have V4 := V5.kept hgrow (by intro e; injection e with e; omega)
      have hb4 := bel_grown hb0 hgrow (by omega)
      clear hH
      refine hK.out _ _ S4 (fun hH => ?_)
      clear hK K
      try simp only [Act.put, List.setIfInBounds_toArray, List.set_cons_zero, List.set_cons_succ]
      refine wpAnyE_pure (i := 9) (v := ?vc9) (by simp only [List.getElem?_toArray, List.getElem?_cons_succ, List.getElem?_cons_zero]; rfl) (by kernel_rfl) (by kernel_rfl) (by kernel_rfl) (by exact fun _ _ _ h => h) (by kernel_rfl) (Or.inl ⟨by rfl, ?yc9⟩) hH ?rc9
      case yc9 => (intro w' hSw; (try dsimp only at hSw); go_simp; try with_reducible rfl)
      try simp only [Act.put, List.setIfInBounds_toArray, List.set_cons_zero, List.set_cons_succ]
      refine wpAnyE_end (i := 11) (by kernel_rfl) (by simp only [List.getElem?_toArray, List.getElem?_cons_succ, List.getElem?_cons_zero]; rfl) (by kernel_rfl) (fun K hK => ?_)
      rw [if_pos (by first | rfl | kernel_rfl | simp [Region.wanted, yielded])]
      refine wp_store_row 42 _ _ rfl V #[.int .i64 r1, .int .i64 r2, .int .i64 r3, .int .i64 r4, .int .i64 r5, .int .i64 r6, .int .i64 r7, .slice (some ⟨g1, 0, none⟩) ps.length cap1, .int .i64 0] rfl rfl 42 #[.int .i64 0, .int .i64 0, .int .i64 0, .int .i64 0, .int .i64 0, .int .i64 0, .int .i64 0, .slice none 0 0, .int .i64 0] V4 (by kernel_rfl) rfl (by simp [Value.oneCell']) ?_
      refine hK.out _ _ (S4.turn (turns_setRow w4 V #[.int .i64 r1, .int .i64 r2, .int .i64 r3, .int .i64 r4, .int .i64 r5, .int .i64 r6, .int .i64 r7, .slice (some ⟨g1, 0, none⟩) ps.length cap1, .int .i64 0]) (by omega)) ?_
      clear hK K
      try simp only [Act.put]
      have HN := Lib.hid (newR_b (keepsRow ps) (r1 := r1) (r2 := r2) (r3 := r3) (r4 := r4) (r5 := r5) (r6 := r6) (r7 := r7) hb4 R4 V4 hVb (rowC_of hown4) (fun b hb => by have := hb.1; omega))
      clear hH
      go_wp2_with fail
      go_meet
      exact ⟨_, _, _, _, rfl, HN.out⟩
  case rest =>
  clear S R hb0 H
  obtain ⟨V, A, n, c, rfl, N⟩ := hcut
  obtain ⟨w1, rfl⟩ : ∃ x, x = wc := ⟨_, rfl⟩
  obtain ⟨hm, hl, hp⟩ := rowC_at N.own
  have hn4 : n ≤ 4194304 := by have := hnn.out; omega
  have J := Lib.hid (show (Tryz.prog.info? 42).map (·.size) = some (#[.int .i64 r1, .int .i64 r2, .int .i64 r3, .int .i64 r4, .int .i64 r5, .int .i64 r6, .int .i64 r7, .slice A n c, .int .i64 0] : Array Value).size from by kernel_rfl)
  go_wp2_with (refine wpList_load_box 42 _ rfl V rfl 42 #[.int .i64 r1, .int .i64 r2, .int .i64 r3, .int .i64 r4, .int .i64 r5, .int .i64 r6, .int .i64 r7, .slice A n c, .int .i64 0] N.vr _ Tryz.underlying42 rfl J.out (by first | rfl | simp [Region.wanted, yielded] | (simp [Region.wanted, yielded, Act.put] <;> omega)) ?_)
  refine (specSumOf_is r1 r2 r3 r4 r5 r6 r7 A n c 0 ps w1 hn4 hp).mono ?_
  rintro e w2 ⟨rfl, hb⟩
  replace N := N.later (keepsRow ps) hb
  clear hp hb
  obtain ⟨v0, v1, v2, v3, v4, v5, v6, v7, v8⟩ := N.vr.nine
  have fv := N.vr.frozen
  have hVw := N.hV
  have hVl := N.vr.lt
  generalize hs : sumN r1 r2 r3 r4 r5 r6 r7 ps = sm
  have V3 := N.vr.set 8 (.int .i64 sm)
  have R3 := N.rs.far (p := ⟨V, 8, none⟩) (by show V ≠ _; omega) (.int .i64 sm)
  have O3 := (keepsRow ps).turn N.own (turns_setCell w2 V 8 (.int .i64 sm)) (fun b hb e => hb.2 e)
  have E3 := N.bel.setCell (p := ⟨V, 8, none⟩) (by show _ ≤ V; omega) (.int .i64 sm)
  replace V3 := Lib.hid V3
  replace R3 := Lib.hid R3
  replace O3 := Lib.hid O3
  replace E3 := Lib.hid E3
  clear N
  go_upto_region 3 with fail
  clear v0 v1 v2 v3 v4 v5 v6 v7 v8 fv
  generalize (w2.setCell _ _ : World) = w3 at V3 R3 O3 E3 ⊢
  have V4 : Box w3 V 42 #[.int .i64 r1, .int .i64 r2, .int .i64 r3, .int .i64 r4, .int .i64 r5, .int .i64 r6, .int .i64 r7, .slice A n c, .int .i64 sm] := V3.out
  have J2 := Lib.hid (show (Tryz.prog.info? 42).map (·.size) = some (#[.int .i64 r1, .int .i64 r2, .int .i64 r3, .int .i64 r4, .int .i64 r5, .int .i64 r6, .int .i64 r7, .slice A n c, .int .i64 sm] : Array Value).size from by kernel_rfl)
  have ht := turns_setRow w3 (w.heap.size + 1) #[.int .i64 r1, .int .i64 r2, .int .i64 r3, .int .i64 r4, .int .i64 r5, .int .i64 r6, .int .i64 r7, .slice A n c, .int .i64 sm]
  have X := R3.out.setRow #[.int .i64 r1, .int .i64 r2, .int .i64 r3, .int .i64 r4, .int .i64 r5, .int .i64 r6, .int .i64 r7, .slice A n c, .int .i64 sm]
  have O4 := Lib.hid ((keepsRow ps).sub (F' := Iv w.heap.size (w3.setRow (w.heap.size + 1) #[.int .i64 r1, .int .i64 r2, .int .i64 r3, .int .i64 r4, .int .i64 r5, .int .i64 r6, .int .i64 r7, .slice A n c, .int .i64 sm]).heap.size) (rowC_lt ((keepsRow ps).turn O3.out ht (fun b hb e => by have := hb.1; omega))) (fun b hb => ⟨by have := hb.1.1; omega, hb.2⟩))
  have E4 := Lib.hid (ht.below E3.out (fun i hi => by omega))
  obtain ⟨x0, x1, x2, x3, x4, x5, x6, x7, x8⟩ := X.nine
  clear ht X
  go_wp2_with (first | (refine wpList_load_box 42 _ rfl V rfl 42 #[.int .i64 r1, .int .i64 r2, .int .i64 r3, .int .i64 r4, .int .i64 r5, .int .i64 r6, .int .i64 r7, .slice A n c, .int .i64 sm] V4 _ Tryz.underlying42 rfl J2.out (by first | rfl | simp [Region.wanted, yielded] | (simp [Region.wanted, yielded, Act.put] <;> omega)) ?_) | (refine wpList_store_row rfl 42 _ _ rfl (w.heap.size + 1) _ rfl rfl 42 #[.int .i64 0, .int .i64 0, .int .i64 0, .int .i64 0, .int .i64 0, .int .i64 0, .int .i64 0, .slice none 0 0, .int .i64 0] R3.out J2.out rfl (by simp [Value.oneCell']) ?_))
  exact bodyPost_ret (v := .agg #[.int .i64 r1, .int .i64 r2, .int .i64 r3, .int .i64 r4, .int .i64 r5, .int .i64 r6, .int .i64 r7, .slice A n c, .int .i64 sm]) (by simp [results, Tryz.results82, go_sem, x0, x1, x2, x3, x4, x5, x6, x7, x8]) rfl ⟨_, rfl, ⟨_, by rw [← hs]; rfl, O4.out⟩, E4.out⟩

theorem specNewRec_is (r1 r2 r3 r4 r5 r6 r7 : Int) (u0 : Value) (ps : List (Int × Int)) (w : World) (hn : ps.length ≤ 1048576) (h : Slc w u0 ps) :
    Calls Tryz.prog 82 #[.int .i64 r1, .int .i64 r2, .int .i64 r3, .int .i64 r4, .agg #[.int .i64 r5, .int .i64 r6], .int .i64 r7, u0] w (Copied (LieC ⟨r1, r2, r3, r4, r5, r6, r7, ps, sumN r1 r2 r3 r4 r5 r6 r7 ps⟩) w) := by
  refine (specNewRow_is r1 r2 r3 r4 r5 r6 r7 u0 ps w hn h).mono ?_
  rintro e w' ⟨C, rfl, L, hb⟩
  exact ⟨C, rfl, L.lie, hb⟩

end Go.Proofs.YtmooajppfjglaaaGreat
