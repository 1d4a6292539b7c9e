/- NewRec of the program at whatever it is given: a record with its sum, its list in a block of its own; conditions: how many seals it has. -/
import Derived.Test.YtmooajppfjglaaaGreatKinds9
namespace Go.Proofs.YtmooajppfjglaaaGreat
open Go Go.RowKit

theorem turns_setCell (w : World) (g o : Nat) (u : Value) : Turns (· = g) w (w.setCell ⟨g, o, none⟩ u) :=
  ⟨rfl, rfl, rfl, by rw [size_set]; exact Nat.le_refl _, fun i _ hne => Below.heap_setCell w ⟨g, o, none⟩ u i hne⟩
theorem OwnP.later {w w' : World} {F : Nat → Prop} {v : Value} {ps : List (Int × Int)} (h : OwnP w F v ps) (hb : Below w.heap.size w w') : OwnP w' F v ps := h.turn (T := fun _ => False) (Turns.of_below hb) (fun _ _ h => h)
theorem Own.ownP {w w' : World} {v : Value} {ps : List (Int × Int)} (h : Own w v ps w') : OwnP w' (Iv w.heap.size w'.heap.size) v ps := by
  rcases h.1 with h | ⟨g, cap, hg, h0, h1, h2, h3⟩
  · exact .inl h
  · exact .inr ⟨g, cap, ⟨hg, h3.lt⟩, h0, h1, h2, h3⟩
/-- A list of one's own; one whose block is known whole. -/
def OwnPs (ps : List (Int × Int)) (w : World) (F : Nat → Prop) (v : Value) : Prop := OwnP w F v ps
def RowC (ps : List (Int × Int)) (w : World) (F : Nat → Prop) (v : Value) : Prop := ∃ g cap, F g ∧ v = .slice (some ⟨g, 0, none⟩) ps.length cap ∧ w.ownsRow 0 127 2 v ps.length (flatP ps)
theorem keepsOwn (ps : List (Int × Int)) : Keeps (OwnPs ps) := ⟨fun h ht hd => OwnP.turn h ht hd, fun h hs => OwnP.sub h hs⟩
theorem keepsRow (ps : List (Int × Int)) : Keeps (RowC ps) := by
  refine ⟨?_, fun ⟨g, cap, hF, h⟩ hs => ⟨g, cap, hs g hF, h⟩⟩
  rintro T w w' F v ⟨g, cap, hF, rfl, h1, h2⟩ ht hd
  refine ⟨g, cap, hF, rfl, h1, ?_⟩
  rcases h2 with h | ⟨g', cap', cur, he, hb, hg, hr⟩
  · exact .inl h
  · refine .inr ⟨g', cap', cur, he, hb, ?_, hr⟩
    injection he with e1
    injection e1 with e1
    injection e1 with e1 _ _
    subst e1
    exact (ht.block g (Box.lt hg) (hd g hF)).trans hg
theorem ownPs_lt {ps : List (Int × Int)} {w : World} {F : Nat → Prop} {v : Value} (h : OwnPs ps w F v) : OwnPs ps w (fun b => F b ∧ b < w.heap.size) v := by
  rcases h with h | ⟨g, cap, hg, h0, h1, h2, h3⟩
  · exact .inl h
  · exact .inr ⟨g, cap, ⟨hg, h3.lt⟩, h0, h1, h2, h3⟩
theorem rowC_lt {ps : List (Int × Int)} {w : World} {F : Nat → Prop} {v : Value} (h : RowC ps w F v) : RowC ps w (fun b => F b ∧ b < w.heap.size) v := by
  obtain ⟨g, cap, hF, rfl, h⟩ := h
  exact ⟨g, cap, ⟨hF, (h.lt g rfl).2⟩, rfl, h⟩
theorem ownPs_at {ps : List (Int × Int)} {w : World} {F : Nat → Prop} {A : Option Addr} {n c : Nat} (h : OwnPs ps w F (.slice A n c)) : n ≤ maxLen ∧ ps.length = n ∧ Pairs w w.heap.size A n ps := by
  obtain ⟨A', c', e, h1, h2, h3⟩ := OwnP.at h
  injection e with e1 e2 e3
  subst e1 e2
  exact ⟨h1, rfl, h2.1⟩

/-- The record's variable is laid: its list is one's own, apart from it and from the answer's variable. -/
structure NewR (P : World → (Nat → Prop) → Value → Prop) (w wr : World) (V : Nat) (r1 r2 r3 r4 r5 r6 r7 : Int) (u : Value) : Prop where
  bel : Below w.heap.size w wr
  vr : Box wr V 42 #[.int .i64 r1, .int .i64 r2, .int .i64 r3, .int .i64 r4, .int .i64 r5, .int .i64 r6, .int .i64 r7, u, .int .i64 0]
  rs : Box wr (w.heap.size + 1) 42 #[.int .i64 0, .int .i64 0, .int .i64 0, .int .i64 0, .int .i64 0, .int .i64 0, .int .i64 0, .slice none 0 0, .int .i64 0]
  own : P wr (fun b => w.heap.size + 1 < b ∧ b ≠ V) u
  hV : w.heap.size + 1 < V
section
variable {P : World → (Nat → Prop) → Value → Prop} (k : Keeps P)
include k
theorem NewR.later {w wr w' : World} {V : Nat} {r1 r2 r3 r4 r5 r6 r7 : Int} {u : Value} (h : NewR P w wr V r1 r2 r3 r4 r5 r6 r7 u) (hb : Below wr.heap.size wr w') : NewR P w w' V r1 r2 r3 r4 r5 r6 r7 u :=
  ⟨bel_trans h.bel hb, h.vr.later hb h.vr.lt, h.rs.later hb h.rs.lt, k.later h.own hb, h.hV⟩
/-- The list was made ahead of the variable; behind it. -/
theorem newR_a {w w1 : World} {r1 r2 r3 r4 r5 r6 r7 : Int} {u : Value} {N : Nat} (hb0 : Below w.heap.size w w1)
    (R : Box w1 (w.heap.size + 1) 42 #[.int .i64 0, .int .i64 0, .int .i64 0, .int .i64 0, .int .i64 0, .int .i64 0, .int .i64 0, .slice none 0 0, .int .i64 0]) (hO : P w1 (Iv N w1.heap.size) u) (hN : w.heap.size + 1 < N) :
    NewR P w ((w1.alloc (.cells #[.int .i64 0, .int .i64 0, .int .i64 0, .int .i64 0, .int .i64 0, .int .i64 0, .int .i64 0, .slice none 0 0, .int .i64 0] 42)).setRow w1.heap.size #[.int .i64 r1, .int .i64 r2, .int .i64 r3, .int .i64 r4, .int .i64 r5, .int .i64 r6, .int .i64 r7, u, .int .i64 0]) w1.heap.size r1 r2 r3 r4 r5 r6 r7 u := by
  have hR := R.lt
  have hn := bel_new_row w1 #[.int .i64 0, .int .i64 0, .int .i64 0, .int .i64 0, .int .i64 0, .int .i64 0, .int .i64 0, .slice none 0 0, .int .i64 0] 42 #[.int .i64 r1, .int .i64 r2, .int .i64 r3, .int .i64 r4, .int .i64 r5, .int .i64 r6, .int .i64 r7, u, .int .i64 0]
  refine ⟨bel_trans hb0 hn, (Box.new w1 42 #[.int .i64 0, .int .i64 0, .int .i64 0, .int .i64 0, .int .i64 0, .int .i64 0, .int .i64 0, .slice none 0 0, .int .i64 0]).setRow #[.int .i64 r1, .int .i64 r2, .int .i64 r3, .int .i64 r4, .int .i64 r5, .int .i64 r6, .int .i64 r7, u, .int .i64 0], R.later hn hR, ?_, by omega⟩
  refine k.later (k.sub hO fun b hb => ?_) hn
  have h1 := hb.1
  have h2 := hb.2
  omega
theorem newR_b {w w1 : World} {r1 r2 r3 r4 r5 r6 r7 : Int} {u : Value} {V : Nat} {F : Nat → Prop} (hb0 : Below w.heap.size w w1)
    (R : Box w1 (w.heap.size + 1) 42 #[.int .i64 0, .int .i64 0, .int .i64 0, .int .i64 0, .int .i64 0, .int .i64 0, .int .i64 0, .slice none 0 0, .int .i64 0]) (B : Box w1 V 42 #[.int .i64 0, .int .i64 0, .int .i64 0, .int .i64 0, .int .i64 0, .int .i64 0, .int .i64 0, .slice none 0 0, .int .i64 0]) (hV : w.heap.size + 1 < V) (hO : P w1 F u) (hF : ∀ b, F b → w.heap.size + 1 < b ∧ b ≠ V) :
    NewR P w (w1.setRow V #[.int .i64 r1, .int .i64 r2, .int .i64 r3, .int .i64 r4, .int .i64 r5, .int .i64 r6, .int .i64 r7, u, .int .i64 0]) V r1 r2 r3 r4 r5 r6 r7 u := by
  have ht := turns_setRow w1 V #[.int .i64 r1, .int .i64 r2, .int .i64 r3, .int .i64 r4, .int .i64 r5, .int .i64 r6, .int .i64 r7, u, .int .i64 0]
  exact ⟨ht.below hb0 (fun i hi => by omega), B.setRow #[.int .i64 r1, .int .i64 r2, .int .i64 r3, .int .i64 r4, .int .i64 r5, .int .i64 r6, .int .i64 r7, u, .int .i64 0], R.turn ht (by omega), k.turn (k.sub hO hF) ht (fun b hb e => hb.2 e), hV⟩
end

set_option maxRecDepth 100000 in
set_option maxHeartbeats 4000000 in
theorem newRec_is (r1 r2 r3 r4 r5 r6 r7 : Int) (u0 : Value) (ps : List (Int × Int)) (w : World) (hn : ps.length ≤ 1048576) (h : Slc w u0 ps) :
    Calls Tryz.prog 78 #[.int .i64 r1, .int .i64 r2, .int .i64 r3, .int .i64 r4, .agg #[.int .i64 r5, .int .i64 r6], .int .i64 r7, u0] w (Copied (LieC ⟨r1, r2, r3, r4, r5, r6, r7, ps, sumN r1 r2 r3 r4 r5 r6 r7 ps⟩) w) := by
  obtain ⟨A0, n0, c0, rfl⟩ := slc_form h
  have S := (Box.new w 36 #[.int .i64 r5, .int .i64 r6]).alloc (.cells #[.int .i64 0, .int .i64 0, .int .i64 0, .int .i64 0, .int .i64 0, .int .i64 0, .int .i64 0, .slice none 0 0, .int .i64 0] 42)
  have R := Box.new (w.alloc (.cells #[.int .i64 r5, .int .i64 r6] 36)) 42 #[.int .i64 0, .int .i64 0, .int .i64 0, .int .i64 0, .int .i64 0, .int .i64 0, .int .i64 0, .slice none 0 0, .int .i64 0]
  have hb0 := bel_trans (bel_alloc w (.cells #[.int .i64 r5, .int .i64 r6] 36)) (bel_alloc _ (.cells #[.int .i64 0, .int .i64 0, .int .i64 0, .int .i64 0, .int .i64 0, .int .i64 0, .int .i64 0, .slice none 0 0, .int .i64 0] 42))
  simp only [World.size_alloc] at R
  have H := h.later hb0
  have hnn := Lib.hid hn
  clear h
  go_enter Tryz.func78, Tryz.ntmps78
  go_upto_region 1 with fail
  generalize ((w.alloc _).alloc _ : World) = w0 at hb0 S R H ⊢
  go_cut [15] (fun pv wr => ∃ (V : Nat) (A : Option Addr) (n c : Nat), pv = .pointer (some ⟨V, 0, none⟩) ∧ NewR (OwnPs ps) w wr V r1 r2 r3 r4 r5 r6 r7 (.slice A n c))
  case first =>
    refine wp_region_sink 11 (fun w' => Box w' w.heap.size 36 #[.int .i64 r5, .int .i64 r6]) (by kernel_rfl) S (fun hH => ?_)
    have hb := (Below.refl w0.heap.size w0).drew
    replace hb0 := bel_trans hb0 hb
    replace S := S.later hb S.lt
    replace R := R.later hb R.lt
    replace H := H.later hb
    clear hb
    generalize w0.drew = w3 at hb0 S R H hH ⊢
    have hRl := R.lt
    refine wpAnyE_takeS (i := 4) (v := .agg #[.int .i64 r5, .int .i64 r6]) (by simp only [List.getElem?_toArray, List.getElem?_cons_succ, List.getElem?_cons_zero]; rfl) (by kernel_rfl) (by kernel_rfl) (by kernel_rfl) (by exact fun _ _ _ h => h) (by kernel_rfl) ?yl hH ?_
    case yl => exact yields_box 36 _ rfl (w.heap.size) rfl 36 #[.int .i64 r5, .int .i64 r6] (fun _ h => h) _ Tryz.underlying36 rfl (by kernel_rfl) (by first | rfl | simp [Region.wanted, yielded] | (simp [Region.wanted, yielded, Act.put] <;> omega))
    try simp only [Act.put, List.setIfInBounds_toArray, List.set_cons_zero, List.set_cons_succ]
    refine wpAnyE_pure (i := 0) (v := ?vm0) (by simp only [List.getElem?_toArray, List.getElem?_cons_zero]; rfl) (by kernel_rfl) (by kernel_rfl) (by kernel_rfl) (by exact fun _ _ _ h => h) (by kernel_rfl) (Or.inl ⟨by rfl, ?ym0⟩) hH ?rm0
    case ym0 => (intro w' hSw; (try dsimp only at hSw); go_simp; try with_reducible rfl)
    try simp only [Act.put, List.setIfInBounds_toArray, List.set_cons_zero, List.set_cons_succ]
    refine wpAnyE_pure (i := 1) (v := ?vm1) (by simp only [List.getElem?_toArray, List.getElem?_cons_succ, List.getElem?_cons_zero]; rfl) (by kernel_rfl) (by kernel_rfl) (by kernel_rfl) (by exact fun _ _ _ h => h) (by kernel_rfl) (Or.inl ⟨by rfl, ?ym1⟩) hH ?rm1
    case ym1 => (intro w' hSw; (try dsimp only at hSw); go_simp; try with_reducible rfl)
    try simp only [Act.put, List.setIfInBounds_toArray, List.set_cons_zero, List.set_cons_succ]
    refine wpAnyE_pure (i := 2) (v := ?vm2) (by simp only [List.getElem?_toArray, List.getElem?_cons_succ, List.getElem?_cons_zero]; rfl) (by kernel_rfl) (by kernel_rfl) (by kernel_rfl) (by exact fun _ _ _ h => h) (by kernel_rfl) (Or.inl ⟨by rfl, ?ym2⟩) hH ?rm2
    case ym2 => (intro w' hSw; (try dsimp only at hSw); go_simp; try with_reducible rfl)
    try simp only [Act.put, List.setIfInBounds_toArray, List.set_cons_zero, List.set_cons_succ]
    refine wpAnyE_pure (i := 3) (v := ?vm3) (by simp only [List.getElem?_toArray, List.getElem?_cons_succ, List.getElem?_cons_zero]; rfl) (by kernel_rfl) (by kernel_rfl) (by kernel_rfl) (by exact fun _ _ _ h => h) (by kernel_rfl) (Or.inl ⟨by rfl, ?ym3⟩) hH ?rm3
    case ym3 => (intro w' hSw; (try dsimp only at hSw); go_simp; try with_reducible rfl)
    try simp only [Act.put, List.setIfInBounds_toArray, List.set_cons_zero, List.set_cons_succ]
    refine wpAnyE_pure (i := 5) (v := ?vm5) (by simp only [List.getElem?_toArray, List.getElem?_cons_succ, List.getElem?_cons_zero]; rfl) (by kernel_rfl) (by kernel_rfl) (by kernel_rfl) (by exact fun _ _ _ h => h) (by kernel_rfl) (Or.inl ⟨by rfl, ?ym5⟩) hH ?rm5
    case ym5 => (intro w' hSw; (try dsimp only at hSw); go_simp; try with_reducible rfl)
    try simp only [Act.put, List.setIfInBounds_toArray, List.set_cons_zero, List.set_cons_succ]
    refine wpAnyE_pure (i := 6) (v := ?vm6) (by simp only [List.getElem?_toArray, List.getElem?_cons_succ, List.getElem?_cons_zero]; rfl) (by kernel_rfl) (by kernel_rfl) (by kernel_rfl) (by exact fun _ _ _ h => h) (by kernel_rfl) (Or.inl ⟨by rfl, ?ym6⟩) hH ?rm6
    case ym6 => (intro w' hSw; (try dsimp only at hSw); go_simp; try with_reducible rfl)
    try simp only [Act.put, List.setIfInBounds_toArray, List.set_cons_zero, List.set_cons_succ]
    refine wpAnyE_two (i := 7) (j := 9) (by kernel_rfl) (by simp only [List.getElem?_toArray, List.getElem?_cons_succ, List.getElem?_cons_zero]; rfl) (by simp only [List.getElem?_toArray, List.getElem?_cons_succ, List.getElem?_cons_zero]; rfl) (fun K hK => ?_) (fun K hK => ?_)
    · skip
      go_simp
      refine (cloneSeals_is _ ps _ (by omega) H).mono ?_
      rintro e w4 ⟨u, rfl, hO⟩
      obtain ⟨A1, m1, c1, rfl⟩ := slc_form hO.slc
      have S4 := S.later hO.2 S.lt
      clear hH
      refine hK.out _ _ S4 (fun hH => ?_)
      clear hK K
      try simp only [Act.put, List.setIfInBounds_toArray, List.set_cons_zero, List.set_cons_succ]
      refine wpAnyE_pure (i := 8) (v := ?vb8) (by simp only [List.getElem?_toArray, List.getElem?_cons_succ, List.getElem?_cons_zero]; rfl) (by kernel_rfl) (by kernel_rfl) (by kernel_rfl) (by exact fun _ _ _ h => h) (by kernel_rfl) (Or.inl ⟨by rfl, ?yb8⟩) hH ?rb8
      case yb8 => (intro w' hSw; (try dsimp only at hSw); go_simp; try with_reducible rfl)
      try simp only [Act.put, List.setIfInBounds_toArray, List.set_cons_zero, List.set_cons_succ]
      refine wpAnyE_one (i := 9) (by kernel_rfl) (by simp only [List.getElem?_toArray, List.getElem?_cons_succ, List.getElem?_cons_zero]; rfl) (fun K hK => ?_)
      go_simp
      clear hH
      refine hK.out _ _ (S4.alloc _) (fun hH => ?_)
      clear hK K
      try simp only [Act.put, List.setIfInBounds_toArray, List.set_cons_zero, List.set_cons_succ]
      refine wpAnyE_end (i := 10) (by kernel_rfl) (by simp only [List.getElem?_toArray, List.getElem?_cons_succ, List.getElem?_cons_zero]; rfl) (by kernel_rfl) (fun K hK => ?_)
      rw [if_pos (by first | rfl | kernel_rfl | simp [Region.wanted, yielded])]
      refine wp_store_row 42 _ _ rfl w4.heap.size #[.int .i64 r1, .int .i64 r2, .int .i64 r3, .int .i64 r4, .int .i64 r5, .int .i64 r6, .int .i64 r7, .slice A1 m1 c1, .int .i64 0] rfl rfl 42 #[.int .i64 0, .int .i64 0, .int .i64 0, .int .i64 0, .int .i64 0, .int .i64 0, .int .i64 0, .slice none 0 0, .int .i64 0] (Box.new w4 42 #[.int .i64 0, .int .i64 0, .int .i64 0, .int .i64 0, .int .i64 0, .int .i64 0, .int .i64 0, .slice none 0 0, .int .i64 0]) (by kernel_rfl) rfl (by simp [Value.oneCell']) ?_
      refine hK.out _ _ (S4.later (bel_new_row w4 #[.int .i64 0, .int .i64 0, .int .i64 0, .int .i64 0, .int .i64 0, .int .i64 0, .int .i64 0, .slice none 0 0, .int .i64 0] 42 #[.int .i64 r1, .int .i64 r2, .int .i64 r3, .int .i64 r4, .int .i64 r5, .int .i64 r6, .int .i64 r7, .slice A1 m1 c1, .int .i64 0]) S4.lt) ?_
      clear hK K
      try simp only [Act.put]
      have HN := Lib.hid (newR_a (keepsOwn ps) (r1 := r1) (r2 := r2) (r3 := r3) (r4 := r4) (r5 := r5) (r6 := r6) (r7 := r7) (bel_trans hb0 hO.2) (R.later hO.2 R.lt) hO.ownP hRl)
      clear hH
      go_wp2_with fail
      go_meet
      exact ⟨_, _, _, _, rfl, HN.out⟩
    · skip
      go_simp
      have hn := bel_alloc w3 (.cells #[.int .i64 0, .int .i64 0, .int .i64 0, .int .i64 0, .int .i64 0, .int .i64 0, .int .i64 0, .slice none 0 0, .int .i64 0] 42)
      clear hH
      refine hK.out _ _ (S.alloc _) (fun hH => ?_)
      clear hK K
      try simp only [Act.put, List.setIfInBounds_toArray, List.set_cons_zero, List.set_cons_succ]
      refine wpAnyE_one (i := 7) (by kernel_rfl) (by simp only [List.getElem?_toArray, List.getElem?_cons_succ, List.getElem?_cons_zero]; rfl) (fun K hK => ?_)
      go_simp
      refine (cloneSeals_is _ ps _ (by omega) (H.later hn)).mono ?_
      rintro e w4 ⟨u, rfl, hO⟩
      obtain ⟨A1, m1, c1, rfl⟩ := slc_form hO.slc
      have S4 := (S.later hn S.lt).later hO.2 (S.later hn S.lt).lt
      have V4 := (Box.new w3 42 #[.int .i64 0, .int .i64 0, .int .i64 0, .int .i64 0, .int .i64 0, .int .i64 0, .int .i64 0, .slice none 0 0, .int .i64 0]).later hO.2 (Box.new w3 42 #[.int .i64 0, .int .i64 0, .int .i64 0, .int .i64 0, .int .i64 0, .int .i64 0, .int .i64 0, .slice none 0 0, .int .i64 0]).lt
      clear hH
      refine hK.out _ _ S4 (fun hH => ?_)
      clear hK K
      try simp only [Act.put, List.setIfInBounds_toArray, List.set_cons_zero, List.set_cons_succ]
      refine wpAnyE_pure (i := 8) (v := ?vc8) (by simp only [List.getElem?_toArray, List.getElem?_cons_succ, List.getElem?_cons_zero]; rfl) (by kernel_rfl) (by kernel_rfl) (by kernel_rfl) (by exact fun _ _ _ h => h) (by kernel_rfl) (Or.inl ⟨by rfl, ?yc8⟩) hH ?rc8
      case yc8 => (intro w' hSw; (try dsimp only at hSw); go_simp; try with_reducible rfl)
      try simp only [Act.put, List.setIfInBounds_toArray, List.set_cons_zero, List.set_cons_succ]
      refine wpAnyE_end (i := 10) (by kernel_rfl) (by simp only [List.getElem?_toArray, List.getElem?_cons_succ, List.getElem?_cons_zero]; rfl) (by kernel_rfl) (fun K hK => ?_)
      rw [if_pos (by first | rfl | kernel_rfl | simp [Region.wanted, yielded])]
      refine wp_store_row 42 _ _ rfl w3.heap.size #[.int .i64 r1, .int .i64 r2, .int .i64 r3, .int .i64 r4, .int .i64 r5, .int .i64 r6, .int .i64 r7, .slice A1 m1 c1, .int .i64 0] rfl rfl 42 #[.int .i64 0, .int .i64 0, .int .i64 0, .int .i64 0, .int .i64 0, .int .i64 0, .int .i64 0, .slice none 0 0, .int .i64 0] V4 (by kernel_rfl) rfl (by simp [Value.oneCell']) ?_
      refine hK.out _ _ (S4.turn (turns_setRow w4 w3.heap.size #[.int .i64 r1, .int .i64 r2, .int .i64 r3, .int .i64 r4, .int .i64 r5, .int .i64 r6, .int .i64 r7, .slice A1 m1 c1, .int .i64 0]) (Nat.ne_of_lt S.lt)) ?_
      clear hK K
      try simp only [Act.put]
      have HN := Lib.hid (newR_b (keepsOwn ps) (r1 := r1) (r2 := r2) (r3 := r3) (r4 := r4) (r5 := r5) (r6 := r6) (r7 := r7) (bel_trans (bel_trans hb0 hn) hO.2) ((R.later hn R.lt).later hO.2 (R.later hn R.lt).lt) V4 hRl hO.ownP (fun b hb => by have h1 := hb.1; simp only [World.size_alloc] at h1; omega))
      clear hH
      go_wp2_with fail
      go_meet
      exact ⟨_, _, _, _, rfl, HN.out⟩
  case rest =>
  clear S R hb0 H
  obtain ⟨V, A, n, c, rfl, N⟩ := hcut
  obtain ⟨w1, rfl⟩ : ∃ x, x = wc := ⟨_, rfl⟩
  obtain ⟨hm, hl, hp⟩ := ownPs_at N.own
  have hn4 : n ≤ 4194304 := by have := hnn.out; omega
  have J := Lib.hid (show (Tryz.prog.info? 42).map (·.size) = some (#[.int .i64 r1, .int .i64 r2, .int .i64 r3, .int .i64 r4, .int .i64 r5, .int .i64 r6, .int .i64 r7, .slice A n c, .int .i64 0] : Array Value).size from by kernel_rfl)
  go_wp2_with (refine wpList_load_box 42 _ rfl V rfl 42 #[.int .i64 r1, .int .i64 r2, .int .i64 r3, .int .i64 r4, .int .i64 r5, .int .i64 r6, .int .i64 r7, .slice A n c, .int .i64 0] N.vr _ Tryz.underlying42 rfl J.out (by first | rfl | simp [Region.wanted, yielded] | (simp [Region.wanted, yielded, Act.put] <;> omega)) ?_)
  refine (sumOf_is r1 r2 r3 r4 r5 r6 r7 A n c 0 ps w1 hn4 hp).mono ?_
  rintro e w2 ⟨rfl, hb⟩
  replace N := N.later (keepsOwn ps) hb
  clear hp hb
  obtain ⟨v0, v1, v2, v3, v4, v5, v6, v7, v8⟩ := N.vr.nine
  have fv := N.vr.frozen
  have hVw := N.hV
  have hVl := N.vr.lt
  generalize hs : sumN r1 r2 r3 r4 r5 r6 r7 ps = sm
  have V3 := N.vr.set 8 (.int .i64 sm)
  have R3 := N.rs.far (p := ⟨V, 8, none⟩) (by show V ≠ _; omega) (.int .i64 sm)
  have O3 := (keepsOwn ps).turn N.own (turns_setCell w2 V 8 (.int .i64 sm)) (fun b hb e => hb.2 e)
  have E3 := N.bel.setCell (p := ⟨V, 8, none⟩) (by show _ ≤ V; omega) (.int .i64 sm)
  replace V3 := Lib.hid V3
  replace R3 := Lib.hid R3
  replace O3 := Lib.hid O3
  replace E3 := Lib.hid E3
  clear N
  go_upto_region 3 with fail
  clear v0 v1 v2 v3 v4 v5 v6 v7 v8 fv
  generalize (w2.setCell _ _ : World) = w3 at V3 R3 O3 E3 ⊢
  have V4 : Box w3 V 42 #[.int .i64 r1, .int .i64 r2, .int .i64 r3, .int .i64 r4, .int .i64 r5, .int .i64 r6, .int .i64 r7, .slice A n c, .int .i64 sm] := V3.out
  have J2 := Lib.hid (show (Tryz.prog.info? 42).map (·.size) = some (#[.int .i64 r1, .int .i64 r2, .int .i64 r3, .int .i64 r4, .int .i64 r5, .int .i64 r6, .int .i64 r7, .slice A n c, .int .i64 sm] : Array Value).size from by kernel_rfl)
  have ht := turns_setRow w3 (w.heap.size + 1) #[.int .i64 r1, .int .i64 r2, .int .i64 r3, .int .i64 r4, .int .i64 r5, .int .i64 r6, .int .i64 r7, .slice A n c, .int .i64 sm]
  have X := R3.out.setRow #[.int .i64 r1, .int .i64 r2, .int .i64 r3, .int .i64 r4, .int .i64 r5, .int .i64 r6, .int .i64 r7, .slice A n c, .int .i64 sm]
  have O4 := Lib.hid ((keepsOwn ps).sub (F' := Iv w.heap.size (w3.setRow (w.heap.size + 1) #[.int .i64 r1, .int .i64 r2, .int .i64 r3, .int .i64 r4, .int .i64 r5, .int .i64 r6, .int .i64 r7, .slice A n c, .int .i64 sm]).heap.size) (ownPs_lt ((keepsOwn ps).turn O3.out ht (fun b hb e => by have := hb.1; omega))) (fun b hb => ⟨by have := hb.1.1; omega, hb.2⟩))
  have E4 := Lib.hid (ht.below E3.out (fun i hi => by omega))
  obtain ⟨x0, x1, x2, x3, x4, x5, x6, x7, x8⟩ := X.nine
  clear ht X
  go_wp2_with (first | (refine wpList_load_box 42 _ rfl V rfl 42 #[.int .i64 r1, .int .i64 r2, .int .i64 r3, .int .i64 r4, .int .i64 r5, .int .i64 r6, .int .i64 r7, .slice A n c, .int .i64 sm] V4 _ Tryz.underlying42 rfl J2.out (by first | rfl | simp [Region.wanted, yielded] | (simp [Region.wanted, yielded, Act.put] <;> omega)) ?_) | (refine wpList_store_row rfl 42 _ _ rfl (w.heap.size + 1) _ rfl rfl 42 #[.int .i64 0, .int .i64 0, .int .i64 0, .int .i64 0, .int .i64 0, .int .i64 0, .int .i64 0, .slice none 0 0, .int .i64 0] R3.out J2.out rfl (by simp [Value.oneCell']) ?_))
  exact bodyPost_ret (v := .agg #[.int .i64 r1, .int .i64 r2, .int .i64 r3, .int .i64 r4, .int .i64 r5, .int .i64 r6, .int .i64 r7, .slice A n c, .int .i64 sm]) (by simp [results, Tryz.results78, go_sem, x0, x1, x2, x3, x4, x5, x6, x7, x8]) rfl ⟨_, rfl, ⟨_, by rw [← hs]; rfl, O4.out⟩, E4.out⟩

end Go.Proofs.YtmooajppfjglaaaGreat
