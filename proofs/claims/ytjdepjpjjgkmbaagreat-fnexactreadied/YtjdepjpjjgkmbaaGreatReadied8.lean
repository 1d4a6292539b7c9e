/- Readied of the program and of the model: contracts of both (written by readied8.py); conditions: the sizes. -/
import Derived.Test.YtjdepjpjjgkmbaaGreatSome8
import Derived.Test.YtjdepjpjjgkmbaaGreatSpecReg1
namespace Go.Proofs.YtjdepjpjjgkmbaaGreat
open Go Go.RowKit

/-- A shelf and a code are answered; the shelf is one's own. -/
def RdR (w : World) (r : RegD) (z : Int) (e : Ending) (w' : World) : Prop := ∃ C, e = .returned (.tuple #[.agg C, .int .i64 z]) ∧ LieR r w' (Iv w.heap.size w'.heap.size) (.agg C) ∧ Below w.heap.size w w'
theorem regr_lie {w w' : World} {rt rq rv : Int} {ps : List (Int × Int)} {os : List Opn} {e : Ending} (h : RegR w rt rq rv ps os e w') : ∃ (A : Option Addr) (n c : Nat) (A' : Option Addr) (n' c' : Nat), e = .returned (.agg #[.int .i64 rt, .int .i64 rq, .int .i64 rv, .slice A n c, .slice A' n' c']) ∧ LieR ⟨rt, rq, rv, ps, os⟩ w' (Iv w.heap.size w'.heap.size) (.agg #[.int .i64 rt, .int .i64 rq, .int .i64 rv, .slice A n c, .slice A' n' c']) ∧ Below w.heap.size w w' := by
  obtain ⟨B, u, v, hB, hB', rfl, hR, hO, hb⟩ := h
  obtain ⟨A, c, rfl, -⟩ := hR.form
  obtain ⟨A', c', rfl, -⟩ := hO.form
  exact ⟨A, _, c, A', _, c', rfl, ⟨A, _, c, A', _, c', w.heap.size, B, w'.heap.size, rfl, hR, hO.resQ, hB, hB', Nat.le_refl _, fun b hb => hb⟩, hb⟩
theorem lie_nil (w : World) (F : Nat → Prop) : LieR ⟨0, 0, 0, [], []⟩ w F (.agg #[.int .i64 0, .int .i64 0, .int .i64 0, .slice none 0 0, .slice none 0 0]) :=
  ⟨none, 0, 0, none, 0, 0, 0, 0, 0, rfl, .inl ⟨rfl, rfl⟩, .inl ⟨rfl, rfl⟩, Nat.le_refl _, Nat.le_refl _, Nat.zero_le _, fun b hb => by have := hb.1; have := hb.2; omega⟩
theorem turns_five (w : World) (R : Nat) (x0 x1 x2 x3 x4 : Value) : Turns (· = R) w (((((w.setCell ⟨R, 0, none⟩ x0).setCell ⟨R, 1, none⟩ x1).setCell ⟨R, 2, none⟩ x2).setCell ⟨R, 3, none⟩ x3).setCell ⟨R, 4, none⟩ x4) := Turns.of_grown (grown5 w R x0 x1 x2 x3 x4)
/-- A shelf that was answered is laid into the variable of the answer. -/
theorem rdr_put {w wc w' : World} {r : RegD} {z : Int} {C : Array Value} {R : Nat} (E : Below w.heap.size w wc) (hR0 : w.heap.size ≤ R) (hR : R < wc.heap.size) (h : LieR r w' (Iv wc.heap.size w'.heap.size) (.agg C)) (hb : Below wc.heap.size wc w') (x0 x1 x2 x3 x4 : Value) :
    RdR w r z (.returned (.tuple #[.agg C, .int .i64 z])) (((((w'.setCell ⟨R, 0, none⟩ x0).setCell ⟨R, 1, none⟩ x1).setCell ⟨R, 2, none⟩ x2).setCell ⟨R, 3, none⟩ x3).setCell ⟨R, 4, none⟩ x4) :=
  ⟨C, rfl, (keepsLR r).sub ((keepsLR r).turn h (turns_five w' R x0 x1 x2 x3 x4) (iv_one (.inl hR))) (iv_sub E.size (by simp only [size_set]; exact Nat.le_refl _)), bel_five (bel_trans E hb) hR0 x0 x1 x2 x3 x4⟩
theorem rdr_row {w wc w' : World} {r : RegD} {z : Int} {C : Array Value} {R : Nat} (E : Below w.heap.size w wc) (hR0 : w.heap.size ≤ R) (hR : R < wc.heap.size) (h : LieR r w' (Iv wc.heap.size w'.heap.size) (.agg C)) (hb : Below wc.heap.size wc w') (x : Array Value) :
    RdR w r z (.returned (.tuple #[.agg C, .int .i64 z])) (w'.setRow R x) :=
  ⟨C, rfl, (keepsLR r).sub ((keepsLR r).turn h (turns_setRow w' R x) (iv_one (.inl hR))) (iv_sub E.size (by rw [size_setRow]; exact Nat.le_refl _)), (turns_setRow w' R x).below (bel_trans E hb) (fun i hi => by omega)⟩

set_option maxRecDepth 100000 in
set_option maxHeartbeats 4000000 in
/-- A shelf copied. -/
theorem regCopied_is (rt rq rv : Int) (P : Option Addr) (p pc : Nat) (Q : Option Addr) (q qc : Nat) (ps : List (Int × Int)) (os : List Opn) (w : World) (hp : ps.length ≤ 4194304) (hq : os.length ≤ 4194304) (h1 : Slc w (.slice P p pc) ps) (h2 : SlcQ w (.slice Q q qc) os) :
    Calls Tryz.prog 101 #[.agg #[.int .i64 rt, .int .i64 rq, .int .i64 rv, .slice P p pc, .slice Q q qc]] w fun e w' => ∃ (A5 : Option Addr) (n5 c5 : Nat) (A6 : Option Addr) (n6 c6 : Nat), e = .returned (.agg #[.int .i64 rt, .int .i64 rq, .int .i64 rv, .slice A5 n5 c5, .slice A6 n6 c6]) ∧ LieR ⟨rt, rq, rv, ps, os⟩ w' (Iv w.heap.size w'.heap.size) (.agg #[.int .i64 rt, .int .i64 rq, .int .i64 rv, .slice A5 n5 c5, .slice A6 n6 c6]) ∧ Below w.heap.size w w' := by
  have D := (Box.new w 80 #[.int .i64 rt, .int .i64 rq, .int .i64 rv, .slice P p pc, .slice Q q qc]).alloc (.cells #[.int .i64 0, .int .i64 0, .int .i64 0, .slice none 0 0, .slice none 0 0] 80)
  have X := Box.new (w.alloc (.cells #[.int .i64 rt, .int .i64 rq, .int .i64 rv, .slice P p pc, .slice Q q qc] 80)) 80 #[.int .i64 0, .int .i64 0, .int .i64 0, .slice none 0 0, .slice none 0 0]
  have hb0 := bel_trans (bel_alloc w (.cells #[.int .i64 rt, .int .i64 rq, .int .i64 rv, .slice P p pc, .slice Q q qc] 80)) (bel_alloc _ (.cells #[.int .i64 0, .int .i64 0, .int .i64 0, .slice none 0 0, .slice none 0 0] 80))
  simp only [World.size_alloc] at X
  have H1 := h1.later hb0
  have H2 := Lib.hid (h2.later hb0)
  clear h1 h2
  have IR : Hid ((Tryz.prog.info? 80).map (·.size) = some (#[.int .i64 rt, .int .i64 rq, .int .i64 rv, .slice P p pc, .slice Q q qc] : Array Value).size) := Lib.hid (by kernel_rfl)
  go_enter Tryz.func101, Tryz.ntmps101
  go_upto_region 1 with fail
  generalize ((w.alloc _).alloc _ : World) = w0 at hb0 D X H1 H2 ⊢
  go_wp2_with (refine wpList_load_box 80 _ rfl w.heap.size rfl 80 #[.int .i64 rt, .int .i64 rq, .int .i64 rv, .slice P p pc, .slice Q q qc] D _ Tryz.underlying80 rfl IR.out (by first | rfl | simp [Region.wanted, yielded] | (simp [Region.wanted, yielded, Act.put] <;> omega)) ?_)
  refine (boardOf_is rt rq rv P p pc Q q qc w0).mono ?_
  rintro e w1 ⟨rfl, hb⟩
  replace X := X.later hb X.lt
  replace H1 := H1.later hb
  have H3 := H2.out.later hb
  replace hb0 := bel_trans hb0 hb
  clear hb D H2
  go_wp2_with fail
  refine (reg_is rt rq rv P p pc Q q qc ps os w1 hp hq H1 H3).mono ?_
  intro e w4 hr
  obtain ⟨A5, n5, c5, A6, n6, c6, rfl, hl, hb⟩ := regr_lie hr
  have hX := X.lt
  replace X := X.later hb X.lt
  have HL := Lib.hid ((keepsLR _).turn hl (turns_setRow w4 (w.heap.size + 1) #[.int .i64 rt, .int .i64 rq, .int .i64 rv, .slice A5 n5 c5, .slice A6 n6 c6]) (iv_one (.inl hX)))
  have HE := Lib.hid ((turns_setRow w4 (w.heap.size + 1) #[.int .i64 rt, .int .i64 rq, .int .i64 rv, .slice A5 n5 c5, .slice A6 n6 c6]).below (bel_trans hb0 hb) (fun i hi => by omega))
  have hs0 := hb0.size
  clear hr hl hb hb0 H1 H3
  go_wp2_with (refine wpList_store_row rfl 80 _ _ rfl (w.heap.size + 1) _ rfl rfl 80 #[.int .i64 0, .int .i64 0, .int .i64 0, .slice none 0 0, .slice none 0 0] X (by kernel_rfl) rfl (by simp [Value.oneCell']) ?_)
  replace X := X.setRow #[.int .i64 rt, .int .i64 rq, .int .i64 rv, .slice A5 n5 c5, .slice A6 n6 c6]
  obtain ⟨x0, x1, x2, x3, x4⟩ := X.five
  exact bodyPost_ret (v := .agg #[.int .i64 rt, .int .i64 rq, .int .i64 rv, .slice A5 n5 c5, .slice A6 n6 c6]) (by simp [results, Tryz.results101, go_sem, x0, x1, x2, x3, x4]) rfl ⟨A5, n5, c5, A6, n6, c6, rfl, (keepsLR _).sub HL.out (iv_sub hs0 (by rw [size_setRow]; exact Nat.le_refl _)), HE.out⟩

section
variable {s l c sh : Int} {A : Option Addr} {n cap : Nat} {zs : List Int} {rt rq rv : Int} {X : Option Addr} {x xc : Nat} {ps : List (Int × Int)} {Y : Option Addr} {y yc : Nat} {os : List Opn} {N : Array Value} {k1 k2 k3 k4 k5 t1 t2 v1 o1 o2 v2 : Int} {P : Option Addr} {p pc : Nat} {Q : Option Addr} {q qc : Nat} {l1 l2 v3 : Int} {cs ms : List (Int × Int)} {w : World}

set_option maxRecDepth 100000 in
set_option maxHeartbeats 4000000 in
theorem readied_is (hN : N = #[.int .i64 k1, .int .i64 k2, .int .i64 k3, .int .i64 k4, .int .i64 k5, .int .i64 t1, .int .i64 t2, .int .i64 v1, .int .i64 o1, .int .i64 o2, .int .i64 v2, .slice P p pc, .slice Q q qc, .int .i64 l1, .int .i64 l2, .int .i64 v3]) (I : In8 w A n zs X x xc ps Y y yc os P p cs Q q ms) {r : RegD} {z : Int} (hz : readN s l c sh zs rt rq rv ps os k1 k2 k3 k4 k5 t1 t2 v1 o1 o2 v2 l1 l2 v3 cs ms = (r, z)) :
    Calls Tryz.prog 47 #[.agg #[.int .i64 s, .int .i64 l, .int .i64 c, .int .i64 sh, .slice A n cap], .agg #[.int .i64 rt, .int .i64 rq, .int .i64 rv, .slice X x xc, .slice Y y yc], .agg N] w (RdR w r z) := by
  have hlx := I.lx
  have hly := I.ly
  have hxx := I.hx
  have hyy := I.hy
  have K00 := K8.start w N s l c sh cap rt rq rv I
  have X0 := Box.new (((w.alloc (.cells #[.int .i64 s, .int .i64 l, .int .i64 c, .int .i64 sh, .slice A n cap] 26)).alloc (.cells #[.int .i64 rt, .int .i64 rq, .int .i64 rv, .slice X x xc, .slice Y y yc] 80)).alloc (.cells N 85)) 80 #[.int .i64 0, .int .i64 0, .int .i64 0, .slice none 0 0, .slice none 0 0]
  have K0 := K00.later (bel_alloc _ (.cells #[.int .i64 0, .int .i64 0, .int .i64 0, .slice none 0 0, .slice none 0 0] 80))
  simp only [World.size_alloc] at X0
  have HZ := Lib.hid (sizeN hN)
  have HN := Lib.hid hN
  obtain ⟨cd, hcd⟩ : ∃ cd, codeN s l c sh zs rt rq rv ps os k1 k2 k3 k4 k5 t1 t2 v1 o1 o2 v2 l1 l2 v3 cs ms = cd := ⟨_, rfl⟩
  have HC := Lib.hid hcd
  clear hN I K00
  go_enter Tryz.func47, Tryz.ntmps47
  obtain ⟨g0, g1, g2, g3, g4⟩ := K0.gb.five
  obtain ⟨r0, r1, r2, r3, r4⟩ := K0.rb.five
  go_wp2_with fail
  generalize ((((w.alloc _).alloc _).alloc _).alloc _ : World) = w0 at K0 X0 g0 g1 g2 g3 g4 r0 r1 r2 r3 r4 ⊢
  rcases hsm : someB s l c sh zs rt rq rv ps os with _ | _
  · have hr := read_no (k1 := k1) (k2 := k2) (k3 := k3) (k4 := k4) (k5 := k5) (t1 := t1) (t2 := t2) (v1 := v1) (o1 := o1) (o2 := o2) (v2 := v2) (l1 := l1) (l2 := l2) (v3 := v3) (cs := cs) (ms := ms) hsm
    rw [hr] at hz
    obtain ⟨rfl, rfl⟩ := Prod.mk.inj hz
    have HS := Lib.hid hsm
    clear hsm hr hz hcd HC
    refine (some_is K0.inp.hn (by omega) (by omega) K0.inp.row K0.inp.prs K0.inp.ops HS.out).mono ?_
    rintro e w1 ⟨rfl, hb⟩
    have E1 := bel_trans K0.bel hb
    have X1 := X0.later hb X0.lt
    have hX := X0.lt
    have HP : Hid (∀ y0 y1 y2 y3 y4 : Value, RdR w ⟨0, 0, 0, [], []⟩ 1 (.returned (.tuple #[.agg #[.int .i64 0, .int .i64 0, .int .i64 0, .slice none 0 0, .slice none 0 0], .int .i64 1])) (((((w1.setCell ⟨w.heap.size + 1 + 1 + 1, 0, none⟩ y0).setCell ⟨w.heap.size + 1 + 1 + 1, 1, none⟩ y1).setCell ⟨w.heap.size + 1 + 1 + 1, 2, none⟩ y2).setCell ⟨w.heap.size + 1 + 1 + 1, 3, none⟩ y3).setCell ⟨w.heap.size + 1 + 1 + 1, 4, none⟩ y4)) := Lib.hid fun y0 y1 y2 y3 y4 =>
      ⟨_, rfl, lie_nil _ _, bel_five E1 (by omega) y0 y1 y2 y3 y4⟩
    obtain ⟨x0, x1, x2, x3, x4⟩ := X1.five
    have fx := X1.frozen
    clear K0 X0 X1 E1 hb g0 g1 g2 g3 g4 r0 r1 r2 r3 r4
    go_wp2
    exact bodyPost_ret (v := .tuple #[.agg #[.int .i64 0, .int .i64 0, .int .i64 0, .slice none 0 0, .slice none 0 0], .int .i64 1]) (by simp [results, Tryz.results47, go_sem, x0, x1, x2, x3, x4]) rfl (HP.out _ _ _ _ _)
  have HS := Lib.hid hsm
  refine (some_is K0.inp.hn (by omega) (by omega) K0.inp.row K0.inp.prs K0.inp.ops HS.out).mono ?_
  rintro e w1 ⟨rfl, hb⟩
  replace K0 := K0.later hb
  replace X0 := X0.later hb X0.lt
  clear hb g0 g1 g2 g3 g4 r0 r1 r2 r3 r4
  obtain ⟨g0, g1, g2, g3, g4⟩ := K0.gb.five
  obtain ⟨r0, r1, r2, r3, r4⟩ := K0.rb.five
  go_wp2_with (refine wpList_load_box 85 _ rfl (w.heap.size + 1 + 1) rfl 85 N K0.nb _ Tryz.underlying85 rfl HZ.out (by first | rfl | simp [Region.wanted, yielded] | (simp [Region.wanted, yielded, Act.put] <;> omega)) ?_)
  refine (codeReady_is HN.out K0.inp HC.out).mono ?_
  rintro e w2 ⟨rfl, hb⟩
  replace K0 := K0.later hb
  replace X0 := X0.later hb X0.lt
  clear hb g0 g1 g2 g3 g4 r0 r1 r2 r3 r4
  by_cases hc0 : cd = 0
  rotate_left
  · have hc1 : (cd != 0) = true := by simpa using hc0
    rw [read_z hsm hcd hc0] at hz
    obtain ⟨rfl, rfl⟩ := Prod.mk.inj hz
    obtain ⟨r0, r1, r2, r3, r4⟩ := K0.rb.five
    clear hsm hcd HC hz hc0
    have hX := X0.lt
    clear r0 r1 r2 r3 r4
    have IR : Hid ((Tryz.prog.info? 80).map (·.size) = some (#[.int .i64 rt, .int .i64 rq, .int .i64 rv, .slice X x xc, .slice Y y yc] : Array Value).size) := Lib.hid (by kernel_rfl)
    go_wp2_with (refine wpList_load_box 80 _ rfl (w.heap.size + 1) rfl 80 #[.int .i64 rt, .int .i64 rq, .int .i64 rv, .slice X x xc, .slice Y y yc] K0.rb _ Tryz.underlying80 rfl IR.out (by first | rfl | simp [Region.wanted, yielded] | (simp [Region.wanted, yielded, Act.put] <;> omega)) ?_)
    refine (regCopied_is rt rq rv X x xc Y y yc ps os w2 (by omega) (by omega) K0.inp.slc K0.inp.slq).mono ?_
    rintro e w4 ⟨A5, n5, c5, A6, n6, c6, rfl, hl, hb⟩
    have X4 := X0.later hb X0.lt
    obtain ⟨x0, x1, x2, x3, x4⟩ := X4.five
    have fx := X4.frozen
    have HP := Lib.hid (rdr_put (z := cd) (R := w.heap.size + 1 + 1 + 1) K0.bel (by omega) hX hl hb)
    clear hl hb K0 X0 X4
    go_wp2
    exact bodyPost_ret (v := .tuple #[.agg #[.int .i64 rt, .int .i64 rq, .int .i64 rv, .slice A5 n5 c5, .slice A6 n6 c6], .int .i64 cd]) (by simp [results, Tryz.results47, go_sem, x0, x1, x2, x3, x4]) rfl (HP.out _ _ _ _ _)
  subst hc0
  rw [read_0 hsm hcd] at hz
  obtain ⟨rfl, rfl⟩ := Prod.mk.inj hz
  have IR : Hid ((Tryz.prog.info? 80).map (·.size) = some (#[.int .i64 rt, .int .i64 rq, .int .i64 rv, .slice X x xc, .slice Y y yc] : Array Value).size) := Lib.hid (by kernel_rfl)
  clear hsm hcd HC hz
  go_upto_region 6 with fail
  refine wp_region_sink 6 (fun w' => Box w' (w.heap.size + 1) 80 #[.int .i64 rt, .int .i64 rq, .int .i64 rv, .slice X x xc, .slice Y y yc] ∧ Box w' (w.heap.size + 1 + 1) 85 N) (by kernel_rfl) ⟨K0.rb, K0.nb⟩ (fun hH => ?_)
  replace K0 := K0.later ((Below.refl w2.heap.size w2).drew)
  replace X0 := X0.later ((Below.refl w2.heap.size w2).drew) X0.lt
  generalize w2.drew = w3 at K0 X0 hH ⊢
  refine wpAnyE_takeS (i := 0) (v := .agg #[.int .i64 rt, .int .i64 rq, .int .i64 rv, .slice X x xc, .slice Y y yc]) (by simp only [List.getElem?_toArray, List.getElem?_cons_zero]; rfl) (by kernel_rfl) (by kernel_rfl) (by kernel_rfl) (by exact fun _ _ _ h => h) (by kernel_rfl) ?ya hH ?_
  case ya => exact yields_box 80 _ rfl (w.heap.size + 1) rfl 80 #[.int .i64 rt, .int .i64 rq, .int .i64 rv, .slice X x xc, .slice Y y yc] (fun _ h => h.1) _ Tryz.underlying80 rfl IR.out (by first | rfl | simp [Region.wanted, yielded] | (simp [Region.wanted, yielded, Act.put] <;> omega))
  try simp only [Act.put, List.setIfInBounds_toArray, List.set_cons_zero, List.set_cons_succ]
  refine wpAnyE_takeS (i := 1) (v := .agg N) (by simp only [List.getElem?_toArray, List.getElem?_cons_succ, List.getElem?_cons_zero]; rfl) (by kernel_rfl) (by kernel_rfl) (by kernel_rfl) (by exact fun _ _ _ h => h) (by kernel_rfl) ?yb hH ?_
  case yb => exact yields_box 85 _ rfl (w.heap.size + 1 + 1) rfl 85 N (fun _ h => h.2) _ Tryz.underlying85 rfl HZ.out (by first | rfl | simp [Region.wanted, yielded] | (simp [Region.wanted, yielded, Act.put] <;> omega))
  try simp only [Act.put, List.setIfInBounds_toArray, List.set_cons_zero, List.set_cons_succ]
  refine wpAnyE_one (i := 2) (by kernel_rfl) (by simp only [List.getElem?_toArray, List.getElem?_cons_succ, List.getElem?_cons_zero]; rfl) (fun K hK => ?_)
  go_simp
  refine (openFor_is HN.out _).mono ?_
  rintro e w4 ⟨rfl, hb⟩
  replace K0 := K0.later hb
  replace X0 := X0.later hb X0.lt
  clear hb
  clear hH
  refine hK.out _ _ ⟨K0.rb, K0.nb⟩ (fun hH => ?_)
  clear hK K
  try simp only [Act.put, List.setIfInBounds_toArray, List.set_cons_zero, List.set_cons_succ]
  refine wpAnyE_one (i := 3) (by kernel_rfl) (by simp only [List.getElem?_toArray, List.getElem?_cons_succ, List.getElem?_cons_zero]; rfl) (fun K hK => ?_)
  go_simp
  refine (withOpen_is rt rq rv X x xc Y y yc k2 t1 t2 v1 ps os w4 (by omega) (by omega) K0.inp.slc K0.inp.slq).mono ?_
  intro e w5 hr
  obtain ⟨A5, n5, c5, A6, n6, c6, rfl, hl, hb⟩ := regr_lie hr
  have hX := X0.lt
  have HP := Lib.hid (rdr_row (z := 0) (R := w.heap.size + 1 + 1 + 1) K0.bel (by omega) hX hl hb #[.int .i64 rt, .int .i64 rq, .int .i64 rv, .slice A5 n5 c5, .slice A6 n6 c6])
  replace K0 := K0.later hb
  replace X0 := X0.later hb X0.lt
  clear hr hl hb
  clear hH
  refine hK.out _ _ ⟨K0.rb, K0.nb⟩ (fun hH => ?_)
  clear hK K
  try simp only [Act.put, List.setIfInBounds_toArray, List.set_cons_zero, List.set_cons_succ]
  refine wpAnyE_one (i := 4) (by kernel_rfl) (by simp only [List.getElem?_toArray, List.getElem?_cons_succ, List.getElem?_cons_zero]; rfl) (fun K hK => ?_)
  rw [if_pos (by first | rfl | kernel_rfl | simp [Region.wanted, yielded])]
  have ht := turns_setRow w5 (w.heap.size + 1 + 1 + 1) #[.int .i64 rt, .int .i64 rq, .int .i64 rv, .slice A5 n5 c5, .slice A6 n6 c6]
  have X6 := X0.setRow #[.int .i64 rt, .int .i64 rq, .int .i64 rv, .slice A5 n5 c5, .slice A6 n6 c6]
  have B1 := K0.rb.turn ht (by omega)
  have B2 := K0.nb.turn ht (by omega)
  refine wp_store_row 80 _ _ rfl (w.heap.size + 1 + 1 + 1) _ rfl rfl 80 _ X0 (by kernel_rfl) rfl (by simp [Value.oneCell']) ?_
  refine hK.out _ _ ⟨B1, B2⟩ (fun hH => ?_)
  clear hK K
  try simp only [Act.put]
  refine wpAnyE_end (i := 5) (by kernel_rfl) (by simp only [List.getElem?_toArray, List.getElem?_cons_succ, List.getElem?_cons_zero]; rfl) (by kernel_rfl) (fun K hK => ?_)
  go_simp
  refine hK.out _ _ ⟨B1, B2⟩ ?_
  clear hK K
  try simp only [Act.put, List.setIfInBounds_toArray, List.set_cons_zero, List.set_cons_succ]
  obtain ⟨x0, x1, x2, x3, x4⟩ := X6.five
  clear K0 X0 B1 B2 hH ht
  go_wp2
  exact bodyPost_ret (v := .tuple #[.agg #[.int .i64 rt, .int .i64 rq, .int .i64 rv, .slice A5 n5 c5, .slice A6 n6 c6], .int .i64 0]) (by simp [results, Tryz.results47, go_sem, x0, x1, x2, x3, x4]) rfl HP.out

theorem specCodeS_is (hN : N = #[.int .i64 k1, .int .i64 k2, .int .i64 k3, .int .i64 k4, .int .i64 k5, .int .i64 t1, .int .i64 t2, .int .i64 v1, .int .i64 o1, .int .i64 o2, .int .i64 v2, .slice P p pc, .slice Q q qc, .int .i64 l1, .int .i64 l2, .int .i64 v3]) (I : In8 w A n zs X x xc ps Y y yc os P p cs Q q ms) {z : Int} (h : codeN s l c sh zs rt rq rv ps os k1 k2 k3 k4 k5 t1 t2 v1 o1 o2 v2 l1 l2 v3 cs ms = z) :
    Calls Tryz.prog 95 #[.agg #[.int .i64 s, .int .i64 l, .int .i64 c, .int .i64 sh, .slice A n cap], .agg #[.int .i64 rt, .int .i64 rq, .int .i64 rv, .slice X x xc, .slice Y y yc], .agg N] w fun e w' => e = .returned (.int .i64 z) ∧ Below w.heap.size w w' := specCode_is hN I h
set_option maxRecDepth 100000 in
set_option maxHeartbeats 4000000 in
theorem specReadied_is (hN : N = #[.int .i64 k1, .int .i64 k2, .int .i64 k3, .int .i64 k4, .int .i64 k5, .int .i64 t1, .int .i64 t2, .int .i64 v1, .int .i64 o1, .int .i64 o2, .int .i64 v2, .slice P p pc, .slice Q q qc, .int .i64 l1, .int .i64 l2, .int .i64 v3]) (I : In8 w A n zs X x xc ps Y y yc os P p cs Q q ms) {r : RegD} {z : Int} (hz : readN s l c sh zs rt rq rv ps os k1 k2 k3 k4 k5 t1 t2 v1 o1 o2 v2 l1 l2 v3 cs ms = (r, z)) :
    Calls Tryz.prog 44 #[.agg #[.int .i64 s, .int .i64 l, .int .i64 c, .int .i64 sh, .slice A n cap], .agg #[.int .i64 rt, .int .i64 rq, .int .i64 rv, .slice X x xc, .slice Y y yc], .agg N] w (RdR w r z) := by
  have hlx := I.lx
  have hly := I.ly
  have hxx := I.hx
  have hyy := I.hy
  have K00 := K8.start w N s l c sh cap rt rq rv I
  have X0 := Box.new (((w.alloc (.cells #[.int .i64 s, .int .i64 l, .int .i64 c, .int .i64 sh, .slice A n cap] 26)).alloc (.cells #[.int .i64 rt, .int .i64 rq, .int .i64 rv, .slice X x xc, .slice Y y yc] 80)).alloc (.cells N 85)) 80 #[.int .i64 0, .int .i64 0, .int .i64 0, .slice none 0 0, .slice none 0 0]
  have K0 := K00.later (bel_alloc _ (.cells #[.int .i64 0, .int .i64 0, .int .i64 0, .slice none 0 0, .slice none 0 0] 80))
  simp only [World.size_alloc] at X0
  have HZ := Lib.hid (sizeN hN)
  have HN := Lib.hid hN
  obtain ⟨cd, hcd⟩ : ∃ cd, codeN s l c sh zs rt rq rv ps os k1 k2 k3 k4 k5 t1 t2 v1 o1 o2 v2 l1 l2 v3 cs ms = cd := ⟨_, rfl⟩
  have HC := Lib.hid hcd
  clear hN I K00
  go_enter Tryz.func44, Tryz.ntmps44
  obtain ⟨g0, g1, g2, g3, g4⟩ := K0.gb.five
  obtain ⟨r0, r1, r2, r3, r4⟩ := K0.rb.five
  go_wp2_with (refine wpList_load_box 85 _ rfl (w.heap.size + 1 + 1) rfl 85 N K0.nb _ Tryz.underlying85 rfl HZ.out (by first | rfl | simp [Region.wanted, yielded] | (simp [Region.wanted, yielded, Act.put] <;> omega)) ?_)
  generalize ((((w.alloc _).alloc _).alloc _).alloc _ : World) = w0 at K0 X0 g0 g1 g2 g3 g4 r0 r1 r2 r3 r4 ⊢
  refine (specCode_is HN.out K0.inp HC.out).mono ?_
  rintro e w1 ⟨rfl, hb⟩
  replace K0 := K0.later hb
  replace X0 := X0.later hb X0.lt
  clear hb g0 g1 g2 g3 g4 r0 r1 r2 r3 r4
  have hX := X0.lt
  by_cases hc0 : cd = 0
  · subst hc0
    have hsm : someB s l c sh zs rt rq rv ps os = true := by
      rcases h : someB s l c sh zs rt rq rv ps os with _ | _
      · have := code_not_some (k1 := k1) (k2 := k2) (k3 := k3) (k4 := k4) (k5 := k5) (t1 := t1) (t2 := t2) (v1 := v1) (o1 := o1) (o2 := o2) (v2 := v2) (l1 := l1) (l2 := l2) (v3 := v3) (cs := cs) (ms := ms) h
        rw [hcd] at this
        omega
      · rfl
    rw [read_0 hsm hcd] at hz
    obtain ⟨rfl, rfl⟩ := Prod.mk.inj hz
    obtain ⟨n0, n1, n2, n3, n4, n5, n6, n7, n8, n9, n10, n11, n12, n13, n14, n15⟩ := cellsN HN.out
    have cN := K0.nb.cell
    obtain ⟨r0, r1, r2, r3, r4⟩ := K0.rb.five
    clear hsm hcd HC hz n0 n2 n3 n4 n8 n9 n10 n11 n12 n13 n14 n15
    go_wp2_with fail
    refine (specWith_is rt rq rv X x xc Y y yc k2 t1 t2 v1 ps os w1 (by omega) (by omega) K0.inp.slc K0.inp.slq).mono ?_
    intro e w4 hr
    obtain ⟨A5, q5, c5, A6, q6, c6, rfl, hl, hb⟩ := regr_lie hr
    have X4 := X0.later hb X0.lt
    obtain ⟨x0, x1, x2, x3, x4⟩ := X4.five
    have fx := X4.frozen
    have HP := Lib.hid (rdr_put (z := 0) (R := w.heap.size + 1 + 1 + 1) K0.bel (by omega) hX hl hb)
    clear hr hl hb K0 X0 X4 cN r0 r1 r2 r3 r4
    go_wp2
    exact bodyPost_ret (v := .tuple #[.agg #[.int .i64 rt, .int .i64 rq, .int .i64 rv, .slice A5 q5 c5, .slice A6 q6 c6], .int .i64 0]) (by simp [results, Tryz.results44, go_sem, x0, x1, x2, x3, x4]) rfl (HP.out _ _ _ _ _)
  have hc1 : (cd == 0) = false := by simpa using hc0
  by_cases hc2 : cd = 1
  · subst hc2
    have hc3 : ((1 : Int) == 1) = true := by rfl
    obtain ⟨g0, g1, g2, g3, g4⟩ := K0.gb.five
    obtain ⟨r0, r1, r2, r3, r4⟩ := K0.rb.five
    go_wp2_with fail
    rcases hsm : someB s l c sh zs rt rq rv ps os with _ | _
    · rw [read_no hsm] at hz
      obtain ⟨rfl, rfl⟩ := Prod.mk.inj hz
      have HS := Lib.hid hsm
      clear hsm hz hcd HC hc0
      refine (specSome_is K0.inp.hn (by omega) (by omega) K0.inp.row K0.inp.prs K0.inp.ops HS.out).mono ?_
      rintro e w2 ⟨rfl, hb⟩
      have E1 := bel_trans K0.bel hb
      have X1 := X0.later hb X0.lt
      have HP : Hid (∀ y0 y1 y2 y3 y4 : Value, RdR w ⟨0, 0, 0, [], []⟩ 1 (.returned (.tuple #[.agg #[.int .i64 0, .int .i64 0, .int .i64 0, .slice none 0 0, .slice none 0 0], .int .i64 1])) (((((w2.setCell ⟨w.heap.size + 1 + 1 + 1, 0, none⟩ y0).setCell ⟨w.heap.size + 1 + 1 + 1, 1, none⟩ y1).setCell ⟨w.heap.size + 1 + 1 + 1, 2, none⟩ y2).setCell ⟨w.heap.size + 1 + 1 + 1, 3, none⟩ y3).setCell ⟨w.heap.size + 1 + 1 + 1, 4, none⟩ y4)) := Lib.hid fun y0 y1 y2 y3 y4 =>
        ⟨_, rfl, lie_nil _ _, bel_five E1 (by omega) y0 y1 y2 y3 y4⟩
      obtain ⟨x0, x1, x2, x3, x4⟩ := X1.five
      have fx := X1.frozen
      clear K0 X0 X1 E1 hb g0 g1 g2 g3 g4 r0 r1 r2 r3 r4
      go_wp2
      exact bodyPost_ret (v := .tuple #[.agg #[.int .i64 0, .int .i64 0, .int .i64 0, .slice none 0 0, .slice none 0 0], .int .i64 1]) (by simp [results, Tryz.results44, go_sem, x0, x1, x2, x3, x4]) rfl (HP.out _ _ _ _ _)
    · rw [read_z hsm hcd hc0] at hz
      obtain ⟨rfl, rfl⟩ := Prod.mk.inj hz
      have HS := Lib.hid hsm
      clear hsm hz hcd HC hc0
      refine (specSome_is K0.inp.hn (by omega) (by omega) K0.inp.row K0.inp.prs K0.inp.ops HS.out).mono ?_
      rintro e w2 ⟨rfl, hb⟩
      replace K0 := K0.later hb
      replace X0 := X0.later hb X0.lt
      have hX2 := X0.lt
      clear hb g0 g1 g2 g3 g4 r0 r1 r2 r3 r4
      obtain ⟨r0, r1, r2, r3, r4⟩ := K0.rb.five
      go_wp2_with fail
      refine (l7Copy_is rt rq rv X x xc Y y yc ps os w2 (by omega) (by omega) K0.inp.slc K0.inp.slq).mono ?_
      intro e w4 hr
      obtain ⟨A5, n5, c5, A6, n6, c6, rfl, hl, hb⟩ := regr_lie hr
      have X4 := X0.later hb X0.lt
      obtain ⟨x0, x1, x2, x3, x4⟩ := X4.five
      have fx := X4.frozen
      have HP := Lib.hid (rdr_put (z := 1) (R := w.heap.size + 1 + 1 + 1) K0.bel (by omega) hX2 hl hb)
      clear hr hl hb K0 X0 X4 r0 r1 r2 r3 r4
      go_wp2
      exact bodyPost_ret (v := .tuple #[.agg #[.int .i64 rt, .int .i64 rq, .int .i64 rv, .slice A5 n5 c5, .slice A6 n6 c6], .int .i64 1]) (by simp [results, Tryz.results44, go_sem, x0, x1, x2, x3, x4]) rfl (HP.out _ _ _ _ _)
  · have hc3 : (cd == 1) = false := by simpa using hc2
    have hsm : someB s l c sh zs rt rq rv ps os = true := by
      rcases h : someB s l c sh zs rt rq rv ps os with _ | _
      · have := code_not_some (k1 := k1) (k2 := k2) (k3 := k3) (k4 := k4) (k5 := k5) (t1 := t1) (t2 := t2) (v1 := v1) (o1 := o1) (o2 := o2) (v2 := v2) (l1 := l1) (l2 := l2) (v3 := v3) (cs := cs) (ms := ms) h
        rw [hcd] at this
        omega
      · rfl
    rw [read_z hsm hcd hc0] at hz
    obtain ⟨rfl, rfl⟩ := Prod.mk.inj hz
    obtain ⟨r0, r1, r2, r3, r4⟩ := K0.rb.five
    clear hsm hz hcd HC hc0 hc2
    go_wp2_with fail
    refine (l7Copy_is rt rq rv X x xc Y y yc ps os w1 (by omega) (by omega) K0.inp.slc K0.inp.slq).mono ?_
    intro e w4 hr
    obtain ⟨A5, n5, c5, A6, n6, c6, rfl, hl, hb⟩ := regr_lie hr
    have X4 := X0.later hb X0.lt
    obtain ⟨x0, x1, x2, x3, x4⟩ := X4.five
    have fx := X4.frozen
    have HP := Lib.hid (rdr_put (z := cd) (R := w.heap.size + 1 + 1 + 1) K0.bel (by omega) hX hl hb)
    clear hr hl hb K0 X0 X4 r0 r1 r2 r3 r4
    go_wp2
    exact bodyPost_ret (v := .tuple #[.agg #[.int .i64 rt, .int .i64 rq, .int .i64 rv, .slice A5 n5 c5, .slice A6 n6 c6], .int .i64 cd]) (by simp [results, Tryz.results44, go_sem, x0, x1, x2, x3, x4]) rfl (HP.out _ _ _ _ _)

end
end Go.Proofs.YtjdepjpjjgkmbaaGreat
