/- What is ready for a value is ready for it again, and not for another one; opens stay in order; mathematics alone; no conditions. -/
import Derived.Test.YtjdepjpjjgkmbaaGreatSome8
import Derived.Test.YtjdepjpjjgkmbaaGreatSpecReg1
import Derived.Test.YtjdepjpjjgkmbaaGreatBoxWalk
import Derived.Test.YtjdepjpjjgkmbaaGreatReg1
import Derived.Test.YtjdepjpjjgkmbaaGreatKinds8a
import Derived.Test.YtjdepjpjjgkmbaaGreatRegOk2

/- Readied of the program and of the model: contracts of both (written by readied8.py); conditions: the sizes. -/
namespace Go.Proofs.YtjdepjpjjgkmbaaGreat
open Go Go.RowKit

/-- A shelf and a code are answered; the shelf is one's own. -/
def RdR (w : World) (r : RegD) (z : Int) (e : Ending) (w' : World) : Prop := ∃ C, e = .returned (.tuple #[.agg C, .int .i64 z]) ∧ LieR r w' (Iv w.heap.size w'.heap.size) (.agg C) ∧ Below w.heap.size w w'
theorem regr_lie {w w' : World} {rt rq rv : Int} {ps : List (Int × Int)} {os : List Opn} {e : Ending} (h : RegR w rt rq rv ps os e w') : ∃ (A : Option Addr) (n c : Nat) (A' : Option Addr) (n' c' : Nat), e = .returned (.agg #[.int .i64 rt, .int .i64 rq, .int .i64 rv, .slice A n c, .slice A' n' c']) ∧ LieR ⟨rt, rq, rv, ps, os⟩ w' (Iv w.heap.size w'.heap.size) (.agg #[.int .i64 rt, .int .i64 rq, .int .i64 rv, .slice A n c, .slice A' n' c']) ∧ Below w.heap.size w w' := by
  obtain ⟨B, u, v, hB, hB', rfl, hR, hO, hb⟩ := h
  obtain ⟨A, c, rfl, -⟩ := hR.form
  obtain ⟨A', c', rfl, -⟩ := hO.form
  exact ⟨A, _, c, A', _, c', rfl, ⟨A, _, c, A', _, c', w.heap.size, B, w'.heap.size, rfl, hR, hO.resQ, hB, hB', Nat.le_refl _, fun b hb => hb⟩, hb⟩
theorem lie_nil (w : World) (F : Nat → Prop) : LieR ⟨0, 0, 0, [], []⟩ w F (.agg #[.int .i64 0, .int .i64 0, .int .i64 0, .slice none 0 0, .slice none 0 0]) :=
  ⟨none, 0, 0, none, 0, 0, 0, 0, 0, rfl, .inl ⟨rfl, rfl⟩, .inl ⟨rfl, rfl⟩, Nat.le_refl _, Nat.le_refl _, Nat.zero_le _, fun b hb => by have := hb.1; have := hb.2; omega⟩
theorem turns_five (w : World) (R : Nat) (x0 x1 x2 x3 x4 : Value) : Turns (· = R) w (((((w.setCell ⟨R, 0, none⟩ x0).setCell ⟨R, 1, none⟩ x1).setCell ⟨R, 2, none⟩ x2).setCell ⟨R, 3, none⟩ x3).setCell ⟨R, 4, none⟩ x4) := Turns.of_grown (grown5 w R x0 x1 x2 x3 x4)
/-- A shelf that was answered is laid into the variable of the answer. -/
theorem rdr_put {w wc w' : World} {r : RegD} {z : Int} {C : Array Value} {R : Nat} (E : Below w.heap.size w wc) (hR0 : w.heap.size ≤ R) (hR : R < wc.heap.size) (h : LieR r w' (Iv wc.heap.size w'.heap.size) (.agg C)) (hb : Below wc.heap.size wc w') (x0 x1 x2 x3 x4 : Value) :
    RdR w r z (.returned (.tuple #[.agg C, .int .i64 z])) (((((w'.setCell ⟨R, 0, none⟩ x0).setCell ⟨R, 1, none⟩ x1).setCell ⟨R, 2, none⟩ x2).setCell ⟨R, 3, none⟩ x3).setCell ⟨R, 4, none⟩ x4) :=
  ⟨C, rfl, (keepsLR r).sub ((keepsLR r).turn h (turns_five w' R x0 x1 x2 x3 x4) (iv_one (.inl hR))) (iv_sub E.size (by simp only [size_set]; exact Nat.le_refl _)), bel_five (bel_trans E hb) hR0 x0 x1 x2 x3 x4⟩
theorem rdr_row {w wc w' : World} {r : RegD} {z : Int} {C : Array Value} {R : Nat} (E : Below w.heap.size w wc) (hR0 : w.heap.size ≤ R) (hR : R < wc.heap.size) (h : LieR r w' (Iv wc.heap.size w'.heap.size) (.agg C)) (hb : Below wc.heap.size wc w') (x : Array Value) :
    RdR w r z (.returned (.tuple #[.agg C, .int .i64 z])) (w'.setRow R x) :=
  ⟨C, rfl, (keepsLR r).sub ((keepsLR r).turn h (turns_setRow w' R x) (iv_one (.inl hR))) (iv_sub E.size (by rw [size_setRow]; exact Nat.le_refl _)), (turns_setRow w' R x).below (bel_trans E hb) (fun i hi => by omega)⟩

set_option maxRecDepth 100000 in
set_option maxHeartbeats 4000000 in
/-- A shelf copied. -/
theorem regCopied_is (rt rq rv : Int) (P : Option Addr) (p pc : Nat) (Q : Option Addr) (q qc : Nat) (ps : List (Int × Int)) (os : List Opn) (w : World) (hp : ps.length ≤ 4194304) (hq : os.length ≤ 4194304) (h1 : Slc w (.slice P p pc) ps) (h2 : SlcQ w (.slice Q q qc) os) :
    Calls Tryz.prog 101 #[.agg #[.int .i64 rt, .int .i64 rq, .int .i64 rv, .slice P p pc, .slice Q q qc]] w fun e w' => ∃ (A5 : Option Addr) (n5 c5 : Nat) (A6 : Option Addr) (n6 c6 : Nat), e = .returned (.agg #[.int .i64 rt, .int .i64 rq, .int .i64 rv, .slice A5 n5 c5, .slice A6 n6 c6]) ∧ LieR ⟨rt, rq, rv, ps, os⟩ w' (Iv w.heap.size w'.heap.size) (.agg #[.int .i64 rt, .int .i64 rq, .int .i64 rv, .slice A5 n5 c5, .slice A6 n6 c6]) ∧ Below w.heap.size w w' := by
  have D := (Box.new w 80 #[.int .i64 rt, .int .i64 rq, .int .i64 rv, .slice P p pc, .slice Q q qc]).alloc (.cells #[.int .i64 0, .int .i64 0, .int .i64 0, .slice none 0 0, .slice none 0 0] 80)
  have X := Box.new (w.alloc (.cells #[.int .i64 rt, .int .i64 rq, .int .i64 rv, .slice P p pc, .slice Q q qc] 80)) 80 #[.int .i64 0, .int .i64 0, .int .i64 0, .slice none 0 0, .slice none 0 0]
  have hb0 := bel_trans (bel_alloc w (.cells #[.int .i64 rt, .int .i64 rq, .int .i64 rv, .slice P p pc, .slice Q q qc] 80)) (bel_alloc _ (.cells #[.int .i64 0, .int .i64 0, .int .i64 0, .slice none 0 0, .slice none 0 0] 80))
  simp only [World.size_alloc] at X
  have H1 := h1.later hb0
  have H2 := Lib.hid (h2.later hb0)
  clear h1 h2
  have IR : Hid ((Tryz.prog.info? 80).map (·.size) = some (#[.int .i64 rt, .int .i64 rq, .int .i64 rv, .slice P p pc, .slice Q q qc] : Array Value).size) := Lib.hid (by kernel_rfl)
  go_enter Tryz.func101, Tryz.ntmps101
  go_upto_region 1 with fail
  generalize ((w.alloc _).alloc _ : World) = w0 at hb0 D X H1 H2 ⊢
  go_wp2_with (refine wpList_load_box 80 _ rfl w.heap.size rfl 80 #[.int .i64 rt, .int .i64 rq, .int .i64 rv, .slice P p pc, .slice Q q qc] D _ Tryz.underlying80 rfl IR.out (by first | rfl | simp [Region.wanted, yielded] | (simp [Region.wanted, yielded, Act.put] <;> omega)) ?_)
  refine (boardOf_is rt rq rv P p pc Q q qc w0).mono ?_
  rintro e w1 ⟨rfl, hb⟩
  replace X := X.later hb X.lt
  replace H1 := H1.later hb
  have H3 := H2.out.later hb
  replace hb0 := bel_trans hb0 hb
  clear hb D H2
  go_wp2_with fail
  refine (reg_is rt rq rv P p pc Q q qc ps os w1 hp hq H1 H3).mono ?_
  intro e w4 hr
  obtain ⟨A5, n5, c5, A6, n6, c6, rfl, hl, hb⟩ := regr_lie hr
  have hX := X.lt
  replace X := X.later hb X.lt
  have HL := Lib.hid ((keepsLR _).turn hl (turns_setRow w4 (w.heap.size + 1) #[.int .i64 rt, .int .i64 rq, .int .i64 rv, .slice A5 n5 c5, .slice A6 n6 c6]) (iv_one (.inl hX)))
  have HE := Lib.hid ((turns_setRow w4 (w.heap.size + 1) #[.int .i64 rt, .int .i64 rq, .int .i64 rv, .slice A5 n5 c5, .slice A6 n6 c6]).below (bel_trans hb0 hb) (fun i hi => by omega))
  have hs0 := hb0.size
  clear hr hl hb hb0 H1 H3
  go_wp2_with (refine wpList_store_row rfl 80 _ _ rfl (w.heap.size + 1) _ rfl rfl 80 #[.int .i64 0, .int .i64 0, .int .i64 0, .slice none 0 0, .slice none 0 0] X (by kernel_rfl) rfl (by simp [Value.oneCell']) ?_)
  replace X := X.setRow #[.int .i64 rt, .int .i64 rq, .int .i64 rv, .slice A5 n5 c5, .slice A6 n6 c6]
  obtain ⟨x0, x1, x2, x3, x4⟩ := X.five
  exact bodyPost_ret (v := .agg #[.int .i64 rt, .int .i64 rq, .int .i64 rv, .slice A5 n5 c5, .slice A6 n6 c6]) (by simp [results, Tryz.results101, go_sem, x0, x1, x2, x3, x4]) rfl ⟨A5, n5, c5, A6, n6, c6, rfl, (keepsLR _).sub HL.out (iv_sub hs0 (by rw [size_setRow]; exact Nat.le_refl _)), HE.out⟩

section
variable {s l c sh : Int} {A : Option Addr} {n cap : Nat} {zs : List Int} {rt rq rv : Int} {X : Option Addr} {x xc : Nat} {ps : List (Int × Int)} {Y : Option Addr} {y yc : Nat} {os : List Opn} {N : Array Value} {k1 k2 k3 k4 k5 t1 t2 v1 o1 o2 v2 : Int} {P : Option Addr} {p pc : Nat} {Q : Option Addr} {q qc : Nat} {l1 l2 v3 : Int} {cs ms : List (Int × Int)} {w : World}

set_option maxRecDepth 100000 in
set_option maxHeartbeats 4000000 in
theorem readied_is (hN : N = #[.int .i64 k1, .int .i64 k2, .int .i64 k3, .int .i64 k4, .int .i64 k5, .int .i64 t1, .int .i64 t2, .int .i64 v1, .int .i64 o1, .int .i64 o2, .int .i64 v2, .slice P p pc, .slice Q q qc, .int .i64 l1, .int .i64 l2, .int .i64 v3]) (I : In8 w A n zs X x xc ps Y y yc os P p cs Q q ms) {r : RegD} {z : Int} (hz : readN s l c sh zs rt rq rv ps os k1 k2 k3 k4 k5 t1 t2 v1 o1 o2 v2 l1 l2 v3 cs ms = (r, z)) :
    Calls Tryz.prog 47 #[.agg #[.int .i64 s, .int .i64 l, .int .i64 c, .int .i64 sh, .slice A n cap], .agg #[.int .i64 rt, .int .i64 rq, .int .i64 rv, .slice X x xc, .slice Y y yc], .agg N] w (RdR w r z) := by
  have hlx := I.lx
  have hly := I.ly
  have hxx := I.hx
  have hyy := I.hy
  have K00 := K8.start w N s l c sh cap rt rq rv I
  have X0 := Box.new (((w.alloc (.cells #[.int .i64 s, .int .i64 l, .int .i64 c, .int .i64 sh, .slice A n cap] 26)).alloc (.cells #[.int .i64 rt, .int .i64 rq, .int .i64 rv, .slice X x xc, .slice Y y yc] 80)).alloc (.cells N 85)) 80 #[.int .i64 0, .int .i64 0, .int .i64 0, .slice none 0 0, .slice none 0 0]
  have K0 := K00.later (bel_alloc _ (.cells #[.int .i64 0, .int .i64 0, .int .i64 0, .slice none 0 0, .slice none 0 0] 80))
  simp only [World.size_alloc] at X0
  have HZ := Lib.hid (sizeN hN)
  have HN := Lib.hid hN
  obtain ⟨cd, hcd⟩ : ∃ cd, codeN s l c sh zs rt rq rv ps os k1 k2 k3 k4 k5 t1 t2 v1 o1 o2 v2 l1 l2 v3 cs ms = cd := ⟨_, rfl⟩
  have HC := Lib.hid hcd
  clear hN I K00
  go_enter Tryz.func47, Tryz.ntmps47
  obtain ⟨g0, g1, g2, g3, g4⟩ := K0.gb.five
  obtain ⟨r0, r1, r2, r3, r4⟩ := K0.rb.five
  go_wp2_with fail
  generalize ((((w.alloc _).alloc _).alloc _).alloc _ : World) = w0 at K0 X0 g0 g1 g2 g3 g4 r0 r1 r2 r3 r4 ⊢
  rcases hsm : someB s l c sh zs rt rq rv ps os with _ | _
  · have hr := read_no (k1 := k1) (k2 := k2) (k3 := k3) (k4 := k4) (k5 := k5) (t1 := t1) (t2 := t2) (v1 := v1) (o1 := o1) (o2 := o2) (v2 := v2) (l1 := l1) (l2 := l2) (v3 := v3) (cs := cs) (ms := ms) hsm
    rw [hr] at hz
    obtain ⟨rfl, rfl⟩ := Prod.mk.inj hz
    have HS := Lib.hid hsm
    clear hsm hr hz hcd HC
    refine (some_is K0.inp.hn (by omega) (by omega) K0.inp.row K0.inp.prs K0.inp.ops HS.out).mono ?_
    rintro e w1 ⟨rfl, hb⟩
    have E1 := bel_trans K0.bel hb
    have X1 := X0.later hb X0.lt
    have hX := X0.lt
    have HP : Hid (∀ y0 y1 y2 y3 y4 : Value, RdR w ⟨0, 0, 0, [], []⟩ 1 (.returned (.tuple #[.agg #[.int .i64 0, .int .i64 0, .int .i64 0, .slice none 0 0, .slice none 0 0], .int .i64 1])) (((((w1.setCell ⟨w.heap.size + 1 + 1 + 1, 0, none⟩ y0).setCell ⟨w.heap.size + 1 + 1 + 1, 1, none⟩ y1).setCell ⟨w.heap.size + 1 + 1 + 1, 2, none⟩ y2).setCell ⟨w.heap.size + 1 + 1 + 1, 3, none⟩ y3).setCell ⟨w.heap.size + 1 + 1 + 1, 4, none⟩ y4)) := Lib.hid fun y0 y1 y2 y3 y4 =>
      ⟨_, rfl, lie_nil _ _, bel_five E1 (by omega) y0 y1 y2 y3 y4⟩
    obtain ⟨x0, x1, x2, x3, x4⟩ := X1.five
    have fx := X1.frozen
    clear K0 X0 X1 E1 hb g0 g1 g2 g3 g4 r0 r1 r2 r3 r4
    go_wp2
    exact bodyPost_ret (v := .tuple #[.agg #[.int .i64 0, .int .i64 0, .int .i64 0, .slice none 0 0, .slice none 0 0], .int .i64 1]) (by simp [results, Tryz.results47, go_sem, x0, x1, x2, x3, x4]) rfl (HP.out _ _ _ _ _)
  have HS := Lib.hid hsm
  refine (some_is K0.inp.hn (by omega) (by omega) K0.inp.row K0.inp.prs K0.inp.ops HS.out).mono ?_
  rintro e w1 ⟨rfl, hb⟩
  replace K0 := K0.later hb
  replace X0 := X0.later hb X0.lt
  clear hb g0 g1 g2 g3 g4 r0 r1 r2 r3 r4
  obtain ⟨g0, g1, g2, g3, g4⟩ := K0.gb.five
  obtain ⟨r0, r1, r2, r3, r4⟩ := K0.rb.five
  go_wp2_with (refine wpList_load_box 85 _ rfl (w.heap.size + 1 + 1) rfl 85 N K0.nb _ Tryz.underlying85 rfl HZ.out (by first | rfl | simp [Region.wanted, yielded] | (simp [Region.wanted, yielded, Act.put] <;> omega)) ?_)
  refine (codeReady_is HN.out K0.inp HC.out).mono ?_
  rintro e w2 ⟨rfl, hb⟩
  replace K0 := K0.later hb
  replace X0 := X0.later hb X0.lt
  clear hb g0 g1 g2 g3 g4 r0 r1 r2 r3 r4
  by_cases hc0 : cd = 0
  rotate_left
  · have hc1 : (cd != 0) = true := by simpa using hc0
    rw [read_z hsm hcd hc0] at hz
    obtain ⟨rfl, rfl⟩ := Prod.mk.inj hz
    obtain ⟨r0, r1, r2, r3, r4⟩ := K0.rb.five
    clear hsm hcd HC hz hc0
    have hX := X0.lt
    clear r0 r1 r2 r3 r4
    have IR : Hid ((Tryz.prog.info? 80).map (·.size) = some (#[.int .i64 rt, .int .i64 rq, .int .i64 rv, .slice X x xc, .slice Y y yc] : Array Value).size) := Lib.hid (by kernel_rfl)
    go_wp2_with (refine wpList_load_box 80 _ rfl (w.heap.size + 1) rfl 80 #[.int .i64 rt, .int .i64 rq, .int .i64 rv, .slice X x xc, .slice Y y yc] K0.rb _ Tryz.underlying80 rfl IR.out (by first | rfl | simp [Region.wanted, yielded] | (simp [Region.wanted, yielded, Act.put] <;> omega)) ?_)
    refine (regCopied_is rt rq rv X x xc Y y yc ps os w2 (by omega) (by omega) K0.inp.slc K0.inp.slq).mono ?_
    rintro e w4 ⟨A5, n5, c5, A6, n6, c6, rfl, hl, hb⟩
    have X4 := X0.later hb X0.lt
    obtain ⟨x0, x1, x2, x3, x4⟩ := X4.five
    have fx := X4.frozen
    have HP := Lib.hid (rdr_put (z := cd) (R := w.heap.size + 1 + 1 + 1) K0.bel (by omega) hX hl hb)
    clear hl hb K0 X0 X4
    go_wp2
    exact bodyPost_ret (v := .tuple #[.agg #[.int .i64 rt, .int .i64 rq, .int .i64 rv, .slice A5 n5 c5, .slice A6 n6 c6], .int .i64 cd]) (by simp [results, Tryz.results47, go_sem, x0, x1, x2, x3, x4]) rfl (HP.out _ _ _ _ _)
  subst hc0
  rw [read_0 hsm hcd] at hz
  obtain ⟨rfl, rfl⟩ := Prod.mk.inj hz
  have IR : Hid ((Tryz.prog.info? 80).map (·.size) = some (#[.int .i64 rt, .int .i64 rq, .int .i64 rv, .slice X x xc, .slice Y y yc] : Array Value).size) := Lib.hid (by kernel_rfl)
  clear hsm hcd HC hz
  go_upto_region 6 with fail
  refine wp_region_sink 6 (fun w' => Box w' (w.heap.size + 1) 80 #[.int .i64 rt, .int .i64 rq, .int .i64 rv, .slice X x xc, .slice Y y yc] ∧ Box w' (w.heap.size + 1 + 1) 85 N) (by kernel_rfl) ⟨K0.rb, K0.nb⟩ (fun hH => ?_)
  replace K0 := K0.later ((Below.refl w2.heap.size w2).drew)
  replace X0 := X0.later ((Below.refl w2.heap.size w2).drew) X0.lt
  generalize w2.drew = w3 at K0 X0 hH ⊢
  refine wpAnyE_takeS (i := 0) (v := .agg #[.int .i64 rt, .int .i64 rq, .int .i64 rv, .slice X x xc, .slice Y y yc]) (by simp only [List.getElem?_toArray, List.getElem?_cons_zero]; rfl) (by kernel_rfl) (by kernel_rfl) (by kernel_rfl) (by exact fun _ _ _ h => h) (by kernel_rfl) ?ya hH ?_
  case ya => exact yields_box 80 _ rfl (w.heap.size + 1) rfl 80 #[.int .i64 rt, .int .i64 rq, .int .i64 rv, .slice X x xc, .slice Y y yc] (fun _ h => h.1) _ Tryz.underlying80 rfl IR.out (by first | rfl | simp [Region.wanted, yielded] | (simp [Region.wanted, yielded, Act.put] <;> omega))
  try simp only [Act.put, List.setIfInBounds_toArray, List.set_cons_zero, List.set_cons_succ]
  refine wpAnyE_takeS (i := 1) (v := .agg N) (by simp only [List.getElem?_toArray, List.getElem?_cons_succ, List.getElem?_cons_zero]; rfl) (by kernel_rfl) (by kernel_rfl) (by kernel_rfl) (by exact fun _ _ _ h => h) (by kernel_rfl) ?yb hH ?_
  case yb => exact yields_box 85 _ rfl (w.heap.size + 1 + 1) rfl 85 N (fun _ h => h.2) _ Tryz.underlying85 rfl HZ.out (by first | rfl | simp [Region.wanted, yielded] | (simp [Region.wanted, yielded, Act.put] <;> omega))
  try simp only [Act.put, List.setIfInBounds_toArray, List.set_cons_zero, List.set_cons_succ]
  refine wpAnyE_one (i := 2) (by kernel_rfl) (by simp only [List.getElem?_toArray, List.getElem?_cons_succ, List.getElem?_cons_zero]; rfl) (fun K hK => ?_)
  go_simp
  refine (openFor_is HN.out _).mono ?_
  rintro e w4 ⟨rfl, hb⟩
  replace K0 := K0.later hb
  replace X0 := X0.later hb X0.lt
  clear hb
  clear hH
  refine hK.out _ _ ⟨K0.rb, K0.nb⟩ (fun hH => ?_)
  clear hK K
  try simp only [Act.put, List.setIfInBounds_toArray, List.set_cons_zero, List.set_cons_succ]
  refine wpAnyE_one (i := 3) (by kernel_rfl) (by simp only [List.getElem?_toArray, List.getElem?_cons_succ, List.getElem?_cons_zero]; rfl) (fun K hK => ?_)
  go_simp
  refine (withOpen_is rt rq rv X x xc Y y yc k2 t1 t2 v1 ps os w4 (by omega) (by omega) K0.inp.slc K0.inp.slq).mono ?_
  intro e w5 hr
  obtain ⟨A5, n5, c5, A6, n6, c6, rfl, hl, hb⟩ := regr_lie hr
  have hX := X0.lt
  have HP := Lib.hid (rdr_row (z := 0) (R := w.heap.size + 1 + 1 + 1) K0.bel (by omega) hX hl hb #[.int .i64 rt, .int .i64 rq, .int .i64 rv, .slice A5 n5 c5, .slice A6 n6 c6])
  replace K0 := K0.later hb
  replace X0 := X0.later hb X0.lt
  clear hr hl hb
  clear hH
  refine hK.out _ _ ⟨K0.rb, K0.nb⟩ (fun hH => ?_)
  clear hK K
  try simp only [Act.put, List.setIfInBounds_toArray, List.set_cons_zero, List.set_cons_succ]
  refine wpAnyE_one (i := 4) (by kernel_rfl) (by simp only [List.getElem?_toArray, List.getElem?_cons_succ, List.getElem?_cons_zero]; rfl) (fun K hK => ?_)
  rw [if_pos (by first | rfl | kernel_rfl | simp [Region.wanted, yielded])]
  have ht := turns_setRow w5 (w.heap.size + 1 + 1 + 1) #[.int .i64 rt, .int .i64 rq, .int .i64 rv, .slice A5 n5 c5, .slice A6 n6 c6]
  have X6 := X0.setRow #[.int .i64 rt, .int .i64 rq, .int .i64 rv, .slice A5 n5 c5, .slice A6 n6 c6]
  have B1 := K0.rb.turn ht (by omega)
  have B2 := K0.nb.turn ht (by omega)
  refine wp_store_row 80 _ _ rfl (w.heap.size + 1 + 1 + 1) _ rfl rfl 80 _ X0 (by kernel_rfl) rfl (by simp [Value.oneCell']) ?_
  refine hK.out _ _ ⟨B1, B2⟩ (fun hH => ?_)
  clear hK K
  try simp only [Act.put]
  refine wpAnyE_end (i := 5) (by kernel_rfl) (by simp only [List.getElem?_toArray, List.getElem?_cons_succ, List.getElem?_cons_zero]; rfl) (by kernel_rfl) (fun K hK => ?_)
  go_simp
  refine hK.out _ _ ⟨B1, B2⟩ ?_
  clear hK K
  try simp only [Act.put, List.setIfInBounds_toArray, List.set_cons_zero, List.set_cons_succ]
  obtain ⟨x0, x1, x2, x3, x4⟩ := X6.five
  clear K0 X0 B1 B2 hH ht
  go_wp2
  exact bodyPost_ret (v := .tuple #[.agg #[.int .i64 rt, .int .i64 rq, .int .i64 rv, .slice A5 n5 c5, .slice A6 n6 c6], .int .i64 0]) (by simp [results, Tryz.results47, go_sem, x0, x1, x2, x3, x4]) rfl HP.out

set_option maxRecDepth 100000 in
set_option maxHeartbeats 4000000 in
theorem specReadied_is (hN : N = #[.int .i64 k1, .int .i64 k2, .int .i64 k3, .int .i64 k4, .int .i64 k5, .int .i64 t1, .int .i64 t2, .int .i64 v1, .int .i64 o1, .int .i64 o2, .int .i64 v2, .slice P p pc, .slice Q q qc, .int .i64 l1, .int .i64 l2, .int .i64 v3]) (I : In8 w A n zs X x xc ps Y y yc os P p cs Q q ms) {r : RegD} {z : Int} (hz : readN s l c sh zs rt rq rv ps os k1 k2 k3 k4 k5 t1 t2 v1 o1 o2 v2 l1 l2 v3 cs ms = (r, z)) :
    Calls Tryz.prog 44 #[.agg #[.int .i64 s, .int .i64 l, .int .i64 c, .int .i64 sh, .slice A n cap], .agg #[.int .i64 rt, .int .i64 rq, .int .i64 rv, .slice X x xc, .slice Y y yc], .agg N] w (RdR w r z) := by
  have hlx := I.lx
  have hly := I.ly
  have hxx := I.hx
  have hyy := I.hy
  have K00 := K8.start w N s l c sh cap rt rq rv I
  have X0 := Box.new (((w.alloc (.cells #[.int .i64 s, .int .i64 l, .int .i64 c, .int .i64 sh, .slice A n cap] 26)).alloc (.cells #[.int .i64 rt, .int .i64 rq, .int .i64 rv, .slice X x xc, .slice Y y yc] 80)).alloc (.cells N 85)) 80 #[.int .i64 0, .int .i64 0, .int .i64 0, .slice none 0 0, .slice none 0 0]
  have K0 := K00.later (bel_alloc _ (.cells #[.int .i64 0, .int .i64 0, .int .i64 0, .slice none 0 0, .slice none 0 0] 80))
  simp only [World.size_alloc] at X0
  have HZ := Lib.hid (sizeN hN)
  have HN := Lib.hid hN
  obtain ⟨cd, hcd⟩ : ∃ cd, codeN s l c sh zs rt rq rv ps os k1 k2 k3 k4 k5 t1 t2 v1 o1 o2 v2 l1 l2 v3 cs ms = cd := ⟨_, rfl⟩
  have HC := Lib.hid hcd
  clear hN I K00
  go_enter Tryz.func44, Tryz.ntmps44
  obtain ⟨g0, g1, g2, g3, g4⟩ := K0.gb.five
  obtain ⟨r0, r1, r2, r3, r4⟩ := K0.rb.five
  go_wp2_with (refine wpList_load_box 85 _ rfl (w.heap.size + 1 + 1) rfl 85 N K0.nb _ Tryz.underlying85 rfl HZ.out (by first | rfl | simp [Region.wanted, yielded] | (simp [Region.wanted, yielded, Act.put] <;> omega)) ?_)
  generalize ((((w.alloc _).alloc _).alloc _).alloc _ : World) = w0 at K0 X0 g0 g1 g2 g3 g4 r0 r1 r2 r3 r4 ⊢
  refine (specCode_is HN.out K0.inp HC.out).mono ?_
  rintro e w1 ⟨rfl, hb⟩
  replace K0 := K0.later hb
  replace X0 := X0.later hb X0.lt
  clear hb g0 g1 g2 g3 g4 r0 r1 r2 r3 r4
  have hX := X0.lt
  by_cases hc0 : cd = 0
  · subst hc0
    have hsm : someB s l c sh zs rt rq rv ps os = true := by
      rcases h : someB s l c sh zs rt rq rv ps os with _ | _
      · have := code_not_some (k1 := k1) (k2 := k2) (k3 := k3) (k4 := k4) (k5 := k5) (t1 := t1) (t2 := t2) (v1 := v1) (o1 := o1) (o2 := o2) (v2 := v2) (l1 := l1) (l2 := l2) (v3 := v3) (cs := cs) (ms := ms) h
        rw [hcd] at this
        omega
      · rfl
    rw [read_0 hsm hcd] at hz
    obtain ⟨rfl, rfl⟩ := Prod.mk.inj hz
    obtain ⟨n0, n1, n2, n3, n4, n5, n6, n7, n8, n9, n10, n11, n12, n13, n14, n15⟩ := cellsN HN.out
    have cN := K0.nb.cell
    obtain ⟨r0, r1, r2, r3, r4⟩ := K0.rb.five
    clear hsm hcd HC hz n0 n2 n3 n4 n8 n9 n10 n11 n12 n13 n14 n15
    go_wp2_with fail
    refine (specWith_is rt rq rv X x xc Y y yc k2 t1 t2 v1 ps os w1 (by omega) (by omega) K0.inp.slc K0.inp.slq).mono ?_
    intro e w4 hr
    obtain ⟨A5, q5, c5, A6, q6, c6, rfl, hl, hb⟩ := regr_lie hr
    have X4 := X0.later hb X0.lt
    obtain ⟨x0, x1, x2, x3, x4⟩ := X4.five
    have fx := X4.frozen
    have HP := Lib.hid (rdr_put (z := 0) (R := w.heap.size + 1 + 1 + 1) K0.bel (by omega) hX hl hb)
    clear hr hl hb K0 X0 X4 cN r0 r1 r2 r3 r4
    go_wp2
    exact bodyPost_ret (v := .tuple #[.agg #[.int .i64 rt, .int .i64 rq, .int .i64 rv, .slice A5 q5 c5, .slice A6 q6 c6], .int .i64 0]) (by simp [results, Tryz.results44, go_sem, x0, x1, x2, x3, x4]) rfl (HP.out _ _ _ _ _)
  have hc1 : (cd == 0) = false := by simpa using hc0
  by_cases hc2 : cd = 1
  · subst hc2
    have hc3 : ((1 : Int) == 1) = true := by rfl
    obtain ⟨g0, g1, g2, g3, g4⟩ := K0.gb.five
    obtain ⟨r0, r1, r2, r3, r4⟩ := K0.rb.five
    go_wp2_with fail
    rcases hsm : someB s l c sh zs rt rq rv ps os with _ | _
    · rw [read_no hsm] at hz
      obtain ⟨rfl, rfl⟩ := Prod.mk.inj hz
      have HS := Lib.hid hsm
      clear hsm hz hcd HC hc0
      refine (specSome_is K0.inp.hn (by omega) (by omega) K0.inp.row K0.inp.prs K0.inp.ops HS.out).mono ?_
      rintro e w2 ⟨rfl, hb⟩
      have E1 := bel_trans K0.bel hb
      have X1 := X0.later hb X0.lt
      have HP : Hid (∀ y0 y1 y2 y3 y4 : Value, RdR w ⟨0, 0, 0, [], []⟩ 1 (.returned (.tuple #[.agg #[.int .i64 0, .int .i64 0, .int .i64 0, .slice none 0 0, .slice none 0 0], .int .i64 1])) (((((w2.setCell ⟨w.heap.size + 1 + 1 + 1, 0, none⟩ y0).setCell ⟨w.heap.size + 1 + 1 + 1, 1, none⟩ y1).setCell ⟨w.heap.size + 1 + 1 + 1, 2, none⟩ y2).setCell ⟨w.heap.size + 1 + 1 + 1, 3, none⟩ y3).setCell ⟨w.heap.size + 1 + 1 + 1, 4, none⟩ y4)) := Lib.hid fun y0 y1 y2 y3 y4 =>
        ⟨_, rfl, lie_nil _ _, bel_five E1 (by omega) y0 y1 y2 y3 y4⟩
      obtain ⟨x0, x1, x2, x3, x4⟩ := X1.five
      have fx := X1.frozen
      clear K0 X0 X1 E1 hb g0 g1 g2 g3 g4 r0 r1 r2 r3 r4
      go_wp2
      exact bodyPost_ret (v := .tuple #[.agg #[.int .i64 0, .int .i64 0, .int .i64 0, .slice none 0 0, .slice none 0 0], .int .i64 1]) (by simp [results, Tryz.results44, go_sem, x0, x1, x2, x3, x4]) rfl (HP.out _ _ _ _ _)
    · rw [read_z hsm hcd hc0] at hz
      obtain ⟨rfl, rfl⟩ := Prod.mk.inj hz
      have HS := Lib.hid hsm
      clear hsm hz hcd HC hc0
      refine (specSome_is K0.inp.hn (by omega) (by omega) K0.inp.row K0.inp.prs K0.inp.ops HS.out).mono ?_
      rintro e w2 ⟨rfl, hb⟩
      replace K0 := K0.later hb
      replace X0 := X0.later hb X0.lt
      have hX2 := X0.lt
      clear hb g0 g1 g2 g3 g4 r0 r1 r2 r3 r4
      obtain ⟨r0, r1, r2, r3, r4⟩ := K0.rb.five
      go_wp2_with fail
      refine (l7Copy_is rt rq rv X x xc Y y yc ps os w2 (by omega) (by omega) K0.inp.slc K0.inp.slq).mono ?_
      intro e w4 hr
      obtain ⟨A5, n5, c5, A6, n6, c6, rfl, hl, hb⟩ := regr_lie hr
      have X4 := X0.later hb X0.lt
      obtain ⟨x0, x1, x2, x3, x4⟩ := X4.five
      have fx := X4.frozen
      have HP := Lib.hid (rdr_put (z := 1) (R := w.heap.size + 1 + 1 + 1) K0.bel (by omega) hX2 hl hb)
      clear hr hl hb K0 X0 X4 r0 r1 r2 r3 r4
      go_wp2
      exact bodyPost_ret (v := .tuple #[.agg #[.int .i64 rt, .int .i64 rq, .int .i64 rv, .slice A5 n5 c5, .slice A6 n6 c6], .int .i64 1]) (by simp [results, Tryz.results44, go_sem, x0, x1, x2, x3, x4]) rfl (HP.out _ _ _ _ _)
  · have hc3 : (cd == 1) = false := by simpa using hc2
    have hsm : someB s l c sh zs rt rq rv ps os = true := by
      rcases h : someB s l c sh zs rt rq rv ps os with _ | _
      · have := code_not_some (k1 := k1) (k2 := k2) (k3 := k3) (k4 := k4) (k5 := k5) (t1 := t1) (t2 := t2) (v1 := v1) (o1 := o1) (o2 := o2) (v2 := v2) (l1 := l1) (l2 := l2) (v3 := v3) (cs := cs) (ms := ms) h
        rw [hcd] at this
        omega
      · rfl
    rw [read_z hsm hcd hc0] at hz
    obtain ⟨rfl, rfl⟩ := Prod.mk.inj hz
    obtain ⟨r0, r1, r2, r3, r4⟩ := K0.rb.five
    clear hsm hz hcd HC hc0 hc2
    go_wp2_with fail
    refine (l7Copy_is rt rq rv X x xc Y y yc ps os w1 (by omega) (by omega) K0.inp.slc K0.inp.slq).mono ?_
    intro e w4 hr
    obtain ⟨A5, n5, c5, A6, n6, c6, rfl, hl, hb⟩ := regr_lie hr
    have X4 := X0.later hb X0.lt
    obtain ⟨x0, x1, x2, x3, x4⟩ := X4.five
    have fx := X4.frozen
    have HP := Lib.hid (rdr_put (z := cd) (R := w.heap.size + 1 + 1 + 1) K0.bel (by omega) hX hl hb)
    clear hr hl hb K0 X0 X4 r0 r1 r2 r3 r4
    go_wp2
    exact bodyPost_ret (v := .tuple #[.agg #[.int .i64 rt, .int .i64 rq, .int .i64 rv, .slice A5 n5 c5, .slice A6 n6 c6], .int .i64 cd]) (by simp [results, Tryz.results44, go_sem, x0, x1, x2, x3, x4]) rfl (HP.out _ _ _ _ _)

end
end Go.Proofs.YtjdepjpjjgkmbaaGreat

/- Readied and its model over groups, shelves and notes of one's own; how many marks there are; conditions: the sizes. -/
namespace Go.Proofs.YtjdepjpjjgkmbaaGreat
open Go.RowKit

def readD (g : GrpD) (r : RegD) (d : NoteD) : RegD × Int := readN g.s g.l g.c g.sh g.zs r.t r.q r.v r.ps r.os d.k1 d.k2 d.k3 d.k4 d.k5 d.t1 d.t2 d.v1 d.o1 d.o2 d.v2 d.l1 d.l2 d.v3 d.cs d.ms
theorem readD_len {g : GrpD} {r rr : RegD} {d : NoteD} {z : Int} (h : readD g r d = (rr, z)) : rr.ps.length ≤ r.ps.length ∧ rr.os.length ≤ r.os.length + 1 := by
  unfold readD readN at h
  split at h
  · obtain ⟨rfl, -⟩ := Prod.mk.inj h
    exact ⟨Nat.zero_le _, Nat.zero_le _⟩
  · split at h
    · obtain ⟨rfl, -⟩ := Prod.mk.inj h
      exact ⟨Nat.le_refl _, (withO_len _ _).1⟩
    · obtain ⟨rfl, -⟩ := Prod.mk.inj h
      exact ⟨Nat.le_refl _, Nat.le_succ _⟩
end Go.Proofs.YtjdepjpjjgkmbaaGreat

/- SameOpen and its model: contracts of both; conditions: the sizes. -/
namespace Go.Proofs.YtjdepjpjjgkmbaaGreat
open Go Go.RowKit

/-- What SameOpen answers. -/
def sameB (os : List Opn) (k t q v : Int) : Bool := match getO os k with
  | none => false
  | some o => decide (o.2.1 = t ∧ o.2.2.1 = q) && decide (o.2.2.2 = v)
theorem same_none {os : List Opn} {k : Int} (h : getO os k = none) (t q v : Int) : sameB os k t q v = false := by simp [sameB, h]
theorem same_some {os : List Opn} {k : Int} {o : Opn} (h : getO os k = some o) (t q v : Int) : sameB os k t q v = (decide (o.2.1 = t ∧ o.2.2.1 = q) && decide (o.2.2.2 = v)) := by simp [sameB, h]
theorem getO_is {os : List Opn} {o : Opn} {k : Int} (h : getO os k = some o) : o.1 = k := by
  unfold getO at h
  simpa using List.find?_some h

section
variable {rt rq rv : Int} {X : Option Addr} {x xc : Nat} {Y : Option Addr} {y yc : Nat} {os : List Opn} {N : Array Value} {k1 k2 k3 k4 k5 t1 t2 v1 o1 o2 v2 : Int} {P : Option Addr} {p pc : Nat} {Q : Option Addr} {q qc : Nat} {l1 l2 v3 : Int} {w : World}

set_option maxHeartbeats 1000000 in
theorem openFor8_is (hN : N = #[.int .i64 k1, .int .i64 k2, .int .i64 k3, .int .i64 k4, .int .i64 k5, .int .i64 t1, .int .i64 t2, .int .i64 v1, .int .i64 o1, .int .i64 o2, .int .i64 v2, .slice P p pc, .slice Q q qc, .int .i64 l1, .int .i64 l2, .int .i64 v3]) (w : World) :
    Calls Tryz.prog 103 #[.agg N] w fun e w' => e = .returned (.agg #[.int .i64 k2, .int .i64 t1, .int .i64 t2, .int .i64 v1]) ∧ Below w.heap.size w w' := by
  have D := (Box.new w 85 N).alloc (.cells #[.int .i64 0, .int .i64 0, .int .i64 0, .int .i64 0] 97)
  have Z := Box.new (w.alloc (.cells N 85)) 97 #[.int .i64 0, .int .i64 0, .int .i64 0, .int .i64 0]
  have E := bel_trans (bel_alloc w (.cells N 85)) (bel_alloc _ (.cells #[.int .i64 0, .int .i64 0, .int .i64 0, .int .i64 0] 97))
  simp only [World.size_alloc] at Z
  obtain ⟨n0, n1, n2, n3, n4, n5, n6, n7, n8, n9, n10, n11, n12, n13, n14, n15⟩ := cellsN hN
  clear hN n0 n2 n3 n4 n8 n9 n10 n11 n12 n13 n14 n15
  have cN := D.cell
  obtain ⟨z0, z1, z2, z3⟩ := Z.four
  have fz := Z.frozen
  have hz := Z.lt
  go_enter Tryz.func103, Tryz.ntmps103
  go_upto_region 1 with fail
  generalize ((w.alloc _).alloc _ : World) = w0 at D E Z cN z0 z1 z2 z3 fz hz ⊢
  go_wp2
  exact bodyPost_ret (v := .agg #[.int .i64 k2, .int .i64 t1, .int .i64 t2, .int .i64 v1]) (by simp [results, Tryz.results103, go_sem, z0, z1, z2, z3]) rfl ⟨rfl, by
    repeat (first | (with_reducible exact E) | refine Below.setCell ?_ (by simp; try omega) _)⟩

/-- What the walks of SameOpen keep: the shelf's and the note's boxes, the opens. -/
structure SO (w wr : World) (N : Array Value) (rt rq rv : Int) (X : Option Addr) (x xc : Nat) (Y : Option Addr) (y yc : Nat) (os : List Opn) : Prop where
  rb : Box wr w.heap.size 80 #[.int .i64 rt, .int .i64 rq, .int .i64 rv, .slice X x xc, .slice Y y yc]
  nb : Box wr (w.heap.size + 1) 85 N
  ops : Quads wr wr.heap.size Y y os
  bel : Below w.heap.size w wr
theorem SO.later {wr w' : World} (h : SO w wr N rt rq rv X x xc Y y yc os) (hb : Below wr.heap.size wr w') : SO w w' N rt rq rv X x xc Y y yc os :=
  ⟨h.rb.later hb h.rb.lt, h.nb.later hb h.nb.lt, h.ops.later hb, bel_trans h.bel hb⟩
theorem SO.start (w : World) (N : Array Value) (rt rq rv : Int) (X : Option Addr) (x xc : Nat) (yc : Nat) (h : Quads w w.heap.size Y y os) :
    SO w ((w.alloc (.cells #[.int .i64 rt, .int .i64 rq, .int .i64 rv, .slice X x xc, .slice Y y yc] 80)).alloc (.cells N 85)) N rt rq rv X x xc Y y yc os := by
  have E := bel_trans (bel_alloc w (.cells #[.int .i64 rt, .int .i64 rq, .int .i64 rv, .slice X x xc, .slice Y y yc] 80)) (bel_alloc _ (.cells N 85))
  have D := Box.new (w.alloc (.cells #[.int .i64 rt, .int .i64 rq, .int .i64 rv, .slice X x xc, .slice Y y yc] 80)) 85 N
  simp only [World.size_alloc] at D
  exact ⟨(Box.new w _ _).alloc _, D, h.later E, E⟩

theorem same_cases {k a d v : Int} (hg : getO os k2 = some (k, a, d, v)) (t1 t2 v1 : Int) : k = k2 ∧ ((a = t1 ∧ d = t2 ∧ v = v1 ∧ sameB os k2 t1 t2 v1 = true) ∨
    (((a == t1) = false ∨ ((a == t1) = true ∧ (d == t2) = false) ∨ ((a == t1) = true ∧ (d == t2) = true ∧ (v == v1) = false)) ∧ sameB os k2 t1 t2 v1 = false)) := by
  refine ⟨getO_is hg, ?_⟩
  rw [same_some hg]
  by_cases h1 : a = t1
  · by_cases h2 : d = t2
    · by_cases h3 : v = v1
      · exact .inl ⟨h1, h2, h3, by simp [h1, h2, h3]⟩
      · exact .inr ⟨.inr (.inr ⟨by simpa using h1, by simpa using h2, by simpa using h3⟩), by simp [h3]⟩
    · exact .inr ⟨.inr (.inl ⟨by simpa using h1, by simpa using h2⟩), by simp [h2]⟩
  · exact .inr ⟨.inl (by simpa using h1), by simp [h1]⟩

set_option maxHeartbeats 4000000 in
theorem specSame_is (hN : N = #[.int .i64 k1, .int .i64 k2, .int .i64 k3, .int .i64 k4, .int .i64 k5, .int .i64 t1, .int .i64 t2, .int .i64 v1, .int .i64 o1, .int .i64 o2, .int .i64 v2, .slice P p pc, .slice Q q qc, .int .i64 l1, .int .i64 l2, .int .i64 v3]) (hy : y ≤ 2000000) (h : Quads w w.heap.size Y y os) {b : Bool} (hb : sameB os k2 t1 t2 v1 = b) :
    Calls Tryz.prog 57 #[.agg #[.int .i64 rt, .int .i64 rq, .int .i64 rv, .slice X x xc, .slice Y y yc], .agg N] w fun e w' => e = .returned (.bool b) ∧ Below w.heap.size w w' := by
  have K0 := SO.start w N rt rq rv X x xc yc h
  obtain ⟨n0, n1, n2, n3, n4, n5, n6, n7, n8, n9, n10, n11, n12, n13, n14, n15⟩ := cellsN hN
  have cN := K0.nb.cell
  obtain ⟨r0, r1, r2, r3, r4⟩ := K0.rb.five
  clear hN h n0 n2 n3 n4 n8 n9 n10 n11 n12 n13 n14 n15
  subst hb
  rcases hg : getO os k2 with _ | ⟨k, a, d, v⟩
  · have HV := Lib.hid (same_none hg t1 t2 v1)
    have HG := Lib.hid hg
    clear hg
    go_enter Tryz.func57, Tryz.ntmps57
    go_wp2_with fail
    generalize ((w.alloc _).alloc _ : World) = w0 at K0 cN r0 r1 r2 r3 r4 ⊢
    refine (specOpenOf_is rt rq rv X x xc Y y yc os k2 w0 (by omega) K0.ops).mono ?_
    rw [HG.out]
    rintro e w1 ⟨rfl, hb⟩
    have E := bel_trans (bel_trans K0.bel hb) (bel_alloc w1 (.cells #[.int .i64 0, .int .i64 0, .int .i64 0, .int .i64 0] 97))
    clear K0 cN r0 r1 r2 r3 r4
    unfold opV
    go_wp2
    go_ret
    exact ⟨by rw [HV.out]; rfl, E⟩
  · obtain ⟨rfl, hcase⟩ := same_cases hg t1 t2 v1
    have HG := Lib.hid hg
    clear hg
    rcases hcase with ⟨rfl, rfl, rfl, HV⟩ | ⟨hne | ⟨h1, hne⟩ | ⟨h1, h2, hne⟩, HV⟩ <;> replace HV := Lib.hid HV
    all_goals
      go_enter Tryz.func57, Tryz.ntmps57
      go_wp2_with fail
      generalize ((w.alloc _).alloc _ : World) = w0 at K0 cN r0 r1 r2 r3 r4 ⊢
      refine (specOpenOf_is rt rq rv X x xc Y y yc os k w0 (by omega) K0.ops).mono ?_
      rw [HG.out]
      rintro e w1 ⟨rfl, hb⟩
      have K1 := K0.later hb
      have E := K1.bel
      clear K0 cN r0 r1 r2 r3 r4 hb
      have cN := K1.nb.cell
      have hl := K1.nb.lt
      clear K1
      unfold opV
      go_wp2
      go_ret
      exact ⟨by rw [HV.out]; rfl, bel_trans E (bel_alloc _ _)⟩

end
end Go.Proofs.YtjdepjpjjgkmbaaGreat

/- SameOpen of the program: its contract (written by same8.py); conditions: the sizes. -/
namespace Go.Proofs.YtjdepjpjjgkmbaaGreat
open Go Go.RowKit

section
variable {rt rq rv : Int} {X : Option Addr} {x xc : Nat} {Y : Option Addr} {y yc : Nat} {os : List Opn} {N : Array Value} {k1 k2 k3 k4 k5 t1 t2 v1 o1 o2 v2 : Int} {P : Option Addr} {p pc : Nat} {Q : Option Addr} {q qc : Nat} {l1 l2 v3 : Int} {w : World}

set_option maxHeartbeats 4000000 in
theorem sameOpen_is (hN : N = #[.int .i64 k1, .int .i64 k2, .int .i64 k3, .int .i64 k4, .int .i64 k5, .int .i64 t1, .int .i64 t2, .int .i64 v1, .int .i64 o1, .int .i64 o2, .int .i64 v2, .slice P p pc, .slice Q q qc, .int .i64 l1, .int .i64 l2, .int .i64 v3]) (hy : y ≤ 2000000) (h : Quads w w.heap.size Y y os) {b : Bool} (hb : sameB os k2 t1 t2 v1 = b) :
    Calls Tryz.prog 56 #[.agg #[.int .i64 rt, .int .i64 rq, .int .i64 rv, .slice X x xc, .slice Y y yc], .agg N] w fun e w' => e = .returned (.bool b) ∧ Below w.heap.size w w' := by
  have K0 := SO.start w N rt rq rv X x xc yc h
  have IN := Lib.hid (sizeN hN)
  have IO : Hid ((Tryz.prog.info? 97).map (·.size) = some 4) := Lib.hid (by kernel_rfl)
  obtain ⟨n0, n1, n2, n3, n4, n5, n6, n7, n8, n9, n10, n11, n12, n13, n14, n15⟩ := cellsN hN
  have HN := Lib.hid hN
  have cN := K0.nb.cell
  obtain ⟨r0, r1, r2, r3, r4⟩ := K0.rb.five
  clear hN h n0 n2 n3 n4 n5 n6 n7 n8 n9 n10 n11 n12 n13 n14 n15
  subst hb
  rcases hg : getO os k2 with _ | ⟨k, a, d, v⟩
  · have HV := Lib.hid (same_none hg t1 t2 v1)
    have HG := Lib.hid hg
    clear hg
    go_enter Tryz.func56, Tryz.ntmps56
    go_wp2_with fail
    generalize ((w.alloc _).alloc _ : World) = w0 at K0 cN r0 r1 r2 r3 r4 ⊢
    refine (openOf_is rt rq rv X x xc Y y yc os k2 w0 (by omega) K0.ops).mono ?_
    rw [HG.out]
    rintro e w1 ⟨rfl, hb⟩
    have E := bel_trans (bel_trans K0.bel hb) (bel_alloc w1 (.cells #[.int .i64 0, .int .i64 0, .int .i64 0, .int .i64 0] 97))
    clear K0 cN r0 r1 r2 r3 r4
    unfold opV
    go_upto_region 2 with fail
    refine wp_region_after (by kernel_rfl) (by kernel_rfl) ?_
    repeat (first | go_big_quiet_step (fail) | quiet_step (fail))
    refine wpQuiet_nil ?_
    intro pw
    go_wp2
    go_ret
    exact ⟨by rw [HV.out]; rfl, bel_trans E pw.bel⟩
  · obtain ⟨rfl, hcase⟩ := same_cases hg t1 t2 v1
    have HG := Lib.hid hg
    clear hg
    rcases hcase with ⟨rfl, rfl, rfl, HV⟩ | ⟨hne | ⟨h1, hne⟩ | ⟨h1, h2, hne⟩, HV⟩ <;> replace HV := Lib.hid HV
    · go_enter Tryz.func56, Tryz.ntmps56
      go_wp2_with fail
      generalize ((w.alloc _).alloc _ : World) = w0 at K0 cN r0 r1 r2 r3 r4 ⊢
      refine (openOf_is rt rq rv X x xc Y y yc os k w0 (by omega) K0.ops).mono ?_
      rw [HG.out]
      rintro e w1 ⟨rfl, hb⟩
      have D1 := Box.new w1 97 #[.int .i64 k, .int .i64 a, .int .i64 d, .int .i64 v]
      have K1 := (K0.later hb).later (bel_alloc w1 (.cells #[.int .i64 k, .int .i64 a, .int .i64 d, .int .i64 v] 97))
      clear K0 cN r0 r1 r2 r3 r4 hb
      unfold opV
      go_upto_region 2 with fail
      generalize (w1.alloc _ : World) = w2 at K1 D1 ⊢
      generalize w1.heap.size = V at D1 ⊢
      refine wp_region_sink 8 (fun w' => Box w' V 97 #[.int .i64 k, .int .i64 a, .int .i64 d, .int .i64 v] ∧ Box w' (w.heap.size + 1) 85 N) (by kernel_rfl) ⟨D1, K1.nb⟩ (fun hH => ?_)
      replace K1 := K1.later ((Below.refl w2.heap.size w2).drew)
      replace D1 := D1.later ((Below.refl w2.heap.size w2).drew) D1.lt
      generalize w2.drew = w3 at K1 D1 hH ⊢
      refine wpAnyE_pure (i := 0) (v := ?va0) (by simp only [List.getElem?_toArray, List.getElem?_cons_zero]; rfl) (by kernel_rfl) (by kernel_rfl) (by kernel_rfl) (by exact fun _ _ _ h => h) (by kernel_rfl) (Or.inl ⟨by rfl, ?ya0⟩) hH ?ra0
      case ya0 => (intro w' hSw; (try dsimp only at hSw); go_simp; try with_reducible rfl)
      try simp only [Act.put, List.setIfInBounds_toArray, List.set_cons_zero, List.set_cons_succ]
      refine wpAnyE_pure (i := 1) (v := ?vb0) (by simp only [List.getElem?_toArray, List.getElem?_cons_succ, List.getElem?_cons_zero]; rfl) (by kernel_rfl) (by kernel_rfl) (by kernel_rfl) (by exact fun _ _ _ h => h) (by kernel_rfl) (Or.inl ⟨by rfl, ?yb0⟩) hH ?rb0
      case yb0 => (intro w' hSw; (try dsimp only at hSw); go_simp; try with_reducible rfl)
      try simp only [Act.put, List.setIfInBounds_toArray, List.set_cons_zero, List.set_cons_succ]
      refine wpAnyE_takeS (i := 2) (v := .agg #[.int .i64 k, .int .i64 a, .int .i64 d, .int .i64 v]) (by simp only [List.getElem?_toArray, List.getElem?_cons_succ, List.getElem?_cons_zero]; rfl) (by kernel_rfl) (by kernel_rfl) (by kernel_rfl) (by exact fun _ _ _ h => h) (by kernel_rfl) ?yc0 hH ?_
      case yc0 => exact yields_box 97 _ rfl (V) rfl 97 #[.int .i64 k, .int .i64 a, .int .i64 d, .int .i64 v] (fun _ h => h.1) _ Tryz.underlying97 rfl IO.out (by first | rfl | simp [Region.wanted, yielded] | (simp [Region.wanted, yielded, Act.put] <;> omega))
      try simp only [Act.put, List.setIfInBounds_toArray, List.set_cons_zero, List.set_cons_succ]
      refine wpAnyE_takeS (i := 3) (v := .agg N) (by simp only [List.getElem?_toArray, List.getElem?_cons_succ, List.getElem?_cons_zero]; rfl) (by kernel_rfl) (by kernel_rfl) (by kernel_rfl) (by exact fun _ _ _ h => h) (by kernel_rfl) ?yd0 hH ?_
      case yd0 => exact yields_box 85 _ rfl (w.heap.size + 1) rfl 85 N (fun _ h => h.2) _ Tryz.underlying85 rfl IN.out (by first | rfl | simp [Region.wanted, yielded] | (simp [Region.wanted, yielded, Act.put] <;> omega))
      try simp only [Act.put, List.setIfInBounds_toArray, List.set_cons_zero, List.set_cons_succ]
      refine wpAnyE_one (i := 4) (by kernel_rfl) (by simp only [List.getElem?_toArray, List.getElem?_cons_succ, List.getElem?_cons_zero]; rfl) (fun K hK => ?_)
      go_simp
      refine (openFor8_is HN.out _).mono ?_
      rintro e w4 ⟨rfl, hb⟩
      replace K1 := K1.later hb
      replace D1 := D1.later hb D1.lt
      clear hb
      clear hH
      refine hK.out _ _ ⟨D1, K1.nb⟩ (fun hH => ?_)
      clear hK K
      try simp only [Act.put, List.setIfInBounds_toArray, List.set_cons_zero, List.set_cons_succ]
      refine wpAnyE_one (i := 5) (by kernel_rfl) (by simp only [List.getElem?_toArray, List.getElem?_cons_succ, List.getElem?_cons_zero]; rfl) (fun K hK => ?_)
      go_simp
      clear hH
      refine hK.out _ _ ⟨D1, K1.nb⟩ (fun hH => ?_)
      clear hK K
      try simp only [Act.put, List.setIfInBounds_toArray, List.set_cons_zero, List.set_cons_succ]
      refine wpAnyE_one (i := 6) (by kernel_rfl) (by simp only [List.getElem?_toArray, List.getElem?_cons_succ, List.getElem?_cons_zero]; rfl) (fun K hK => ?_)
      go_simp
      clear hH
      refine hK.out _ _ ⟨D1, K1.nb⟩ (fun hH => ?_)
      clear hK K
      try simp only [Act.put, List.setIfInBounds_toArray, List.set_cons_zero, List.set_cons_succ]
      refine wpAnyE_end (i := 7) (by kernel_rfl) (by simp only [List.getElem?_toArray, List.getElem?_cons_succ, List.getElem?_cons_zero]; rfl) (by kernel_rfl) (fun K hK => ?_)
      go_simp
      refine hK.out _ _ ⟨D1, K1.nb⟩ ?_
      clear hK K
      try simp only [Act.put, List.setIfInBounds_toArray, List.set_cons_zero, List.set_cons_succ]
      have E := K1.bel
      clear K1 D1 hH
      go_wp2
      go_ret
      exact ⟨by rw [HV.out]; rfl, E⟩
    · go_enter Tryz.func56, Tryz.ntmps56
      go_wp2_with fail
      generalize ((w.alloc _).alloc _ : World) = w0 at K0 cN r0 r1 r2 r3 r4 ⊢
      refine (openOf_is rt rq rv X x xc Y y yc os k w0 (by omega) K0.ops).mono ?_
      rw [HG.out]
      rintro e w1 ⟨rfl, hb⟩
      have D1 := Box.new w1 97 #[.int .i64 k, .int .i64 a, .int .i64 d, .int .i64 v]
      have K1 := (K0.later hb).later (bel_alloc w1 (.cells #[.int .i64 k, .int .i64 a, .int .i64 d, .int .i64 v] 97))
      clear K0 cN r0 r1 r2 r3 r4 hb
      unfold opV
      go_upto_region 2 with fail
      generalize (w1.alloc _ : World) = w2 at K1 D1 ⊢
      generalize w1.heap.size = V at D1 ⊢
      refine wp_region_sink 8 (fun w' => Box w' V 97 #[.int .i64 k, .int .i64 a, .int .i64 d, .int .i64 v] ∧ Box w' (w.heap.size + 1) 85 N) (by kernel_rfl) ⟨D1, K1.nb⟩ (fun hH => ?_)
      replace K1 := K1.later ((Below.refl w2.heap.size w2).drew)
      replace D1 := D1.later ((Below.refl w2.heap.size w2).drew) D1.lt
      generalize w2.drew = w3 at K1 D1 hH ⊢
      refine wpAnyE_pure (i := 0) (v := ?va1) (by simp only [List.getElem?_toArray, List.getElem?_cons_zero]; rfl) (by kernel_rfl) (by kernel_rfl) (by kernel_rfl) (by exact fun _ _ _ h => h) (by kernel_rfl) (Or.inl ⟨by rfl, ?ya1⟩) hH ?ra1
      case ya1 => (intro w' hSw; (try dsimp only at hSw); go_simp; try with_reducible rfl)
      try simp only [Act.put, List.setIfInBounds_toArray, List.set_cons_zero, List.set_cons_succ]
      refine wpAnyE_pure (i := 1) (v := ?vb1) (by simp only [List.getElem?_toArray, List.getElem?_cons_succ, List.getElem?_cons_zero]; rfl) (by kernel_rfl) (by kernel_rfl) (by kernel_rfl) (by exact fun _ _ _ h => h) (by kernel_rfl) (Or.inl ⟨by rfl, ?yb1⟩) hH ?rb1
      case yb1 => (intro w' hSw; (try dsimp only at hSw); go_simp; try with_reducible rfl)
      try simp only [Act.put, List.setIfInBounds_toArray, List.set_cons_zero, List.set_cons_succ]
      refine wpAnyE_takeS (i := 2) (v := .agg #[.int .i64 k, .int .i64 a, .int .i64 d, .int .i64 v]) (by simp only [List.getElem?_toArray, List.getElem?_cons_succ, List.getElem?_cons_zero]; rfl) (by kernel_rfl) (by kernel_rfl) (by kernel_rfl) (by exact fun _ _ _ h => h) (by kernel_rfl) ?yc1 hH ?_
      case yc1 => exact yields_box 97 _ rfl (V) rfl 97 #[.int .i64 k, .int .i64 a, .int .i64 d, .int .i64 v] (fun _ h => h.1) _ Tryz.underlying97 rfl IO.out (by first | rfl | simp [Region.wanted, yielded] | (simp [Region.wanted, yielded, Act.put] <;> omega))
      try simp only [Act.put, List.setIfInBounds_toArray, List.set_cons_zero, List.set_cons_succ]
      refine wpAnyE_takeS (i := 3) (v := .agg N) (by simp only [List.getElem?_toArray, List.getElem?_cons_succ, List.getElem?_cons_zero]; rfl) (by kernel_rfl) (by kernel_rfl) (by kernel_rfl) (by exact fun _ _ _ h => h) (by kernel_rfl) ?yd1 hH ?_
      case yd1 => exact yields_box 85 _ rfl (w.heap.size + 1) rfl 85 N (fun _ h => h.2) _ Tryz.underlying85 rfl IN.out (by first | rfl | simp [Region.wanted, yielded] | (simp [Region.wanted, yielded, Act.put] <;> omega))
      try simp only [Act.put, List.setIfInBounds_toArray, List.set_cons_zero, List.set_cons_succ]
      refine wpAnyE_one (i := 4) (by kernel_rfl) (by simp only [List.getElem?_toArray, List.getElem?_cons_succ, List.getElem?_cons_zero]; rfl) (fun K hK => ?_)
      go_simp
      refine (openFor8_is HN.out _).mono ?_
      rintro e w4 ⟨rfl, hb⟩
      replace K1 := K1.later hb
      replace D1 := D1.later hb D1.lt
      clear hb
      clear hH
      refine hK.out _ _ ⟨D1, K1.nb⟩ (fun hH => ?_)
      clear hK K
      try simp only [Act.put, List.setIfInBounds_toArray, List.set_cons_zero, List.set_cons_succ]
      refine wpAnyE_one (i := 5) (by kernel_rfl) (by simp only [List.getElem?_toArray, List.getElem?_cons_succ, List.getElem?_cons_zero]; rfl) (fun K hK => ?_)
      go_simp
      clear hH
      refine hK.out _ _ ⟨D1, K1.nb⟩ (fun hH => ?_)
      clear hK K
      try simp only [Act.put, List.setIfInBounds_toArray, List.set_cons_zero, List.set_cons_succ]
      refine wpAnyE_one (i := 6) (by kernel_rfl) (by simp only [List.getElem?_toArray, List.getElem?_cons_succ, List.getElem?_cons_zero]; rfl) (fun K hK => ?_)
      go_simp
      clear hH
      refine hK.out _ _ ⟨D1, K1.nb⟩ (fun hH => ?_)
      clear hK K
      try simp only [Act.put, List.setIfInBounds_toArray, List.set_cons_zero, List.set_cons_succ]
      refine wpAnyE_end (i := 7) (by kernel_rfl) (by simp only [List.getElem?_toArray, List.getElem?_cons_succ, List.getElem?_cons_zero]; rfl) (by kernel_rfl) (fun K hK => ?_)
      go_simp
      refine hK.out _ _ ⟨D1, K1.nb⟩ ?_
      clear hK K
      try simp only [Act.put, List.setIfInBounds_toArray, List.set_cons_zero, List.set_cons_succ]
      have E := K1.bel
      clear K1 D1 hH
      go_wp2
      go_ret
      exact ⟨by rw [HV.out]; rfl, E⟩
    · go_enter Tryz.func56, Tryz.ntmps56
      go_wp2_with fail
      generalize ((w.alloc _).alloc _ : World) = w0 at K0 cN r0 r1 r2 r3 r4 ⊢
      refine (openOf_is rt rq rv X x xc Y y yc os k w0 (by omega) K0.ops).mono ?_
      rw [HG.out]
      rintro e w1 ⟨rfl, hb⟩
      have D1 := Box.new w1 97 #[.int .i64 k, .int .i64 a, .int .i64 d, .int .i64 v]
      have K1 := (K0.later hb).later (bel_alloc w1 (.cells #[.int .i64 k, .int .i64 a, .int .i64 d, .int .i64 v] 97))
      clear K0 cN r0 r1 r2 r3 r4 hb
      unfold opV
      go_upto_region 2 with fail
      generalize (w1.alloc _ : World) = w2 at K1 D1 ⊢
      generalize w1.heap.size = V at D1 ⊢
      refine wp_region_sink 8 (fun w' => Box w' V 97 #[.int .i64 k, .int .i64 a, .int .i64 d, .int .i64 v] ∧ Box w' (w.heap.size + 1) 85 N) (by kernel_rfl) ⟨D1, K1.nb⟩ (fun hH => ?_)
      replace K1 := K1.later ((Below.refl w2.heap.size w2).drew)
      replace D1 := D1.later ((Below.refl w2.heap.size w2).drew) D1.lt
      generalize w2.drew = w3 at K1 D1 hH ⊢
      refine wpAnyE_pure (i := 0) (v := ?va2) (by simp only [List.getElem?_toArray, List.getElem?_cons_zero]; rfl) (by kernel_rfl) (by kernel_rfl) (by kernel_rfl) (by exact fun _ _ _ h => h) (by kernel_rfl) (Or.inl ⟨by rfl, ?ya2⟩) hH ?ra2
      case ya2 => (intro w' hSw; (try dsimp only at hSw); go_simp; try with_reducible rfl)
      try simp only [Act.put, List.setIfInBounds_toArray, List.set_cons_zero, List.set_cons_succ]
      refine wpAnyE_pure (i := 1) (v := ?vb2) (by simp only [List.getElem?_toArray, List.getElem?_cons_succ, List.getElem?_cons_zero]; rfl) (by kernel_rfl) (by kernel_rfl) (by kernel_rfl) (by exact fun _ _ _ h => h) (by kernel_rfl) (Or.inl ⟨by rfl, ?yb2⟩) hH ?rb2
      case yb2 => (intro w' hSw; (try dsimp only at hSw); go_simp; try with_reducible rfl)
      try simp only [Act.put, List.setIfInBounds_toArray, List.set_cons_zero, List.set_cons_succ]
      refine wpAnyE_takeS (i := 2) (v := .agg #[.int .i64 k, .int .i64 a, .int .i64 d, .int .i64 v]) (by simp only [List.getElem?_toArray, List.getElem?_cons_succ, List.getElem?_cons_zero]; rfl) (by kernel_rfl) (by kernel_rfl) (by kernel_rfl) (by exact fun _ _ _ h => h) (by kernel_rfl) ?yc2 hH ?_
      case yc2 => exact yields_box 97 _ rfl (V) rfl 97 #[.int .i64 k, .int .i64 a, .int .i64 d, .int .i64 v] (fun _ h => h.1) _ Tryz.underlying97 rfl IO.out (by first | rfl | simp [Region.wanted, yielded] | (simp [Region.wanted, yielded, Act.put] <;> omega))
      try simp only [Act.put, List.setIfInBounds_toArray, List.set_cons_zero, List.set_cons_succ]
      refine wpAnyE_takeS (i := 3) (v := .agg N) (by simp only [List.getElem?_toArray, List.getElem?_cons_succ, List.getElem?_cons_zero]; rfl) (by kernel_rfl) (by kernel_rfl) (by kernel_rfl) (by exact fun _ _ _ h => h) (by kernel_rfl) ?yd2 hH ?_
      case yd2 => exact yields_box 85 _ rfl (w.heap.size + 1) rfl 85 N (fun _ h => h.2) _ Tryz.underlying85 rfl IN.out (by first | rfl | simp [Region.wanted, yielded] | (simp [Region.wanted, yielded, Act.put] <;> omega))
      try simp only [Act.put, List.setIfInBounds_toArray, List.set_cons_zero, List.set_cons_succ]
      refine wpAnyE_one (i := 4) (by kernel_rfl) (by simp only [List.getElem?_toArray, List.getElem?_cons_succ, List.getElem?_cons_zero]; rfl) (fun K hK => ?_)
      go_simp
      refine (openFor8_is HN.out _).mono ?_
      rintro e w4 ⟨rfl, hb⟩
      replace K1 := K1.later hb
      replace D1 := D1.later hb D1.lt
      clear hb
      clear hH
      refine hK.out _ _ ⟨D1, K1.nb⟩ (fun hH => ?_)
      clear hK K
      try simp only [Act.put, List.setIfInBounds_toArray, List.set_cons_zero, List.set_cons_succ]
      refine wpAnyE_one (i := 5) (by kernel_rfl) (by simp only [List.getElem?_toArray, List.getElem?_cons_succ, List.getElem?_cons_zero]; rfl) (fun K hK => ?_)
      go_simp
      clear hH
      refine hK.out _ _ ⟨D1, K1.nb⟩ (fun hH => ?_)
      clear hK K
      try simp only [Act.put, List.setIfInBounds_toArray, List.set_cons_zero, List.set_cons_succ]
      refine wpAnyE_one (i := 6) (by kernel_rfl) (by simp only [List.getElem?_toArray, List.getElem?_cons_succ, List.getElem?_cons_zero]; rfl) (fun K hK => ?_)
      go_simp
      clear hH
      refine hK.out _ _ ⟨D1, K1.nb⟩ (fun hH => ?_)
      clear hK K
      try simp only [Act.put, List.setIfInBounds_toArray, List.set_cons_zero, List.set_cons_succ]
      refine wpAnyE_end (i := 7) (by kernel_rfl) (by simp only [List.getElem?_toArray, List.getElem?_cons_succ, List.getElem?_cons_zero]; rfl) (by kernel_rfl) (fun K hK => ?_)
      go_simp
      refine hK.out _ _ ⟨D1, K1.nb⟩ ?_
      clear hK K
      try simp only [Act.put, List.setIfInBounds_toArray, List.set_cons_zero, List.set_cons_succ]
      have E := K1.bel
      clear K1 D1 hH
      go_wp2
      go_ret
      exact ⟨by rw [HV.out]; rfl, E⟩
    · go_enter Tryz.func56, Tryz.ntmps56
      go_wp2_with fail
      generalize ((w.alloc _).alloc _ : World) = w0 at K0 cN r0 r1 r2 r3 r4 ⊢
      refine (openOf_is rt rq rv X x xc Y y yc os k w0 (by omega) K0.ops).mono ?_
      rw [HG.out]
      rintro e w1 ⟨rfl, hb⟩
      have D1 := Box.new w1 97 #[.int .i64 k, .int .i64 a, .int .i64 d, .int .i64 v]
      have K1 := (K0.later hb).later (bel_alloc w1 (.cells #[.int .i64 k, .int .i64 a, .int .i64 d, .int .i64 v] 97))
      clear K0 cN r0 r1 r2 r3 r4 hb
      unfold opV
      go_upto_region 2 with fail
      generalize (w1.alloc _ : World) = w2 at K1 D1 ⊢
      generalize w1.heap.size = V at D1 ⊢
      refine wp_region_sink 8 (fun w' => Box w' V 97 #[.int .i64 k, .int .i64 a, .int .i64 d, .int .i64 v] ∧ Box w' (w.heap.size + 1) 85 N) (by kernel_rfl) ⟨D1, K1.nb⟩ (fun hH => ?_)
      replace K1 := K1.later ((Below.refl w2.heap.size w2).drew)
      replace D1 := D1.later ((Below.refl w2.heap.size w2).drew) D1.lt
      generalize w2.drew = w3 at K1 D1 hH ⊢
      refine wpAnyE_pure (i := 0) (v := ?va3) (by simp only [List.getElem?_toArray, List.getElem?_cons_zero]; rfl) (by kernel_rfl) (by kernel_rfl) (by kernel_rfl) (by exact fun _ _ _ h => h) (by kernel_rfl) (Or.inl ⟨by rfl, ?ya3⟩) hH ?ra3
      case ya3 => (intro w' hSw; (try dsimp only at hSw); go_simp; try with_reducible rfl)
      try simp only [Act.put, List.setIfInBounds_toArray, List.set_cons_zero, List.set_cons_succ]
      refine wpAnyE_pure (i := 1) (v := ?vb3) (by simp only [List.getElem?_toArray, List.getElem?_cons_succ, List.getElem?_cons_zero]; rfl) (by kernel_rfl) (by kernel_rfl) (by kernel_rfl) (by exact fun _ _ _ h => h) (by kernel_rfl) (Or.inl ⟨by rfl, ?yb3⟩) hH ?rb3
      case yb3 => (intro w' hSw; (try dsimp only at hSw); go_simp; try with_reducible rfl)
      try simp only [Act.put, List.setIfInBounds_toArray, List.set_cons_zero, List.set_cons_succ]
      refine wpAnyE_takeS (i := 2) (v := .agg #[.int .i64 k, .int .i64 a, .int .i64 d, .int .i64 v]) (by simp only [List.getElem?_toArray, List.getElem?_cons_succ, List.getElem?_cons_zero]; rfl) (by kernel_rfl) (by kernel_rfl) (by kernel_rfl) (by exact fun _ _ _ h => h) (by kernel_rfl) ?yc3 hH ?_
      case yc3 => exact yields_box 97 _ rfl (V) rfl 97 #[.int .i64 k, .int .i64 a, .int .i64 d, .int .i64 v] (fun _ h => h.1) _ Tryz.underlying97 rfl IO.out (by first | rfl | simp [Region.wanted, yielded] | (simp [Region.wanted, yielded, Act.put] <;> omega))
      try simp only [Act.put, List.setIfInBounds_toArray, List.set_cons_zero, List.set_cons_succ]
      refine wpAnyE_takeS (i := 3) (v := .agg N) (by simp only [List.getElem?_toArray, List.getElem?_cons_succ, List.getElem?_cons_zero]; rfl) (by kernel_rfl) (by kernel_rfl) (by kernel_rfl) (by exact fun _ _ _ h => h) (by kernel_rfl) ?yd3 hH ?_
      case yd3 => exact yields_box 85 _ rfl (w.heap.size + 1) rfl 85 N (fun _ h => h.2) _ Tryz.underlying85 rfl IN.out (by first | rfl | simp [Region.wanted, yielded] | (simp [Region.wanted, yielded, Act.put] <;> omega))
      try simp only [Act.put, List.setIfInBounds_toArray, List.set_cons_zero, List.set_cons_succ]
      refine wpAnyE_one (i := 4) (by kernel_rfl) (by simp only [List.getElem?_toArray, List.getElem?_cons_succ, List.getElem?_cons_zero]; rfl) (fun K hK => ?_)
      go_simp
      refine (openFor8_is HN.out _).mono ?_
      rintro e w4 ⟨rfl, hb⟩
      replace K1 := K1.later hb
      replace D1 := D1.later hb D1.lt
      clear hb
      clear hH
      refine hK.out _ _ ⟨D1, K1.nb⟩ (fun hH => ?_)
      clear hK K
      try simp only [Act.put, List.setIfInBounds_toArray, List.set_cons_zero, List.set_cons_succ]
      refine wpAnyE_one (i := 5) (by kernel_rfl) (by simp only [List.getElem?_toArray, List.getElem?_cons_succ, List.getElem?_cons_zero]; rfl) (fun K hK => ?_)
      go_simp
      clear hH
      refine hK.out _ _ ⟨D1, K1.nb⟩ (fun hH => ?_)
      clear hK K
      try simp only [Act.put, List.setIfInBounds_toArray, List.set_cons_zero, List.set_cons_succ]
      refine wpAnyE_one (i := 6) (by kernel_rfl) (by simp only [List.getElem?_toArray, List.getElem?_cons_succ, List.getElem?_cons_zero]; rfl) (fun K hK => ?_)
      go_simp
      clear hH
      refine hK.out _ _ ⟨D1, K1.nb⟩ (fun hH => ?_)
      clear hK K
      try simp only [Act.put, List.setIfInBounds_toArray, List.set_cons_zero, List.set_cons_succ]
      refine wpAnyE_end (i := 7) (by kernel_rfl) (by simp only [List.getElem?_toArray, List.getElem?_cons_succ, List.getElem?_cons_zero]; rfl) (by kernel_rfl) (fun K hK => ?_)
      go_simp
      refine hK.out _ _ ⟨D1, K1.nb⟩ ?_
      clear hK K
      try simp only [Act.put, List.setIfInBounds_toArray, List.set_cons_zero, List.set_cons_succ]
      have E := K1.bel
      clear K1 D1 hH
      go_wp2
      go_ret
      exact ⟨by rw [HV.out]; rfl, E⟩

end
end Go.Proofs.YtjdepjpjjgkmbaaGreat

/- SameOpen and its model over shelves and notes of one's own: contracts of both; conditions: the sizes. -/
namespace Go.Proofs.YtjdepjpjjgkmbaaGreat
open Go.RowKit

def sameD (r : RegD) (d : NoteD) : Bool := sameB r.os d.k2 d.t1 d.t2 d.v1
end Go.Proofs.YtjdepjpjjgkmbaaGreat

/- Opens that are put to their places stay in order; mathematics alone; no conditions. -/
namespace Go.Proofs.YtjdepjpjjgkmbaaGreat
open Go.RowKit

/-- Opens in order, all right. -/
theorem opsB_iff (R : Opn → Bool) (os : List Opn) : opsB R os = true ↔ (∀ i, i < os.length → R (oth os i) = true) ∧ ∀ i, i + 1 < os.length → (oth os i).1 < (oth os (i + 1)).1 := by
  constructor
  · intro h
    unfold opsB at h
    rw [List.all_eq_true] at h
    refine ⟨fun i hi => ?_, fun i hi => ?_⟩
    · have := h i (List.mem_range.2 hi)
      unfold stepB at this
      rw [Bool.and_eq_true] at this
      exact this.1
    · have := h (i + 1) (List.mem_range.2 hi)
      unfold stepB at this
      simp only [Bool.and_eq_true, Bool.or_eq_true, decide_eq_true_eq, Nat.add_sub_cancel] at this
      rcases this.2 with h1 | h1
      · omega
      · exact h1
  · rintro ⟨h1, h2⟩
    refine opsB_true fun i hi => ?_
    unfold stepB
    rcases i with _ | i
    · simp [h1 0 hi]
    · have := h2 i hi
      simp [h1 (i + 1) hi, this]
theorem opsB_lt {R : Opn → Bool} {os : List Opn} (h : opsB R os = true) : ∀ i j, i < j → j < os.length → (oth os i).1 < (oth os j).1 := by
  obtain ⟨-, h2⟩ := (opsB_iff R os).1 h
  intro i j hij
  induction j with
  | zero => omega
  | succ j ih =>
    intro hj
    have h3 := h2 j hj
    by_cases e : i = j
    · subst e; exact h3
    · have := ih (by omega) (by omega)
      omega
theorem oth_put {os : List Opn} {i j : Nat} {o : Opn} (hi : i ≤ os.length) (_hj : j ≤ os.length) (hij : i ≤ j) (x : Nat) :
    oth (putO os i j o) x = if x < i then oth os x else if x = i then o else oth os (x - (i + 1) + j) := by
  unfold oth putO
  simp only [List.getD_eq_getElem?_getD]
  rw [List.append_assoc]
  by_cases h1 : x < i
  · rw [if_pos h1, List.getElem?_append_left (by rw [List.length_take]; omega), List.getElem?_take, if_pos h1]
  · rw [if_neg h1, List.getElem?_append_right (by rw [List.length_take]; omega), List.length_take, Nat.min_eq_left hi]
    by_cases h2 : x = i
    · subst h2
      simp
    · rw [if_neg h2, List.getElem?_append_right (by simp; omega), List.getElem?_drop]
      simp only [List.length_singleton]
      rw [show j + (x - i - 1) = x - (i + 1) + j by omega]
theorem beh_ge {c : Int} {os : List Opn} : ∀ k, k ≤ os.length → (∀ j, behN c (os.take k) ≤ j → j < k → ¬ (oth os j).1 < c) ∧ (0 < behN c (os.take k) → (oth os (behN c (os.take k) - 1)).1 < c) := by
  intro k
  induction k with
  | zero => intro _; exact ⟨fun j _ hj => absurd hj (by omega), fun h => absurd h (by simp [behN])⟩
  | succ k ih =>
    intro hk
    obtain ⟨h1, h2⟩ := ih (by omega)
    rw [behN_snoc (by omega)]
    by_cases hc : (oth os k).1 < c
    · rw [if_pos hc]
      exact ⟨fun j h3 h4 => absurd h4 (by omega), fun _ => by simpa using hc⟩
    · rw [if_neg hc]
      refine ⟨fun j h3 h4 => ?_, h2⟩
      by_cases e : j = k
      · subst e; exact hc
      · exact h1 j h3 (by omega)
theorem opsB_with {R : Opn → Bool} {os : List Opn} {o : Opn} (h : opsB R os = true) (ho : R o = true) : opsB R (withO os o) = true := by
  have hlt := opsB_lt h
  obtain ⟨h1, h2⟩ := (opsB_iff R os).1 h
  rw [opsB_iff]
  rcases first_cases o.1 os with ⟨i, hf⟩ | hn
  · rw [withO_first hf]
    have hil := hf.1
    have hlen : (putO os i (i + 1) o).length = os.length := by rw [putO_len (by omega) (by omega)]; omega
    have hoth : ∀ x, oth (putO os i (i + 1) o) x = if x = i then o else oth os x := fun x => by
      rw [oth_put (by omega) (by omega) (by omega)]
      by_cases a : x < i
      · rw [if_pos a, if_neg (by omega)]
      · rw [if_neg a]
        by_cases b : x = i
        · rw [if_pos b, if_pos b]
        · rw [if_neg b, if_neg b, show x - (i + 1) + (i + 1) = x by omega]
    have hk := hf.2.1
    refine ⟨fun x hx => ?_, fun x hx => ?_⟩
    · rw [hoth]
      split
      · exact ho
      · exact h1 x (by omega)
    · rw [hoth, hoth]
      have := h2 x (by omega)
      split <;> split
      · omega
      · subst_vars; rw [hk] at this; exact this
      · rename_i a b; rw [← hk, ← b]; exact this
      · exact this
  · rw [withO_none hn]
    obtain ⟨b, hb⟩ : ∃ b, behN o.1 os = b := ⟨_, rfl⟩
    have hbl := behN_le o.1 os
    obtain ⟨g1, g2⟩ := beh_ge (c := o.1) os.length (Nat.le_refl _)
    rw [List.take_length] at g1 g2
    rw [hb] at hbl g1 g2 ⊢
    have hlen : (putO os b b o).length = os.length + 1 := by rw [putO_len hbl hbl]; omega
    have hoth := oth_put (o := o) hbl hbl (Nat.le_refl b)
    refine ⟨fun x hx => ?_, fun x hx => ?_⟩
    · rw [hoth]
      split
      · exact h1 x (by omega)
      · split
        · exact ho
        · exact h1 _ (by omega)
    · rw [hoth, hoth]
      by_cases a : x + 1 < b
      · rw [if_pos (by omega), if_pos a]
        exact h2 x (by omega)
      · by_cases e : x + 1 = b
        · rw [if_pos (by omega), if_neg (by omega), if_pos e]
          have := g2 (by omega)
          rw [show b - 1 = x by omega] at this
          exact this
        · by_cases f : x = b
          · subst f
            rw [if_neg (by omega), if_pos rfl, if_neg (by omega), if_neg (by omega), show x + 1 - (x + 1) + x = x by omega]
            have hx1 : x < os.length := by omega
            have := g1 x (Nat.le_refl _) hx1
            have := hn x hx1
            omega
          · rw [if_neg (by omega), if_neg f, if_neg (by omega), if_neg (by omega), show x - (b + 1) + b = x - 1 by omega, show x + 1 - (b + 1) + b = x - 1 + 1 by omega]
            exact h2 (x - 1) (by omega)

end Go.Proofs.YtjdepjpjjgkmbaaGreat

namespace Go.Proofs.YtjdepjpjjgkmbaaGreat
open Go.RowKit

/-- Putting again what is there changes nothing. -/
theorem with_again {os : List Opn} {o : Opn} (h : getO os o.1 = some o) : withO os o = os := by
  rcases first_cases o.1 os with ⟨i, hf⟩ | hn
  · rw [withO_first hf]
    have := getO_some hf
    rw [h] at this
    injection this with this
    unfold putO
    rw [this, oth_lt hf.1, ← List.take_succ_eq_append_getElem hf.1, List.take_append_drop]
  · rw [getO_none hn] at h
    cases h

section
variable {g : GrpD} {r rr : RegD} {d : NoteD} {z : Int}
/-- A code other than 0 leaves nothing open, or all as it was. -/
theorem read_else (h : readD g r d = (rr, z)) (hz : z ≠ 0) : rr.os = [] ∨ rr = r := by
  unfold readD readN at h
  split at h
  · obtain ⟨rfl, -⟩ := Prod.mk.inj h
    exact .inl rfl
  · split at h
    · exact absurd (Prod.mk.inj h).2.symm hz
    · obtain ⟨rfl, -⟩ := Prod.mk.inj h
      exact .inr rfl
/-- What the code is. -/
theorem read_code (h : readD g r d = (rr, z)) : codeD g r d = z := by
  unfold readD readN at h
  split at h
  · rename_i hs
    obtain ⟨-, rfl⟩ := Prod.mk.inj h
    exact code_not_some hs
  · split at h
    · rename_i hc
      obtain ⟨-, rfl⟩ := Prod.mk.inj h
      exact hc
    · exact (Prod.mk.inj h).2
theorem ob_all (h : codeD g r d = 0) (j : Nat) (hj : j < 7) : obB g.s g.l g.c g.sh g.zs r.t r.q r.v r.ps r.os d.k1 d.k2 d.k3 d.k4 d.k5 d.t1 d.t2 d.v1 d.o1 d.o2 d.v2 d.l1 d.l2 d.v3 d.cs d.ms j = false := by
  have key : ∀ k, k ≤ 7 → ∀ i, i < k → obB g.s g.l g.c g.sh g.zs r.t r.q r.v r.ps r.os d.k1 d.k2 d.k3 d.k4 d.k5 d.t1 d.t2 d.v1 d.o1 d.o2 d.v2 d.l1 d.l2 d.v3 d.cs d.ms i = false := by
    intro k
    induction k with
    | zero => intro _ i hi; omega
    | succ k ih =>
      intro hk i hi
      have hb := ih (by omega)
      by_cases e : i = k
      · subst e
        rcases hv : obB g.s g.l g.c g.sh g.zs r.t r.q r.v r.ps r.os d.k1 d.k2 d.k3 d.k4 d.k5 d.t1 d.t2 d.v1 d.o1 d.o2 d.v2 d.l1 d.l2 d.v3 d.cs d.ms i with _ | _
        · rfl
        · have hc := code_at hb (by omega) hv
          unfold codeD at h
          rw [hc] at h
          have : i = 0 ∨ i = 1 ∨ i = 2 ∨ i = 3 ∨ 4 ≤ i := by omega
          rcases this with rfl | rfl | rfl | rfl | h4
          · simp [codN] at h
          · simp [codN] at h
          · simp [codN] at h
          · simp [codN] at h
          · have e4 : codN i = 4 := by
              match i, h4 with
              | i + 4, _ => rfl
            rw [e4] at h
            omega
      · exact hb i (by omega)
  exact key 7 (Nat.le_refl _) j hj
/-- The open that a note asks for. -/
def opnD (d : NoteD) : Opn := (d.k2, d.t1, d.t2, d.v1)
theorem read_zero (h : readD g r d = (rr, 0)) : rr = ⟨r.t, r.q, r.v, r.ps, withO r.os (opnD d)⟩ := by
  have hc := read_code h
  unfold readD readN at h
  split at h
  · rename_i hs
    have := code_not_some (k1 := d.k1) (k2 := d.k2) (k3 := d.k3) (k4 := d.k4) (k5 := d.k5) (t1 := d.t1) (t2 := d.t2) (v1 := d.v1) (o1 := d.o1) (o2 := d.o2) (v2 := d.v2) (l1 := d.l1) (l2 := d.l2) (v3 := d.v3) (cs := d.cs) (ms := d.ms) hs
    unfold codeD at hc
    omega
  · split at h
    · exact (Prod.mk.inj h).1.symm
    · rename_i hn
      exact absurd hc hn
theorem read_get (h : readD g r d = (rr, 0)) : getO rr.os d.k2 = some (opnD d) := by
  rw [read_zero h]
  show getO (withO r.os (opnD d)) d.k2 = _
  rw [getO_with, if_pos (show (opnD d).1 = d.k2 from rfl)]
theorem open_right (h : codeD g r d = 0) : opnB g.s g.l g.c g.sh g.zs (opnD d) = true := by
  obtain ⟨hk, hn⟩ := ob_0 (ob_all h 0 (by omega))
  have h2 := ob_all h 2 (by omega)
  rw [obB_2] at h2
  simp only [Bool.not_eq_false', Bool.and_eq_true, decide_eq_true_eq] at h2
  obtain ⟨hx, e1, e2⟩ := h2
  unfold nxB at hx
  rw [Bool.and_eq_true] at hx
  have hb := stB_bd hx.1
  have hst := nt_stamps hn
  simp only [ntB, valsB, Bool.and_eq_true] at hn
  have hv : valB d.v1 = true := hn.1.1.1.2.1.1
  have hkd := hn.2
  rw [hk, kd_3, Bool.and_eq_true] at hkd
  unfold opnB opnD
  simp only [hkd.1, Bool.true_and, Bool.and_eq_true, decide_eq_true_eq]
  exact ⟨⟨⟨e2, by omega⟩, hst.1⟩, hv⟩
theorem read_reg (h : readD g r d = (rr, 0)) : regB g.s g.l g.c g.sh g.zs d.k5 rr.t rr.q rr.v rr.ps rr.os = true := by
  have hc := read_code h
  have h1 := ob_1 (ob_all hc 1 (by omega))
  rw [read_zero h]
  unfold regB at h1 ⊢
  rw [Bool.and_eq_true] at h1 ⊢
  exact ⟨h1.1, opsB_with h1.2 (open_right hc)⟩
theorem cmp_one {a b : Int} (h : stB a b = true) : cmpN a b a b = 0 := by
  rw [cmpN_yes h h, sgn_eq, sgn_eq]; rfl
/-- Asked for the same again, it is ready; asked for another value, it is not. -/
theorem code_like (h : readD g r d = (rr, 0)) (v : Int) (hv : valB v = true) : codeD g rr ⟨d.k1, d.k2, d.k3, d.k4, d.k5, d.t1, d.t2, v, d.o1, d.o2, d.v2, d.l1, d.l2, d.v3, d.cs, d.ms⟩ = if v = d.v1 then 0 else 4 := by
  have hc := read_code h
  obtain ⟨hk, hn⟩ := ob_0 (ob_all hc 0 (by omega))
  have h2 := ob_all hc 2 (by omega)
  have h3 := ob_all hc 3 (by omega)
  have hg := read_get h
  have hst := (nt_stamps hn).1
  have hn' : ntB g.s g.l g.c g.sh g.zs d.k1 d.k2 d.k3 d.k4 d.k5 d.t1 d.t2 v d.o1 d.o2 d.v2 d.cs d.ms d.l1 d.l2 d.v3 = true := by
    rw [hk] at hn ⊢
    simp only [ntB, valsB, kd_3, Bool.and_eq_true] at hn ⊢
    exact ⟨⟨⟨⟨hn.1.1.1.1, ⟨hv, hn.1.1.1.2.1.2⟩, hn.1.1.1.2.2⟩, hn.1.1.2⟩, hn.1.2⟩, hn.2⟩
  unfold codeD
  have b0 := ob0_yes (rt := rr.t) (rq := rr.q) (rv := rr.v) (ps := rr.ps) (os := rr.os) hk hn'
  have b1 : obB g.s g.l g.c g.sh g.zs rr.t rr.q rr.v rr.ps rr.os d.k1 d.k2 d.k3 d.k4 d.k5 d.t1 d.t2 v d.o1 d.o2 d.v2 d.l1 d.l2 d.v3 d.cs d.ms 1 = false := by rw [obB_1, read_reg h]; rfl
  rw [code_more b0 b1 h2 h3]
  have e4 : obB g.s g.l g.c g.sh g.zs rr.t rr.q rr.v rr.ps rr.os d.k1 d.k2 d.k3 d.k4 d.k5 d.t1 d.t2 v d.o1 d.o2 d.v2 d.l1 d.l2 d.v3 d.cs d.ms 4 = false := (opnF_some hg _).trans (by show (cmpN d.t1 d.t2 d.t1 d.t2 == 1) = false; rw [cmp_one hst]; rfl)
  have e5 : obB g.s g.l g.c g.sh g.zs rr.t rr.q rr.v rr.ps rr.os d.k1 d.k2 d.k3 d.k4 d.k5 d.t1 d.t2 v d.o1 d.o2 d.v2 d.l1 d.l2 d.v3 d.cs d.ms 5 = !decide (d.v1 = v) := (opnF_some hg _).trans (by show (decide (d.t1 = d.t1 ∧ d.t2 = d.t2) && !decide (d.v1 = v)) = _; rw [decide_eq_true ⟨rfl, rfl⟩, Bool.true_and])
  have e6 : obB g.s g.l g.c g.sh g.zs rr.t rr.q rr.v rr.ps rr.os d.k1 d.k2 d.k3 d.k4 d.k5 d.t1 d.t2 v d.o1 d.o2 d.v2 d.l1 d.l2 d.v3 d.cs d.ms 6 = false := (opnF_some hg _).trans (by show (cmpN d.t1 d.t2 d.t1 d.t2 == 1 && _) = false; rw [cmp_one hst]; rfl)
  rw [e4, e5, e6]
  by_cases e : v = d.v1
  · rw [if_pos e, if_neg (by simp [e])]
  · rw [if_neg e, if_pos (by simp [show ¬ d.v1 = v from fun x => e x.symm])]
theorem val_v1 (h : codeD g r d = 0) : valB d.v1 = true := by
  obtain ⟨-, hn⟩ := ob_0 (ob_all h 0 (by omega))
  simp only [ntB, valsB, Bool.and_eq_true] at hn
  exact hn.1.1.1.2.1.1
theorem val_bd {v : Int} (h : valB v = true) : 0 ≤ v ∧ v ≤ 9999 := inB_true.1 h
theorem read_again (h : readD g r d = (rr, 0)) : readD g rr d = (rr, 0) := by
  have hc := read_code h
  have hs := some_of_reg (read_reg h)
  have hcc := code_like h d.v1 (val_v1 hc)
  rw [if_pos rfl] at hcc
  have := read_0 hs hcc
  unfold readD
  rw [this]
  have e : withO rr.os (d.k2, d.t1, d.t2, d.v1) = rr.os := with_again (read_get h)
  rw [e]
theorem other_code (h : readD g r d = (rr, 0)) : codeD g rr ⟨d.k1, d.k2, d.k3, d.k4, d.k5, d.t1, d.t2, (d.v1 + 1) % 10000, d.o1, d.o2, d.v2, d.l1, d.l2, d.v3, d.cs, d.ms⟩ = 4 := by
  have hv := val_bd (val_v1 (read_code h))
  rw [code_like h _ (inB_true.2 (by omega)), if_neg (by omega)]
theorem read_same (h : readD g r d = (rr, 0)) : sameD rr d = true := by
  unfold sameD
  rw [same_some (read_get h)]
  simp [opnD]
theorem read_cmp (h : readD g r d = (rr, 0)) : cmpN rr.t rr.q r.t r.q = 0 := by
  have h1 := ob_1 (ob_all (read_code h) 1 (by omega))
  rw [read_zero h]
  unfold regB at h1
  rw [Bool.and_eq_true, ← lefB_spec] at h1
  have := h1.1
  unfold spcB at this
  simp only [Bool.and_eq_true] at this
  exact cmp_one this.1.1.1
end

end Go.Proofs.YtjdepjpjjgkmbaaGreat
