/- What note of a cursor of impl/l06_wire.go answers: its contract. -/
import Derived.Test.YtgjbebfcbpfngaaDoorWire8
import Derived.Test.YtgjbebfcbpfngaaDoorWire3
import Derived.Test.YtgjbebfcbpfngaaDoorNoteShape
import Derived.Test.YtgjbebfcbpfngaaDoorWireSpec
namespace Go.Proofs.YtgjbebfcbpfngaaDoor
open Go.RowKit Go.Deep

theorem results_cell_tmp {P : Program} {fn : Func} {x y : Tmp} {ty : TypeId} (h : fn.results = #[.cell x ty, .tmp y]) (tmps : Array Value) (w : World) (g : Nat) (t : TypeId) (cs : Array Value) (v : Value) (d : TypeDesc)
    (hx : tmps.getD x undef = .pointer (some ⟨g, 0, none⟩)) (hy : tmps.getD y undef = v) (hg : Box w g t cs)
    (hu : P.underlying ty = some d) (hd : (match d with | .struct _ | .array _ _ => true | _ => false) = true) (hi : (P.info? ty).map (·.size) = some cs.size) :
    (results fn tmps).run P w = .ok (.tuple #[.agg cs, v]) w := by
  have ex : tmps[x]?.getD undef = .pointer (some ⟨g, 0, none⟩) := by simpa using hx
  have ey : tmps[y]?.getD undef = v := by simpa using hy
  simp [results, h, ex, ey, asAddr, run_loadVar_row w g t ty cs (0, 0) d hg hu hd hi]
theorem zn_one : ZN.all (·.oneCell') = true := (show Shape ZN (.slice none 0 0) (.slice none 0 0) from ⟨_, _, _, _, _, _, _, _, _, _, _, _, _, _, rfl⟩).one rfl rfl
theorem bel_setRow {B : Nat} {w w' : World} {g : Nat} (h : Below B w w') (hg : B ≤ g) (cs : Array Value) : Below B w (w'.setRow g cs) :=
  ⟨h.os, h.tape, h.output, by rw [size_setRow]; exact h.size, fun k hk => (heap_setRow w' g cs k (by omega)).trans (h.block k hk)⟩
theorem zn_info : (Tryd.prog.info? 31).map (·.size) = some ZN.size := by kernel_rfl

/-- The places of a note's numbers. -/
def offs14 : List Nat := [0, 1, 2, 3, 4, 5, 6, 7, 8, 9, 10, 13, 14, 15]
/-- A note's cells: fourteen numbers, and two lists. -/
def noteA (xs : List Int) (u v : Value) : Array Value := #[.int .i64 (nth xs 0), .int .i64 (nth xs 1), .int .i64 (nth xs 2), .int .i64 (nth xs 3), .int .i64 (nth xs 4), .int .i64 (nth xs 5), .int .i64 (nth xs 6), .int .i64 (nth xs 7), .int .i64 (nth xs 8), .int .i64 (nth xs 9), .int .i64 (nth xs 10), u, v, .int .i64 (nth xs 11), .int .i64 (nth xs 12), .int .i64 (nth xs 13)]
theorem list14 {xs : List Int} (h : xs.length = 14) : xs = numN (nth xs 0) (nth xs 1) (nth xs 2) (nth xs 3) (nth xs 4) (nth xs 5) (nth xs 6) (nth xs 7) (nth xs 8) (nth xs 9) (nth xs 10) (nth xs 11) (nth xs 12) (nth xs 13) := by
  match xs, h with
  | [a0, a1, a2, a3, a4, a5, a6, a7, a8, a9, a10, a11, a12, a13], _ => rfl
theorem put14l (a0 a1 a2 a3 a4 a5 a6 a7 a8 a9 a10 a11 a12 a13 : Int) (u v : Value) : ((putAll ZN offs14 [a0, a1, a2, a3, a4, a5, a6, a7, a8, a9, a10, a11, a12, a13]).setIfInBounds 11 u).setIfInBounds 12 v = noteA [a0, a1, a2, a3, a4, a5, a6, a7, a8, a9, a10, a11, a12, a13] u v := by kernel_rfl
theorem put14 {xs : List Int} (h : xs.length = 14) (u v : Value) : ((putAll ZN offs14 xs).setIfInBounds 11 u).setIfInBounds 12 v = noteA xs u v := by
  match xs, h with
  | [a0, a1, a2, a3, a4, a5, a6, a7, a8, a9, a10, a11, a12, a13], _ => exact put14l a0 a1 a2 a3 a4 a5 a6 a7 a8 a9 a10 a11 a12 a13 u v
theorem noteA_shape (xs : List Int) (u v : Value) : Shape (noteA xs u v) u v := ⟨_, _, _, _, _, _, _, _, _, _, _, _, _, _, rfl⟩
theorem ptrs_off (g i : Nat) (h : i < 14) : (ptrs g)[i]? = some (.pointer (some ⟨g, offs14.getD i 0, none⟩)) := by
  obtain rfl | rfl | rfl | rfl | rfl | rfl | rfl | rfl | rfl | rfl | rfl | rfl | rfl | rfl : i = 0 ∨ i = 1 ∨ i = 2 ∨ i = 3 ∨ i = 4 ∨ i = 5 ∨ i = 6 ∨ i = 7 ∨ i = 8 ∨ i = 9 ∨ i = 10 ∨ i = 11 ∨ i = 12 ∨ i = 13 := by omega
  all_goals rfl
theorem zn_off (i : Nat) (h : i < 14) : ∃ v, ZN[offs14.getD i 0]? = some v := by
  obtain rfl | rfl | rfl | rfl | rfl | rfl | rfl | rfl | rfl | rfl | rfl | rfl | rfl | rfl : i = 0 ∨ i = 1 ∨ i = 2 ∨ i = 3 ∨ i = 4 ∨ i = 5 ∨ i = 6 ∨ i = 7 ∨ i = 8 ∨ i = 9 ∨ i = 10 ∨ i = 11 ∨ i = 12 ∨ i = 13 := by omega
  all_goals exact ⟨_, rfl⟩

/-- A list of seals that was read: in a block of its own from B on, or nil behind a fault. -/
def LstR (w : World) (B : Nat) (u : Value) (ps : List (Int × Int)) (bad : Prop) : Prop :=
  (u = .slice none 0 0 ∧ ps = [] ∧ bad) ∨ ∃ g n, u = .slice (some ⟨g, 0, none⟩) n n ∧ ps.length = n ∧ B ≤ g ∧ Held w g ps
theorem LstR.kept {w w' : World} {B r : Nat} {u : Value} {ps : List (Int × Int)} {bad : Prop} (h : LstR w B u ps bad) (hg : w.grownBy w' (some r)) (hr : r < B) : LstR w' B u ps bad := by
  rcases h with h | ⟨g, n, h1, h2, h3, h4⟩
  · exact .inl h
  · have e := hg.block g h4.lt (by intro e; injection e with e; omega)
    exact .inr ⟨g, n, h1, h2, h3, Nat.lt_of_lt_of_le h4.lt hg.size, fun o => (World.frozen?_of_block (w := w) (w' := w') (a := ⟨g, o, none⟩) e).trans (h4.fr o), fun i hi => (World.cell?_of_block (w := w) (w' := w') (a := ⟨g, i * 2, none⟩) e).trans (h4.at0 i hi), fun i hi => (World.cell?_of_block (w := w) (w' := w') (a := ⟨g, i * 2 + 1, none⟩) e).trans (h4.at1 i hi)⟩
theorem LstR.later {w w' : World} {B : Nat} {u : Value} {ps : List (Int × Int)} {bad : Prop} (h : LstR w B u ps bad) (hb : Below w.heap.size w w') : LstR w' B u ps bad := by
  rcases h with h | ⟨g, n, h1, h2, h3, h4⟩
  · exact .inl h
  · exact .inr ⟨g, n, h1, h2, h3, h4.later hb⟩
theorem LstR.base {w : World} {B B' : Nat} {u : Value} {ps : List (Int × Int)} {bad : Prop} (h : LstR w B u ps bad) (hB : B' ≤ B) : LstR w B' u ps bad := by
  rcases h with h | ⟨g, n, h1, h2, h3, h4⟩
  · exact .inl h
  · exact .inr ⟨g, n, h1, h2, by omega, h4⟩
theorem LstR.as {w : World} {B : Nat} {u : Value} {ps : List (Int × Int)} {bad bad' : Prop} (h : LstR w B u ps bad) (hb : bad → bad') : LstR w B u ps bad' := by
  rcases h with ⟨h1, h2, h3⟩ | h
  · exact .inl ⟨h1, h2, hb h3⟩
  · exact .inr h
theorem LstR.one {w : World} {B : Nat} {u : Value} {ps : List (Int × Int)} {bad : Prop} (h : LstR w B u ps bad) : u.oneCell' = true := by
  rcases h with ⟨rfl, _⟩ | ⟨g, n, rfl, _⟩ <;> rfl
theorem LstR.form {w : World} {B : Nat} {u : Value} {ps : List (Int × Int)} {bad : Prop} (h : LstR w B u ps bad) : ∃ U n, u = .slice U n n := by
  rcases h with ⟨rfl, _⟩ | ⟨g, n, rfl, _⟩
  · exact ⟨none, 0, rfl⟩
  · exact ⟨_, n, rfl⟩
theorem LstR.below {w : World} {B : Nat} {u : Value} {ps : List (Int × Int)} {bad : Prop} (h : LstR w B u ps bad) : ∀ g n, u = .slice (some ⟨g, 0, none⟩) n n → B ≤ g ∧ g < w.heap.size := by
  intro g n e
  rcases h with ⟨rfl, _⟩ | ⟨g', n', rfl, _, h3, h4⟩
  · cases e
  · cases e; exact ⟨h3, h4.lt⟩
theorem LstR.pairs {w : World} {B : Nat} {U : Option Addr} {n : Nat} {ps : List (Int × Int)} {bad : Prop} (h : LstR w B (.slice U n n) ps bad) : Pairs w w.heap.size U n ps := by
  rcases h with ⟨h1, h2, _⟩ | ⟨g, m, h1, h2, _, h4⟩
  · cases h1; subst h2; exact ⟨rfl, fun h => absurd h (by omega)⟩
  · cases h1; exact h2 ▸ h4.pairs

/-- What note leaves. -/
def GotNote (w : World) (C c : Nat) (aE aM aS aL : Addr) (bs : List Int) (e : Ending) (w' : World) : Prop :=
  ∃ (k : Int) (U V : Option Addr) (un vn : Nat) (ps qs : List (Int × Int)), e = .returned (.agg (noteA (rdNote bs).1 (.slice U un un) (.slice V vn vn))) ∧ Hid (ps = (rdNote bs).2.1) ∧ Hid (qs = (rdNote bs).2.2.1) ∧ 0 ≤ k ∧ k ≤ 100 ∧ Cu w' C c aE aM aS aL k (rdNote bs).2.2.2 ∧ LstR w' w.heap.size (.slice U un un) ps ((rdNote bs).2.2.2 = none) ∧ LstR w' w.heap.size (.slice V vn vn) qs ((rdNote bs).2.2.2 = none) ∧
    (∀ g g', U = some ⟨g, 0, none⟩ → V = some ⟨g', 0, none⟩ → g ≠ g') ∧ w.grownBy w' (some c)

set_option maxRecDepth 100000 in
set_option maxHeartbeats 4000000 in
theorem note_is (aE aM aS aL : Addr) (B C c : Nat) (bs : List Int) (w : World) (hE : Errs w B aE aM aS aL) (hBw : B ≤ w.heap.size) (hBc : B ≤ c) (hCc : C ≤ c) (h : Cu w C c aE aM aS aL 0 (some bs)) (hB : Bys bs) :
    Calls Tryd.prog 44 #[.pointer (some ⟨c, 0, none⟩)] w (GotNote w C c aE aM aS aL bs) := by
  have hcl := h.lt
  have E0 := bel_trans (bel_alloc w (.cells ZN 31)) (bel_alloc _ (.cells ZN 31))
  have Z0 := (Box.new w 31 ZN).alloc (.cells ZN 31)
  have N0 := Box.new (w.alloc (.cells ZN 31)) 31 ZN
  simp only [World.size_alloc] at N0
  have C0 := Lib.hid (h.later E0 hCc)
  have R0 := Lib.hid (hE.later E0 hBw)
  have hs0 : Hid (((w.alloc (.cells ZN 31)).alloc (.cells ZN 31)).heap.size = w.heap.size + 1 + 1) := Lib.hid (by simp)
  have HB := Lib.hid hB
  have HH : Hid ((asks 14 (some bs)).1.length = 14) := Lib.hid (asks_len _ _)
  have b1 := Lib.hid (asks_bys 14 (s := some bs) hB)
  clear h hE hB
  go_enter Tryd.func44, Tryd.ntmps44
  go_upto_region 2 with fail
  rw [show (#[.int .i64 0, .int .i64 0, .int .i64 0, .int .i64 0, .int .i64 0, .int .i64 0, .int .i64 0, .int .i64 0, .int .i64 0, .int .i64 0, .int .i64 0, .slice none 0 0, .slice none 0 0, .int .i64 0, .int .i64 0, .int .i64 0] : Array Value) = ZN from rfl]
  generalize ((w.alloc _).alloc _ : World) = w0 at E0 Z0 N0 C0 R0 hs0 ⊢
  go_wp2_with fail
  refine (numbers_is (w.heap.size + 1) w0).mono ?_
  rintro e w1 ⟨rfl, hR, hb⟩
  have C1 := Lib.hid (C0.out.later hb hCc)
  have R1 := Lib.hid (R0.out.later hb (by have := E0.size; omega))
  have Z1 := Z0.later hb Z0.lt
  have N1 := N0.later hb N0.lt
  have E1 := bel_trans E0 hb
  have hs1 := hb.size
  have hs0' : w.heap.size + 1 + 1 ≤ w0.heap.size := by rw [hs0.out]; exact Nat.le_refl _
  replace hR := Lib.hid hR
  clear C0 R0 Z0 N0 E0 hb hs0
  have hF := fill_is aE aM aS aL B C c w0.heap.size (w.heap.size + 1) 14 14 31 57 ZN (ptrs (w.heap.size + 1)) offs14 0 (some bs) w1 (by omega) (by omega) R1.out (by have := E1.size; omega) hBc (by omega) hCc (by omega) (by omega) (by omega) (by omega) C1.out N1 hR.out rfl (by omega) (fun i hi => ptrs_off _ i hi) (fun i hi => zn_off i hi)
  replace hF := Lib.hid hF
  go_wp2_with fail
  refine hF.out.mono ?_
  rintro e w2 ⟨rfl, C2, N2, G2⟩
  have hw1 := E1.size
  have R2 := Lib.hid (G2.errs R1.out (by omega) hBc (by omega))
  have Z2 := G2.box Z1 (by omega) (by omega)
  have hG2 : w.grownBy w2 (some c) := ⟨G2.os.trans E1.os, G2.tape.trans E1.tape, G2.output.trans E1.output, Nat.le_trans E1.size G2.size, fun j hj hne => (G2.block j (by omega) (fun e => hne (by rw [e])) (by omega)).trans (E1.block j hj)⟩
  have hs2 := G2.size
  replace C2 := Lib.hid C2
  clear C1 R1 Z1 N1 E1 G2 hR
  generalize ha : asks offs14.length (some bs) = a14 at C2 N2
  have ha' : Hid (asks 14 (some bs) = a14) := Lib.hid ha
  clear ha
  go_wp2_with fail
  refine (seals_is aE aM aS aL B C c 14 a14.2 w2 (by omega) (by omega) R2.out (by omega) hBc hCc (by simpa [offs14] using C2.out) (by rw [← ha'.out]; exact b1.out)).mono ?_
  rintro e w3 ⟨k3, u, ps, rfl, hps, hk30, hk31, C3, hg3, L3⟩
  have R3 := Lib.hid (R2.out.kept hg3 (by omega) hBc)
  have Z3 := Z2.kept hg3 (by intro e; injection e with e; omega)
  have N3 := N2.kept hg3 (by intro e; injection e with e; omega)
  have hs3 := hg3.size
  have L3' : LstR w3 w2.heap.size u ps ((askSeals a14.2).2 = none) := L3
  have hu := L3'.one
  have G3 := grown_trans hG2 hg3
  have fr := N3.frozen
  have hsz : (putAll ZN offs14 a14.1).size = 16 := by rw [putAll_size]; rfl
  have c11 := (N3.cell 11).trans (Array.getElem?_eq_getElem (by rw [hsz]; omega))
  generalize (putAll ZN offs14 a14.1)[11] = old11 at c11
  have N4 := N3.set 11 u
  have Z4 := Z3.far (p := ⟨w.heap.size + 1, 11, none⟩) (by simp) u
  have C4 := Lib.hid (C3.set (p := ⟨w.heap.size + 1, 11, none⟩) (by show w.heap.size + 1 ≠ c; omega) (by show C ≤ w.heap.size + 1; omega) u)
  have GG := grown_set (grown_refl w3 (some (w.heap.size + 1))) 11 u
  have R4 := Lib.hid (R3.out.kept GG (by omega) (by omega))
  have L4 := Lib.hid (L3'.kept GG (by omega))
  have G4 := grown_far G3 GG (fun q hq => by injection hq with hq; omega)
  have b2 : Hid (SBys (askSeals a14.2).2) := Lib.hid (askSeals_bys (by rw [← ha'.out]; exact b1.out))
  clear R2 R3 Z2 Z3 N2 N3 C2 C3 hg3 hG2 G3 GG L3 L3'
  obtain ⟨U, un, rfl⟩ := L4.out.form
  have hN4 := Lib.hid N4
  have hs4 : (w3.setCell ⟨w.heap.size + 1, 11, none⟩ (.slice U un un)).heap.size = w3.heap.size := size_set _ _ _
  replace hs4 := Lib.hid hs4
  clear hu hsz
  go_wp2_with fail
  generalize (w3.setCell _ _ : World) = w4 at N4 Z4 C4 R4 L4 G4 hN4 hs4 ⊢
  clear fr c11
  have hw4 : w3.heap.size ≤ w4.heap.size := by rw [hs4.out]; exact Nat.le_refl _
  refine (seals_is aE aM aS aL B C c k3 (askSeals a14.2).2 w4 (by omega) (by omega) R4.out (by omega) hBc hCc C4.out b2.out).mono ?_
  rintro e w5 ⟨k5, v, qs, rfl, hqs, hk50, hk51, C5, hg5, L5⟩
  have L5' : LstR w5 w4.heap.size v qs ((askSeals (askSeals a14.2).2).2 = none) := L5
  obtain ⟨V, vn, rfl⟩ := L5'.form
  have hap : Hid (∀ g g', U = some ⟨g, 0, none⟩ → V = some ⟨g', 0, none⟩ → g ≠ g') := Lib.hid (by
    rintro g g' rfl rfl
    have h1 := (L4.out.below g un rfl).2
    have h2 := (L5'.below g' vn rfl).1
    omega)
  have R5 := Lib.hid (R4.out.kept hg5 (by omega) hBc)
  have Z5 := Z4.kept hg5 (by intro e; injection e with e; omega)
  have N5 := N4.kept hg5 (by intro e; injection e with e; omega)
  have hs5 := hg5.size
  have G5 := grown_trans G4 hg5
  have Lu5 := L4.out.kept hg5 (by omega)
  have fr := N5.frozen
  have hsz : ((putAll ZN offs14 a14.1).setIfInBounds 11 (.slice U un un)).size = 16 := by rw [Array.size_setIfInBounds, putAll_size]; rfl
  have c12 := (N5.cell 12).trans (Array.getElem?_eq_getElem (by rw [hsz]; omega))
  generalize ((putAll ZN offs14 a14.1).setIfInBounds 11 (.slice U un un))[12] = old12 at c12
  have hxs : a14.1.length = 14 := by rw [← ha'.out]; exact asks_len _ _
  have N6 : Box _ (w.heap.size + 1) 31 (noteA a14.1 (.slice U un un) (.slice V vn vn)) := (put14 hxs _ _) ▸ (N5.set 12 (.slice V vn vn))
  have Z6 := Z5.far (p := ⟨w.heap.size + 1, 12, none⟩) (by simp) (.slice V vn vn)
  have C6 := Lib.hid (C5.set (p := ⟨w.heap.size + 1, 12, none⟩) (by show w.heap.size + 1 ≠ c; omega) (by show C ≤ w.heap.size + 1; omega) (.slice V vn vn))
  have GG := grown_set (grown_refl w5 (some (w.heap.size + 1))) 12 (.slice V vn vn)
  have Lu6 := Lu5.kept GG (by omega)
  have Lv6 := L5'.kept GG (by omega)
  have G6 := grown_far G5 GG (fun q hq => by injection hq with hq; omega)
  have HI := Lib.hid (noteA_shape a14.1 (.slice U un un) (.slice V vn vn)).info
  have HS := Lib.hid (show ZN.size = (noteA a14.1 (.slice U un un) (.slice V vn vn)).size from rfl)
  have H1 := Lib.hid ((noteA_shape a14.1 (.slice U un un) (.slice V vn vn)).one rfl rfl)
  have GR := grown_setRow (grown_refl (w5.setCell ⟨w.heap.size + 1, 12, none⟩ (.slice V vn vn)) (some w.heap.size)) (noteA a14.1 (.slice U un un) (.slice V vn vn))
  have hK := Lib.hid (Z6.setRow (noteA a14.1 (.slice U un un) (.slice V vn vn)))
  have hC7 : Hid (Cu ((w5.setCell ⟨w.heap.size + 1, 12, none⟩ (.slice V vn vn)).setRow w.heap.size (noteA a14.1 (.slice U un un) (.slice V vn vn))) C c aE aM aS aL k5 (askSeals (askSeals a14.2).2).2) := Lib.hid (C6.out.keep (heap_setRow _ _ _ _ (by omega)) (fun b hb => heap_setRow _ _ _ _ (by omega)))
  have hLu := Lib.hid ((Lu6.kept GR (by omega)).base (B' := w.heap.size) (by omega))
  have hLv := Lib.hid ((Lv6.kept GR (by omega)).base (B' := w.heap.size) (by omega))
  have hG7 := Lib.hid (grown_far G6 GR (fun q hq => by injection hq with hq; omega))
  replace N6 := Lib.hid N6
  replace Z6 := Lib.hid Z6
  clear R4 R5 Z4 Z5 N4 N5 C4 C5 C6 hg5 G4 G5 G6 GG GR L4 L5 L5' Lu5 Lu6 Lv6 hN4 hsz hxs
  go_wp2_with (first | (refine wpList_load_box 31 _ rfl (w.heap.size + 1) rfl 31 _ N6.out _ Tryd.underlying31 rfl HI.out (by simp [Region.wanted, yielded]) ?_) | (refine wpList_store_row rfl 31 _ _ rfl w.heap.size _ rfl rfl 31 ZN Z6.out HI.out HS.out H1.out ?_))
  have hrd : rdNote bs = (a14.1, (askSeals a14.2).1, (askSeals (askSeals a14.2).2).1, (askSeals (askSeals a14.2).2).2) := by unfold rdNote; rw [ha'.out]
  refine bodyPost_ret (results_cell_row Tryd.results44 _ _ w.heap.size 31 _ (0, 0) _ rfl hK.out Tryd.underlying31 rfl HI.out) rfl ⟨k5, U, V, un, vn, ps, qs, ?_, ?_, ?_, by omega, by omega, ?_, ?_, ?_, hap.out, hG7.out⟩
  · rw [hrd]
  · rw [hrd]; exact hps
  · rw [hrd]; exact hqs
  · rw [hrd]; exact hC7.out
  · rw [hrd]; exact hLu.out.as (fun e => by show (askSeals (askSeals a14.2).2).2 = none; rw [e, askSeals_none])
  · rw [hrd]; exact hLv.out

end Go.Proofs.YtgjbebfcbpfngaaDoor
