/- The exact law of ReadNote answers true, whatever it is given: its walk. -/
import Derived.Test.YtgjbebfcbpfngaaDoorCopiesRead
namespace Go.Proofs.YtgjbebfcbpfngaaDoor
open Go.RowKit

/-- Keys of one's own, that can be written. -/
structure RKeys (w : World) (y n : Nat) (zs : List Int) : Prop where
  lt : y < w.heap.size
  fr : ∀ o, w.frozen? ⟨y, o, none⟩ = false
  row : Row w w.heap.size (some ⟨y, 0, none⟩) n zs
theorem RKeys.later {w w' : World} {y n : Nat} {zs : List Int} (h : RKeys w y n zs) (hb : Below w.heap.size w w') : RKeys w' y n zs :=
  ⟨Nat.lt_of_lt_of_le h.lt hb.size, fun o => (hb.frozen (p := ⟨y, o, none⟩) h.lt).trans (h.fr o), (h.row.below hb (Nat.le_refl _)).more hb.size⟩
theorem sreads_at {w w' : World} {s l c sh : Int} {zs bs X : List Int} {ps qs : List (Int × Int)} {bo : Bool} {un vn : Nat} {e : Ending} (hX : X = XR s l c sh zs bs) (hp : ps = PR s l c sh zs bs) (hq : qs = QR s l c sh zs bs) (hb : bo = okR s l c sh zs bs) (hu : ps.length = un) (hv : qs.length = vn) (h : SReads w s l c sh zs bs e w') :
    ∃ (U V : Option Addr) (uc vc : Nat), e = .returned (.tuple #[.agg (noteA X (.slice U un uc) (.slice V vn vc)), .bool bo]) ∧ Pairs w' w'.heap.size U un ps ∧ Pairs w' w'.heap.size V vn qs ∧ Below w.heap.size w w' := by
  subst hu hv hX hp hq hb
  exact sreads_out h
theorem reads_at {w w' : World} {s l c sh : Int} {zs bs X : List Int} {ps qs : List (Int × Int)} {bo : Bool} {un vn : Nat} {e : Ending} (hX : X = XR s l c sh zs bs) (hp : ps = PR s l c sh zs bs) (hq : qs = QR s l c sh zs bs) (hb : bo = okR s l c sh zs bs) (hu : ps.length = un) (hv : qs.length = vn) (h : Reads w s l c sh zs bs e w') :
    ∃ (U V : Option Addr), e = .returned (.tuple #[.agg (noteA X (.slice U un un) (.slice V vn vn)), .bool bo]) ∧ LstD w' w.heap.size U un ps ∧ LstD w' w.heap.size V vn qs ∧ (∀ g g', U = some ⟨g, 0, none⟩ → V = some ⟨g', 0, none⟩ → g ≠ g') ∧ Below w.heap.size w w' := by
  obtain ⟨U, V, un', vn', he, h1, h2, hap, hw⟩ := reads_out h
  rw [← hp] at h1
  rw [← hq] at h2
  have e1 := h1.len.symm.trans hu
  have e2 := h2.len.symm.trans hv
  subst e1 e2
  rw [← hX, ← hb] at he
  exact ⟨U, V, he, h1, h2, hap, hw⟩
theorem LstD.lt {w : World} {B : Nat} {U : Option Addr} {n : Nat} {D : List (Int × Int)} (h : LstD w B U n D) : ∀ r, U.map (·.block) = some r → B ≤ r ∧ r < w.heap.size := by
  rcases h with ⟨rfl, _⟩ | ⟨g, rfl, _, h3, h4⟩
  · intro r hr; cases hr
  · intro r hr; cases hr; exact ⟨h3, h4.lt⟩

/-- What the exact law of ReadNote keeps of the program's answer. -/
structure Q8 (w3 wr : World) (S : Nat) (N : Array Value) (C : Nat) (U V : Option Addr) (un vn : Nat) (ps qs : List (Int × Int)) : Prop where
  F : Below w3.heap.size w3 wr
  S : Box wr S 31 N
  L1 : LstD wr C U un ps
  L2 : LstD wr C V vn qs
theorem Q8.later {w3 wr w' : World} {S : Nat} {N : Array Value} {C : Nat} {U V : Option Addr} {un vn : Nat} {ps qs : List (Int × Int)} (h : Q8 w3 wr S N C U V un vn ps qs) (hb : Below wr.heap.size wr w') : Q8 w3 w' S N C U V un vn ps qs :=
  ⟨bel_trans h.F hb, h.S.later hb h.S.lt, h.L1.later hb, h.L2.later hb⟩
theorem Q8.kept {w3 wr w' : World} {S : Nat} {N : Array Value} {C r : Nat} {U V : Option Addr} {un vn : Nat} {ps qs : List (Int × Int)} (h : Q8 w3 wr S N C U V un vn ps qs) (hg : wr.grownBy w' (some r)) (h3 : w3.heap.size ≤ r) (hC : r < C) (hS : C ≤ S) : Q8 w3 w' S N C U V un vn ps qs :=
  ⟨bel_grown h.F hg h3, h.S.kept hg (by intro e; injection e with e; omega),
    h.L1.kept hg (by intro g hU e; injection e with e; have := h.L1.lt g (by rw [hU]; rfl); omega),
    h.L2.kept hg (by intro g hU e; injection e with e; have := h.L2.lt g (by rw [hU]; rfl); omega)⟩
theorem Q8.marked {w3 wr w' w1 : World} {S : Nat} {N : Array Value} {C : Nat} {U V : Option Addr} {un vn : Nat} {ps qs D1 D2 : List (Int × Int)} (h : Q8 w3 wr S N C U V un vn ps qs) (h1 : wr.grownBy w1 (U.map (·.block))) (h2 : w1.grownBy w' (V.map (·.block))) (l1 : LstD w' C U un D1) (l2 : LstD w' C V vn D2) (h3 : w3.heap.size ≤ C) (hU : ∀ r, U.map (·.block) = some r → r < S) (hV : ∀ r, V.map (·.block) = some r → r < S) : Q8 w3 w' S N C U V un vn D1 D2 :=
  ⟨(h.F.grown h1 h.F.size (fun r hr => by have := l1.lt r hr; omega)).grown h2 (Nat.le_trans h.F.size h1.size) (fun r hr => by have := l2.lt r hr; omega),
    (h.S.kept h1 (fun e => by have := hU _ e; omega)).kept h2 (fun e => by have := hV _ e; omega), l1, l2⟩

set_option maxRecDepth 100000 in
set_option maxHeartbeats 16000000 in
theorem exactRead_small (aE aM aS aL : Addr) (s l c sh : Int) (A : Option Addr) (n cap : Nat) (zs : List Int) (P : Option Addr) (m pc : Nat) (bs : List Int) (w : World) (hE : Errs w w.heap.size aE aM aS aL) (hm0 : n ≤ 1048576) (hm1 : m ≤ 1048576) (hr : Row w w.heap.size A n zs) (hb : BRow w w.heap.size P m bs) (hB : Bys bs) :
    Calls Tryd.prog 5 #[.agg #[.int .i64 s, .int .i64 l, .int .i64 c, .int .i64 sh, .slice A n cap], .slice P m pc] w fun e w' => e = .returned (.bool true) ∧ Below w.heap.size w w' := by
  have hmm : ¬ ((1048576 : Int) < (m : Int)) := by omega
  have HX : Hid (n ≤ maxLen ∧ m ≤ maxLen) := by show n ≤ maxLen ∧ m ≤ maxLen; unfold maxLen; omega
  have hlb := Lib.hid hb.1
  have HR := Lib.hid hr
  have HY := Lib.hid hb
  have HB := Lib.hid hB
  have HE := Lib.hid hE
  obtain ⟨X, hX⟩ : ∃ X, X = XR s l c sh zs bs := ⟨_, rfl⟩
  obtain ⟨ps, hps⟩ : ∃ X, X = PR s l c sh zs bs := ⟨_, rfl⟩
  obtain ⟨qs, hqs⟩ : ∃ X, X = QR s l c sh zs bs := ⟨_, rfl⟩
  obtain ⟨bo, hbo⟩ : ∃ X, X = okR s l c sh zs bs := ⟨_, rfl⟩
  obtain ⟨un, hun⟩ : ∃ k, ps.length = k := ⟨_, rfl⟩
  obtain ⟨vn, hvn⟩ : ∃ k, qs.length = k := ⟨_, rfl⟩
  have hu : un ≤ 20 := by rw [← hun, hps]; exact (PR_len hB).1
  have hv : vn ≤ 20 := by rw [← hvn, hqs]; exact (PR_len hB).2
  replace hX := Lib.hid hX
  replace hps := Lib.hid hps
  replace hqs := Lib.hid hqs
  replace hbo := Lib.hid hbo
  replace hun := Lib.hid hun
  replace hvn := Lib.hid hvn
  clear hr hb hB hE
  have D0 := Box.new w 42 #[.int .i64 s, .int .i64 l, .int .i64 c, .int .i64 sh, .slice A n cap]
  have E0 := bel_alloc w (.cells #[.int .i64 s, .int .i64 l, .int .i64 c, .int .i64 sh, .slice A n cap] 42)
  go_enter Tryd.func5, Tryd.ntmps5
  go_wp2_with fail
  generalize (w.alloc _ : World) = w0 at D0 E0 ⊢
  refine (szGroup_le s l c sh A n cap w0 hm0).mono ?_
  rintro e w2 ⟨rfl, hb⟩
  have D2 := D0.later hb D0.lt
  have E2 := bel_trans E0 hb
  clear D0 E0 hb
  have hnn : ¬ ((1048576 : Int) - n < 0) := by omega
  go_upto_region 7 with fail
  -- the model, on copies
  go_cut [6, 7] (fun v u wr => ∃ M U V uc vc, v = .pointer (some ⟨M, 0, none⟩) ∧ u = .bool bo ∧ w.heap.size < M ∧ Box wr M 31 (noteA X (.slice U un uc) (.slice V vn vc)) ∧ Pairs wr wr.heap.size U un ps ∧ Pairs wr wr.heap.size V vn qs ∧ Box wr w.heap.size 42 #[.int .i64 s, .int .i64 l, .int .i64 c, .int .i64 sh, .slice A n cap] ∧ Below w.heap.size w wr)
  case first => as_aux_lemma =>
    obtain ⟨g0, g1, g2, g3, g4⟩ := D2.five
    go_wp2_with fail
    refine (toGroup_any s l c sh A n cap zs w2 hm0 ((HR.out.below E2 (Nat.le_refl _)).more E2.size)).mono ?_
    rintro e w3 ⟨y3, -, rfl, hrow3, hb3⟩
    have D3 := D2.later hb3 D2.lt
    have E3 := bel_trans E2 hb3
    clear D2 E2 hb3 g0 g1 g2 g3 g4
    go_wp2_with fail
    refine (toBytes_any P m pc bs w3 hm1 (HY.out.later E3)).mono ?_
    rintro e w4 ⟨y4, -, rfl, hH4, hb4⟩
    have D4 := D3.later hb4 D3.lt
    have E4 := bel_trans E3 hb4
    have hrow4 := (hrow3.below hb4 (Nat.le_refl _)).more hb4.size
    clear D3 E3 hb4 hrow3
    go_wp2_with fail
    refine (specRead_is s l c sh _ n n zs _ m m bs w4 HX.out.1 hrow4 (hH4.row hlb.out) HB.out HX.out.2).mono ?_
    rintro e w5 hS
    obtain ⟨U, V, uc, vc, rfl, hp5, hq5, hb5⟩ := sreads_at hX.out hps.out hqs.out hbo.out hun.out hvn.out hS
    have D5 := D4.later hb5 D4.lt
    have E5 := bel_trans E4 hb5
    clear hS D4 E4 hb5 hrow4 hH4
    obtain ⟨N, hN⟩ : ∃ N, N = noteA X (.slice U un uc) (.slice V vn vc) := ⟨_, rfl⟩
    have sh1 := noteA_shape X (.slice U un uc) (.slice V vn vc)
    rw [← hN] at sh1 ⊢
    have HI := Lib.hid sh1.info
    have HS := Lib.hid (show ZN.size = N.size from sh1.size.symm)
    have H1 := Lib.hid (sh1.one rfl rfl)
    have F := bel_setRow (bel_alloc w5 (.cells ZN 31)) (Nat.le_refl _) N
    have N6 := (Box.new w5 31 ZN).setRow N
    have D6 := D5.later F D5.lt
    have E6 := bel_trans E5 F
    have hp6 := hp5.later F
    have hq6 := hq5.later F
    have hd := D5.lt
    replace hN := Lib.hid hN
    clear D5 E5 hp5 hq5 F sh1
    go_wp2_with (refine wpList_store_row rfl 31 _ _ rfl w5.heap.size N rfl rfl 31 ZN (heap_alloc_new w5 _) HI.out HS.out H1.out ?_)
    go_meet
    exact ⟨w5.heap.size, U, V, uc, vc, rfl, rfl, hd, hN.out ▸ N6, hp6, hq6, D6, E6⟩
  case rest =>
  obtain ⟨M, U0, V0, uc, vc, rfl, rfl, hM, M3, p3, q3, D3, E3⟩ := hcut
  obtain ⟨w3, rfl⟩ : ∃ x, x = wc := ⟨_, rfl⟩
  obtain ⟨N0, hN0⟩ : ∃ N, N = noteA X (.slice U0 un uc) (.slice V0 vn vc) := ⟨_, rfl⟩
  have HI0 : Hid ((Tryd.prog.info? 31).map (·.size) = some N0.size) := Lib.hid (by rw [hN0]; exact (noteA_shape _ _ _).info)
  rw [← hN0] at M3
  replace hN0 := Lib.hid hN0
  clear D2 E2
  have hM3 := M3.lt
  have hs3 := E3.size
  replace p3 := Lib.hid p3
  replace q3 := Lib.hid q3
  -- the copies that are handed in
  go_upto_region 8 with fail
  go_cut [8] (fun v wr => ∃ R y, v = .pointer (some ⟨R, 0, none⟩) ∧ w3.heap.size ≤ y ∧ y < R ∧ Box wr R 26 #[.int .i64 s, .int .i64 l, .int .i64 c, .int .i64 sh, .slice (some ⟨y, 0, none⟩) n n] ∧ RKeys wr y n zs ∧ Below w3.heap.size w3 wr)
  case first => as_aux_lemma =>
    obtain ⟨g0, g1, g2, g3, g4⟩ := D3.five
    go_wp2_with fail
    refine (toGroup_fr s l c sh A n cap zs w3 hm0 ((HR.out.below E3 (Nat.le_refl _)).more E3.size)).mono ?_
    rintro e w4 ⟨y, hy, rfl, hrow, hfr, hyl, hb⟩
    have F := bel_alloc w4 (.cells #[.int .i64 s, .int .i64 l, .int .i64 c, .int .i64 sh, .slice (some ⟨y, 0, none⟩) n n] 26)
    have H4 := RKeys.later ⟨hyl, hfr, hrow⟩ F
    have Y4 := Box.new w4 26 #[.int .i64 s, .int .i64 l, .int .i64 c, .int .i64 sh, .slice (some ⟨y, 0, none⟩) n n]
    have G := bel_trans hb F
    replace hfr := Lib.hid hfr
    clear g0 g1 g2 g3 g4 hb hrow F M3 D3 E3
    go_wp2_with fail
    go_meet
    exact ⟨w4.heap.size, y, rfl, hy, hyl, Y4, H4, G⟩
  case rest =>
  obtain ⟨R, y, rfl, hy3, hyR, Z4, H4, F4⟩ := hcut
  obtain ⟨w4, rfl⟩ : ∃ x, x = wc := ⟨_, rfl⟩
  have hR4 := Z4.lt
  go_upto_region 9 with fail
  go_cut [9] (fun v wr => ∃ g, v = .slice (some ⟨g, 0, none⟩) m m ∧ R < g ∧ BHeld wr g bs ∧ Below w4.heap.size w4 wr)
  case first => as_aux_lemma =>
    go_wp2_with fail
    refine (toBytes_any P m pc bs w4 hm1 (HY.out.later (bel_trans E3 F4))).mono ?_
    rintro e w5 ⟨g, hg, rfl, hH, hb⟩
    clear M3 D3 E3 Z4 H4 F4
    go_wp2_with fail
    go_meet
    exact ⟨g, rfl, by omega, hH, hb⟩
  case rest =>
  obtain ⟨g, rfl, hRg, J5, hb⟩ := hcut
  obtain ⟨w5, rfl⟩ : ∃ x, x = wc := ⟨_, rfl⟩
  have Z5 := Z4.later hb Z4.lt
  have H5 := H4.later hb
  have F5 := bel_trans F4 hb
  have hg5 := J5.lt
  clear Z4 H4 F4 hb
  -- the program
  go_upto_region 10 with fail
  go_cut [10, 11] (fun v u wr => ∃ S U V, v = .pointer (some ⟨S, 0, none⟩) ∧ u = .bool bo ∧ w5.heap.size ≤ S ∧ (∀ r, U.map (·.block) = some r → r < S) ∧ (∀ r, V.map (·.block) = some r → r < S) ∧ (∀ g g', U = some ⟨g, 0, none⟩ → V = some ⟨g', 0, none⟩ → g ≠ g') ∧ Box wr S 31 (noteA X (.slice U un un) (.slice V vn vn)) ∧ LstD wr w5.heap.size U un ps ∧ LstD wr w5.heap.size V vn qs ∧ Below w5.heap.size w5 wr)
  case first => as_aux_lemma =>
    obtain ⟨z0, z1, z2, z3, z4⟩ := Z5.five
    go_wp2_with fail
    refine (readNote_is aE aM aS aL w.heap.size s l c sh _ n n zs _ m m bs w5 (HE.out.later (bel_trans E3 F5) (Nat.le_refl _)) (bel_trans E3 F5).size HX.out.1 H5.row (J5.row hlb.out) HB.out HX.out.2 (Nat.le_refl _)).mono ?_
    rintro e w6 hS
    obtain ⟨U, V, rfl, l1, l2, hap, hb6⟩ := reads_at hX.out hps.out hqs.out hbo.out hun.out hvn.out hS
    clear hS
    obtain ⟨N, hN⟩ : ∃ N, N = noteA X (.slice U un un) (.slice V vn vn) := ⟨_, rfl⟩
    have sh1 := noteA_shape X (.slice U un un) (.slice V vn vn)
    rw [← hN] at sh1 ⊢
    have HI := Lib.hid sh1.info
    have HS := Lib.hid (show ZN.size = N.size from sh1.size.symm)
    have H1 := Lib.hid (sh1.one rfl rfl)
    have F := bel_setRow (bel_alloc w6 (.cells ZN 31)) (Nat.le_refl _) N
    have N6 := (Box.new w6 31 ZN).setRow N
    have k1 := Lib.hid (fun r h => (l1.lt r h).2)
    have k2 := Lib.hid (fun r h => (l2.lt r h).2)
    have l1' := l1.later F
    have l2' := l2.later F
    have F6 := bel_trans hb6 F
    have hs6 := hb6.size
    replace hN := Lib.hid hN
    replace hap := Lib.hid hap
    clear z0 z1 z2 z3 z4 Z5 H5 J5 F5 M3 D3 E3 l1 l2 F hb6 sh1
    go_wp2_with (refine wpList_store_row rfl 31 _ _ rfl w6.heap.size N rfl rfl 31 ZN (heap_alloc_new w6 _) HI.out HS.out H1.out ?_)
    go_meet
    exact ⟨w6.heap.size, U, V, rfl, rfl, hs6, k1.out, k2.out, hap.out, hN.out ▸ N6, l1', l2', F6⟩
  case rest =>
  obtain ⟨S, U, V, rfl, rfl, hS5, hUS, hVS, hap, S6, l6, r6, hb⟩ := hcut
  obtain ⟨w6, rfl⟩ : ∃ x, x = wc := ⟨_, rfl⟩
  obtain ⟨N, hN⟩ : ∃ N, N = noteA X (.slice U un un) (.slice V vn vn) := ⟨_, rfl⟩
  have HI : Hid ((Tryd.prog.info? 31).map (·.size) = some N.size) := Lib.hid (by rw [hN]; exact (noteA_shape _ _ _).info)
  rw [← hN] at S6
  have hSM : M ≠ S := by have := F5.size; omega
  have K6 : Q8 w3 w6 S N w5.heap.size U V un vn ps qs := ⟨bel_trans F5 hb, S6, l6, r6⟩
  have Z6 := Z5.later hb Z5.lt
  have H6 := H5.later hb
  have J6 := J5.later hb
  have hs5 := F5.size
  replace hN := Lib.hid hN
  replace hUS := Lib.hid hUS
  replace hVS := Lib.hid hVS
  replace hap := Lib.hid hap
  generalize w5.heap.size = C at K6 hS5 hg5 hs5
  clear Z5 H5 J5 F5 hb S6 l6 r6
  have hff : (bo != bo) = false := by simp
  -- it answers as its model
  have M6 := M3.later K6.F hM3
  have S6 := K6.S
  go_wp2_with (first | (refine wpList_load_box 31 _ rfl S rfl 31 N S6 _ Tryd.underlying31 rfl HI.out (by simp [Region.wanted, yielded]) ?_) | (refine wpList_load_box 31 _ rfl M rfl 31 N0 M6 _ Tryd.underlying31 rfl HI0.out (by simp [Region.wanted, yielded]) ?_))
  refine (eqRead_is hN.out hN0.out w6 (by omega) (by omega) K6.L1.pairs K6.L2.pairs (p3.out.later K6.F) (q3.out.later K6.F)).mono ?_
  rintro e w7 ⟨rfl, hb⟩
  replace K6 := K6.later hb
  replace Z6 := Z6.later hb Z6.lt
  replace H6 := H6.later hb
  replace J6 := J6.later hb
  clear hb M6 S6
  go_upto_region 13 with fail
  go_cut [56] (fun v wr => v = .bool false ∧ Below w7.heap.size w7 wr)
  case first => as_aux_lemma =>
    have E6 := bel_trans E3 K6.F
    have R6 := (HR.out.below E6 (Nat.le_refl _)).more E6.size
    have D6 := D3.later K6.F D3.lt
    have r6 := H6.row
    obtain ⟨g0, g1, g2, g3, g4⟩ := D6.five
    obtain ⟨z0, z1, z2, z3, z4⟩ := Z6.five
    have hne : w.heap.size ≠ R := by omega
    clear K6 H6 J6 M3 D3 E3 E6
    go_wp2_with fail
    go_region_held3 (fun w' => w'.cell? ⟨w.heap.size, 0, none⟩ = some (.int .i64 s) ∧ w'.cell? ⟨w.heap.size, 1, none⟩ = some (.int .i64 l) ∧ w'.cell? ⟨w.heap.size, 2, none⟩ = some (.int .i64 c) ∧ w'.cell? ⟨w.heap.size, 3, none⟩ = some (.int .i64 sh) ∧ w'.cell? ⟨w.heap.size, 4, none⟩ = some (.slice A n cap) ∧ w'.cell? ⟨R, 0, none⟩ = some (.int .i64 s) ∧ w'.cell? ⟨R, 1, none⟩ = some (.int .i64 l) ∧ w'.cell? ⟨R, 2, none⟩ = some (.int .i64 c) ∧ w'.cell? ⟨R, 3, none⟩ = some (.int .i64 sh) ∧ w'.cell? ⟨R, 4, none⟩ = some (.slice (some ⟨y, 0, none⟩) n n)) (first | (with_reducible exact K9) | (with_reducible exact K8) | go_keep)
      (first
        | (go_at_call 16; refine (toGroup_any s l c sh A n cap zs _ hm0 ?_).mono ?_; exact R6; rintro e w8 ⟨y8, hy8, rfl, hrow8, hb8⟩; have F8 := bel_drew' hb8; have r8 := (r6.below F8 (Nat.le_refl _)).more F8.size; have K8 := groupGroup (D6.later F8 D6.lt) (Z6.later F8 Z6.lt))
        | (go_at_call 19; refine (eqGroup_same s l c sh _ _ n n n zs _ hm0 r8 hrow8).mono ?_; rintro e w9 ⟨rfl, hb9⟩; have F9 := bel_trans F8 hb9; have K9 := groupGroup (D6.later F9 D6.lt) (Z6.later F9 Z6.lt)))
    all_goals
      have G := F9
      clear K8 K9 F8 F9 hb8 hb9 r8 hrow8 R6 g0 g1 g2 g3 g4 z0 z1 z2 z3 z4 D6 Z6 r6
      go_wp2_with fail
      go_meet
      exact ⟨rfl, G⟩
  case rest =>
  obtain ⟨rfl, hb⟩ := hcut
  obtain ⟨w8, rfl⟩ : ∃ x, x = wc := ⟨_, rfl⟩
  replace K6 := K6.later hb
  replace Z6 := Z6.later hb Z6.lt
  replace H6 := H6.later hb
  replace J6 := J6.later hb
  clear hb
  go_wp2_with fail
  refine (toBytes_any P m pc bs w8 hm1 (HY.out.later (bel_trans E3 K6.F))).mono ?_
  rintro e w9 ⟨g9, -, rfl, H9, hb⟩
  replace K6 := K6.later hb
  replace Z6 := Z6.later hb Z6.lt
  replace H6 := H6.later hb
  replace J6 := J6.later hb
  clear hb
  go_wp2_with fail
  refine (eqBytes_same _ _ m m m bs w9 hm1 (J6.row hlb.out) (H9.row hlb.out)).mono ?_
  rintro e w10 ⟨rfl, hb⟩
  replace K6 := K6.later hb
  replace Z6 := Z6.later hb Z6.lt
  replace H6 := H6.later hb
  replace J6 := J6.later hb
  clear hb H9
  -- the copies are written
  go_upto_region 18 with fail
  go_cut [12] (fun v wr => v = .int .i64 (1 + n) ∧ w10.grownBy wr (some y))
  case first => as_aux_lemma =>
    obtain ⟨z0, z1, z2, z3, z4⟩ := Z6.five
    go_wp2_with fail
    refine (markGroup_is s l c sh y n n 1 zs w10 (by omega) (by omega) (by omega) H6.row H6.fr H6.lt).mono ?_
    rintro e w11 ⟨rfl, hg⟩
    clear K6 H6 J6 Z6 M3 D3 E3 z0 z1 z2 z3 z4
    go_wp2_with fail
    go_meet
    exact ⟨rfl, hg⟩
  case rest =>
  obtain ⟨rfl, hg⟩ := hcut
  obtain ⟨w11, rfl⟩ : ∃ x, x = wc := ⟨_, rfl⟩
  replace K6 := K6.kept hg (by omega) (by omega) (by omega)
  replace J6 := J6.kept hg (by intro e; injection e with e; omega)
  clear hg H6 Z6
  go_wp2_with fail
  refine (markB_is g m m (1 + n) bs w11 (by omega) (by omega) (by omega) hlb.out J6).mono ?_
  rintro e w12 ⟨rfl, d, -, -, -, hg⟩
  replace K6 := K6.kept hg (by omega) (by omega) (by omega)
  clear hg J6
  have hk0 : ¬ ((1 : Int) + n + m < 0) := by omega
  have M6 := M3.later K6.F hM3
  have S6 := K6.S
  go_wp2_with (first | (refine wpList_load_box 31 _ rfl S rfl 31 N S6 _ Tryd.underlying31 rfl HI.out (by simp [Region.wanted, yielded, Act.put] <;> omega) ?_) | (refine wpList_load_box 31 _ rfl M rfl 31 N0 M6 _ Tryd.underlying31 rfl HI0.out (by simp [Region.wanted, yielded, Act.put] <;> omega) ?_))
  refine (eqRead_is hN.out hN0.out w12 (by omega) (by omega) K6.L1.pairs K6.L2.pairs (p3.out.later K6.F) (q3.out.later K6.F)).mono ?_
  rintro e w13 ⟨rfl, hb⟩
  replace K6 := K6.later hb
  clear hb M6 S6
  -- the answer is written
  have S6 := K6.S
  go_wp2_with (refine wpList_load_box 31 _ rfl S rfl 31 N S6 _ Tryd.underlying31 rfl HI.out (by simp [Region.wanted, yielded]) ?_)
  refine (markRead_is hN.out 1 w13 (by omega) (by omega) (by omega) (by omega) K6.L1 K6.L2 hap.out).mono ?_
  rintro e w14 ⟨rfl, D1, D2, wm, hM1, hM2, l1, l2, hg1, hg2⟩
  replace K6 := K6.marked hg1 hg2 l1 l2 (by omega) hUS.out hVS.out
  replace hM1 := Lib.hid hM1
  replace hM2 := Lib.hid hM2
  clear hg1 hg2 l1 l2 S6
  have S6 := K6.S
  go_wp2_with (refine wpList_load_box 31 _ rfl S rfl 31 N S6 _ Tryd.underlying31 rfl HI.out (by simp [Region.wanted, yielded]) ?_)
  refine (heldRead_is hN.out 1 w14 (by omega) (by omega) (by omega) (by omega) K6.L1 K6.L2 hM1.out hM2.out).mono ?_
  rintro e w15 ⟨rfl, hb⟩
  replace K6 := K6.later hb
  clear hb S6
  have hk1 : ¬ ((1 : Int) + 2 * un + 2 * vn < 0) := by omega
  -- and it stays
  go_upto_region 30 with fail
  go_cut [15, 16] (fun v u wr => ∃ T U V, v = .pointer (some ⟨T, 0, none⟩) ∧ u = .bool bo ∧ w15.heap.size ≤ T ∧ Box wr T 31 (noteA X (.slice U un un) (.slice V vn vn)) ∧ Pairs wr wr.heap.size U un ps ∧ Pairs wr wr.heap.size V vn qs ∧ Below w15.heap.size w15 wr)
  case first => as_aux_lemma =>
    have E6 := bel_trans E3 K6.F
    have D6 := D3.later K6.F D3.lt
    have hs6 := E6.size
    obtain ⟨g0, g1, g2, g3, g4⟩ := D6.five
    clear M3 D3 E3 K6
    go_wp2_with fail
    refine (toGroup_any s l c sh A n cap zs w15 hm0 ((HR.out.below E6 (Nat.le_refl _)).more E6.size)).mono ?_
    rintro e w16 ⟨y3, -, rfl, hrow3, hb3⟩
    have E7 := bel_trans E6 hb3
    clear g0 g1 g2 g3 g4 D6 E6
    go_wp2_with fail
    refine (toBytes_any P m pc bs w16 hm1 (HY.out.later E7)).mono ?_
    rintro e w17 ⟨y4, -, rfl, hH4, hb4⟩
    have E8 := bel_trans E7 hb4
    have F8 := bel_trans hb3 hb4
    have hrow4 := (hrow3.below hb4 (Nat.le_refl _)).more hb4.size
    clear E7 hb3 hb4 hrow3
    go_wp2_with fail
    refine (readNote_is aE aM aS aL w.heap.size s l c sh _ n n zs _ m m bs w17 (HE.out.later E8 (Nat.le_refl _)) E8.size HX.out.1 hrow4 (hH4.row hlb.out) HB.out HX.out.2 (Nat.le_refl _)).mono ?_
    rintro e w18 hS
    obtain ⟨U', V', rfl, l1, l2, -, hb6⟩ := reads_at hX.out hps.out hqs.out hbo.out hun.out hvn.out hS
    clear hS
    obtain ⟨N', hN'⟩ : ∃ N, N = noteA X (.slice U' un un) (.slice V' vn vn) := ⟨_, rfl⟩
    have sh1 := noteA_shape X (.slice U' un un) (.slice V' vn vn)
    rw [← hN'] at sh1 ⊢
    have HI' := Lib.hid sh1.info
    have HS := Lib.hid (show ZN.size = N'.size from sh1.size.symm)
    have H1 := Lib.hid (sh1.one rfl rfl)
    have F := bel_setRow (bel_alloc w18 (.cells ZN 31)) (Nat.le_refl _) N'
    have N6 := (Box.new w18 31 ZN).setRow N'
    have l1' := (l1.later F).pairs
    have l2' := (l2.later F).pairs
    have F9 := bel_trans (bel_trans F8 hb6) F
    have hs7 := (bel_trans F8 hb6).size
    replace hN' := Lib.hid hN'
    clear E8 F8 hrow4 hH4 l1 l2 F hb6 sh1
    go_wp2_with (refine wpList_store_row rfl 31 _ _ rfl w18.heap.size N' rfl rfl 31 ZN (heap_alloc_new w18 _) HI'.out HS.out H1.out ?_)
    go_meet
    exact ⟨w18.heap.size, U', V', rfl, rfl, hs7, hN'.out ▸ N6, l1', l2', F9⟩
  case rest =>
  obtain ⟨T, U', V', rfl, rfl, hT, T7, p7, q7, hb⟩ := hcut
  obtain ⟨w16, rfl⟩ : ∃ x, x = wc := ⟨_, rfl⟩
  obtain ⟨N', hN'⟩ : ∃ N, N = noteA X (.slice U' un un) (.slice V' vn vn) := ⟨_, rfl⟩
  have HI' : Hid ((Tryd.prog.info? 31).map (·.size) = some N'.size) := Lib.hid (by rw [hN']; exact (noteA_shape _ _ _).info)
  rw [← hN'] at T7
  replace hN' := Lib.hid hN'
  have hTM : M ≠ T := by have := K6.F.size; omega
  replace K6 := K6.later hb
  have M6 := M3.later K6.F hM3
  clear hb
  go_wp2_with (first | (refine wpList_load_box 31 _ rfl T rfl 31 N' T7 _ Tryd.underlying31 rfl HI'.out (by simp [Region.wanted, yielded]) ?_) | (refine wpList_load_box 31 _ rfl M rfl 31 N0 M6 _ Tryd.underlying31 rfl HI0.out (by simp [Region.wanted, yielded]) ?_))
  refine (eqRead_is hN'.out hN0.out w16 (by omega) (by omega) p7 q7 (p3.out.later K6.F) (q3.out.later K6.F)).mono ?_
  rintro e w17 ⟨rfl, hb⟩
  replace K6 := K6.later hb
  clear hb M6 T7 p7 q7
  have S6 := K6.S
  go_wp2_with (refine wpList_load_box 31 _ rfl S rfl 31 N S6 _ Tryd.underlying31 rfl HI.out (by simp [Region.wanted, yielded]) ?_)
  refine (heldRead_is hN.out 1 w17 (by omega) (by omega) (by omega) (by omega) K6.L1 K6.L2 hM1.out hM2.out).mono ?_
  rintro e w18 ⟨rfl, hb⟩
  have E := bel_trans E3 (bel_trans K6.F hb)
  clear K6 hb S6 M3 D3 E3
  go_wp2
  go_ret
  exact ⟨rfl, E⟩
theorem exactRead_big (s l c sh : Int) (A : Option Addr) (n cap : Nat) (P : Option Addr) (m pc : Nat) (w : World) (hn : n ≤ maxLen) (hx : m ≤ maxLen) (hm : 1048576 < n ∨ 1048576 < m) :
    Calls Tryd.prog 5 #[.agg #[.int .i64 s, .int .i64 l, .int .i64 c, .int .i64 sh, .slice A n cap], .slice P m pc] w fun e w' => e = .returned (.bool true) ∧ Below w.heap.size w w' := by
  have E0 := bel_alloc w (.cells #[.int .i64 s, .int .i64 l, .int .i64 c, .int .i64 sh, .slice A n cap] 42)
  have HN := Lib.hid hn
  have HM := Lib.hid hx
  clear hn hx
  rcases Nat.lt_or_ge 1048576 m with h | h
  · have hmm : (1048576 : Int) < (m : Int) := by omega
    go_enter Tryd.func5, Tryd.ntmps5
    go_wp2
    go_ret
    exact ⟨rfl, E0⟩
  · have hmm : ¬ ((1048576 : Int) < (m : Int)) := by omega
    have h1 : 1048576 < n := by omega
    clear hm
    go_enter Tryd.func5, Tryd.ntmps5
    go_wp2_with fail
    refine (szGroup_gt s l c sh A n cap _ h1 HN.out).mono ?_
    rintro e w1 ⟨rfl, hb⟩
    have E := bel_trans E0 hb
    go_wp2
    go_ret
    exact ⟨rfl, E⟩

end Go.Proofs.YtgjbebfcbpfngaaDoor
