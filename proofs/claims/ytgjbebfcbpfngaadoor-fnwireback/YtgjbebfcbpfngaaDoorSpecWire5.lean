/- What ReadNote of the model answers: its contract. -/
import Derived.Test.YtgjbebfcbpfngaaDoorSpecWire4
import Derived.Test.YtgjbebfcbpfngaaDoorSpecNote2
import Derived.Test.YtgjbebfcbpfngaaDoorWire9
import Derived.Deep.RegionHeld3
namespace Go.Proofs.YtgjbebfcbpfngaaDoor
open Go.RowKit Go.Deep

theorem noteA_cert (xs : List Int) (a b u : Value) : (noteA xs a b).setIfInBounds 11 u = noteA xs u b := by kernel_rfl
theorem noteA_more (xs : List Int) (a b u : Value) : (noteA xs a b).setIfInBounds 12 u = noteA xs a u := by kernel_rfl
theorem noteA_at11 (xs : List Int) (a b : Value) : (noteA xs a b)[11]? = some a := rfl
theorem noteA_at12 (xs : List Int) (a b : Value) : (noteA xs a b)[12]? = some b := rfl
theorem nth_take {ls : List Int} {i k : Nat} (h : i < k) : nth (ls.take k) i = nth ls i := by simp [nth, h]
theorem noteA_take (ls : List Int) (u v : Value) : noteA (ls.take 14) u v = noteA ls u v := by
  unfold noteA
  rw [nth_take (i := 0) (by omega), nth_take (i := 1) (by omega), nth_take (i := 2) (by omega), nth_take (i := 3) (by omega), nth_take (i := 4) (by omega), nth_take (i := 5) (by omega), nth_take (i := 6) (by omega), nth_take (i := 7) (by omega), nth_take (i := 8) (by omega), nth_take (i := 9) (by omega), nth_take (i := 10) (by omega), nth_take (i := 11) (by omega), nth_take (i := 12) (by omega), nth_take (i := 13) (by omega)]
theorem ntX_take {s l c sh : Int} {zs ls : List Int} {ps qs : List (Int × Int)} : ntX s l c sh zs (ls.take 14) ps qs = ntX s l c sh zs ls ps qs := by
  unfold ntX
  rw [nth_take (i := 0) (by omega), nth_take (i := 1) (by omega), nth_take (i := 2) (by omega), nth_take (i := 3) (by omega), nth_take (i := 4) (by omega), nth_take (i := 5) (by omega), nth_take (i := 6) (by omega), nth_take (i := 7) (by omega), nth_take (i := 8) (by omega), nth_take (i := 9) (by omega), nth_take (i := 10) (by omega), nth_take (i := 11) (by omega), nth_take (i := 12) (by omega), nth_take (i := 13) (by omega)]
theorem own_heldP {w : World} {base : Nat} {e : TypeId} {q cap : Nat} {ps : List (Int × Int)} (h : w.ownsRow base e 2 (.slice (some ⟨q, 0, none⟩) ps.length cap) ps.length (flatP ps)) : Held w q ps := by
  have hp := own_pairs h
  refine ⟨(h.lt q rfl).2, fun o => World.ownsRow.frozenAt h o, fun i hi => ?_, fun i hi => ?_⟩
  · obtain ⟨b, o, hA, _, hc⟩ := hp.2 (by omega)
    cases hA
    have := (hc i hi).1
    rwa [Nat.zero_add] at this
  · obtain ⟨b, o, hA, _, hc⟩ := hp.2 (by omega)
    cases hA
    have := (hc i hi).2
    rwa [Nat.zero_add] at this

/-- What the model's ReadNote leaves. -/
def SReads (w : World) (s l c sh : Int) (zs bs : List Int) (e : Ending) (w' : World) : Prop :=
  Below w.heap.size w w' ∧
  ((okR s l c sh zs bs = true ∧ ∃ (g1 g2 c1 c2 : Nat), e = .returned (.tuple #[.agg (noteA (rdNote bs).1 (.slice (some ⟨g1, 0, none⟩) (rdNote bs).2.1.length c1) (.slice (some ⟨g2, 0, none⟩) (rdNote bs).2.2.1.length c2)), .bool true]) ∧ w.heap.size ≤ g1 ∧ w.heap.size ≤ g2 ∧ Held w' g1 (rdNote bs).2.1 ∧ Held w' g2 (rdNote bs).2.2.1) ∨
   (okR s l c sh zs bs = false ∧ e = .returned (.tuple #[.agg ZN, .bool false])))

/-- What a walk of it keeps. -/
structure SR (w wr : World) (gc : Array Value) (g cg : Nat) (ls : List Int) (M : Nat) (N : Array Value) : Prop where
  gb : Box wr w.heap.size 26 gc
  zb : Box wr (w.heap.size + 1) 31 ZN
  nb : Box wr M 31 N
  io : IOwn wr w.heap.size g cg ls
  bel : Below w.heap.size w wr
  Mb : w.heap.size + 1 < M
  gM : g < M
theorem SR.later {w wr w' : World} {gc : Array Value} {g cg : Nat} {ls : List Int} {M : Nat} {N : Array Value} (h : SR w wr gc g cg ls M N) (hb : Below wr.heap.size wr w') : SR w w' gc g cg ls M N :=
  ⟨h.gb.later hb h.gb.lt, h.zb.later hb h.zb.lt, h.nb.later hb h.nb.lt, World.ownsRow.kept h.io (grown_bel hb none) (.inr (by intro e; cases e)), bel_trans h.bel hb, h.Mb, h.gM⟩
theorem SR.put {w wr : World} {gc : Array Value} {g cg : Nat} {ls : List Int} {M : Nat} {N : Array Value} (h : SR w wr gc g cg ls M N) (i : Nat) (u : Value) : SR w (wr.setCell ⟨M, i, none⟩ u) gc g cg ls M (N.setIfInBounds i u) := by
  have hM := h.Mb
  have hg := h.gM
  have GG := grown_set (grown_refl wr (some M)) i u
  exact ⟨h.gb.kept GG (by intro e; injection e with e; omega), h.zb.kept GG (by intro e; injection e with e; omega), h.nb.set i u, World.ownsRow.kept h.io GG (.inr (by intro e; injection e with e; have e' : g = M := e; omega)), bel_grown h.bel GG (by omega), h.Mb, h.gM⟩

set_option maxRecDepth 100000 in
set_option maxHeartbeats 8000000 in
theorem specRead_small (s l c sh : Int) (A : Option Addr) (n cap : Nat) (zs : List Int) (P : Option Addr) (m pc : Nat) (bs : List Int) (w : World) (hnx : n ≤ maxLen) (hr : Row w w.heap.size A n zs) (hb : BRow w w.heap.size P m bs) (hB : Bys bs) (hm1000 : m ≤ 1000) :
    Calls Tryd.prog 14 #[.agg #[.int .i64 s, .int .i64 l, .int .i64 c, .int .i64 sh, .slice A n cap], .slice P m pc] w (SReads w s l c sh zs bs) := by
  have G0 := (Box.new w 26 #[.int .i64 s, .int .i64 l, .int .i64 c, .int .i64 sh, .slice A n cap]).alloc (.cells ZN 31)
  have Z0 := Box.new (w.alloc (.cells #[.int .i64 s, .int .i64 l, .int .i64 c, .int .i64 sh, .slice A n cap] 26)) 31 ZN
  simp only [World.size_alloc] at Z0
  have E0 := bel_trans (bel_alloc w (.cells #[.int .i64 s, .int .i64 l, .int .i64 c, .int .i64 sh, .slice A n cap] 26)) (bel_alloc _ (.cells ZN 31))
  have HR := Lib.hid ((hb.below E0 (Nat.le_refl _)).more E0.size)
  have HRow := Lib.hid hr
  have HX := Lib.hid hnx
  have HB := Lib.hid hB
  clear hb hB hr hnx
  have h1000 : ¬ (1000 : Int) < (m : Int) := by omega
  go_enter Tryd.func14, Tryd.ntmps14
  go_upto_region 3 with fail
  rw [show (#[.int .i64 0, .int .i64 0, .int .i64 0, .int .i64 0, .int .i64 0, .int .i64 0, .int .i64 0, .int .i64 0, .int .i64 0, .int .i64 0, .int .i64 0, .slice none 0 0, .slice none 0 0, .int .i64 0, .int .i64 0, .int .i64 0] : Array Value) = ZN from rfl]
  generalize ((w.alloc _).alloc _ : World) = w0 at G0 Z0 E0 HR ⊢
  go_wp2_with fail
  refine (l6Read_is P m pc bs w0 HR.out HB.out hm1000).mono ?_
  rintro e w1 ⟨hb1, g, cg, ls, hcase⟩
  have G1 := G0.later hb1 G0.lt
  have Z1 := Z0.later hb1 Z0.lt
  have E1 := bel_trans E0 hb1
  have hs1 := E1.size
  have hz1 := Z0.lt
  have hs01 := hb1.size
  clear G0 Z0 E0 hb1
  rcases hcase with ⟨rfl, hio, hbs, hnum⟩ | ⟨rfl, r, hbs, hne, hno, hnum⟩
  · obtain ⟨N, hN⟩ : ∃ N, ls.length = N := ⟨_, rfl⟩
    have hrow := hio.row
    have hgl := hio.lt g rfl
    rw [hN] at hrow ⊢
    replace hN := Lib.hid hN
    replace hbs := Lib.hid hbs
    replace hnum := Lib.hid hnum
    replace hio := Lib.hid (own_low hio (base' := w.heap.size) (by omega))
    have hN1000 : N ≤ 1000 := by
      have h1 := HR.out.1
      have h2 : ls.length ≤ (layAll ls).length := by
        clear hbs hnum hio hrow hN
        induction ls with
        | nil => simp [layAll]
        | cons x ls ih => rw [layAll_cons, List.length_append, List.length_cons]; have := lay_pos x; omega
      rw [← hbs.out, h1, hN.out] at h2
      omega
    by_cases h14 : 14 ≤ N
    · have h14' : ¬ (N : Int) < 14 := by omega
      obtain ⟨b, o, hA, hbB, hcell⟩ := hrow.2 (by omega)
      cases hA
      have c0 := hcell 0 (by omega)
      have c1 := hcell 1 (by omega)
      have c2 := hcell 2 (by omega)
      have c3 := hcell 3 (by omega)
      have c4 := hcell 4 (by omega)
      have c5 := hcell 5 (by omega)
      have c6 := hcell 6 (by omega)
      have c7 := hcell 7 (by omega)
      have c8 := hcell 8 (by omega)
      have c9 := hcell 9 (by omega)
      have c10 := hcell 10 (by omega)
      have c11 := hcell 11 (by omega)
      have c12 := hcell 12 (by omega)
      have c13 := hcell 13 (by omega)
      simp only [Nat.zero_add] at c0 c1 c2 c3 c4 c5 c6 c7 c8 c9 c10 c11 c12 c13
      clear hcell
      have i0 : (0 : Int) < (N : Int) := by omega
      have i1 : (1 : Int) < (N : Int) := by omega
      have i2 : (2 : Int) < (N : Int) := by omega
      have i3 : (3 : Int) < (N : Int) := by omega
      have i4 : (4 : Int) < (N : Int) := by omega
      have i5 : (5 : Int) < (N : Int) := by omega
      have i6 : (6 : Int) < (N : Int) := by omega
      have i7 : (7 : Int) < (N : Int) := by omega
      have i8 : (8 : Int) < (N : Int) := by omega
      have i9 : (9 : Int) < (N : Int) := by omega
      have i10 : (10 : Int) < (N : Int) := by omega
      have i11 : (11 : Int) < (N : Int) := by omega
      have i12 : (12 : Int) < (N : Int) := by omega
      have i13 : (13 : Int) < (N : Int) := by omega
      have n0 : 0 < N := by omega
      go_upto_region 6 with fail
      go_cut [8] (fun v wr => v = .pointer (some ⟨w1.heap.size, 0, none⟩) ∧ Box wr w1.heap.size 31 (noteA ls (.slice none 0 0) (.slice none 0 0)) ∧ Below w1.heap.size w1 wr)
      case first => 
        clear G1 Z1 E1 HRow HX HB HR hio hrow hgl hbs hnum hN hN1000 hs1 hz1 hs01
        go_wp2_with fail
        go_region_held3 (fun w' => w'.cell? ⟨g, 0, none⟩ = some (.int .i64 (nth ls 0)) ∧ w'.cell? ⟨g, 1, none⟩ = some (.int .i64 (nth ls 1)) ∧ w'.cell? ⟨g, 2, none⟩ = some (.int .i64 (nth ls 2)) ∧ w'.cell? ⟨g, 3, none⟩ = some (.int .i64 (nth ls 3)) ∧ w'.cell? ⟨g, 4, none⟩ = some (.int .i64 (nth ls 4)) ∧ w'.cell? ⟨g, 5, none⟩ = some (.int .i64 (nth ls 5)) ∧ w'.cell? ⟨g, 6, none⟩ = some (.int .i64 (nth ls 6)) ∧ w'.cell? ⟨g, 7, none⟩ = some (.int .i64 (nth ls 7)) ∧ w'.cell? ⟨g, 8, none⟩ = some (.int .i64 (nth ls 8)) ∧ w'.cell? ⟨g, 9, none⟩ = some (.int .i64 (nth ls 9)) ∧ w'.cell? ⟨g, 10, none⟩ = some (.int .i64 (nth ls 10)) ∧ w'.cell? ⟨g, 11, none⟩ = some (.int .i64 (nth ls 11)) ∧ w'.cell? ⟨g, 12, none⟩ = some (.int .i64 (nth ls 12)) ∧ w'.cell? ⟨g, 13, none⟩ = some (.int .i64 (nth ls 13))) (first | go_keep) (fail)
        all_goals
          go_wp2_with fail
          go_meet
          refine ⟨rfl, ?_, ?_⟩
          · have NBX := Box.new w1 31 (noteA ls (.slice none 0 0) (.slice none 0 0))
            exact NBX.drewN 1
          · exact (bel_alloc w1 _).drew
      case rest =>
      obtain ⟨rfl, NB, hb⟩ := hcut
      obtain ⟨w2, rfl⟩ : ∃ x, x = wc := ⟨_, rfl⟩
      have K2 : SR w w2 #[.int .i64 s, .int .i64 l, .int .i64 c, .int .i64 sh, .slice A n cap] g cg ls w1.heap.size (noteA ls (.slice none 0 0) (.slice none 0 0)) := ⟨G1.later hb G1.lt, Z1.later hb Z1.lt, NB, World.ownsRow.kept hio.out (grown_bel hb none) (.inr (by intro e; cases e)), bel_trans E1 hb, by omega, hgl.2⟩
      generalize hMM : w1.heap.size = M at K2 ⊢
      replace hMM := Lib.hid hMM
      clear NB hb G1 Z1 E1 c0 c1 c2 c3 c4 c5 c6 c7 c8 c9 c10 c11 c12 c13 i0 i1 i2 i3 i4 i5 i6 i7 i8 i9 i10 i11 i12 i13 hio n0
      have hMb := K2.Mb
      have hrow2 : Hid (Row w2 w2.heap.size (some ⟨g, 0, none⟩) N ls) := Lib.hid (by have := K2.io.row; rw [hN.out] at this; exact this)
      by_cases hbad1 : (N : Int) ≤ 14 ∨ ((14 : Int) < N ∧ (20 < nth ls 14 ∨ (N : Int) - 14 - 1 < 2 * nth ls 14))
      · replace hbad1 := Lib.hid hbad1
        go_wp2_with fail
        refine (readSeals_no (some ⟨g, 0, none⟩) N cg ls 14 w2 hrow2.out hN1000 (by omega) (by omega) hnum.out (by rcases hbad1.out with h | ⟨h1, h2⟩; exact .inr (.inl h); exact .inr (.inr ⟨by omega, h1, h2⟩))).mono ?_
        rintro e w3 ⟨gu, rfl, _, _, hb3⟩
        have K3 := K2.later hb3
        have c11 := (K3.nb.cell 11).trans (noteA_at11 _ _ _)
        have fr := K3.nb.frozen
        have K4 := K3.put 11 (.slice (some ⟨gu, 0, none⟩) 0 0)
        rw [noteA_cert] at K4
        clear K2 K3 hb3
        go_wp2_with fail
        generalize (w3.setCell _ _ : World) = w4 at K4 ⊢
        clear c11 fr
        refine (readSeals_no (some ⟨g, 0, none⟩) N cg ls (-1) w4 (by have := K4.io.row; rw [hN.out] at this; exact this) hN1000 (by omega) (by omega) hnum.out (.inl (by omega))).mono ?_
        rintro e w5 ⟨gv, rfl, _, _, hb5⟩
        have K5 := K4.later hb5
        have c12 := (K5.nb.cell 12).trans (noteA_at12 _ _ _)
        have fr := K5.nb.frozen
        have K6 := K5.put 12 (.slice (some ⟨gv, 0, none⟩) 0 0)
        clear K4 K5 hb5
        have hneg : ((-1 : Int) != (N : Int)) = true := by simp <;> omega
        have HZ := Lib.hid (K6.zb)
        have HK := Lib.hid ((K6.zb).setRow ZN)
        have HE := Lib.hid (bel_setRow (K6.bel) (g := w.heap.size + 1) (by omega) ZN)
        have HOK : Hid (okR s l c sh zs bs = false) := Lib.hid (by rw [hbs.out]; exact okR_first hnum.out (by rw [hN.out]; exact h14) (by rw [hN.out]; rcases hbad1.out with h | ⟨h1, h2⟩; exact .inl (by omega); exact .inr ⟨by omega, h2⟩))
        go_wp2_with (refine wpList_store_row rfl 31 _ _ rfl (w.heap.size + 1) ZN rfl rfl 31 ZN HZ.out zn_info rfl zn_one ?_)
        exact bodyPost_ret (results_cell_tmp Tryd.results14 _ _ (w.heap.size + 1) 31 _ (.bool false) _ rfl rfl HK.out Tryd.underlying31 rfl zn_info) rfl ⟨HE.out, .inr ⟨HOK.out, rfl⟩⟩
      · replace hbad1 : ¬ ((N : Int) ≤ 14) ∧ ¬ (20 < nth ls 14) ∧ ¬ ((N : Int) - 14 - 1 < 2 * nth ls 14) := by
          refine ⟨fun h => hbad1 (.inl h), fun h => hbad1 (.inr ⟨?_, .inl h⟩), fun h => hbad1 (.inr ⟨?_, .inr h⟩)⟩
          · exact Int.not_le.1 (fun h' => hbad1 (.inl h'))
          · exact Int.not_le.1 (fun h' => hbad1 (.inl h'))
        obtain ⟨hq1, hq2, hq3⟩ := hbad1
        have hx0 := (hnum.out (nth ls 14) (by rw [nth_lt (by rw [hN.out]; omega)]; exact List.getElem_mem _)).1
        obtain ⟨k1, hk1⟩ : ∃ k1 : Nat, nth ls 14 = (k1 : Int) := ⟨(nth ls 14).toNat, by omega⟩
        rw [hk1] at hq2 hq3
        have hk20 : k1 ≤ 20 := by omega
        have hkn : 14 + 1 + 2 * k1 ≤ N := by omega
        have hN15 : 14 < N := by omega
        replace hk1 := Lib.hid hk1
        clear hx0 hq1 hq2 hq3
        go_wp2_with fail
        refine (readSeals_yes (some ⟨g, 0, none⟩) N cg 14 k1 ls w2 hrow2.out hN1000 (by omega) hk1.out hk20 hkn).mono ?_
        rintro e w3 ⟨gu, cu, rfl, hou, hb3⟩
        obtain ⟨ps, hps⟩ : ∃ ps, ps = pairUp ((ls.drop (14 + 1)).take (2 * k1)) := ⟨_, rfl⟩
        rw [← hps] at hou ⊢
        obtain ⟨q2, hq2⟩ : ∃ q2 : Nat, q2 = 14 + 1 + 2 * k1 := ⟨_, rfl⟩
        rw [← hq2] at hkn ⊢
        replace hps := Lib.hid hps
        replace hq2 := Lib.hid hq2
        have K3 := K2.later hb3
        have hgu := hou.lt gu rfl
        have hM2 := K2.nb.lt
        have c11 := (K3.nb.cell 11).trans (noteA_at11 _ _ _)
        have fr := K3.nb.frozen
        have K4 := K3.put 11 (.slice (some ⟨gu, 0, none⟩) ps.length cu)
        rw [noteA_cert] at K4
        have GG := grown_set (grown_refl w3 (some M)) 11 (.slice (some ⟨gu, 0, none⟩) ps.length cu)
        have ou4 := hou.kept GG (.inr (by intro e; injection e with e; have h1 : w2.heap.size ≤ gu := hgu.1; have h2 : gu = M := e; omega))
        clear K2 K3 hb3 hou GG
        go_wp2_with fail
        generalize (w3.setCell _ _ : World) = w4 at K4 ou4 ⊢
        clear c11 fr
        have hrow4 : Hid (Row w4 w4.heap.size (some ⟨g, 0, none⟩) N ls) := Lib.hid (by have := K4.io.row; rw [hN.out] at this; exact this)
        by_cases hbad2 : (N : Int) ≤ q2 ∨ ((q2 : Int) < N ∧ (20 < nth ls q2 ∨ (N : Int) - q2 - 1 < 2 * nth ls q2))
        · replace hbad2 := Lib.hid hbad2
          refine (readSeals_no (some ⟨g, 0, none⟩) N cg ls q2 w4 hrow4.out hN1000 (by omega) (by omega) hnum.out (by rcases hbad2.out with h | ⟨h1, h2⟩; exact .inr (.inl h); exact .inr (.inr ⟨by omega, h1, by simpa using h2⟩))).mono ?_
          rintro e w5 ⟨gv, rfl, _, _, hb5⟩
          have K5 := K4.later hb5
          have c12 := (K5.nb.cell 12).trans (noteA_at12 _ _ _)
          have fr := K5.nb.frozen
          have K6 := K5.put 12 (.slice (some ⟨gv, 0, none⟩) 0 0)
          clear K4 K5 hb5 ou4
          have hneg : ((-1 : Int) != (N : Int)) = true := by simp <;> omega
          have HZ := Lib.hid (K6.zb)
          have HK := Lib.hid ((K6.zb).setRow ZN)
          have HE := Lib.hid (bel_setRow (K6.bel) (g := w.heap.size + 1) (by omega) ZN)
          have HOK : Hid (okR s l c sh zs bs = false) := Lib.hid (by rw [hbs.out]; exact okR_second (m := k1) hnum.out (by rw [hN.out]; omega) hk1.out hk20 (by rw [hN.out, ← hq2.out]; exact hkn) (by rw [hN.out, ← hq2.out]; rcases hbad2.out with h | ⟨h1, h2⟩; exact .inl (by omega); exact .inr ⟨by omega, h2⟩))
          go_wp2_with (refine wpList_store_row rfl 31 _ _ rfl (w.heap.size + 1) ZN rfl rfl 31 ZN HZ.out zn_info rfl zn_one ?_)
          exact bodyPost_ret (results_cell_tmp Tryd.results14 _ _ (w.heap.size + 1) 31 _ (.bool false) _ rfl rfl HK.out Tryd.underlying31 rfl zn_info) rfl ⟨HE.out, .inr ⟨HOK.out, rfl⟩⟩
        · replace hbad2 : ¬ ((N : Int) ≤ q2) ∧ ¬ (20 < nth ls q2) ∧ ¬ ((N : Int) - q2 - 1 < 2 * nth ls q2) := by
            refine ⟨fun h => hbad2 (.inl h), fun h => hbad2 (.inr ⟨?_, .inl h⟩), fun h => hbad2 (.inr ⟨?_, .inr h⟩)⟩
            · exact Int.not_le.1 (fun h' => hbad2 (.inl h'))
            · exact Int.not_le.1 (fun h' => hbad2 (.inl h'))
          obtain ⟨hr1, hr2, hr3⟩ := hbad2
          have hx0 := (hnum.out (nth ls q2) (by rw [nth_lt (by rw [hN.out]; omega)]; exact List.getElem_mem _)).1
          obtain ⟨k2, hk2⟩ : ∃ k2 : Nat, nth ls q2 = (k2 : Int) := ⟨(nth ls q2).toNat, by omega⟩
          rw [hk2] at hr2 hr3
          have hk220 : k2 ≤ 20 := by omega
          have hk2n : q2 + 1 + 2 * k2 ≤ N := by omega
          have hq2N : q2 < N := by omega
          replace hk2 := Lib.hid hk2
          clear hx0 hr1 hr2 hr3
          refine (readSeals_yes (some ⟨g, 0, none⟩) N cg q2 k2 ls w4 hrow4.out hN1000 (by omega) hk2.out hk220 hk2n).mono ?_
          rintro e w5 ⟨gv, cv, rfl, hov, hb5⟩
          obtain ⟨qs, hqs⟩ : ∃ qs, qs = pairUp ((ls.drop (q2 + 1)).take (2 * k2)) := ⟨_, rfl⟩
          rw [← hqs] at hov ⊢
          obtain ⟨q3, hq3⟩ : ∃ q3 : Nat, q3 = q2 + 1 + 2 * k2 := ⟨_, rfl⟩
          rw [← hq3] at hk2n ⊢
          replace hqs := Lib.hid hqs
          replace hq3 := Lib.hid hq3
          have K5 := K4.later hb5
          have hgv := hov.lt gv rfl
          have hM4 := K4.nb.lt
          have c12 := (K5.nb.cell 12).trans (noteA_at12 _ _ _)
          have fr := K5.nb.frozen
          have K6 := K5.put 12 (.slice (some ⟨gv, 0, none⟩) qs.length cv)
          rw [noteA_more] at K6
          have GG := grown_set (grown_refl w5 (some M)) 12 (.slice (some ⟨gv, 0, none⟩) qs.length cv)
          have hguM : gu ≠ M := by have h1 : w2.heap.size ≤ gu := hgu.1; omega
          have ou6 := (ou4.kept (grown_bel hb5 none) (.inr (by intro e; cases e))).kept GG (.inr (by intro e; injection e with e; exact hguM e))
          have ov6 := hov.kept GG (.inr (by intro e; injection e with e; have h1 : w4.heap.size ≤ gv := hgv.1; have h2 : gv = M := e; omega))
          have hrd : Hid (rdNote bs = (ls.take 14, ps, qs, some (layAll (ls.drop q3)))) := Lib.hid (by
            have h := rd_both (ls := ls) (m := k1) (k := k2) hnum.out (by rw [hN.out]; omega) hk1.out hk20 (by rw [hN.out]; rw [← hq2.out]; exact hkn) (by rw [hN.out, ← hq2.out]; omega) (by rw [← hq2.out]; exact hk2.out) hk220 (by rw [hN.out, ← hq2.out, ← hq3.out]; exact hk2n)
            rw [hbs.out, h, hps.out, hqs.out, hq3.out, hq2.out])
          have hwB : w.heap.size ≤ gu ∧ w.heap.size ≤ gv := by
            have h1 : w2.heap.size ≤ gu := hgu.1
            have h2 : w4.heap.size ≤ gv := hgv.1
            omega
          clear K4 K5 hb5 ou4 hov GG
          by_cases hend : q3 = N
          · subst hend
            have heq : ((q3 : Int) != (q3 : Int)) = false := by simp
            obtain ⟨g0, g1, g2, g3, g4⟩ := K6.gb.five
            obtain ⟨nc, hnc⟩ : ∃ nc, nc = noteA ls (.slice (some ⟨gu, 0, none⟩) ps.length cu) (.slice (some ⟨gv, 0, none⟩) qs.length cv) := ⟨_, rfl⟩
            rw [← hnc] at K6
            have sh1 : Shape nc (.slice (some ⟨gu, 0, none⟩) ps.length cu) (.slice (some ⟨gv, 0, none⟩) qs.length cv) := by rw [hnc]; exact noteA_shape _ _ _
            have HI := Lib.hid sh1.info
            have HS := Lib.hid (show ZN.size = nc.size from sh1.size.symm)
            have H1 := Lib.hid (sh1.one rfl rfl)
            replace hnc := Lib.hid hnc
            have HNB := Lib.hid K6.nb
            have hok : Hid (okR s l c sh zs bs = ntX s l c sh zs ls ps qs) := Lib.hid (by
              unfold okR
              rw [hrd.out]
              simp only
              rw [ntX_take, end_at (by rw [hN.out]; exact Nat.le_refl _), hN.out]
              simp)
            have hpl : Hid (ps.length ≤ maxLen ∧ qs.length ≤ maxLen) := Lib.hid (by
              have a1 : ps.length = k1 := by rw [hps.out]; exact (pairs_pairUp k1 _ (by rw [List.length_take, List.length_drop, hN.out]; have := hq2.out; omega)).2
              have a2 : qs.length = k2 := by rw [hqs.out]; exact (pairs_pairUp k2 _ (by rw [List.length_take, List.length_drop, hN.out]; have := hq3.out; omega)).2
              unfold maxLen; omega)
            go_wp2_with (refine wpList_load_box 31 _ rfl M rfl 31 nc HNB.out _ Tryd.underlying31 rfl HI.out (by simp [Region.wanted, yielded]) ?_)
            generalize (w5.setCell _ _ : World) = w6 at K6 ou6 ov6 HNB g0 g1 g2 g3 g4 ⊢
            refine (specNoteN_is (hnc.out.trans rfl) s l c sh A n cap zs ps qs w6 HX.out hpl.out.1 hpl.out.2 ((HRow.out.below K6.bel (Nat.le_refl _)).more K6.bel.size) (own_pairs ou6) (own_pairs ov6)).mono ?_
            rintro e w7 ⟨rfl, hb7⟩
            obtain ⟨b, hb⟩ : ∃ b, b = ntX s l c sh zs ls ps qs := ⟨_, rfl⟩
            have hnt : Hid (ntB s l c sh zs (nth ls 0) (nth ls 1) (nth ls 2) (nth ls 3) (nth ls 4) (nth ls 5) (nth ls 6) (nth ls 7) (nth ls 8) (nth ls 9) (nth ls 10) ps qs (nth ls 11) (nth ls 12) (nth ls 13) = b) := Lib.hid (by rw [hb]; rfl)
            rw [hnt.out]
            replace hb := Lib.hid hb
            have K7 := K6.later hb7
            have ou7 := ou6.kept (grown_bel hb7 none) (.inr (by intro e; cases e))
            have ov7 := ov6.kept (grown_bel hb7 none) (.inr (by intro e; cases e))
            clear K6 ou6 ov6 HNB hb7 g0 g1 g2 g3 g4 c12 fr
            rcases b with _ | _
            · have HZ := Lib.hid (K7.zb)
              have HK := Lib.hid ((K7.zb).setRow ZN)
              have HE := Lib.hid (bel_setRow (K7.bel) (g := w.heap.size + 1) (by omega) ZN)
              have HOK : Hid (okR s l c sh zs bs = false) := Lib.hid (by rw [hok.out, ← hb.out])
              go_wp2_with (refine wpList_store_row rfl 31 _ _ rfl (w.heap.size + 1) ZN rfl rfl 31 ZN HZ.out zn_info rfl zn_one ?_)
              exact bodyPost_ret (results_cell_tmp Tryd.results14 _ _ (w.heap.size + 1) 31 _ (.bool false) _ rfl rfl HK.out Tryd.underlying31 rfl zn_info) rfl ⟨HE.out, .inr ⟨HOK.out, rfl⟩⟩
            · have HZ := Lib.hid K7.zb
              have HNB := Lib.hid K7.nb
              have HK := Lib.hid (K7.zb.setRow nc)
              have HE := Lib.hid (bel_setRow K7.bel (g := w.heap.size + 1) (by omega) nc)
              have GR := grown_setRow (grown_refl w7 (some (w.heap.size + 1))) nc
              have hz7 := K7.Mb
              have ou8 := Lib.hid (own_heldP (ou7.kept GR (.inr (by intro e; injection e with e; have h1 : w2.heap.size ≤ gu := hgu.1; have h2 : gu = w.heap.size + 1 := e; omega))))
              have ov8 := Lib.hid (own_heldP (ov7.kept GR (.inr (by intro e; injection e with e; have h1 : w4.heap.size ≤ gv := hgv.1; have h2 : gv = w.heap.size + 1 := e; omega))))
              clear K7 ou7 ov7 GR
              go_wp2_with (first | (refine wpList_load_box 31 _ rfl M rfl 31 nc HNB.out _ Tryd.underlying31 rfl HI.out (by simp [Region.wanted, yielded]) ?_) | (refine wpList_store_row rfl 31 _ _ rfl (w.heap.size + 1) nc rfl rfl 31 ZN HZ.out HI.out HS.out H1.out ?_))
              refine bodyPost_ret (results_cell_tmp Tryd.results14 _ _ (w.heap.size + 1) 31 _ (.bool true) _ rfl rfl HK.out Tryd.underlying31 rfl HI.out) rfl ⟨HE.out, .inl ⟨by rw [hok.out, ← hb.out], gu, gv, cu, cv, ?_, hwB.1, hwB.2, ?_, ?_⟩⟩
              · rw [hrd.out]
                simp only
                rw [noteA_take, ← hnc.out]
              · rw [hrd.out]; exact ou8.out
              · rw [hrd.out]; exact ov8.out
          · have hneg : ((q3 : Int) != (N : Int)) = true := by simp; omega
            have HZ := Lib.hid (K6.zb)
            have HK := Lib.hid ((K6.zb).setRow ZN)
            have HE := Lib.hid (bel_setRow (K6.bel) (g := w.heap.size + 1) (by omega) ZN)
            have HOK : Hid (okR s l c sh zs bs = false) := Lib.hid (by unfold okR; rw [hrd.out]; simp only; rw [end_at (by rw [hN.out]; exact hk2n), hN.out]; simp [hend])
            go_wp2_with (refine wpList_store_row rfl 31 _ _ rfl (w.heap.size + 1) ZN rfl rfl 31 ZN HZ.out zn_info rfl zn_one ?_)
            exact bodyPost_ret (results_cell_tmp Tryd.results14 _ _ (w.heap.size + 1) 31 _ (.bool false) _ rfl rfl HK.out Tryd.underlying31 rfl zn_info) rfl ⟨HE.out, .inr ⟨HOK.out, rfl⟩⟩
    · have h14' : (N : Int) < 14 := by omega
      have HZ := Lib.hid (Z1)
      have HK := Lib.hid ((Z1).setRow ZN)
      have HE := Lib.hid (bel_setRow (E1) (g := w.heap.size + 1) (by omega) ZN)
      have HOK : Hid (okR s l c sh zs bs = false) := Lib.hid (by rw [hbs.out]; exact okR_few hnum.out (by rw [hN.out]; omega))
      go_wp2_with (refine wpList_store_row rfl 31 _ _ rfl (w.heap.size + 1) ZN rfl rfl 31 ZN HZ.out zn_info rfl zn_one ?_)
      exact bodyPost_ret (results_cell_tmp Tryd.results14 _ _ (w.heap.size + 1) 31 _ (.bool false) _ rfl rfl HK.out Tryd.underlying31 rfl zn_info) rfl ⟨HE.out, .inr ⟨HOK.out, rfl⟩⟩
  · replace hbs := Lib.hid hbs
    replace hnum := Lib.hid hnum
    replace hne := Lib.hid hne
    replace hno := Lib.hid hno
    have HZ := Lib.hid (Z1)
    have HK := Lib.hid ((Z1).setRow ZN)
    have HE := Lib.hid (bel_setRow (E1) (g := w.heap.size + 1) (by omega) ZN)
    have HOK : Hid (okR s l c sh zs bs = false) := Lib.hid (okR_bad HB.out hnum.out hne.out hno.out hbs.out)
    go_wp2_with (refine wpList_store_row rfl 31 _ _ rfl (w.heap.size + 1) ZN rfl rfl 31 ZN HZ.out zn_info rfl zn_one ?_)
    exact bodyPost_ret (results_cell_tmp Tryd.results14 _ _ (w.heap.size + 1) 31 _ (.bool false) _ rfl rfl HK.out Tryd.underlying31 rfl zn_info) rfl ⟨HE.out, .inr ⟨HOK.out, rfl⟩⟩

set_option maxRecDepth 100000 in
set_option maxHeartbeats 2000000 in
theorem specRead_big (s l c sh : Int) (A : Option Addr) (n cap : Nat) (zs : List Int) (P : Option Addr) (m pc : Nat) (bs : List Int) (w : World) (hb : bs.length = m) (hB : Bys bs) (hm : 1000 < m) (hx : m ≤ maxLen) :
    Calls Tryd.prog 14 #[.agg #[.int .i64 s, .int .i64 l, .int .i64 c, .int .i64 sh, .slice A n cap], .slice P m pc] w (SReads w s l c sh zs bs) := by
  have Z0 := Box.new (w.alloc (.cells #[.int .i64 s, .int .i64 l, .int .i64 c, .int .i64 sh, .slice A n cap] 26)) 31 ZN
  simp only [World.size_alloc] at Z0
  have E0 := bel_trans (bel_alloc w (.cells #[.int .i64 s, .int .i64 l, .int .i64 c, .int .i64 sh, .slice A n cap] 26)) (bel_alloc _ (.cells ZN 31))
  have HOK : Hid (okR s l c sh zs bs = false) := Lib.hid (by
    cases e : okR s l c sh zs bs with
    | false => rfl
    | true => have := okR_len hB e; omega)
  have h1000 : (1000 : Int) < (m : Int) := by omega
  have HX := Lib.hid hx
  clear hx hb hB
  go_enter Tryd.func14, Tryd.ntmps14
  go_upto_region 1 with fail
  rw [show (#[.int .i64 0, .int .i64 0, .int .i64 0, .int .i64 0, .int .i64 0, .int .i64 0, .int .i64 0, .int .i64 0, .int .i64 0, .int .i64 0, .int .i64 0, .slice none 0 0, .slice none 0 0, .int .i64 0, .int .i64 0, .int .i64 0] : Array Value) = ZN from rfl]
  generalize ((w.alloc _).alloc _ : World) = w0 at Z0 E0 ⊢
  have HZ := Lib.hid Z0
  have HK := Lib.hid (Z0.setRow ZN)
  have HE := Lib.hid (bel_setRow E0 (g := w.heap.size + 1) (by omega) ZN)
  clear Z0 E0
  go_wp2_with (refine wpList_store_row rfl 31 _ _ rfl (w.heap.size + 1) ZN rfl rfl 31 ZN HZ.out zn_info rfl zn_one ?_)
  exact bodyPost_ret (results_cell_tmp Tryd.results14 _ _ (w.heap.size + 1) 31 _ (.bool false) _ rfl rfl HK.out Tryd.underlying31 rfl zn_info) rfl ⟨HE.out, .inr ⟨HOK.out, rfl⟩⟩
theorem specRead_is (s l c sh : Int) (A : Option Addr) (n cap : Nat) (zs : List Int) (P : Option Addr) (m pc : Nat) (bs : List Int) (w : World) (hnx : n ≤ maxLen) (hr : Row w w.heap.size A n zs) (hb : BRow w w.heap.size P m bs) (hB : Bys bs) (hx : m ≤ maxLen) :
    Calls Tryd.prog 14 #[.agg #[.int .i64 s, .int .i64 l, .int .i64 c, .int .i64 sh, .slice A n cap], .slice P m pc] w (SReads w s l c sh zs bs) := by
  rcases Nat.lt_or_ge 1000 m with h | h
  · exact specRead_big s l c sh A n cap zs P m pc bs w hb.1 hB h hx
  · exact specRead_small s l c sh A n cap zs P m pc bs w hnx hr hb hB h

end Go.Proofs.YtgjbebfcbpfngaaDoor
