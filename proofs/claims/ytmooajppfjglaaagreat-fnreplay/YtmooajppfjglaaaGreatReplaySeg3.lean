/- FnReplay: whatever bytes it is given, the law answers true and leaves them alone; no condition beyond the given row's own. -/
import Derived.Test.YtmooajppfjglaaaGreatReplaySeg2
import Derived.Test.YtmooajppfjglaaaGreatRecsBlock
import Derived.Test.YtmooajppfjglaaaGreatReplaySeg1
import Derived.Test.YtmooajppfjglaaaGreatReplaySeg0
import Derived.Test.YtmooajppfjglaaaGreatRows
import Derived.Test.YtmooajppfjglaaaGreatReadsBytes
import Derived.WalkKit
import Derived.ProofKit
import Derived.OpenShut
import Derived.ShutString
import Derived.ChangeOld
import Derived.Below
import Derived.Carry
import Derived.Laws.Rows

/- The model's Replayed: what was done to each shelf, one record after the other (written by rep_s.py); conditions: the sizes. -/
namespace Go.Proofs.YtmooajppfjglaaaGreat
open Go Go.RowKit

theorem Tryz.infoReg9 : (Tryz.prog.info? 40).map (fun i => (i.zero, i.size, i.bytes)) = some (some (.agg #[.int .i64 0, .int .i64 0, .int .i64 0, .slice none 0 0, .slice none 0 0]), 5, 72) := by kernel_rfl
theorem run_make_regs {P : Program} (t e : TypeId) (ht : P.underlying t = some (.slice e)) (hinfo : (P.info? e).map (fun i => (i.zero, i.size, i.bytes)) = some (some (.agg #[.int .i64 0, .int .i64 0, .int .i64 0, .slice none 0 0, .slice none 0 0]), 5, 72))
    (n : Nat) (hn : n ≤ 1048576) (w : World) :
    (Instr.makeSlice t (.int .i64 (n : Int)) (.int .i64 (n : Int))).run P w = .ok (.slice (some ⟨w.heap.size, 0, none⟩) n n) (w.alloc (.cells (madeCells #[.int .i64 0, .int .i64 0, .int .i64 0, .slice none 0 0, .slice none 0 0] (n * 5)) e)) := by
  obtain ⟨i, hi, hzz⟩ := Option.map_eq_some_iff.1 hinfo
  simp only [Prod.mk.injEq] at hzz
  obtain ⟨hz, hs, hb⟩ := hzz
  have hr := run_make (P := P) w t e i _ ht hi hz .i64 .i64 n n (by omega) (Int.le_refl _) (by rw [hb]; omega) (by omega)
  simp only [Int.toNat_natCast, hs] at hr
  exact hr
/-- No shelves at all. -/
theorem regs_none (P : RegD → World → (Nat → Prop) → Value → Prop) (w : World) : RegsOwn P (w.alloc (.cells #[] 40)) w.heap.size w.heap.size [] :=
  ⟨Nat.le_refl _, fun _ _ => False, ⟨⟨#[], Box.new w _ _, rfl, fun i hi => absurd hi (by simp)⟩, fun _ _ _ h => h.elim, fun _ _ _ _ _ _ h => h.elim⟩, fun _ _ _ h => h.elim⟩
/-- What Replayed leaves: shelves of one's own, and a flag. -/
def MadeReps (P : RegD → World → (Nat → Prop) → Value → Prop) (rs : List RegD) (f : Bool) (w : World) (e : Ending) (w' : World) : Prop :=
  ∃ G c, e = .returned (.tuple #[.slice (some ⟨G, 0, none⟩) rs.length c, .bool f]) ∧ RegsOwn P w' G w.heap.size rs ∧ Below w.heap.size w w'
theorem RegsOwn.low {P : RegD → World → (Nat → Prop) → Value → Prop} {w : World} {g lo lo' : Nat} {rs : List RegD} (h : RegsOwn P w g lo rs) (hl : lo' ≤ lo) : RegsOwn P w g lo' rs := by
  obtain ⟨hg, Fs, hR, hF⟩ := h
  exact ⟨by omega, Fs, hR, fun i hi b hb => ⟨by have := (hF i hi b hb).1; omega, (hF i hi b hb).2⟩⟩
theorem regOf_lt {rs : List RegD} {i : Nat} (h : i < rs.length) : regOf rs i = rs[i] := by
  unfold regOf
  rw [List.getD_eq_getElem?_getD, List.getElem?_eq_getElem h]
  rfl

theorem RowF.later {w w' : World} {F : Nat → Prop} {A : Option Addr} {n : Nat} {zs : List Int} (h : RowF w F A n zs) (hb : Below w.heap.size w w') : RowF w' F A n zs := h.turn (T := fun _ => False) (Turns.of_below hb) (fun _ _ h => h)
set_option maxRecDepth 100000 in
set_option maxHeartbeats 16000000 in
theorem specReplayed_is (g : GrpD) (ds : List RecD) (A : Option Addr) (n cap : Nat) (LA : Option Addr) (ln lc : Nat) (w : World) (hm : n ≤ maxLen) (hgr : Row w w.heap.size A n g.zs) (hds : RecsF ds w (· < w.heap.size) LA ln) (htot : totC ds ≤ 1048576) :
    Calls Tryz.prog 14 #[.agg #[.int .i64 g.s, .int .i64 g.l, .int .i64 g.c, .int .i64 g.sh, .slice A n cap], .slice LA ln lc] w (MadeReps AtW (replD g ds).1 (replD g ds).2 w) := by
  have D := Box.new w 26 #[.int .i64 g.s, .int .i64 g.l, .int .i64 g.c, .int .i64 g.sh, .slice A n cap]
  have E := bel_alloc w (.cells #[.int .i64 g.s, .int .i64 g.l, .int .i64 g.c, .int .i64 g.sh, .slice A n cap] 26)
  have HR := Lib.hid (RowF.later hgr.all E)
  have HD := Lib.hid (hds.later E)
  have HM := Lib.hid hm
  have hln := hds.1
  have HT := Lib.hid htot
  have hlnb : ln ≤ 1048576 := by
    have h : ds.length ≤ totC ds := by
      unfold totC
      clear hds htot HD HT hln
      induction ds with
      | nil => exact Nat.zero_le _
      | cons d ds ih => simp only [List.map_cons, List.sum_cons, List.length_cons]; omega
    omega
  have HL := Lib.hid hln
  clear hgr hds hm htot hln
  go_enter Tryz.func14, Tryz.ntmps14
  go_upto_region 1 with fail
  generalize (w.alloc _ : World) = w0 at D E HR HD ⊢
  obtain ⟨g0, g1, g2, g3, g4⟩ := D.five
  rcases hok : okG g with _ | _
  · skip
    have hrep := Lib.hid (show replD g ds = ([], false) from by unfold replD; rw [hok]; rfl)
    have HO := Lib.hid hok
    clear hok
    go_wp2_with fail
    refine (specOkR_is HO.out A n cap w0 HM.out HR.out.1).mono ?_
    rintro e w1 ⟨rfl, hb⟩
    have E1 := bel_trans E hb
    have K := (regs_none AtW w1).low E1.size
    have E2 := bel_trans E1 (bel_alloc w1 (.cells #[] 40))
    go_wp2
    exact bodyPost_ret (v := .tuple #[.slice (some ⟨w1.heap.size, 0, none⟩) 0 0, .bool false]) (by simp [results, Tryz.results14, go_sem]) rfl (by rw [hrep.out]; exact ⟨w1.heap.size, 0, rfl, K, E2⟩)
  obtain ⟨hs1, hs4⟩ := okB_sh hok
  obtain ⟨ns, hns⟩ : ∃ ns : Nat, g.sh = (ns : Int) := ⟨g.sh.toNat, by omega⟩
  have hnn : g.sh.toNat = ns := by omega
  have hns1 : ns ≤ 4 := by omega
  have hmk := fun W => run_make_regs (P := Tryz.prog) 30 40 Tryz.underlying30 Tryz.infoReg9 ns (by omega) W
  have HO := Lib.hid hok
  have HN := Lib.hid hnn
  have HS := Lib.hid hns
  clear hok hnn hns
  go_wp2_with fail
  refine (specOkR_is HO.out A n cap w0 HM.out HR.out.1).mono ?_
  rintro e w1 ⟨rfl, hb⟩
  have E1 := bel_trans E hb
  have D1 := D.later hb D.lt
  have gn3 : w1.cell? ⟨w.heap.size, 3, none⟩ = some (.int .i64 (ns : Int)) := (D1.cell 3).trans (by rw [← HS.out]; rfl)
  replace HR := Lib.hid (RowF.later HR.out hb)
  replace HD := Lib.hid (HD.out.later hb)
  clear g0 g1 g2 g3 g4 hb E D hs1 hs4
  have K0 := (regs_new AtW zeroW w1 ns).low E1.size
  have hb := bel_alloc w1 (.cells (madeCells #[.int .i64 0, .int .i64 0, .int .i64 0, .slice none 0 0, .slice none 0 0] (ns * 5)) 40)
  have D2 := D1.later hb D1.lt
  have E2 := bel_trans E1 hb
  replace HR := Lib.hid (RowF.later HR.out hb)
  replace HD := Lib.hid (HD.out.later hb)
  have hVG : w.heap.size < w1.heap.size := D1.lt
  go_wp2_with fail
  clear gn3 hmk hb D1
  generalize (w1.alloc (.cells (madeCells #[.int .i64 0, .int .i64 0, .int .i64 0, .slice none 0 0, .slice none 0 0] (ns * 5)) 40)) = w2 at K0 D2 E2 HR HD ⊢
  generalize w1.heap.size = G at K0 hVG ⊢
  clear E1
  have hsh : ∀ k, (shelves g (ds.take k)).length = ns := fun k => by rw [shelves_len]; exact HN.out
  go_loopw [7] (fun i wr => ∃ k : Nat, k ≤ ln ∧ i = .int .i64 k ∧ Hid (∀ j, j < k → isAt g ds j = true) ∧ RegsOwn AtW wr G w.heap.size (shelves g (ds.take k)) ∧ w2.grownBy wr (some G)) (fun i _ => ln - (intOf i).toNat)
  case atStart => exact ⟨0, Nat.zero_le _, rfl, Lib.hid (fun j hj => absurd hj (by omega)), by unfold shelves; rw [List.take_zero, List.foldl_nil, HN.out]; exact K0, grown_refl _ _⟩
  case round =>
    clear K0
    obtain ⟨k, hk, rfl, hall, K, hgw⟩ := hrel
    have E := bel_grown E2 hgw (by omega)
    have D := D2.kept hgw (by intro e; injection e with e; omega)
    have TG := Turns.of_grown hgw
    by_cases hlt : k < ln
    · skip
      obtain ⟨b, o, hA, hbF, hbl, hcell⟩ := (HD.out.turn TG (fun b hb e => by omega)).2 (by omega)
      subst hA
      have hkd : k < ds.length := by have := HL.out; omega
      obtain ⟨L, m, mc, hrec, hmm, hps⟩ := hcell k hkd
      clear hcell
      have HRw := Lib.hid (HR.out.turn TG (fun b hb e => by omega)).1
      obtain ⟨d, hd⟩ : ∃ d : RecD, ds[k] = d := ⟨_, rfl⟩
      have hAt := isAt_lt (g := g) hkd
      have htm := totC_mem ds hkd
      have hstep := shelves_snoc g ds hkd
      rw [hd] at hrec hps hAt htm hstep
      have HPw := Lib.hid hps.1
      have hmd : d.ps.length = m := hps.1.1
      have hm4 : m ≤ 4194304 := by have := HT.out; omega
      have HS2 := Lib.hid hstep
      have HA := Lib.hid hAt
      clear hd hmd htm hstep hAt hps
      obtain ⟨c0, c1, c2, c3, c4, c5, c6, c7, c8⟩ := hrec
      have hDl := D.lt
      obtain ⟨e0, e1, e2, e3, e4⟩ := fiveAfter D
      have f0 := After.cell hbl c0
      have f1 := After.cell hbl c1
      have f2 := After.cell hbl c2
      have f3 := After.cell hbl c3
      have f4 := After.cell hbl c4
      have f5 := After.cell hbl c5
      have f6 := After.cell hbl c6
      have f7 := After.cell hbl c7
      have f8 := After.cell hbl c8
      have hltI : (k : Int) < (ln : Int) := by omega
      have hkw : IntKind.i64.wrap ((k : Int) + 1) = (k : Int) + 1 := IntWalk.i64_in _ (by omega)
      go_upto_region 7 with fail
      by_cases hno : d.r1 = (k : Int) + 1
      rotate_left
      · skip
        have hne : (d.r1 != (k : Int) + 1) = true := by simpa using hno
        have hf : isAt g ds k = false := by rw [HA.out]; simp [hno]
        clear hno
        refine wp_region_after (by kernel_rfl) (by kernel_rfl) ?_
        repeat (first | go_big_quiet_step (fail) | quiet_step (fail))
        refine wpQuiet_nil ?_
        intro pw
        have hrep := Lib.hid (show replD g ds = ([], false) from by unfold replD; rw [allAt_false hkd hf, Bool.and_false]; rfl)
        have E3 := bel_trans E pw.bel
        have K3 := (regs_none AtW pw.x).low E3.size
        have E4 := bel_trans E3 (bel_alloc pw.x (.cells #[] 40))
        go_wp2
        exact bodyPost_ret (v := .tuple #[.slice (some ⟨pw.x.heap.size, 0, none⟩) 0 0, .bool false]) (by simp [results, Tryz.results14, go_sem]) rfl (by rw [hrep.out]; exact ⟨pw.x.heap.size, 0, rfl, K3, E4⟩)
      have hne : (d.r1 != (k : Int) + 1) = false := by simpa using hno
      rcases hrb : rokD g d with _ | _
      · skip
        have hf : isAt g ds k = false := by rw [HA.out, hrb, Bool.and_false]
        have HB : Hid (rokB g.s g.l g.c g.sh g.zs d.r1 d.r2 d.r3 d.r4 d.r5 d.r6 d.r7 d.ps d.r8 = false) := Lib.hid hrb
        clear hrb hno
        refine wp_region_after (by kernel_rfl) (by kernel_rfl) ?_
        repeat (first | go_big_quiet_step ((go_at_call 64; exact after_of (specRecOk_is HB.out A n cap L m mc _ HM.out (rowAfter HRw.out _) hm4 (pairsAfter HPw.out _)))) | quiet_step ((go_at_call 64; exact after_of (specRecOk_is HB.out A n cap L m mc _ HM.out (rowAfter HRw.out _) hm4 (pairsAfter HPw.out _)))))
        refine wpQuiet_nil ?_
        intro pw
        have hrep := Lib.hid (show replD g ds = ([], false) from by unfold replD; rw [allAt_false hkd hf, Bool.and_false]; rfl)
        have E3 := bel_trans E pw.bel
        have K3 := (regs_none AtW pw.x).low E3.size
        have E4 := bel_trans E3 (bel_alloc pw.x (.cells #[] 40))
        go_wp2
        exact bodyPost_ret (v := .tuple #[.slice (some ⟨pw.x.heap.size, 0, none⟩) 0 0, .bool false]) (by simp [results, Tryz.results14, go_sem]) rfl (by rw [hrep.out]; exact ⟨pw.x.heap.size, 0, rfl, K3, E4⟩)
      have hf : isAt g ds k = true := by rw [HA.out, hrb]; simp [hno]
      have HB : Hid (rokB g.s g.l g.c g.sh g.zs d.r1 d.r2 d.r3 d.r4 d.r5 d.r6 d.r7 d.ps d.r8 = true) := Lib.hid hrb
      obtain ⟨hr0, hr1, -, hkn⟩ := rok_shelf hrb
      clear hrb hno
      refine wp_region_after (by kernel_rfl) (by kernel_rfl) ?_
      repeat (first | go_big_quiet_step ((go_at_call 64; exact after_of (specRecOk_is HB.out A n cap L m mc _ HM.out (rowAfter HRw.out _) hm4 (pairsAfter HPw.out _)))) | quiet_step ((go_at_call 64; exact after_of (specRecOk_is HB.out A n cap L m mc _ HM.out (rowAfter HRw.out _) hm4 (pairsAfter HPw.out _)))))
      refine wpQuiet_nil ?_
      intro pw
      clear f0 f1 f2 f3 f4 f5 f6 f7 f8 e0 e1 e2 e3 e4 hkw
      have hb := pw.bel
      have hgw3 := grown_trans hgw (grown_bel hb (some G))
      replace K := RegsOwn.later keepsW K hb
      replace D := D.later hb D.lt
      replace E := bel_trans E hb
      replace HRw := Lib.hid (rowAfter HRw.out pw)
      replace HPw := Lib.hid (pairsAfter HPw.out pw)
      have T : ∀ j x, wr.cell? ⟨b, j, none⟩ = some x → pw.x.cell? ⟨b, j, none⟩ = some x := fun j x h => (hb.cell (p := ⟨b, j, none⟩) hbl).trans h
      replace c0 := T _ _ c0
      replace c1 := T _ _ c1
      replace c2 := T _ _ c2
      replace c3 := T _ _ c3
      replace c4 := T _ _ c4
      replace c5 := T _ _ c5
      replace c6 := T _ _ c6
      replace c7 := T _ _ c7
      replace c8 := T _ _ c8
      obtain ⟨i, hi⟩ : ∃ i : Nat, d.r3 = (i : Int) := ⟨d.r3.toNat, by omega⟩
      have hin : i < ns := by have := HS.out; omega
      rw [hi] at c2
      have hbG : b ≠ G := by omega
      clear T hb
      generalize pw.x = w3 at K D E HRw HPw hgw3 c0 c1 c2 c3 c4 c5 c6 c7 c8 ⊢
      have hit : d.r3.toNat = i := by omega
      have hil : i < (shelves g (ds.take k)).length := by rw [hsh]; exact hin
      have hall2 : ∀ j, j < k + 1 → isAt g ds j = true := fun j hj => by
        by_cases e : j = k
        · rw [e]; exact hf
        · exact hall.out j (by omega)
      have hgd : regG g d.r3 ((shelves g (ds.take k))[i]) = true := by rw [hi]; exact good_shelves HO.out k (by omega) hall.out i hil
      have hsz := shelves_sz g ds k (by omega) i
      have htk := totC_take ds k
      rw [regOf_lt hil] at hsz
      have hsn : shelves g (ds.take (k + 1)) = (shelves g (ds.take k)).set i (ontoD g d ((shelves g (ds.take k))[i])) := by rw [HS2.out]; unfold stepR; rw [hit, regOf_lt hil]
      have hs1 : ((shelves g (ds.take k))[i]).ps.length ≤ 2000000 := by have := HT.out; omega
      have hs2 : ((shelves g (ds.take k))[i]).os.length ≤ 2000000 := by have := HT.out; omega
      have HI := Lib.hid hi
      have HSN := Lib.hid hsn
      have HA2 := Lib.hid hall2
      have HIT := Lib.hid hit
      clear hi hsn hall2 hit hf hsz htk hr0 hr1 HA HB hall hgw
      go_upto_region 9 with fail
      refine wp_region_sink 6 (fun w' => Box w' w.heap.size 26 #[.int .i64 g.s, .int .i64 g.l, .int .i64 g.c, .int .i64 g.sh, .slice A n cap] ∧ w'.cell? ⟨b, o + k * 9, none⟩ = some (.int .i64 d.r1) ∧ w'.cell? ⟨b, o + k * 9 + 1, none⟩ = some (.int .i64 d.r2) ∧ w'.cell? ⟨b, o + k * 9 + 2, none⟩ = some (.int .i64 (i : Int)) ∧ w'.cell? ⟨b, o + k * 9 + 3, none⟩ = some (.int .i64 d.r4) ∧ w'.cell? ⟨b, o + k * 9 + 4, none⟩ = some (.int .i64 d.r5) ∧ w'.cell? ⟨b, o + k * 9 + 5, none⟩ = some (.int .i64 d.r6) ∧ w'.cell? ⟨b, o + k * 9 + 6, none⟩ = some (.int .i64 d.r7) ∧ w'.cell? ⟨b, o + k * 9 + 7, none⟩ = some (.slice L m mc) ∧ w'.cell? ⟨b, o + k * 9 + 8, none⟩ = some (.int .i64 d.r8)) (by kernel_rfl) ⟨D, c0, c1, c2, c3, c4, c5, c6, c7, c8⟩ (fun hH => ?_)
      have hb := (Below.refl w3.heap.size w3).drew
      replace K := RegsOwn.later keepsW K hb
      replace E := bel_trans E hb
      replace HRw := Lib.hid ((HRw.out.below hb (Nat.le_refl _)).more hb.size)
      replace HPw := Lib.hid (HPw.out.later hb)
      replace hgw3 := grown_trans hgw3 (grown_bel hb (some G))
      clear hb D c0 c1 c2 c3 c4 c5 c6 c7 c8
      generalize w3.drew = w4 at K E HRw HPw hgw3 hH ⊢
      refine wpAnyE_take (i := 0) (v := .agg #[.int .i64 g.s, .int .i64 g.l, .int .i64 g.c, .int .i64 g.sh, .slice A n cap]) (by simp only [List.getElem?_toArray, List.getElem?_cons_zero]; rfl) (by kernel_rfl) (by kernel_rfl) (by kernel_rfl) (by exact fun _ _ _ h => h) (by kernel_rfl) (Or.inl ⟨by rfl, ?y1⟩) hH ?r1
      case y1 => (intro w' hSw; have hg0 : w'.cell? ⟨w.heap.size, 0, none⟩ = some (.int .i64 g.s) := hSw.1.cell 0; have hg1 : w'.cell? ⟨w.heap.size, 1, none⟩ = some (.int .i64 g.l) := hSw.1.cell 1; have hg2 : w'.cell? ⟨w.heap.size, 2, none⟩ = some (.int .i64 g.c) := hSw.1.cell 2; have hg3 : w'.cell? ⟨w.heap.size, 3, none⟩ = some (.int .i64 g.sh) := hSw.1.cell 3; have hg4 : w'.cell? ⟨w.heap.size, 4, none⟩ = some (.slice A n cap) := hSw.1.cell 4; clear hSw; go_simp; try with_reducible rfl)
      try simp only [Act.put, List.setIfInBounds_toArray, List.set_cons_zero, List.set_cons_succ]
      refine wpAnyE_pure (i := 1) (v := ?vu1) (by simp only [List.getElem?_toArray, List.getElem?_cons_succ, List.getElem?_cons_zero]; rfl) (by kernel_rfl) (by kernel_rfl) (by kernel_rfl) (by exact fun _ _ _ h => h) (by kernel_rfl) (Or.inl ⟨by rfl, ?yu1⟩) hH ?ru1
      case yu1 => (intro w' hSw; (try dsimp only at hSw); go_simp; try with_reducible rfl)
      try simp only [Act.put, List.setIfInBounds_toArray, List.set_cons_zero, List.set_cons_succ]
      refine wpAnyE_pure (i := 2) (v := ?vu2) (by simp only [List.getElem?_toArray, List.getElem?_cons_succ, List.getElem?_cons_zero]; rfl) (by kernel_rfl) (by kernel_rfl) (by kernel_rfl) (by exact fun _ _ _ h => h) (by kernel_rfl) (Or.inl ⟨by rfl, ?yu2⟩) hH ?ru2
      case yu2 => (intro w' hSw; (try dsimp only at hSw); go_simp; try with_reducible rfl)
      try simp only [Act.put, List.setIfInBounds_toArray, List.set_cons_zero, List.set_cons_succ]
      refine wpAnyE_pure (i := 3) (v := ?vu3) (by simp only [List.getElem?_toArray, List.getElem?_cons_succ, List.getElem?_cons_zero]; rfl) (by kernel_rfl) (by kernel_rfl) (by kernel_rfl) (by exact fun _ _ _ h => h) (by kernel_rfl) (Or.inl ⟨by rfl, ?yu3⟩) hH ?ru3
      case yu3 => (intro w' hSw; (try dsimp only at hSw); go_simp; try with_reducible rfl)
      try simp only [Act.put, List.setIfInBounds_toArray, List.set_cons_zero, List.set_cons_succ]
      refine wpAnyE_pure (i := 4) (v := ?vu4) (by simp only [List.getElem?_toArray, List.getElem?_cons_succ, List.getElem?_cons_zero]; rfl) (by kernel_rfl) (by kernel_rfl) (by kernel_rfl) (by exact fun _ _ _ h => h) (by kernel_rfl) (Or.inl ⟨by rfl, ?yu4⟩) hH ?ru4
      case yu4 => (intro w' hSw; (try dsimp only at hSw); go_simp; try with_reducible rfl)
      try simp only [Act.put, List.setIfInBounds_toArray, List.set_cons_zero, List.set_cons_succ]
      refine wpAnyE_take (i := 5) (v := .agg #[.int .i64 d.r1, .int .i64 d.r2, .int .i64 (i : Int), .int .i64 d.r4, .int .i64 d.r5, .int .i64 d.r6, .int .i64 d.r7, .slice L m mc, .int .i64 d.r8]) (by simp only [List.getElem?_toArray, List.getElem?_cons_succ, List.getElem?_cons_zero]; rfl) (by kernel_rfl) (by kernel_rfl) (by kernel_rfl) (by exact fun _ _ _ h => h) (by kernel_rfl) (Or.inl ⟨by rfl, ?y2⟩) hH ?r2
      case y2 => (intro w' hSw; have hc0 : w'.cell? ⟨b, o + k * 9, none⟩ = some (.int .i64 d.r1) := hSw.2.1; have hc1 : w'.cell? ⟨b, o + k * 9 + 1, none⟩ = some (.int .i64 d.r2) := hSw.2.2.1; have hc2 : w'.cell? ⟨b, o + k * 9 + 2, none⟩ = some (.int .i64 (i : Int)) := hSw.2.2.2.1; have hc3 : w'.cell? ⟨b, o + k * 9 + 3, none⟩ = some (.int .i64 d.r4) := hSw.2.2.2.2.1; have hc4 : w'.cell? ⟨b, o + k * 9 + 4, none⟩ = some (.int .i64 d.r5) := hSw.2.2.2.2.2.1; have hc5 : w'.cell? ⟨b, o + k * 9 + 5, none⟩ = some (.int .i64 d.r6) := hSw.2.2.2.2.2.2.1; have hc6 : w'.cell? ⟨b, o + k * 9 + 6, none⟩ = some (.int .i64 d.r7) := hSw.2.2.2.2.2.2.2.1; have hc7 : w'.cell? ⟨b, o + k * 9 + 7, none⟩ = some (.slice L m mc) := hSw.2.2.2.2.2.2.2.2.1; have hc8 : w'.cell? ⟨b, o + k * 9 + 8, none⟩ = some (.int .i64 d.r8) := hSw.2.2.2.2.2.2.2.2.2; clear hSw; go_simp; try with_reducible rfl)
      try simp only [Act.put, List.setIfInBounds_toArray, List.set_cons_zero, List.set_cons_succ]
      refine wpAnyE_last (by kernel_rfl) (by simp only [List.getElem?_toArray, List.getElem?_cons_succ, List.getElem?_cons_zero]; rfl) (by kernel_rfl) (fun K' hK => ?_)
      go_simp
      refine (l9Apply_is g d A n cap L m mc G ns ns w.heap.size (shelves g (ds.take k)) i w4 HI.out hil (hsh k) HM.out HRw.out hm4 HPw.out K hgd hkn hs1 hs2).mono ?_
      rintro e w5 ⟨⟨v, rfl⟩, K5, hg5⟩
      have hgw5 := grown_trans hgw3 hg5
      rw [← HSN.out] at K5
      refine hK.out _ _ ?_
      clear hK K' hH K
      try simp only [Act.put, List.setIfInBounds_toArray, List.set_cons_zero, List.set_cons_succ]
      have hkw : IntKind.i64.wrap ((k : Int) + 1) = (k : Int) + 1 := IntWalk.i64_in _ (by omega)
      go_wp2
      go_roundw
      case rel => exact ⟨k + 1, by omega, by go_num, HA2, K5, hgw5⟩
      case measure => simp [intOf]; omega
    · skip
      have hkn : k = ln := by omega
      subst hkn
      have hrep := Lib.hid (show replD g ds = (shelves g ds, true) from by
        unfold replD
        rw [HO.out, allAt_true (fun j hj => hall.out j (by have := HL.out; omega))]
        rfl)
      have hfull : ds.take k = ds := List.take_of_length_le (by have := HL.out; omega)
      rw [hfull] at K
      have hshl : (shelves g ds).length = ns := by rw [shelves_len]; exact HN.out
      have HSL := Lib.hid hshl
      clear hshl hfull hsh
      go_wp2
      exact bodyPost_ret (v := .tuple #[.slice (some ⟨G, 0, none⟩) ns ns, .bool true]) (by simp [results, Tryz.results14, go_sem]) rfl (by rw [hrep.out]; exact ⟨G, ns, by rw [HSL.out], K, E⟩)

end Go.Proofs.YtmooajppfjglaaaGreat

/- The program's Replayed: a loop over the iterator of the records (written by replay_i.py); conditions: the sizes. -/
namespace Go.Proofs.YtmooajppfjglaaaGreat
open Go Go.RowKit Go.Shelf

attribute [local go_sem] Oper.semAt_some

theorem recsOf_is (g : GrpD) (A : Option Addr) (n cap : Nat) (LA : Option Addr) (ln lc : Nat) (w : World) :
    Calls Tryz.prog 61 #[.agg #[.int .i64 g.s, .int .i64 g.l, .int .i64 g.c, .int .i64 g.sh, .slice A n cap], .slice LA ln lc] w fun e w' => e = .returned (.func (.func 107) #[] #[.pointer (some ⟨w.heap.size + 1, 0, none⟩), .pointer (some ⟨w.heap.size, 0, none⟩)]) ∧ w' = (w.alloc (.cells #[.int .i64 g.s, .int .i64 g.l, .int .i64 g.c, .int .i64 g.sh, .slice A n cap] 26)).alloc (.cells #[.slice LA ln lc] 27) := by
  go_enter Tryz.func61, Tryz.ntmps61
  go_wp2
  go_ret
  exact ⟨by simp, rfl⟩

theorem results_cells2 {P : Program} {fn : Func} {x y : Tmp} {t1 t2 : TypeId} (h : fn.results = #[.cell x t1, .cell y t2]) (tmps : Array Value) (w : World) {a b : Addr} {v1 v2 : Value} (hx : tmps.getD x undef = .pointer (some a)) (hy : tmps.getD y undef = .pointer (some b))
    (h1 : (loadVar t1 a).run P w = .ok v1 w) (h2 : (loadVar t2 b).run P w = .ok v2 w) : (results fn tmps).run P w = .ok (.tuple #[v1, v2]) w := by
  have ex : tmps[x]?.getD undef = .pointer (some a) := by simpa using hx
  have ey : tmps[y]?.getD undef = .pointer (some b) := by simpa using hy
  simp [results, h, ex, ey, asAddr, h1, h2]
theorem load_oneR {w : World} {a : Addr} {v : Value} (hc : w.cell? a = some v) : (loadVar 30 a).run Tryz.prog w = .ok v w := by
  simp [loadVar, isAgg, underlying, Tryz.underlying30, hc, go_sem]
theorem load_oneB {w : World} {a : Addr} {v : Value} (hc : w.cell? a = some v) : (loadVar 4 a).run Tryz.prog w = .ok v w := by
  simp [loadVar, isAgg, underlying, Tryz.underlying4, hc, go_sem]
theorem cell_set_self {w : World} {a : Addr} {u v : Value} (h : w.cell? a = some u) : (w.setCell a v).cell? a = some v := World.cell?_setCell_same' _ _ _ (by rw [h]; rfl)
theorem cell_set_other {w : World} {g g' o o' : Nat} {u v : Value} (h : w.cell? ⟨g, o, none⟩ = some u) (hne : g ≠ g') : (w.setCell ⟨g', o', none⟩ v).cell? ⟨g, o, none⟩ = some u := by
  rw [World.cell?_of_block (Below.heap_setCell w ⟨g', o', none⟩ v g hne)]
  exact h

/-- Between two rounds. -/
structure InvR (g : GrpD) (ds : List RecD) (A : Option Addr) (n cap : Nat) (w : World) (G ns : Nat) (pre : List (Fin ds.length)) (W : World) : Prop where
  D : Box W w.heap.size 26 #[.int .i64 g.s, .int .i64 g.l, .int .i64 g.c, .int .i64 g.sh, .slice A n cap]
  R4 : Box W (w.heap.size + 1) 30 #[.slice none 0 0]
  R5 : Box W (w.heap.size + 1 + 1) 4 #[.bool false]
  R6 : Box W (G + 1) 30 #[.slice (some ⟨G, 0, none⟩) ns ns]
  K : RegsOwn LieE W G G (shI g ds pre)
  all : ∀ k, k ∈ pre → isAt g ds k.val = true
  E : Below w.heap.size w W
theorem InvR.own {g : GrpD} {ds : List RecD} {A : Option Addr} {n cap : Nat} {w : World} {G ns N : Nat} (hN : w.heap.size ≤ N) : OwnFrom N (fun pre W => InvR g ds A n cap w G ns pre W) := fun pre X Y row hs hg hr => by
  have hk := cellsK_own hg (fun r e => (hr r e).2)
  exact ⟨hk.box hs.D, hk.box hs.R4, hk.box hs.R5, hk.box hs.R6, hs.K.cells hk, hs.all, ownFrom_below (β := Unit) (Nat.le_refl _) hN () X Y row hs.E hg hr⟩
theorem InvR.later {g : GrpD} {ds : List RecD} {A : Option Addr} {n cap : Nat} {w : World} {G ns : Nat} {pre : List (Fin ds.length)} {W W' : World} (h : InvR g ds A n cap w G ns pre W) (hb : Below W.heap.size W W') : InvR g ds A n cap w G ns pre W' :=
  ⟨h.D.later hb h.D.lt, h.R4.later hb h.R4.lt, h.R5.later hb h.R5.lt, h.R6.later hb h.R6.lt, RegsOwn.later keepsLE h.K hb, h.all, bel_trans h.E hb⟩
theorem InvR.put {g : GrpD} {ds : List RecD} {A : Option Addr} {n cap : Nat} {w : World} {G ns : Nat} {pre pre' : List (Fin ds.length)} {W W' : World} (h : InvR g ds A n cap w G ns pre W) (ht : Turns (· = G) W W') (hG : w.heap.size + 1 + 1 < G) (hK : RegsOwn LieE W' G G (shI g ds pre')) (hall : ∀ k, k ∈ pre' → isAt g ds k.val = true) : InvR g ds A n cap w G ns pre' W' :=
  ⟨h.D.turn ht (by omega), h.R4.turn ht (by omega), h.R5.turn ht (by omega), h.R6.turn ht (by omega), hK, hall, ht.below h.E (fun i e => by omega)⟩
/-- A round that goes on: what it keeps. -/
theorem turns_row5 (w2 : World) (G : Nat) {o0 o1 o2 o3 o4 : Nat} (x0 x1 x2 x3 x4 : Value) : Turns (· = G) w2 (((((w2.setCell ⟨G, o0, none⟩ x0).setCell ⟨G, o1, none⟩ x1).setCell ⟨G, o2, none⟩ x2).setCell ⟨G, o3, none⟩ x3).setCell ⟨G, o4, none⟩ x4) :=
  ((((turns_cell5 w2 G _ _).trans (turns_cell5 _ G _ _)).trans (turns_cell5 _ G _ _)).trans (turns_cell5 _ G _ _)).trans (turns_cell5 _ G _ _)
/-- A round that left. -/
structure OutR (g : GrpD) (ds : List RecD) (w : World) (W : World) : Prop where
  no : ∃ k : Fin ds.length, isAt g ds k.val = false
  res : ∃ E0, Box W (w.heap.size + 1) 30 #[.slice (some ⟨E0, 0, none⟩) 0 0] ∧ Box W (w.heap.size + 1 + 1) 4 #[.bool false] ∧ RegsOwn LieE W E0 E0 [] ∧ w.heap.size ≤ E0
  E : Below w.heap.size w W
theorem OutR.own {g : GrpD} {ds : List RecD} {w : World} {N : Nat} (hN : w.heap.size ≤ N) {β : Type} (p : β → Prop) : OwnFrom N (fun s W => p s ∧ OutR g ds w W) := fun s X Y row hs hg hr => by
  have hk := cellsK_own hg (fun r e => (hr r e).2)
  obtain ⟨E0, h1, h2, h3, h4⟩ := hs.2.res
  exact ⟨hs.1, hs.2.no, ⟨E0, hk.box h1, hk.box h2, h3.cells hk, h4⟩, ownFrom_below (β := Unit) (Nat.le_refl _) hN () X Y row hs.2.E hg hr⟩
theorem totC_len (ds : List RecD) : ds.length ≤ totC ds := by
  unfold totC
  induction ds with
  | nil => exact Nat.zero_le _
  | cons d ds ih => simp only [List.map_cons, List.sum_cons, List.length_cons]; omega
theorem keepsFrom_below {N : Nat} {W W' : World} (h : Below W.heap.size W W') : KeepsFrom N W W' := ⟨h.size, fun k _ _ hk _ => (h.block k (Array.getElem?_eq_some_iff.1 hk).1).trans hk⟩
/-- The frame in which a round's body runs. -/
def frmR (g : GrpD) (ds : List RecD) (A : Option Addr) (n cap : Nat) (LA : Option Addr) (ln lc : Nat) (L : Nat → Option Addr) (m mc : Nat → Nat) (w : World) (G ns B : Nat) (x : Fin ds.length) (Bx : Nat) : Act :=
  { tmps := #[.agg #[.int .i64 g.s, .int .i64 g.l, .int .i64 g.c, .int .i64 g.sh, .slice A n cap], .slice LA ln lc, .pointer (some ⟨w.heap.size, 0, none⟩), undef, .pointer (some ⟨w.heap.size + 1, 0, none⟩), .pointer (some ⟨w.heap.size + 1 + 1, 0, none⟩), .pointer (some ⟨G + 1, 0, none⟩), .pointer (some ⟨Bx, 0, none⟩), .bool (isAt g ds x.val), .agg #[.int .i64 g.s, .int .i64 g.l, .int .i64 g.c, .int .i64 g.sh, .slice A n cap], .bool true, .bool false, undef, .pointer (some ⟨w.heap.size, 3, none⟩), .int .i64 ns, .slice (some ⟨G, 0, none⟩) ns ns, .agg #[.int .i64 g.s, .int .i64 g.l, .int .i64 g.c, .int .i64 g.sh, .slice A n cap], .slice LA ln lc, .func (.func 107) #[] #[.pointer (some ⟨B + 1, 0, none⟩), .pointer (some ⟨B, 0, none⟩)], .agg (cellsC ds[x.val] (L x.val) (m x.val) (mc x.val)), .bool (isAt g ds x.val), undef, undef, undef, undef, undef, undef, undef, undef, undef, undef, undef, undef, undef, undef, undef, undef], defers := [] }

set_option maxRecDepth 100000 in
set_option maxHeartbeats 16000000 in
theorem replayed_is (g : GrpD) (ds : List RecD) (A : Option Addr) (n cap : Nat) (LA : Option Addr) (ln lc : Nat) (w : World) (hm : n ≤ maxLen) (hgr : Row w w.heap.size A n g.zs) (hds : RecsF ds w (· < w.heap.size) LA ln) (htot : totC ds ≤ 1048576) :
    Calls Tryz.prog 13 #[.agg #[.int .i64 g.s, .int .i64 g.l, .int .i64 g.c, .int .i64 g.sh, .slice A n cap], .slice LA ln lc] w (MadeReps LieE (replD g ds).1 (replD g ds).2 w) := by
  refine (callsIn_wide (n := 3)).1 ?_
  refine callsIn_of_wp_marks Tryz.func13 rfl trivial ?_ rfl
  simp only [Tryz.ntmps13, List.size_toArray, List.length_cons, List.length_nil, Nat.reduceAdd, Nat.reduceSub, Array.replicate_succ, Array.replicate_zero, List.push_toArray, List.append_toArray, List.nil_append, List.cons_append]
  have E := bel_trans (bel_trans (bel_alloc w (.cells #[.int .i64 g.s, .int .i64 g.l, .int .i64 g.c, .int .i64 g.sh, .slice A n cap] 26)) (bel_alloc _ (.cells #[.slice none 0 0] 30))) (bel_alloc _ (.cells #[.bool false] 4))
  have D := ((Box.new w 26 #[.int .i64 g.s, .int .i64 g.l, .int .i64 g.c, .int .i64 g.sh, .slice A n cap]).alloc (.cells #[.slice none 0 0] 30)).alloc (.cells #[.bool false] 4)
  have R4 := (Box.new (w.alloc (.cells #[.int .i64 g.s, .int .i64 g.l, .int .i64 g.c, .int .i64 g.sh, .slice A n cap] 26)) 30 #[.slice none 0 0]).alloc (.cells #[.bool false] 4)
  have R5 := Box.new ((w.alloc (.cells #[.int .i64 g.s, .int .i64 g.l, .int .i64 g.c, .int .i64 g.sh, .slice A n cap] 26)).alloc (.cells #[.slice none 0 0] 30)) 4 #[.bool false]
  simp only [World.size_alloc] at R4 R5
  have HR := Lib.hid (RowF.later hgr.all E)
  have HD := Lib.hid (hds.later E)
  have HM := Lib.hid hm
  have HL := Lib.hid hds.1
  have HT := Lib.hid htot
  have HRW := Lib.hid hgr.all
  obtain ⟨L, m, mc, hVw⟩ := hds.vals
  have HVW := Lib.hid hVw
  clear hgr hds hm htot hVw
  gi_upto_region 1 with fail
  generalize (((w.alloc _).alloc _).alloc _ : World) = w0 at D E R4 R5 HR HD ⊢
  obtain ⟨g0, g1, g2, g3, g4⟩ := D.five
  rcases hok : okG g with _ | _
  · skip
    have hrep := Lib.hid (show replD g ds = ([], false) from by unfold replD; rw [hok]; rfl)
    have HO := Lib.hid hok
    clear hok
    gi_upto_region 2 with (refine ⟨trivial, ?_⟩; gi_at_call 60; refine (callsIn_wide.2 (groupB_is (show okB g.s g.l g.c g.sh g.zs = _ from HO.out) A n cap w0 HM.out HR.out.1)).mono ?_; rintro e w1 ⟨rfl, hb⟩)
    have E1 := bel_trans E hb
    have K := (regs_none LieE w1).low E1.size
    clear g0 g1 g2 g3 g4 D HR HD E
    replace R4 := R4.later hb R4.lt
    replace R5 := R5.later hb R5.lt
    have hz := R5.lt
    clear hb
    have E2 := bel_trans E1 (bel_alloc w1 (.cells #[] 40))
    replace R4 := R4.alloc (.cells #[] 40)
    replace R5 := R5.alloc (.cells #[] 40)
    have f4 := R4.frozen 0
    have f5 := R5.frozen 0
    have c4 : (w1.alloc (.cells #[] 40)).cell? ⟨w.heap.size + 1, 0, none⟩ = some (.slice none 0 0) := R4.cell 0
    have c5 : (w1.alloc (.cells #[] 40)).cell? ⟨w.heap.size + 1 + 1, 0, none⟩ = some (.bool false) := R5.cell 0
    replace K := (regs_none LieE w1)
    gi_wp2
    refine ⟨_, results_cells2 Tryz.results13 _ _ rfl rfl (load_oneR (cell_set_other (cell_set_self c4) (by omega))) (load_oneB (cell_set_self (cell_set_other c5 (by omega)))), ?_⟩
    rw [hrep.out]
    exact ⟨w1.heap.size, 0, rfl, (RegsOwn.turn keepsLE (RegsOwn.turn keepsLE K (turns_cell5 _ (w.heap.size + 1) 0 _) (fun b e => by omega)) (turns_cell5 _ (w.heap.size + 1 + 1) 0 _) (fun b e => by omega)).low E1.size, (turns_cell5 _ (w.heap.size + 1 + 1) 0 _).below ((turns_cell5 _ (w.heap.size + 1) 0 _).below E2 (fun i e => by omega)) (fun i e => by omega)⟩
  obtain ⟨hs1, hs4⟩ := okB_sh hok
  obtain ⟨ns, hns⟩ : ∃ ns : Nat, g.sh = (ns : Int) := ⟨g.sh.toNat, by omega⟩
  have hnn : g.sh.toNat = ns := by omega
  have hns1 : ns ≤ 4 := by omega
  have hmk := fun W => run_make_regs (P := Tryz.prog) 30 40 Tryz.underlying30 Tryz.infoReg9 ns (by omega) W
  have HO := Lib.hid hok
  have HN := Lib.hid hnn
  have HS := Lib.hid hns
  clear hok hnn hns hs1 hs4
  gi_upto_region 3 with (refine ⟨trivial, ?_⟩; gi_at_call 60; refine (callsIn_wide.2 (groupB_is (show okB g.s g.l g.c g.sh g.zs = _ from HO.out) A n cap w0 HM.out HR.out.1)).mono ?_; rintro e w1 ⟨rfl, hb⟩)
  have E1 := bel_trans E hb
  have D1 := D.later hb D.lt
  have gn3 : w1.cell? ⟨w.heap.size, 3, none⟩ = some (.int .i64 (ns : Int)) := (D1.cell 3).trans (by rw [← HS.out]; rfl)
  replace HR := Lib.hid (RowF.later HR.out hb)
  replace HD := Lib.hid (HD.out.later hb)
  replace R4 := R4.later hb R4.lt
  replace R5 := R5.later hb R5.lt
  have hz5 := R5.lt
  clear g0 g1 g2 g3 g4 hb E D
  have K0 := regs_new LieE zeroE w1 ns
  have hb1 := bel_alloc w1 (.cells (madeCells #[.int .i64 0, .int .i64 0, .int .i64 0, .slice none 0 0, .slice none 0 0] (ns * 5)) 40)
  have hb2 := bel_alloc (w1.alloc (.cells (madeCells #[.int .i64 0, .int .i64 0, .int .i64 0, .slice none 0 0, .slice none 0 0] (ns * 5)) 40)) (.cells #[.slice (some ⟨w1.heap.size, 0, none⟩) ns ns] 30)
  have R6 := Box.new (w1.alloc (.cells (madeCells #[.int .i64 0, .int .i64 0, .int .i64 0, .slice none 0 0, .slice none 0 0] (ns * 5)) 40)) 30 #[.slice (some ⟨w1.heap.size, 0, none⟩) ns ns]
  rw [World.size_alloc] at R6
  have K := RegsOwn.later keepsLE K0 hb2
  have hb3 := bel_trans hb1 hb2
  have D2 := D1.later hb3 D1.lt
  have E2 := bel_trans E1 hb3
  replace HR := Lib.hid (RowF.later HR.out hb3)
  replace HD := Lib.hid (HD.out.later hb3)
  replace R4 := R4.later hb3 R4.lt
  replace R5 := R5.later hb3 R5.lt
  have hVG : w.heap.size + 1 + 1 < w1.heap.size := hz5
  gi_upto_region 4 with fail
  clear gn3 hmk hb1 hb2 hb3 D1 K0 E1
  generalize ((w1.alloc (.cells (madeCells #[.int .i64 0, .int .i64 0, .int .i64 0, .slice none 0 0, .slice none 0 0] (ns * 5)) 40)).alloc _ : World) = w2 at K R4 R5 R6 D2 E2 HR HD ⊢
  generalize w1.heap.size = G at K R6 hVG ⊢
  obtain ⟨g0, g1, g2, g3, g4⟩ := D2.five
  gi_wp2_with (refine ⟨trivial, ?_⟩; gi_at_call 61; refine (callsIn_wide.2 (recsOf_is g A n cap LA ln lc _)).mono ?_; rintro e w' ⟨rfl, rfl⟩)
  clear g0 g1 g2 g3 g4
  have hb0 : Below w2.heap.size w2 ((w2.alloc (.cells #[.int .i64 g.s, .int .i64 g.l, .int .i64 g.c, .int .i64 g.sh, .slice A n cap] 26)).alloc (.cells #[.slice LA ln lc] 27)) := bel_trans (bel_alloc w2 (.cells #[.int .i64 g.s, .int .i64 g.l, .int .i64 g.c, .int .i64 g.sh, .slice A n cap] 26)) (bel_alloc (w2.alloc (.cells #[.int .i64 g.s, .int .i64 g.l, .int .i64 g.c, .int .i64 g.sh, .slice A n cap] 26)) (.cells #[.slice LA ln lc] 27))
  have X2 := (Box.new w2 26 #[.int .i64 g.s, .int .i64 g.l, .int .i64 g.c, .int .i64 g.sh, .slice A n cap]).alloc (.cells #[.slice LA ln lc] 27)
  have X1 := Box.new (w2.alloc (.cells #[.int .i64 g.s, .int .i64 g.l, .int .i64 g.c, .int .i64 g.sh, .slice A n cap] 26)) 27 #[.slice LA ln lc]
  rw [World.size_alloc] at X1
  have hGB := R6.lt
  have IV : InvR g ds A n cap w G ns [] w2 := ⟨D2, R4, R5, R6, by unfold shI; rw [List.foldl_nil, HN.out]; exact K, fun k hk => (by cases hk), E2⟩
  replace IV := IV.later hb0
  replace HR := Lib.hid (RowF.later HR.out hb0)
  replace HD := Lib.hid (HD.out.later hb0)
  have hV := HVW.out.turn (T := fun _ => False) (Turns.of_below IV.E) (fun _ _ h => h)
  have hsB := hb0.size
  have hEs := E2.size
  have hx1 := X1.lt
  clear D2 R4 R5 R6 K E2 HD hb0
  generalize (((w2.alloc (.cells #[.int .i64 g.s, .int .i64 g.l, .int .i64 g.c, .int .i64 g.sh, .slice A n cap] 26)).alloc (.cells #[.slice LA ln lc] 27)) : World) = W0 at X1 X2 IV HR hV hsB hx1 ⊢
  generalize w2.heap.size = B at X1 X2 hGB hsB hEs hx1 ⊢
  have hGw : w.heap.size ≤ G := by omega
  have hmk4 : ∀ k, k < ds.length → m k ≤ 4194304 := fun k hk => by
    by_cases h0 : 0 < ln
    · obtain ⟨b, o, -, -, -, hc⟩ := hV.2 h0
      have h1 : (ds[k]).ps.length = m k := (hc k hk).2.2.1.1
      have h2 := totC_mem ds hk
      have h3 := HT.out
      omega
    · have := HL.out
      omega
  have hln : ln ≤ 1048576 := by
    have h := totC_len ds
    have h1 := HL.out
    have h2 := HT.out
    omega
  refine wpIn_rangeFunc_ownH rfl (by decide) (gf := 107) (lb := #[.pointer (some ⟨B + 1, 0, none⟩), .pointer (some ⟨B, 0, none⟩)]) rfl trivial (enters_of Tryz.func107 (by kernel_rfl) rfl)
    (recsIter_stops g ds A n cap LA ln lc L m mc (B + 1) B G W0.heap.size (· < w.heap.size) W0 (by omega) (by omega) (fun b hb => ⟨by omega, by omega⟩) X1 X2 HM.out HR.out hV hln hmk4) (fun h k => h.trans k) (fun W l o o' hl h hc _ => keepC_put W l o o' hl h hc) (Below.refl _ _) (fun _ => rfl)
    (fun pre W => InvR g ds A n cap w G ns pre W) (fun c _ W => c = .ret ∧ OutR g ds w W) (InvR.own (by omega)) (fun c => OutR.own (by omega) (fun _ => c = .ret)) IV
    (fun x a' W => ∃ Bx, G + 1 < Bx ∧ Box W Bx 42 (cellsC ds[x.val] (L x.val) (m x.val) (mc x.val)) ∧ a' = frmR g ds A n cap LA ln lc L m mc w G ns B x Bx)
    (fun x a' _ X Y row hs hg hr => by obtain ⟨Bx, h1, h2, h3⟩ := hs; exact ⟨Bx, h1, (cellsK_own hg (fun r e => (hr r e).2)).box h2, h3⟩)
    ?assign ?body ?done ?stop
  case assign =>
    rintro l pre x W K hi hK
    simp only [encC]
    have ZB := Box.new W 42 #[.int .i64 0, .int .i64 0, .int .i64 0, .int .i64 0, .int .i64 0, .int .i64 0, .int .i64 0, .slice none 0 0, .int .i64 0]
    have hn := bel_new_row W #[.int .i64 0, .int .i64 0, .int .i64 0, .int .i64 0, .int .i64 0, .int .i64 0, .int .i64 0, .slice none 0 0, .int .i64 0] 42 (cellsC ds[x.val] (L x.val) (m x.val) (mc x.val))
    have X := (Box.new W 42 #[.int .i64 0, .int .i64 0, .int .i64 0, .int .i64 0, .int .i64 0, .int .i64 0, .int .i64 0, .slice none 0 0, .int .i64 0]).setRow (cellsC ds[x.val] (L x.val) (m x.val) (mc x.val))
    have hlt := hi.R6.lt
    gi_wp2_with (refine wpListIn_store_row (fun _ => trivial) rfl 42 _ _ rfl W.heap.size (cellsC ds[x.val] (L x.val) (m x.val) (mc x.val)) rfl rfl 42 #[.int .i64 0, .int .i64 0, .int .i64 0, .int .i64 0, .int .i64 0, .int .i64 0, .int .i64 0, .slice none 0 0, .int .i64 0] ZB (by kernel_rfl) rfl (by simp [cellsC, Value.oneCell']) ?_)
    exact hK _ _ (keepsFrom_below hn) (KeepC.of_below hn) (hi.later hn) ⟨W.heap.size, hlt, X, rfl⟩
  case body =>
    rintro l pre x a' W hl - hi ⟨Bx, hBx, bX, rfl⟩ hlt
    unfold frmR
    obtain ⟨z, hz⟩ : ∃ z, isAt g ds x.val = z := ⟨_, rfl⟩
    rw [hz]
    rcases z with _ | _
    · skip
      have R4 := hi.R4.alloc (.cells #[] 40)
      have R5 := hi.R5.alloc (.cells #[] 40)
      have f4 := R4.frozen 0
      have f5 := R5.frozen 0
      have c4 : (W.alloc (.cells #[] 40)).cell? ⟨w.heap.size + 1, 0, none⟩ = some (.slice none 0 0) := R4.cell 0
      have c5 : (W.alloc (.cells #[] 40)).cell? ⟨w.heap.size + 1 + 1, 0, none⟩ = some (.bool false) := R5.cell 0
      have HI := Lib.hid hi
      have HZ := Lib.hid hz
      have hz5 := hi.R5.lt
      clear hi hz
      gi_wp2
      have hb := bel_alloc W (.cells #[] 40)
      have t1 := turns_cell5 (W.alloc (.cells #[] 40)) (w.heap.size + 1) 0 (.slice (some ⟨W.heap.size, 0, none⟩) 0 0)
      have t2 := turns_cell5 ((W.alloc (.cells #[] 40)).setCell ⟨w.heap.size + 1, 0, none⟩ (.slice (some ⟨W.heap.size, 0, none⟩) 0 0)) (w.heap.size + 1 + 1) 0 (.bool false)
      refine ⟨((keepsFrom_below hb).trans ((KeepsOthers.setCell _ _ _).from _)).trans ((KeepsOthers.setCell _ _ _).from _), rfl, ⟨⟨x, HZ.out⟩, ⟨W.heap.size, ?_, ?_, ?_, ?_⟩, ?_⟩⟩
      · exact (R4.set 0 (.slice (some ⟨W.heap.size, 0, none⟩) 0 0)).turn t2 (by omega)
      · exact (R5.turn t1 (by omega)).set 0 (.bool false)
      · exact RegsOwn.turn keepsLE (RegsOwn.turn keepsLE (regs_none LieE W) t1 (fun b e => by omega)) t2 (fun b e => by omega)
      · exact HI.out.E.size
      · exact t2.below (t1.below (bel_trans HI.out.E hb) (fun i e => by omega)) (fun i e => by omega)
    have hAt := isAt_lt (g := g) x.isLt
    have hVx := HVW.out.2 (by have := x.isLt; have := HL.out; omega)
    obtain ⟨b, o, -, -, -, hcell⟩ := hVx
    obtain ⟨-, -, hps⟩ := hcell x.val x.isLt
    clear hcell
    have hsz := shI_sz g ds (M := 1048576) (fun k hk => by have := totC_mem ds hk; have := HT.out; omega) pre
    have hmx := hmk4 x.val x.isLt
    have hsn := shI_snoc g ds pre x
    obtain ⟨d, hd⟩ : ∃ d : RecD, ds[x.val] = d := ⟨_, rfl⟩
    rw [hd] at hAt hps hsn bX ⊢
    obtain ⟨Lk, hLk⟩ : ∃ y, L x.val = y := ⟨_, rfl⟩
    obtain ⟨mk, hmkk⟩ : ∃ y, m x.val = y := ⟨_, rfl⟩
    obtain ⟨mck, hmck⟩ : ∃ y, mc x.val = y := ⟨_, rfl⟩
    rw [hLk, hmkk] at hps
    rw [hLk, hmkk, hmck] at bX ⊢
    rw [hmkk] at hmx
    rw [hz] at hAt
    have hrk : rokD g d = true := by
      have h := hAt.symm
      rw [Bool.and_eq_true] at h
      exact h.2
    obtain ⟨hr0, hr1, -, -⟩ := rok_shelf hrk
    obtain ⟨i, hi3⟩ : ∃ i : Nat, d.r3 = (i : Int) := ⟨d.r3.toNat, by omega⟩
    have hin : i < ns := by have := HS.out; omega
    have hit : d.r3.toNat = i := by omega
    have hil : i < (shI g ds pre).length := by rw [shI_len, HN.out]; exact hin
    replace hsz := hsz i
    rw [regOf_lt hil] at hsz
    unfold stepR at hsn
    rw [hit, regOf_lt hil] at hsn
    have hpl : pre.length ≤ 1048576 := by have := HL.out; omega
    obtain ⟨r, hr⟩ : ∃ r : RegD, (shI g ds pre)[i] = r := ⟨_, rfl⟩
    rw [hr] at hsz hsn
    obtain ⟨u0, v0, c0, c1, c2, c3, c4, hA⟩ := hreg keepsLE hi.K hil
    rw [hr] at c0 c1 c2 hA
    obtain ⟨P, p, pc, Q, q, qc, rfl, rfl, hS1, hS2, hl1, hl2⟩ := hA.slc
    unfold cellsC at bX ⊢
    rw [hi3] at bX ⊢
    have HPw := Lib.hid (hps.1.later hi.E)
    have HRx := Lib.hid ((RowF.later HRW.out hi.E)).1
    have HI := Lib.hid hi
    have HSN := Lib.hid hsn
    have HSZ := Lib.hid hsz
    have HI3 := Lib.hid hi3
    have HZ := Lib.hid hz
    have HS1 := Lib.hid hS1
    have HS2 := Lib.hid hS2
    have HL1 := Lib.hid hl1
    have HL2 := Lib.hid hl2
    have hltI : (i : Int) < (ns : Int) := by omega
    have S6 := hi.R6
    have SD := hi.D
    clear hi hsn hsz hi3 hz hS1 hS2 hl1 hl2 hA hd hLk hmkk hmck hps hr0 hr1 hit hAt hrk hr
    gi_upto_region 9 with fail
    have hb := (Below.refl W.heap.size W).drew
    have hgG : G < W.heap.size := by have := S6.lt; omega
    refine wpIn_region_sink 12 (fun w' => Box w' Bx 42 #[.int .i64 d.r1, .int .i64 d.r2, .int .i64 (i : Int), .int .i64 d.r4, .int .i64 d.r5, .int .i64 d.r6, .int .i64 d.r7, .slice Lk mk mck, .int .i64 d.r8] ∧ Box w' w.heap.size 26 #[.int .i64 g.s, .int .i64 g.l, .int .i64 g.c, .int .i64 g.sh, .slice A n cap] ∧ Box w' (G + 1) 30 #[.slice (some ⟨G, 0, none⟩) ns ns] ∧ w'.cell? ⟨G, i * 5, none⟩ = some (.int .i64 r.t) ∧ w'.cell? ⟨G, i * 5 + 1, none⟩ = some (.int .i64 r.q) ∧ w'.cell? ⟨G, i * 5 + 2, none⟩ = some (.int .i64 r.v) ∧ w'.cell? ⟨G, i * 5 + 3, none⟩ = some (.slice P p pc) ∧ w'.cell? ⟨G, i * 5 + 4, none⟩ = some (.slice Q q qc)) (by kernel_rfl) ⟨bX.later hb bX.lt, SD.later hb SD.lt, S6.later hb S6.lt, c0, c1, c2, c3, c4⟩ (fun hH => ?_)
    have HB := Lib.hid hb
    replace HI := Lib.hid (HI.out.later hb)
    replace HPw := Lib.hid (HPw.out.later hb)
    replace HRx := Lib.hid ((HRx.out.below hb (Nat.le_refl _)).more hb.size)
    replace HS1 := Lib.hid (HS1.out.later hb)
    replace HS2 := Lib.hid (HS2.out.later hb)
    clear hb bX SD S6 c0 c1 c2 c3 c4
    generalize W.drew = w3 at HI HB HPw HRx HS1 HS2 hH ⊢
    refine wpAnyEI_takeP [] (plain_of (fun _ => trivial) (by kernel_rfl)) (i := 0) (v := .slice (some ⟨G, 0, none⟩) ns ns) (by simp only [List.getElem?_toArray, List.getElem?_cons_zero]; rfl) (by kernel_rfl) (by kernel_rfl) (by kernel_rfl) (by exact fun _ _ _ h => h) (by kernel_rfl) (Or.inl ⟨(by first | rfl | simp [Region.wanted, yielded] | (simp [Region.wanted, yielded, Act.put] <;> omega)), ?y0⟩) hH ?_
    case y0 => (intro w' hSw; have h0 : w'.cell? ⟨G + 1, 0, none⟩ = some (.slice (some ⟨G, 0, none⟩) ns ns) := hSw.2.2.1.cell 0; clear hSw; go_simp; try with_reducible rfl)
    try simp only [Act.put, List.setIfInBounds_toArray, List.set_cons_zero, List.set_cons_succ]
    refine wpAnyEI_pure (plain_of (fun _ => trivial) (by kernel_rfl)) (i := 1) (v := ?vu1_1) (by simp only [List.getElem?_toArray, List.getElem?_cons_succ, List.getElem?_cons_zero]; rfl) (by kernel_rfl) (by kernel_rfl) (by kernel_rfl) (by exact fun _ _ _ h => h) (by kernel_rfl) (Or.inl ⟨by rfl, ?yu1_1⟩) hH ?_
    case yu1_1 => (intro w' hSw; (try dsimp only at hSw); clear hSw; go_simp; try with_reducible rfl)
    try simp only [Act.put, List.setIfInBounds_toArray, List.set_cons_zero, List.set_cons_succ]
    refine wpAnyEI_takeP [] (plain_of (fun _ => trivial) (by kernel_rfl)) (i := 2) (v := .int .i64 (i : Int)) (by simp only [List.getElem?_toArray, List.getElem?_cons_succ, List.getElem?_cons_zero]; rfl) (by kernel_rfl) (by kernel_rfl) (by kernel_rfl) (by exact fun _ _ _ h => h) (by kernel_rfl) (Or.inl ⟨(by first | rfl | simp [Region.wanted, yielded] | (simp [Region.wanted, yielded, Act.put] <;> omega)), ?y2⟩) hH ?_
    case y2 => (intro w' hSw; have h2 : w'.cell? ⟨Bx, 2, none⟩ = some (.int .i64 (i : Int)) := hSw.1.cell 2; clear hSw; go_simp; try with_reducible rfl)
    try simp only [Act.put, List.setIfInBounds_toArray, List.set_cons_zero, List.set_cons_succ]
    refine wpAnyEI_takeP [] (plain_of (fun _ => trivial) (by kernel_rfl)) (i := 3) (v := .agg #[.int .i64 d.r1, .int .i64 d.r2, .int .i64 (i : Int), .int .i64 d.r4, .int .i64 d.r5, .int .i64 d.r6, .int .i64 d.r7, .slice Lk mk mck, .int .i64 d.r8]) (by simp only [List.getElem?_toArray, List.getElem?_cons_succ, List.getElem?_cons_zero]; rfl) (by kernel_rfl) (by kernel_rfl) (by kernel_rfl) (by exact fun _ _ _ h => h) (by kernel_rfl) ?y3 hH ?_
    case y3 => exact yields_box 42 _ rfl (Bx) rfl 42 #[.int .i64 d.r1, .int .i64 d.r2, .int .i64 (i : Int), .int .i64 d.r4, .int .i64 d.r5, .int .i64 d.r6, .int .i64 d.r7, .slice Lk mk mck, .int .i64 d.r8] (fun _ h => h.1) _ Tryz.underlying42 rfl (by kernel_rfl) (by first | rfl | simp [Region.wanted, yielded] | (simp [Region.wanted, yielded, Act.put] <;> omega))
    try simp only [Act.put, List.setIfInBounds_toArray, List.set_cons_zero, List.set_cons_succ]
    refine wpAnyEI_takeP [] (plain_of (fun _ => trivial) (by kernel_rfl)) (i := 4) (v := .agg #[.int .i64 g.s, .int .i64 g.l, .int .i64 g.c, .int .i64 g.sh, .slice A n cap]) (by simp only [List.getElem?_toArray, List.getElem?_cons_succ, List.getElem?_cons_zero]; rfl) (by kernel_rfl) (by kernel_rfl) (by kernel_rfl) (by exact fun _ _ _ h => h) (by kernel_rfl) ?y4 hH ?_
    case y4 => exact yields_box 26 _ rfl (w.heap.size) rfl 26 #[.int .i64 g.s, .int .i64 g.l, .int .i64 g.c, .int .i64 g.sh, .slice A n cap] (fun _ h => h.2.1) _ Tryz.underlying26 rfl (by kernel_rfl) (by first | rfl | simp [Region.wanted, yielded] | (simp [Region.wanted, yielded, Act.put] <;> omega))
    try simp only [Act.put, List.setIfInBounds_toArray, List.set_cons_zero, List.set_cons_succ]
    refine wpAnyEI_takeP [] (plain_of (fun _ => trivial) (by kernel_rfl)) (i := 5) (v := .slice (some ⟨G, 0, none⟩) ns ns) (by simp only [List.getElem?_toArray, List.getElem?_cons_succ, List.getElem?_cons_zero]; rfl) (by kernel_rfl) (by kernel_rfl) (by kernel_rfl) (by exact fun _ _ _ h => h) (by kernel_rfl) (Or.inl ⟨(by first | rfl | simp [Region.wanted, yielded] | (simp [Region.wanted, yielded, Act.put] <;> omega)), ?y5⟩) hH ?_
    case y5 => (intro w' hSw; have h0 : w'.cell? ⟨G + 1, 0, none⟩ = some (.slice (some ⟨G, 0, none⟩) ns ns) := hSw.2.2.1.cell 0; clear hSw; go_simp; try with_reducible rfl)
    try simp only [Act.put, List.setIfInBounds_toArray, List.set_cons_zero, List.set_cons_succ]
    refine wpAnyEI_pure (plain_of (fun _ => trivial) (by kernel_rfl)) (i := 6) (v := ?vu6_2) (by simp only [List.getElem?_toArray, List.getElem?_cons_succ, List.getElem?_cons_zero]; rfl) (by kernel_rfl) (by kernel_rfl) (by kernel_rfl) (by exact fun _ _ _ h => h) (by kernel_rfl) (Or.inl ⟨by rfl, ?yu6_2⟩) hH ?_
    case yu6_2 => (intro w' hSw; (try dsimp only at hSw); clear hSw; go_simp; try with_reducible rfl)
    try simp only [Act.put, List.setIfInBounds_toArray, List.set_cons_zero, List.set_cons_succ]
    refine wpAnyEI_takeP [] (plain_of (fun _ => trivial) (by kernel_rfl)) (i := 7) (v := .int .i64 (i : Int)) (by simp only [List.getElem?_toArray, List.getElem?_cons_succ, List.getElem?_cons_zero]; rfl) (by kernel_rfl) (by kernel_rfl) (by kernel_rfl) (by exact fun _ _ _ h => h) (by kernel_rfl) (Or.inl ⟨(by first | rfl | simp [Region.wanted, yielded] | (simp [Region.wanted, yielded, Act.put] <;> omega)), ?y7⟩) hH ?_
    case y7 => (intro w' hSw; have h2 : w'.cell? ⟨Bx, 2, none⟩ = some (.int .i64 (i : Int)) := hSw.1.cell 2; clear hSw; go_simp; try with_reducible rfl)
    try simp only [Act.put, List.setIfInBounds_toArray, List.set_cons_zero, List.set_cons_succ]
    refine wpAnyEI_pure (plain_of (fun _ => trivial) (by kernel_rfl)) (i := 8) (v := ?vu8_3) (by simp only [List.getElem?_toArray, List.getElem?_cons_succ, List.getElem?_cons_zero]; rfl) (by kernel_rfl) (by kernel_rfl) (by kernel_rfl) (by exact fun _ _ _ h => h) (by kernel_rfl) (Or.inl ⟨by rfl, ?yu8_3⟩) hH ?_
    case yu8_3 => (intro w' hSw; (try dsimp only at hSw); clear hSw; go_simp; try with_reducible rfl)
    try simp only [Act.put, List.setIfInBounds_toArray, List.set_cons_zero, List.set_cons_succ]
    refine wpAnyEI_takeP [] (plain_of (fun _ => trivial) (by kernel_rfl)) (i := 9) (v := .agg #[.int .i64 r.t, .int .i64 r.q, .int .i64 r.v, .slice P p pc, .slice Q q qc]) (by simp only [List.getElem?_toArray, List.getElem?_cons_succ, List.getElem?_cons_zero]; rfl) (by kernel_rfl) (by kernel_rfl) (by kernel_rfl) (by exact fun _ _ _ h => h) (by kernel_rfl) (Or.inl ⟨(by first | rfl | simp [Region.wanted, yielded] | (simp [Region.wanted, yielded, Act.put] <;> omega)), ?y9⟩) hH ?_
    case y9 => (intro w' hSw; have k0 := hSw.2.2.2.1; have k1 := hSw.2.2.2.2.1; have k2 := hSw.2.2.2.2.2.1; have k3 := hSw.2.2.2.2.2.2.1; have k4 := hSw.2.2.2.2.2.2.2; clear hSw; go_simp; try with_reducible rfl)
    try simp only [Act.put, List.setIfInBounds_toArray, List.set_cons_zero, List.set_cons_succ]
    refine wpAnyEI_one (i := 10) (by kernel_rfl) (by simp only [List.getElem?_toArray, List.getElem?_cons_succ, List.getElem?_cons_zero]; rfl) (fun K' hK => ?_)
    have HH := Lib.hid hH
    clear hH
    have HON := Lib.hid (onto_is g d r A n cap Lk mk mck P p pc Q q qc w3 HM.out HRx.out hmx HPw.out HS1.out HS2.out (by have := HSZ.out; omega) (by have := HSZ.out; omega) HL1.out HL2.out)
    replace HON := Lib.hid (HI3.out ▸ HON.out)
    go_simp
    refine ⟨trivial, ?_⟩
    refine (CallsIn.inRound l (callsIn_wide.2 HON.out)).mono ?_
    rintro e w4 ⟨u', v', rfl, hL, hb⟩
    obtain ⟨DD, hDD⟩ : ∃ DD : RegD, ontoD g d r = DD := ⟨_, rfl⟩
    replace HSN := HSN.out
    rw [hDD] at hL HSN ⊢
    replace HSN := Lib.hid HSN
    clear hDD HON
    have hL := hL.lieE
    obtain ⟨A1, n1, c1', A2, n2', c2', rfl, rfl, -, -, -, -⟩ := hL.slc
    have K4 := Lib.hid (RegsOwn.put keepsLE HI.out.K hb hil hL)
    have fG : ∀ o, w4.frozen? ⟨G, o, none⟩ = false := by
      obtain ⟨_, Fs, h, _⟩ := RegsOwn.later keepsLE HI.out.K hb
      exact h.frozen
    have hG3 : G < w3.heap.size := by have := HB.out.size; omega
    have hcG : ∀ o y, w3.cell? ⟨G, o, none⟩ = some y → w4.cell? ⟨G, o, none⟩ = some y := fun o y h => (hb.cell (p := ⟨G, o, none⟩) hG3).trans h
    obtain ⟨q1, q2, q3, q4, q5, q6, q7, q8⟩ := HH.out
    have n0 := hcG _ _ q4
    have n1 := hcG _ _ q5
    have n2 := hcG _ _ q6
    have n3 := hcG _ _ q7
    have n4 := hcG _ _ q8
    have hI4 := Lib.hid (InvR.later HI.out hb)
    have hBW := Lib.hid (bel_trans HB.out hb)
    refine hK.out _ _ ⟨q1.later hb q1.lt, q2.later hb q2.lt, q3.later hb q3.lt, n0, n1, n2, n3, n4⟩ (fun hH => ?_)
    clear hK K' HH hb hcG q1 q2 q3 q4 q5 q6 q7 q8 hL HI HB
    try simp only [Act.put, List.setIfInBounds_toArray, List.set_cons_zero, List.set_cons_succ]
    refine wpAnyEI_pure (plain_of (fun _ => trivial) (by kernel_rfl)) (i := 11) (v := ?vu11_4) (by simp only [List.getElem?_toArray, List.getElem?_cons_succ, List.getElem?_cons_zero]; rfl) (by kernel_rfl) (by kernel_rfl) (by kernel_rfl) (by exact fun _ _ _ h => h) (by kernel_rfl) (Or.inl ⟨by rfl, ?yu11_4⟩) hH ?_
    case yu11_4 => (intro w' hSw; (try dsimp only at hSw); clear hSw; go_simp; try with_reducible rfl)
    try simp only [Act.put, List.setIfInBounds_toArray, List.set_cons_zero, List.set_cons_succ]
    refine wpAnyEI_last (by kernel_rfl) (by simp only [List.getElem?_toArray, List.getElem?_cons_succ, List.getElem?_cons_zero]; rfl) (by kernel_rfl) (fun K' hK => ?_)
    go_simp
    refine hK.out _ _ ?_
    clear hK K' hH
    try simp only [Act.put, List.setIfInBounds_toArray, List.set_cons_zero, List.set_cons_succ]
    clear n0 n1 n2 n3 n4 fG
    gi_wp2
    refine ⟨KeepsFrom.of_grownBy (grownG5 hBW.out G _ _ _ _ _) (fun j e => by cases e; omega), (KeepC.of_below hBW.out).trans (KeepC.of_turns (turns_row5 w4 G _ _ _ _ _) (fun i e => e)), hI4.out.put (turns_row5 w4 G _ _ _ _ _) hVG (by rw [HSN.out]; exact K4.out) (fun k hk => ?_)⟩
    rcases List.mem_append.1 hk with hk | hk
    · exact hI4.out.all k hk
    · rw [List.mem_singleton] at hk
      rw [hk]
      exact HZ.out
  case done =>
    rintro D' xs W hD rfl hi hK
    have c4 : W.cell? ⟨w.heap.size + 1, 0, none⟩ = some (.slice none 0 0) := hi.R4.cell 0
    have c5 : W.cell? ⟨w.heap.size + 1 + 1, 0, none⟩ = some (.bool false) := hi.R5.cell 0
    have f4 := hi.R4.frozen 0
    have f5 := hi.R5.frozen 0
    have c6 : W.cell? ⟨G + 1, 0, none⟩ = some (.slice (some ⟨G, 0, none⟩) ns ns) := hi.R6.cell 0
    have HI := Lib.hid hi
    have HK := Lib.hid hK
    clear hi hK
    gi_wp2
    have hK1 := (((KeepsOthers.setCell W ⟨w.heap.size + 1, 0, none⟩ (.slice (some ⟨G, 0, none⟩) ns ns)).trans (KeepsOthers.setCell _ ⟨w.heap.size + 1 + 1, 0, none⟩ (.bool true)))).same _ _ HK.out rfl
    refine ⟨by simp, .inl ⟨_, _, rfl, run_takeDeferred hK1, ?_⟩⟩
    have hg := grownBy_putObj' ((W.setCell ⟨w.heap.size + 1, 0, none⟩ (.slice (some ⟨G, 0, none⟩) ns ns)).setCell ⟨w.heap.size + 1 + 1, 0, none⟩ (.bool true)) D' (.deferred none)
    have hk := cellsK_own hg (fun r e => by cases e; exact ⟨_, hK1, rfl⟩)
    refine ⟨_, results_cells2 Tryz.results13 _ _ rfl rfl (load_oneR (hk.cell (cell_set_other (cell_set_self c4) (by omega)))) (load_oneB (hk.cell (cell_set_self (cell_set_other c5 (by omega))))), ?_⟩
    have hrep : replD g ds = (shelves g ds, true) := by
      unfold replD
      rw [HO.out, allAt_true (fun i hi => HI.out.all ⟨i, hi⟩ (List.mem_finRange _))]
      rfl
    have hsl : (shelves g ds).length = ns := by rw [shelves_len]; exact HN.out
    rw [hrep]
    have K1 := HI.out.K
    rw [shI_all] at K1
    have K2 := (RegsOwn.turn keepsLE (RegsOwn.turn keepsLE K1 (turns_cell5 _ (w.heap.size + 1) 0 (.slice (some ⟨G, 0, none⟩) ns ns)) (fun b e => by omega)) (turns_cell5 _ (w.heap.size + 1 + 1) 0 (.bool true)) (fun b e => by omega)).cells hk
    have hB := (turns_cell5 _ (w.heap.size + 1 + 1) 0 (.bool true)).below ((turns_cell5 W (w.heap.size + 1) 0 (.slice (some ⟨G, 0, none⟩) ns ns)).below HI.out.E (fun i e => by omega)) (fun i e => by omega)
    exact ⟨G, ns, by rw [hsl], K2.low hGw, hB.grown hg hB.size (fun k e => by cases e; omega)⟩
  case stop =>
    rintro D' c pre W hD hS ⟨rfl, ho⟩ hK
    gi_wp2
    refine ⟨by simp, .inl ⟨_, _, rfl, run_takeDeferred hK, ?_⟩⟩
    have hg := grownBy_putObj' W D' (.deferred none)
    have hk := cellsK_own hg (fun r e => by cases e; exact ⟨_, hK, rfl⟩)
    obtain ⟨E0, h1, h2, h3, h4⟩ := ho.res
    refine ⟨_, results_cells2 Tryz.results13 _ _ rfl rfl (load_oneR (hk.cell (h1.cell 0))) (load_oneB (hk.cell (h2.cell 0))), ?_⟩
    obtain ⟨k, hk0⟩ := ho.no
    have hrep : replD g ds = ([], false) := by unfold replD; rw [allAt_false k.isLt hk0, Bool.and_false]; rfl
    rw [hrep]
    exact ⟨E0, 0, rfl, (h3.cells hk).low h4, ho.E.grown hg ho.E.size (fun k e => by cases e; omega)⟩
end Go.Proofs.YtmooajppfjglaaaGreat

/- Both Replayed as a law meets them: over a copy of a group and a list of records, read; conditions: the sizes. -/
namespace Go.Proofs.YtmooajppfjglaaaGreat
open Go Go.RowKit

theorem specReplayed8_is {g : GrpD} {ds : List RecD} {w : World} {F0 : Nat → Prop} {C0 : Array Value} {LA : Option Addr} {ln lc : Nat} (h0 : AtG g w F0 (.agg C0)) (h1 : RecsF ds w (· < w.heap.size) LA ln) (hz : totC ds ≤ 1048576) :
    Calls Tryz.prog 14 #[.agg C0, .slice LA ln lc] w (MadeReps AtW (replD g ds).1 (replD g ds).2 w) := by
  obtain ⟨A, n, cap, e0, m0, hr⟩ := h0
  injection e0 with e0
  subst e0
  exact specReplayed_is g ds A n cap LA ln lc w m0 hr.1 h1 hz
theorem replayed8_is {g : GrpD} {ds : List RecD} {w : World} {F0 : Nat → Prop} {C0 : Array Value} {LA : Option Addr} {ln lc : Nat} (h0 : AtG g w F0 (.agg C0)) (h1 : RecsF ds w (· < w.heap.size) LA ln) (hz : totC ds ≤ 1048576) :
    Calls Tryz.prog 13 #[.agg C0, .slice LA ln lc] w (MadeReps LieE (replD g ds).1 (replD g ds).2 w) := by
  obtain ⟨A, n, cap, e0, m0, hr⟩ := h0
  injection e0 with e0
  subst e0
  exact replayed_is g ds A n cap LA ln lc w m0 hr.1 h1 hz
end Go.Proofs.YtmooajppfjglaaaGreat

/- Which of the loose records are left: lists of bools read, the library's Index, leftOf; conditions: the sizes. -/
namespace Go.Proofs.YtmooajppfjglaaaGreat
open Go Go.RowKit

/-- A list of bools in memory, read through blocks of F. -/
def BoolF (w : World) (F : Nat → Prop) (A : Option Addr) (n : Nat) (bs : List Bool) : Prop :=
  bs.length = n ∧ (0 < n → ∃ b o, A = some ⟨b, o, none⟩ ∧ F b ∧ b < w.heap.size ∧ ∀ i (h : i < bs.length), w.cell? ⟨b, o + i, none⟩ = some (.bool bs[i]))
theorem BoolF.turn {T : Nat → Prop} {w w' : World} {F : Nat → Prop} {A : Option Addr} {n : Nat} {bs : List Bool} (h : BoolF w F A n bs) (ht : Turns T w w') (hd : ∀ b, F b → ¬ T b) : BoolF w' F A n bs := by
  refine ⟨h.1, fun hn => ?_⟩
  obtain ⟨b, o, hA, hF, hb, hc⟩ := h.2 hn
  exact ⟨b, o, hA, hF, Nat.lt_of_lt_of_le hb ht.size, fun i hi => (ht.cell hb (hd b hF) _).trans (hc i hi)⟩
theorem BoolF.later {w w' : World} {F : Nat → Prop} {A : Option Addr} {n : Nat} {bs : List Bool} (h : BoolF w F A n bs) (hb : Below w.heap.size w w') : BoolF w' F A n bs := h.turn (T := fun _ => False) (Turns.of_below hb) (fun _ _ h => h)
theorem BoolF.sub {w : World} {F F' : Nat → Prop} {A : Option Addr} {n : Nat} {bs : List Bool} (h : BoolF w F A n bs) (hs : ∀ b, F b → F' b) : BoolF w F' A n bs := by
  refine ⟨h.1, fun hn => ?_⟩
  obtain ⟨b, o, hA, hF, hb, hc⟩ := h.2 hn
  exact ⟨b, o, hA, hs b hF, hb, hc⟩
theorem BoolF.nil (w : World) (F : Nat → Prop) : BoolF w F none 0 [] := ⟨rfl, fun h => absurd h (by omega)⟩
/-- A part of a list, from its beginning. -/
theorem ListS.take {ds : List RecD} {w : World} {F : Nat → Prop} {A : Option Addr} {n c : Nat} (h : ListS ds w F (.slice A n c)) {k : Nat} (hk : k ≤ ds.length) {c' : Nat} (hc : k ≤ c') (hm : c' ≤ maxLen) (h0 : A = none → c' = 0) : ListS (ds.take k) w F (.slice A k c') := by
  have hl : (ds.take k).length = k := by rw [List.length_take]; omega
  rcases h with ⟨e, rfl⟩ | ⟨b, o, c1, e, h1, h2, h3, ms, hms, hcs, hx⟩
  · injection e with e _ _
    subst e
    have := h0 rfl
    subst this
    obtain rfl : k = 0 := by omega
    exact .inl ⟨rfl, by simp⟩
  · injection e with e _ _
    subst e
    refine .inr ⟨b, o, c', by rw [hl], by rw [hl]; exact hc, hm, fun hn => h3 (by rw [hl] at hn; omega), ms.take k, ?_, fun p hp => hcs p (List.mem_of_mem_take hp), fun j x hj => hx j x ?_⟩
    · rw [List.map_take, hms]
    · have hjl := flatC_lt hj
      rw [show flatC ms = flatC (ms.take k) ++ flatC (ms.drop k) by rw [← flatC_app, List.take_append_drop]]
      rw [List.getElem?_append_left (by rw [flatC_len]; exact hjl)]
      exact hj
end Go.Proofs.YtmooajppfjglaaaGreat

/- FnReplay: what is replayed of a list and of its parts: the law's walk (written by replay_law.py); conditions: the bytes can be read. -/
namespace Go.Proofs.YtmooajppfjglaaaGreat
open Go Go.RowKit

theorem atG_ltR {d : GrpD} {w : World} {F : Nat → Prop} {v : Value} (h : AtG d w F v) : AtG d w (· < w.heap.size) v := by
  obtain ⟨A, n, c, e, hn, hr⟩ := h
  exact ⟨A, n, c, e, hn, hr.1.all⟩
/-- What was drawn: a group in its variable, a list of records. -/
structure PR (w wr : World) (gd : GrpD) (ds : List RecD) (G : Array Value) (A : Option Addr) (n c V : Nat) : Prop where
  bel : Below w.heap.size w wr
  le : w.heap.size ≤ V
  vg : Box wr V 26 G
  grp : AtG gd wr (· < V) (.agg G)
  lst : ListS ds wr (· < V) (.slice A n c)
theorem PR.later {w wr w' : World} {gd : GrpD} {ds : List RecD} {G : Array Value} {A : Option Addr} {n c V : Nat} (h : PR w wr gd ds G A n c V) (hb : Below wr.heap.size wr w') : PR w w' gd ds G A n c V :=
  ⟨bel_trans h.bel hb, h.le, h.vg.later hb h.vg.lt, (keepsG gd).later h.grp hb, h.lst.later hb⟩
theorem list_cap {ds : List RecD} {w : World} {F : Nat → Prop} {A : Option Addr} {n c : Nat} (h : ListS ds w F (.slice A n c)) : ds.length = n ∧ n ≤ c ∧ c ≤ maxLen ∧ (A = none → c = 0) := by
  rcases h with ⟨e, rfl⟩ | ⟨b, o, c1, e, h1, h2, h3, _⟩
  · injection e with e1 e2 e3
    subst e2 e3
    exact ⟨rfl, Nat.le_refl _, Nat.zero_le _, fun _ => rfl⟩
  · injection e with e1 e2 e3
    subst e2 e3
    exact ⟨rfl, h1, h2, fun h => by rw [e1] at h; cases h⟩
theorem PR.part {w wr : World} {gd : GrpD} {ds : List RecD} {G : Array Value} {A : Option Addr} {n c V : Nat} (h : PR w wr gd ds G A n c V) {k : Nat} (hk : k ≤ n) : RecsF (ds.take k) wr (· < wr.heap.size) A k := by
  obtain ⟨h1, h2, h3, h4⟩ := list_cap h.lst
  have ht := h.lst.take (k := k) (c' := c) (by omega) (by omega) h3 h4
  have hV := h.vg.lt
  obtain ⟨A', c', e, -, hr⟩ := (ht.sub (F' := (· < wr.heap.size)) (fun b hb => Nat.lt_trans hb hV)).at
  have hl : (ds.take k).length = k := by rw [List.length_take]; omega
  rw [hl] at e hr
  injection e with e
  subst e
  exact hr
theorem PR.all {w wr : World} {gd : GrpD} {ds : List RecD} {G : Array Value} {A : Option Addr} {n c V : Nat} (h : PR w wr gd ds G A n c V) : RecsF ds wr (· < wr.heap.size) A n := by
  have h1 := (list_cap h.lst).1
  have := h.part (Nat.le_refl n)
  rwa [← h1, List.take_length, h1] at this
theorem regs_sizes {g : GrpD} {ds : List RecD} (h : (replD g ds).2 = true) (hz : totC ds ≤ 1048576) (k : Nat) : ∀ i (hi : i < (shelves g (ds.take k)).length), ((shelves g (ds.take k))[i]).ps.length ≤ 1048576 ∧ ((shelves g (ds.take k))[i]).os.length ≤ 1048576 := fun i hi => by
  have hp := repl_take h k
  have hs := replD_sz g (ds.take k) (Nat.le_trans (totC_take ds k) hz) i (by rw [hp]; exact hi)
  rw [hp] at hs
  unfold regOf at hs
  simp only [List.getD_eq_getElem?_getD, List.getElem?_eq_getElem hi, Option.getD_some] at hs
  omega
theorem regs_sizes0 {g : GrpD} {ds : List RecD} (hz : totC ds ≤ 1048576) : ∀ i (hi : i < (replD g ds).1.length), ((replD g ds).1[i]).ps.length ≤ 1048576 ∧ ((replD g ds).1[i]).os.length ≤ 1048576 := fun i hi => by
  have hs := replD_sz g ds hz i hi
  unfold regOf at hs
  simp only [List.getD_eq_getElem?_getD, List.getElem?_eq_getElem hi, Option.getD_some] at hs
  omega
theorem repl_no {g : GrpD} {ds : List RecD} (h : (replD g ds).2 = false) : (replD g ds).1.length = 0 := by
  unfold replD at h ⊢
  split at h
  · cases h
  · rename_i hc
    rw [if_neg hc]
    rfl
theorem repl_yes {g : GrpD} {ds : List RecD} (h : (replD g ds).2 = true) : (replD g ds).1.length = g.sh.toNat ∧ g.sh = (g.sh.toNat : Int) ∧ g.sh.toNat ≤ 4 := by
  have hl := replD_len g ds
  have ho := (repl_ok h).1
  have ht := repl_take h ds.length
  rw [List.take_length] at ht
  rw [ht] at hl ⊢
  rw [shelves_len] at hl ⊢
  refine ⟨rfl, ?_, hl⟩
  have := okB_sh (show okB g.s g.l g.c g.sh g.zs = true from ho)
  omega

theorem cmpA9_is {a b c d k : Int} (h : cmpN a b c d = k) (w : World) :
    Calls Tryz.prog 16 #[.agg #[.int .i64 a, .int .i64 b], .agg #[.int .i64 c, .int .i64 d]] w fun e w' => e = .returned (.int .i64 k) ∧ Below w.heap.size w w' := h ▸ cmpStamp_any a b c d w

theorem replay_big (A : Option Addr) (n cap : Nat) (w : World) (hm : n ≤ maxLen) (hb : 4096 < n) :
    Calls Tryz.prog 3 #[.slice A n cap] w fun e w' => e = .returned (.bool true) ∧ Below w.heap.size w w' := by
  have hd : decide (4096 < n) = true := by simpa using hb
  go_enter Tryz.func3, Tryz.ntmps3
  go_wp2_with (go_at_call 11; refine (big_any A n cap _ hm).mono ?_; rintro e w' ⟨rfl, rfl⟩)
  go_ret
  exact ⟨rfl, Below.refl _ _⟩

set_option maxRecDepth 100000 in
set_option maxHeartbeats 16000000 in
theorem replay_small (A : Option Addr) (n cap : Nat) (w : World) (hn : n ≤ 4096) (hB : Bytes w w.heap.size A n) :
    Calls Tryz.prog 3 #[.slice A n cap] w fun e w' => e = .returned (.bool true) ∧ Below w.heap.size w w' := by
  have hd : decide (4096 < n) = false := by simpa using hn
  have HM : Hid (n ≤ maxLen) := by show n ≤ maxLen; unfold maxLen; omega
  have HB := Lib.hid hB
  clear hB
  go_enter Tryz.func3, Tryz.ntmps3
  go_wp2_with fail
  refine (big_any A n cap _ HM.out).mono ?_
  rintro e w' ⟨rfl, rfl⟩
  go_wp2_with fail
  refine (drawReplayed_any A n cap w hn HB.out).mono ?_
  rintro e w1 ⟨G, v, gd, ds, rfl, hG, hL, -, hSh, E1⟩
  clear hd HB HM hn
  have OG := Lib.hid (oneG hG)
  have SG := Lib.hid (sizeGI hG)
  have hz1 : totC ds ≤ 1048576 := by have := hSh.tot; omega
  obtain ⟨LA, lc, rfl, hlm, -⟩ := hL.at
  generalize hln : ds.length = m at *
  have e0 := bel_alloc w1 (.cells #[.int .i64 0, .int .i64 0, .int .i64 0, .int .i64 0, .slice none 0 0] 26)
  have R2 := Box.new w1 26 #[.int .i64 0, .int .i64 0, .int .i64 0, .int .i64 0, .slice none 0 0]
  have e1 := bel_new_row w1 #[.int .i64 0, .int .i64 0, .int .i64 0, .int .i64 0, .slice none 0 0] 26 G
  have K : PR w ((w1.alloc (.cells #[.int .i64 0, .int .i64 0, .int .i64 0, .int .i64 0, .slice none 0 0] 26)).setRow w1.heap.size G) gd ds G LA m lc w1.heap.size := ⟨bel_trans E1 e1, E1.size, R2.setRow G, (keepsG gd).later (atG_ltR hG) e1, (hL.lt.sub (fun b hb => hb.2)).later e1⟩
  clear hG hL e0 e1 E1 hSh
  go_upto_region 4 with (refine wpList_store_row rfl 26 _ _ rfl w1.heap.size _ rfl rfl 26 _ R2 SG.out OG.out.1.symm OG.out.2 ?_)
  clear R2
  generalize ((w1.alloc _).setRow _ _ : World) = w2 at K ⊢
  generalize w1.heap.size = V at K ⊢
  have HZ := Lib.hid hz1
  clear hz1
  have hl4 := replD_len gd ds
  obtain ⟨rs, hrs⟩ : ∃ rs, (replD gd ds).1 = rs := ⟨_, rfl⟩
  obtain ⟨z, hz⟩ : ∃ z, (replD gd ds).2 = z := ⟨_, rfl⟩
  rw [hrs] at hl4
  have HRS := Lib.hid hrs
  have HZZ := Lib.hid hz
  clear hrs hz
  have hzz : (z != z) = false := by simp
  go_wp2_with (refine wpList_load_box 26 _ rfl (V) rfl 26 G K.vg _ Tryz.underlying26 rfl SG.out (by first | rfl | simp [Region.wanted, yielded] | (simp [Region.wanted, yielded, Act.put] <;> omega)) ?_)
  refine (replayed8_is K.grp K.all HZ.out).mono ?_
  rintro e w3 ⟨G1, c1, rfl, hR, hb⟩
  rw [HRS.out] at hR ⊢
  rw [HZZ.out]
  replace K := K.later hb
  clear hb
  have R1 := hR.reads (fun _ _ _ _ h => h.read) rfl
  clear hR
  go_wp2_with (refine wpList_load_box 26 _ rfl (V) rfl 26 G K.vg _ Tryz.underlying26 rfl SG.out (by first | rfl | simp [Region.wanted, yielded] | (simp [Region.wanted, yielded, Act.put] <;> omega)) ?_)
  refine (specReplayed8_is K.grp K.all HZ.out).mono ?_
  rintro e w4 ⟨G2, c2, rfl, hR, hb⟩
  rw [HRS.out] at hR ⊢
  rw [HZZ.out]
  replace K := K.later hb
  replace R1 := R1.later hb
  clear hb
  have R2 := hR.reads (fun _ _ _ _ h => h.read) rfl
  clear hR
  have HSZ := Lib.hid (HRS.out ▸ regs_sizes0 (g := gd) HZ.out)
  go_upto_region 6 with fail
  go_wp2_with fail
  refine (likeRegs_is R1 R2 (by omega) HSZ.out).mono ?_
  rintro e w5 ⟨rfl, hb⟩
  replace K := K.later hb
  clear hb
  clear R1 R2
  cases z
  · have h0 := repl_no HZZ.out
    rw [HRS.out] at h0
    have E := K.bel
    rw [h0]
    clear K
    go_wp2
    go_ret
    exact ⟨rfl, E⟩
  obtain ⟨hy1, hy2, hy3⟩ := repl_yes HZZ.out
  rw [HRS.out] at hy1
  obtain ⟨M, hM⟩ : ∃ M, gd.sh.toNat = M := ⟨_, rfl⟩
  rw [hM] at hy1 hy2 hy3
  have HMM := Lib.hid hM
  rw [hy1]
  clear hM hy1 hl4 hzz
  have HQ3 : Hid (G[3]? = some (.int .i64 (M : Int))) := by
    obtain ⟨gA, gn, gc, he, -⟩ := K.grp
    injection he with he
    exact Lib.hid (by rw [he, hy2]; rfl)
  have HSH := Lib.hid hy2
  clear hy2
  have hdl := (list_cap K.lst).1
  have HDL := Lib.hid hdl
  clear hdl
  go_wp2_with fail
  go_loopw [9] (fun i wr => ∃ k : Nat, k ≤ m ∧ i = .int .i64 k ∧ PR w wr gd ds G LA m lc V) (fun i _ => m - (intOf i).toNat)
  case atStart => exact ⟨0, Nat.zero_le _, rfl, K⟩
  case round =>
    clear K
    obtain ⟨k, hk, rfl, K⟩ := hrel
    by_cases hlt : k < m
    · skip
      obtain ⟨-, hq1, hq2, -⟩ := list_cap K.lst
      unfold maxLen at hq2
      have hltI : (k : Int) < (m : Int) := by omega
      have hkw : IntKind.i64.wrap ((k : Int) + 1) = (k : Int) + 1 := IntWalk.i64_in _ (by omega)
      have h0k : 0 ≤ (k : Int) + 1 := by omega
      go_upto_region 13 with fail
      refine wp_region_sink 10 (fun w' => Box w' V 26 G) (by kernel_rfl) K.vg (fun hH => ?_)
      have hb := (Below.refl wr.heap.size wr).drew
      replace K := K.later hb
      clear hb
      generalize wr.drew = w6 at K  hH ⊢
      refine wpAnyE_takeS (i := 0) (v := .agg G) (by simp only [List.getElem?_toArray, List.getElem?_cons_zero]; rfl) (by kernel_rfl) (by kernel_rfl) (by kernel_rfl) (by exact fun _ _ _ h => h) (by kernel_rfl) ?yat hH ?_
      case yat => exact yields_box 26 _ rfl (V) rfl 26 G (fun _ h => h) _ Tryz.underlying26 rfl SG.out (by first | rfl | simp [Region.wanted, yielded] | (simp [Region.wanted, yielded, Act.put] <;> omega))
      try simp only [Act.put, List.setIfInBounds_toArray, List.set_cons_zero, List.set_cons_succ]
      refine wpAnyE_pure (i := 1) (v := ?vap1) (by simp only [List.getElem?_toArray, List.getElem?_cons_succ, List.getElem?_cons_zero]; rfl) (by kernel_rfl) (by kernel_rfl) (by kernel_rfl) (by exact fun _ _ _ h => h) (by kernel_rfl) (Or.inl ⟨by rfl, ?yap1⟩) hH ?rap1
      case yap1 => (intro w' hSw; (try dsimp only at hSw); go_simp; try with_reducible rfl)
      try simp only [Act.put, List.setIfInBounds_toArray, List.set_cons_zero, List.set_cons_succ]
      refine wpAnyE_pure (i := 2) (v := ?vap2) (by simp only [List.getElem?_toArray, List.getElem?_cons_succ, List.getElem?_cons_zero]; rfl) (by kernel_rfl) (by kernel_rfl) (by kernel_rfl) (by exact fun _ _ _ h => h) (by kernel_rfl) (Or.inl ⟨by rfl, ?yap2⟩) hH ?rap2
      case yap2 => (intro w' hSw; (try dsimp only at hSw); go_simp; try with_reducible rfl)
      try simp only [Act.put, List.setIfInBounds_toArray, List.set_cons_zero, List.set_cons_succ]
      refine wpAnyE_one (i := 3) (by kernel_rfl) (by simp only [List.getElem?_toArray, List.getElem?_cons_succ, List.getElem?_cons_zero]; rfl) (fun K' hK => ?_)
      go_simp
      first | rw [if_pos (show k ≤ lc by omega)] | rw [if_pos (show (k : Int) ≤ (lc : Int) by omega)]
      try rw [show ((k : Int)).toNat = k by omega]
      clear hH
      refine hK.out _ _ K.vg (fun hH => ?_)
      clear hK K'
      try simp only [Act.put, List.setIfInBounds_toArray, List.set_cons_zero, List.set_cons_succ]
      refine wpAnyE_one (i := 4) (by kernel_rfl) (by simp only [List.getElem?_toArray, List.getElem?_cons_succ, List.getElem?_cons_zero]; rfl) (fun K' hK => ?_)
      go_simp
      refine (replayed8_is K.grp (K.part (k := k) (by omega)) (Nat.le_trans (totC_take ds _) HZ.out)).mono ?_
      rintro e w7 ⟨GAa, caa, rfl, hR, hb⟩
      replace K := K.later hb
      clear hb
      rw [repl_take HZZ.out] at hR
      rw [repl_take HZZ.out]
      dsimp only at hR ⊢
      have hq := hR.reads (fun _ _ _ _ h => h.read) ((shelves_len gd _).trans HMM.out)
      rw [shelves_len, HMM.out]
      have RA := hq
      clear hR hq
      clear hH
      refine hK.out _ _ K.vg (fun hH => ?_)
      clear hK K'
      try simp only [Act.put, List.setIfInBounds_toArray, List.set_cons_zero, List.set_cons_succ]
      refine wpAnyE_pure (i := 5) (v := ?vaq5) (by simp only [List.getElem?_toArray, List.getElem?_cons_succ, List.getElem?_cons_zero]; rfl) (by kernel_rfl) (by kernel_rfl) (by kernel_rfl) (by exact fun _ _ _ h => h) (by kernel_rfl) (Or.inl ⟨by rfl, ?yaq5⟩) hH ?raq5
      case yaq5 => (intro w' hSw; (try dsimp only at hSw); go_simp; try with_reducible rfl)
      try simp only [Act.put, List.setIfInBounds_toArray, List.set_cons_zero, List.set_cons_succ]
      refine wpAnyE_pure (i := 6) (v := ?vaq6) (by simp only [List.getElem?_toArray, List.getElem?_cons_succ, List.getElem?_cons_zero]; rfl) (by kernel_rfl) (by kernel_rfl) (by kernel_rfl) (by exact fun _ _ _ h => h) (by kernel_rfl) (Or.inl ⟨by rfl, ?yaq6⟩) hH ?raq6
      case yaq6 => (intro w' hSw; (try dsimp only at hSw); go_simp; try with_reducible rfl)
      try simp only [Act.put, List.setIfInBounds_toArray, List.set_cons_zero, List.set_cons_succ]
      refine wpAnyE_pure (i := 7) (v := ?vaq7) (by simp only [List.getElem?_toArray, List.getElem?_cons_succ, List.getElem?_cons_zero]; rfl) (by kernel_rfl) (by kernel_rfl) (by kernel_rfl) (by exact fun _ _ _ h => h) (by kernel_rfl) (Or.inl ⟨by rfl, ?yaq7⟩) hH ?raq7
      case yaq7 => (intro w' hSw; (try dsimp only at hSw); go_simp; try with_reducible rfl)
      try simp only [Act.put, List.setIfInBounds_toArray, List.set_cons_zero, List.set_cons_succ]
      refine wpAnyE_pure (i := 8) (v := ?vaq8) (by simp only [List.getElem?_toArray, List.getElem?_cons_succ, List.getElem?_cons_zero]; rfl) (by kernel_rfl) (by kernel_rfl) (by kernel_rfl) (by exact fun _ _ _ h => h) (by kernel_rfl) (Or.inl ⟨by rfl, ?yaq8⟩) hH ?raq8
      case yaq8 => (intro w' hSw; (try dsimp only at hSw); go_simp; try with_reducible rfl)
      try simp only [Act.put, List.setIfInBounds_toArray, List.set_cons_zero, List.set_cons_succ]
      refine wpAnyE_end (i := 9) (by kernel_rfl) (by simp only [List.getElem?_toArray, List.getElem?_cons_succ, List.getElem?_cons_zero]; rfl) (by kernel_rfl) (fun K' hK => ?_)
      go_simp
      refine hK.out _ _ K.vg ?_
      clear hK K'
      try simp only [Act.put, List.setIfInBounds_toArray, List.set_cons_zero, List.set_cons_succ]
      clear hH
      go_upto_region 14 with fail
      refine wp_region_sink 11 (fun w' => Box w' V 26 G) (by kernel_rfl) K.vg (fun hH => ?_)
      have hb := (Below.refl w7.heap.size w7).drew
      replace K := K.later hb
      replace RA := RA.later hb
      clear hb
      generalize w7.drew = w6 at K RA hH ⊢
      refine wpAnyE_takeS (i := 0) (v := .agg G) (by simp only [List.getElem?_toArray, List.getElem?_cons_zero]; rfl) (by kernel_rfl) (by kernel_rfl) (by kernel_rfl) (by exact fun _ _ _ h => h) (by kernel_rfl) ?ybt hH ?_
      case ybt => exact yields_box 26 _ rfl (V) rfl 26 G (fun _ h => h) _ Tryz.underlying26 rfl SG.out (by first | rfl | simp [Region.wanted, yielded] | (simp [Region.wanted, yielded, Act.put] <;> omega))
      try simp only [Act.put, List.setIfInBounds_toArray, List.set_cons_zero, List.set_cons_succ]
      refine wpAnyE_pure (i := 1) (v := ?vbp1) (by simp only [List.getElem?_toArray, List.getElem?_cons_succ, List.getElem?_cons_zero]; rfl) (by kernel_rfl) (by kernel_rfl) (by kernel_rfl) (by exact fun _ _ _ h => h) (by kernel_rfl) (Or.inl ⟨by rfl, ?ybp1⟩) hH ?rbp1
      case ybp1 => (intro w' hSw; (try dsimp only at hSw); go_simp; try with_reducible rfl)
      try simp only [Act.put, List.setIfInBounds_toArray, List.set_cons_zero, List.set_cons_succ]
      refine wpAnyE_pure (i := 2) (v := ?vbp2) (by simp only [List.getElem?_toArray, List.getElem?_cons_succ, List.getElem?_cons_zero]; rfl) (by kernel_rfl) (by kernel_rfl) (by kernel_rfl) (by exact fun _ _ _ h => h) (by kernel_rfl) (Or.inl ⟨by rfl, ?ybp2⟩) hH ?rbp2
      case ybp2 => (intro w' hSw; (try dsimp only at hSw); go_simp; try with_reducible rfl)
      try simp only [Act.put, List.setIfInBounds_toArray, List.set_cons_zero, List.set_cons_succ]
      refine wpAnyE_pure (i := 3) (v := ?vbp3) (by simp only [List.getElem?_toArray, List.getElem?_cons_succ, List.getElem?_cons_zero]; rfl) (by kernel_rfl) (by kernel_rfl) (by kernel_rfl) (by exact fun _ _ _ h => h) (by kernel_rfl) (Or.inl ⟨by rfl, ?ybp3⟩) hH ?rbp3
      case ybp3 => (intro w' hSw; (try dsimp only at hSw); go_simp; try with_reducible rfl)
      try simp only [Act.put, List.setIfInBounds_toArray, List.set_cons_zero, List.set_cons_succ]
      refine wpAnyE_one (i := 4) (by kernel_rfl) (by simp only [List.getElem?_toArray, List.getElem?_cons_succ, List.getElem?_cons_zero]; rfl) (fun K' hK => ?_)
      go_simp
      first | rw [if_pos (show k + 1 ≤ lc by omega)] | rw [if_pos (show (k : Int) + 1 ≤ (lc : Int) by omega)]
      try rw [show ((k : Int) + 1).toNat = k + 1 by omega]
      clear hH
      refine hK.out _ _ K.vg (fun hH => ?_)
      clear hK K'
      try simp only [Act.put, List.setIfInBounds_toArray, List.set_cons_zero, List.set_cons_succ]
      refine wpAnyE_one (i := 5) (by kernel_rfl) (by simp only [List.getElem?_toArray, List.getElem?_cons_succ, List.getElem?_cons_zero]; rfl) (fun K' hK => ?_)
      go_simp
      refine (replayed8_is K.grp (K.part (k := k + 1) (by omega)) (Nat.le_trans (totC_take ds _) HZ.out)).mono ?_
      rintro e w7 ⟨GAb, cab, rfl, hR, hb⟩
      replace K := K.later hb
      replace RA := RA.later hb
      clear hb
      rw [repl_take HZZ.out] at hR
      rw [repl_take HZZ.out]
      dsimp only at hR ⊢
      have hq := hR.reads (fun _ _ _ _ h => h.read) ((shelves_len gd _).trans HMM.out)
      rw [shelves_len, HMM.out]
      have RB := hq
      clear hR hq
      clear hH
      refine hK.out _ _ K.vg (fun hH => ?_)
      clear hK K'
      try simp only [Act.put, List.setIfInBounds_toArray, List.set_cons_zero, List.set_cons_succ]
      refine wpAnyE_pure (i := 6) (v := ?vbq6) (by simp only [List.getElem?_toArray, List.getElem?_cons_succ, List.getElem?_cons_zero]; rfl) (by kernel_rfl) (by kernel_rfl) (by kernel_rfl) (by exact fun _ _ _ h => h) (by kernel_rfl) (Or.inl ⟨by rfl, ?ybq6⟩) hH ?rbq6
      case ybq6 => (intro w' hSw; (try dsimp only at hSw); go_simp; try with_reducible rfl)
      try simp only [Act.put, List.setIfInBounds_toArray, List.set_cons_zero, List.set_cons_succ]
      refine wpAnyE_pure (i := 7) (v := ?vbq7) (by simp only [List.getElem?_toArray, List.getElem?_cons_succ, List.getElem?_cons_zero]; rfl) (by kernel_rfl) (by kernel_rfl) (by kernel_rfl) (by exact fun _ _ _ h => h) (by kernel_rfl) (Or.inl ⟨by rfl, ?ybq7⟩) hH ?rbq7
      case ybq7 => (intro w' hSw; (try dsimp only at hSw); go_simp; try with_reducible rfl)
      try simp only [Act.put, List.setIfInBounds_toArray, List.set_cons_zero, List.set_cons_succ]
      refine wpAnyE_pure (i := 8) (v := ?vbq8) (by simp only [List.getElem?_toArray, List.getElem?_cons_succ, List.getElem?_cons_zero]; rfl) (by kernel_rfl) (by kernel_rfl) (by kernel_rfl) (by exact fun _ _ _ h => h) (by kernel_rfl) (Or.inl ⟨by rfl, ?ybq8⟩) hH ?rbq8
      case ybq8 => (intro w' hSw; (try dsimp only at hSw); go_simp; try with_reducible rfl)
      try simp only [Act.put, List.setIfInBounds_toArray, List.set_cons_zero, List.set_cons_succ]
      refine wpAnyE_pure (i := 9) (v := ?vbq9) (by simp only [List.getElem?_toArray, List.getElem?_cons_succ, List.getElem?_cons_zero]; rfl) (by kernel_rfl) (by kernel_rfl) (by kernel_rfl) (by exact fun _ _ _ h => h) (by kernel_rfl) (Or.inl ⟨by rfl, ?ybq9⟩) hH ?rbq9
      case ybq9 => (intro w' hSw; (try dsimp only at hSw); go_simp; try with_reducible rfl)
      try simp only [Act.put, List.setIfInBounds_toArray, List.set_cons_zero, List.set_cons_succ]
      refine wpAnyE_end (i := 10) (by kernel_rfl) (by simp only [List.getElem?_toArray, List.getElem?_cons_succ, List.getElem?_cons_zero]; rfl) (by kernel_rfl) (fun K' hK => ?_)
      go_simp
      refine hK.out _ _ K.vg ?_
      clear hK K'
      try simp only [Act.put, List.setIfInBounds_toArray, List.set_cons_zero, List.set_cons_succ]
      clear hH
      skip
      have hkd : k < ds.length := by rw [HDL.out]; exact hlt
      have hst : ∀ i, i < M → cmpN (regOf (shelves gd (ds.take k)) i).t (regOf (shelves gd (ds.take k)) i).q (regOf (shelves gd (ds.take (k + 1))) i).t (regOf (shelves gd (ds.take (k + 1))) i).q ≤ 0 ∧ ((i : Int) ≠ (ds[k]).r3 → regOf (shelves gd (ds.take (k + 1))) i = regOf (shelves gd (ds.take k)) i) := fun i hi => shelves_step HZZ.out hkd (by rw [HMM.out]; exact hi)
      have HST := Lib.hid hst
      clear hst
      have HSA := Lib.hid (regs_sizes HZZ.out HZ.out k)
      have HSB := Lib.hid (regs_sizes HZZ.out HZ.out (k + 1))
      generalize shelves gd (ds.take k) = ra at RA HST HSA
      generalize shelves gd (ds.take (k + 1)) = rb at RB HST HSB
      obtain ⟨bL, oL, hLA, hbL, hcL⟩ : ∃ b o, LA = some ⟨b, o, none⟩ ∧ b < w7.heap.size ∧ w7.cell? ⟨b, o + k * 9 + 2, none⟩ = some (.int .i64 (ds[k]).r3) := by
        obtain ⟨b, o, h1, -, h2, h3⟩ := K.all.2 (by omega)
        obtain ⟨L, ml, mc, h4, -⟩ := h3 k hkd
        exact ⟨b, o, h1, h2, h4.2.2.1⟩
      subst hLA
      generalize (ds[k]).r3 = r3 at hcL HST
      go_wp2_with fail
      go_loopw [14] (fun i wr => ∃ x : Nat, x ≤ M ∧ i = .int .i64 x ∧ Below w7.heap.size w7 wr) (fun i _ => M - (intOf i).toNat)
      case atStart => exact ⟨0, Nat.zero_le _, rfl, Below.refl _ _⟩
      case round =>
        obtain ⟨x, hx, rfl, hb⟩ := hrel
        by_cases hlx : x < M
        · skip
          obtain ⟨b, hA, hbl, hc⟩ := (RA.later hb).2 (by omega)
          obtain ⟨b', hA', hbl', hc'⟩ := (RB.later hb).2 (by omega)
          injection hA with hA
          injection hA with hA
          injection hA' with hA'
          injection hA' with hA'
          subst hA hA'
          have hxa : x < ra.length := by have := RA.1; omega
          have hxb : x < rb.length := by have := RB.1; omega
          obtain ⟨u, v, c0, c1, c2, c3, c4, hat⟩ := hc x hxa
          obtain ⟨u', v', k0, k1, k2, k3, k4, hat'⟩ := hc' x hxb
          obtain ⟨hz1, hz2⟩ := HSA.out x hxa
          obtain ⟨hy1, hy2⟩ := HSB.out x hxb
          obtain ⟨hs1, hs2⟩ := HST.out x hlx
          have ha : regOf ra x = ra[x] := by unfold regOf; rw [List.getD_eq_getElem?_getD, List.getElem?_eq_getElem hxa]; rfl
          have hb2 : regOf rb x = rb[x] := by unfold regOf; rw [List.getD_eq_getElem?_getD, List.getElem?_eq_getElem hxb]; rfl
          rw [ha, hb2] at hs1 hs2
          clear ha hb2 hc hc'
          obtain ⟨da, hda⟩ : ∃ d : RegD, ra[x] = d := ⟨_, rfl⟩
          obtain ⟨db, hdb⟩ : ∃ d : RegD, rb[x] = d := ⟨_, rfl⟩
          rw [hda] at c0 c1 c2 hat hz1 hz2 hs1 hs2
          rw [hdb] at k0 k1 k2 hat' hy1 hy2 hs1 hs2
          clear hda hdb
          obtain ⟨z, hz⟩ : ∃ z, cmpN da.t da.q db.t db.q = z := ⟨_, rfl⟩
          rw [hz] at hs1
          have HC := Lib.hid hz
          have hzd : decide (0 < z) = false := by simpa using hs1
          clear hz
          have hrc := (hb.cell (p := ⟨bL, oL + k * 9 + 2, none⟩) hbL).trans hcL
          have hbl9 := Nat.lt_of_lt_of_le hbL hb.size
          have f0 := After.cell hbl c0
          have e0 := After.cell hbl' k0
          have f1 := After.cell hbl c1
          have e1 := After.cell hbl' k1
          have f2 := After.cell hbl c2
          have e2 := After.cell hbl' k2
          have f3 := After.cell hbl c3
          have e3 := After.cell hbl' k3
          have f4 := After.cell hbl c4
          have e4 := After.cell hbl' k4
          have f9 := After.cell hbl9 hrc
          have hlxI : (x : Int) < (M : Int) := by omega
          have hxw : IntKind.i64.wrap ((x : Int) + 1) = (x : Int) + 1 := IntWalk.i64_in _ (by omega)
          have HAT := Lib.hid hat
          have HAT' := Lib.hid hat'
          clear hat hat'
          have HZA := Lib.hid hz1
          have HZB := Lib.hid hz2
          have HZC := Lib.hid hy1
          have HZD := Lib.hid hy2
          clear hz1 hz2 hy1 hy2
          go_upto_region 20 with fail
          by_cases hx3 : (x : Int) = r3
          · subst hx3
            refine wp_region_after (by kernel_rfl) (by kernel_rfl) ?_
            repeat (first | go_big_quiet_step ((go_at_call 16; exact after_of (cmpA9_is HC.out _))) | quiet_step ((go_at_call 16; exact after_of (cmpA9_is HC.out _))))
            refine wpQuiet_nil ?_
            intro pw
            clear f0 f1 f2 f3 f4 e0 e1 e2 e3 e4 f9
            go_wp2
            go_roundw
            case rel => exact ⟨x + 1, by omega, by go_num, bel_trans hb pw.bel⟩
            case measure => simp [intOf]; omega
          · have hx4 : ((x : Int) == r3) = false := by simpa using hx3
            have hdd := hs2 hx3
            subst hdd
            refine wp_region_after (by kernel_rfl) (by kernel_rfl) ?_
            repeat (first | go_big_quiet_step ((first | (go_at_call 16; exact after_of (cmpA9_is HC.out _)) | (go_at_call 17; exact after_of (likeR_is (atAfterR HAT.out _) (atAfterR HAT'.out _) HZA.out HZB.out)))) | quiet_step ((first | (go_at_call 16; exact after_of (cmpA9_is HC.out _)) | (go_at_call 17; exact after_of (likeR_is (atAfterR HAT.out _) (atAfterR HAT'.out _) HZA.out HZB.out)))))
            refine wpQuiet_nil ?_
            intro pw
            clear f0 f1 f2 f3 f4 e0 e1 e2 e3 e4 f9
            go_wp2
            go_roundw
            case rel => exact ⟨x + 1, by omega, by go_num, bel_trans hb pw.bel⟩
            case measure => simp [intOf]; omega
        · have hxm : x = M := by omega
          subst hxm
          go_wp2
          go_roundw
          case rel => exact ⟨k + 1, by omega, by go_num, K.later hb⟩
          case measure => simp [intOf]; omega
    · have hkm : k = m := by omega
      subst hkm
      have f3 := (K.vg.cell 3).trans HQ3.out
      have E := K.bel
      clear K
      go_wp2
      go_ret
      exact ⟨rfl, E⟩

end Go.Proofs.YtmooajppfjglaaaGreat

namespace Go.Proofs.YtmooajppfjglaaaGreat
set_option maxRecDepth 100000
open Go.ChangeShapes Go.WideShapes Go.ChangeAt Go.RowKit
set_option linter.unusedVariables false


namespace fnReplayF
set_option maxRecDepth 100000 in
theorem lifted (os : Os) (started : os.Started) (H : Type) (enc : TypeId × Value → H) :
    ReturnsInHanded {} Tryz.checked os 3 .any (Rows.fnReplaySpec.pre6 enc Tryz.prog Tryz.f3 Rows.fnReplayRow.domain false) (Rows.fnReplaySpec.post enc Tryz.prog Tryz.f3 false true false false) := by
  refine returnsInHanded_of_change (C := Tryz.checked) ownB started (by kernel_rfl) Tryz.func3
    (ChangeSpec.witness6 (enc := enc) (C := Tryz.checked) false ⟨#[], #[.slice none 0 0], []⟩ 8 (by kernel_rfl) (by kernel_rfl) (by kernel_rfl) (by kernel_rfl)) ?_
  intro W base args ds gs before hval0 hW hcnd _
  have hval : ∀ (j : Nat) t v, Tryz.f3.params[j]? = some t → args[j]? = some v → Value.okWide Tryz.prog W .any base t v := hval0
  have hW' := hW
  obtain ⟨p, q, hA0, hV, rfl, hfz, hnd⟩ := hW
  have hA : DataW.TrodAll enc Tryz.prog W 0 (fun _ => true) true Tryz.f3.params.toList args.toList ds p := hA0
  rw [Tryz.params3] at hA hval
  obtain ⟨v0, vs0, d0, ds0, p0, q0, hargs, rfl, rfl, h0, r0⟩ := trodAll_cons hA
  obtain ⟨rfl, rfl, rfl⟩ := trodAll_nil r0
  obtain rfl : args = #[v0] := by cases args; simp_all
  obtain ⟨rfl, rfl⟩ := trodVars_none hV
  have k0 := h0
  have lt0 : ∀ x ∈ p0, x.block < W.heap.size := by obtain ⟨m, hm⟩ := k0; exact DataW.trod_lt m _ _ _ hm
  obtain ⟨A, n, cap, rfl, hB, hmx⟩ := bytes_read (hval 0 22 v0 rfl rfl) h0
  clear hA0 hval0
  have walk : Calls Tryz.prog 3 #[.slice A n cap] W fun e w' => e = .returned (.bool true) ∧ Below W.heap.size W w' := by
    by_cases hs : n ≤ 4096
    · exact replay_small A n cap W hs hB
    · exact replay_big A n cap W hmx (by omega)
  refine walk.mono fun e W' ⟨he, bel⟩ => ?_
  subst he
  exact ⟨_, rfl, _, _, _, [], _, [], hW', trodAll_mk1 (shut_bool Tryz.underlying4 _), (trodAll_cons_mk (Below.trod laidOutBytes (by kernel_rfl) (of_decide_eq_true (by kernel_rfl)) k0 bel lt0) trodAll_mk0), rfl, bel.frame _, fun h => by cases h⟩

theorem proved : Rows.FnReplaySaid :=
  OpenClaim.holds_of_wide 3 Tryz.f3 rfl rfl rfl rfl rfl rfl rfl ⟨rfl, rfl, rfl, rfl, rfl⟩ rfl rfl rfl rfl rfl (by kernel_rfl) Tryz.func3 (by kernel_rfl)
    (of_decide_eq_true (by kernel_rfl)) (by unfold Func.isWrapper; first | (rw [if_pos (by decide +kernel)]; kernel_rfl) | (rw [if_neg (by decide +kernel)]; exact ⟨rfl, rfl⟩))
    (fun os started H enc _ => lifted os started H enc)
end fnReplayF

theorem fnReplay_holds : Rows.FnReplaySaid := fnReplayF.proved
end Go.Proofs.YtmooajppfjglaaaGreat
