/- The law FnSeals answers true, whatever bytes it is given: its walk; conditions: the bytes can be read. -/
import Derived.Test.YtcejiellbefojaaDrawRight
import Derived.Test.YtcejiellbefojaaDiceGroup
import Derived.Test.YtcejiellbefojaaBig
namespace Go.Proofs.Ytcejiellbefojaa
open Go.RowKit

theorem seals_big (A : Option Addr) (n cap : Nat) (w : World) (hm : n ≤ maxLen) (hb : 4096 < n) :
    Calls Try.prog 3 #[.slice A n cap] w fun e w' => e = .returned (.bool true) ∧ Below w.heap.size w w' := by
  have hd : decide (4096 < n) = true := by simpa using hb
  go_enter Try.func3, Try.ntmps3
  go_wp2_with (go_at_call 8; refine (big_any A n cap _ hm).mono ?_; rintro e w' ⟨rfl, rfl⟩)
  go_ret
  exact ⟨rfl, Below.refl _ _⟩

theorem right_is {s l c sh : Int} {zs : List Int} {ck ch ct cq cv x t : Int} {b : Bool} (h : riB s l c sh zs ck ch ct cq cv x t = b) (A : Option Addr) (n cap : Nat) (w : World) (hm : n ≤ maxLen) (hr : Row w w.heap.size A n zs) :
    Calls Try.prog 14 #[.agg #[.int .i64 s, .int .i64 l, .int .i64 c, .int .i64 sh, .slice A n cap], .agg #[.int .i64 ck, .int .i64 ch, .int .i64 ct, .int .i64 cq, .int .i64 cv], .agg #[.int .i64 x, .int .i64 t]] w fun e w' => e = .returned (.bool b) ∧ Below w.heap.size w w' := h ▸ sealRight_any s l c sh A n cap zs ck ch ct cq cv x t w hm hr
theorem specRight_is {s l c sh : Int} {zs : List Int} {ck ch ct cq cv x t : Int} {b : Bool} (h : riB s l c sh zs ck ch ct cq cv x t = b) (A : Option Addr) (n cap : Nat) (w : World) (hm : n ≤ maxLen) (hr : Row w w.heap.size A n zs) :
    Calls Try.prog 19 #[.agg #[.int .i64 s, .int .i64 l, .int .i64 c, .int .i64 sh, .slice A n cap], .agg #[.int .i64 ck, .int .i64 ch, .int .i64 ct, .int .i64 cq, .int .i64 cv], .agg #[.int .i64 x, .int .i64 t]] w fun e w' => e = .returned (.bool b) ∧ Below w.heap.size w w' := h ▸ specRight_any s l c sh A n cap zs ck ch ct cq cv x t w hm hr
theorem claimOk_is {ck ch ct cq cv : Int} {b : Bool} (h : clB ck ch ct cq cv = b) (w : World) :
    Calls Try.prog 15 #[.agg #[.int .i64 ck, .int .i64 ch, .int .i64 ct, .int .i64 cq, .int .i64 cv]] w fun e w' => e = .returned (.bool b) ∧ Below w.heap.size w w' := h ▸ claimOk_any ck ch ct cq cv w
theorem rowAt {w : World} {B : Nat} {A : Option Addr} {n : Nat} {zs : List Int} (h : Row w B A n zs) (hB : B ≤ w.heap.size) (p : After w) : Row p.x p.x.heap.size A n zs := rowAfter (h.more hB) p

set_option maxRecDepth 100000 in
set_option maxHeartbeats 4000000 in
theorem seals_small (A : Option Addr) (n cap : Nat) (w : World) (hn : n ≤ 4096) (hB : Bytes w w.heap.size A n) :
    Calls Try.prog 3 #[.slice A n cap] w fun e w' => e = .returned (.bool true) ∧ Below w.heap.size w w' := by
  have hd : decide (4096 < n) = false := by simpa using hn
  have HM : Hid (n ≤ maxLen) := by show n ≤ maxLen; unfold maxLen; omega
  have HB := Lib.hid hB
  clear hB
  go_enter Try.func3, Try.ntmps3
  go_wp2_with fail
  refine (big_any A n cap _ HM.out).mono ?_
  rintro e w' ⟨rfl, rfl⟩
  go_wp2_with fail
  refine (roll_any A n cap 3 w hn HB.out).mono ?_
  rintro e w1 ⟨g, hg, rfl, hc1, hb1⟩
  have hgl := hc1.lt
  go_wp2_with fail
  refine (group_any g A n cap w1 hc1).mono ?_
  rintro e w2 ⟨s, l, c, sh, q, cap', zs, rfl, hown, hok, hs6, hc3, hc2, hg2⟩
  have hrow2 := own_row hown
  have hq1 := (hown.lt q rfl).1
  have E2 := bel_grown hb1 hg2 hg
  have hgq : g ≠ q := by omega
  have hg2l : g < w2.heap.size := hc2.lt
  clear hown hc1 hg2 hb1 hq1
  have HML : Hid (zs.length ≤ maxLen) := by
    show zs.length ≤ maxLen
    have h := hok
    simp only [okB, Bool.and_eq_true, decide_eq_true_eq] at h
    have := h.1.2
    unfold maxLen
    omega
  obtain ⟨b1, b2, b3, b4, b5, b6⟩ := okB_parts hok
  generalize hN : zs.length = N at hrow2 HML
  clear hN
  have U := Box.new w2 29 #[.int .i64 s, .int .i64 l, .int .i64 c, .int .i64 sh, .slice (some ⟨q, 0, none⟩) N cap']
  have hb3 := bel_alloc w2 (.cells #[.int .i64 s, .int .i64 l, .int .i64 c, .int .i64 sh, .slice (some ⟨q, 0, none⟩) N cap'] 29)
  go_wp2_with fail
  have hrow3 := hrow2.below hb3 (Nat.le_refl _)
  have E3 := bel_trans E2 hb3
  have hc3' := hc2.kept (grown_bel hb3 none) (fun q hq => by cases hq)
  have hPw : w.heap.size ≤ w2.heap.size := E2.size
  generalize (w2.alloc _ : World) = w3 at U hb3 hrow3 E3 hc3' ⊢
  clear hrow2 E2 hb3 hc2
  generalize w2.heap.size = P at U hrow3 hg2l hPw ⊢
  have hPl := U.lt
  -- a claim
  refine (below_any g A n cap 2 w3 (by omega) hc3').mono ?_
  rintro e w4 ⟨r1, ⟨h10, h11⟩, rfl, hc4, hg4⟩
  go_wp2_with fail
  refine (below_any g A n cap 2 w4 (by omega) hc4).mono ?_
  rintro e w5 ⟨ch, ⟨h20, h21⟩, rfl, hc5, hg5⟩
  go_wp2_with fail
  refine (below_any g A n cap 9 w5 (by omega) hc5).mono ?_
  rintro e w6 ⟨r3, ⟨h30, h31⟩, rfl, hc6, hg6⟩
  go_wp2_with fail
  refine (below_any g A n cap 6 w6 (by omega) hc6).mono ?_
  rintro e w7 ⟨cq, ⟨h40, h41⟩, rfl, hc7, hg7⟩
  go_wp2_with fail
  refine (below_any g A n cap 9000 w7 (by omega) hc7).mono ?_
  rintro e w8 ⟨cv, ⟨h50, h51⟩, rfl, hc8, hg8⟩
  have H8 := grown_trans (grown_trans (grown_trans (grown_trans hg4 hg5) hg6) hg7) hg8
  have U8 := U.kept H8 (by intro e; injection e with e; omega)
  have hrow8 := hrow3.keptB (by omega) H8 (fun k hk => by injection hk with hk; exact .inr (by omega))
  have E8 := bel_grown E3 H8 hg
  clear U hrow3 E3 hc3' hc4 hc5 hc6 hc7 hg4 hg5 hg6 hg7 hg8 H8
  obtain ⟨a0, a1, a2, a3, a4⟩ := U8.five
  have hP8 := U8.lt
  have V := Box.new w8 35 #[.int .i64 (1 + r1), .int .i64 ch, .int .i64 (1 + r3), .int .i64 cq, .int .i64 cv]
  have hb9 := bel_alloc w8 (.cells #[.int .i64 (1 + r1), .int .i64 ch, .int .i64 (1 + r3), .int .i64 cq, .int .i64 cv] 35)
  go_wp2_with fail
  have U9 := U8.later hb9 U8.lt
  have hrow9 := hrow8.below hb9 (by omega)
  have E9 := bel_trans E8 hb9
  have hc9 := hc8.kept (grown_bel hb9 none) (fun q hq => by cases hq)
  obtain ⟨ck, hck⟩ : ∃ ck, 1 + r1 = ck := ⟨_, rfl⟩
  obtain ⟨ct, hct⟩ : ∃ ct, 1 + r3 = ct := ⟨_, rfl⟩
  rw [hck, hct] at V hb9 U9 hrow9 E9 hc9 ⊢
  have hcl : clB ck ch ct cq cv = true := by
    have e1 : inB ck 1 2 = true := inB_true.2 (by omega)
    have e2 : inB ch 0 3 = true := inB_true.2 (by omega)
    have e3 : stB ct cq = true := by rw [stB_not (by omega), inB_true.2 (by omega), inB_true.2 (by omega)]; rfl
    have e4 : inB cv 0 9999 = true := inB_true.2 (by omega)
    simp [clB, e1, e2, e3, e4]
  clear hck hct h10 h11 h20 h21 h30 h31 h40 h41 h50 h51
  generalize (w8.alloc _ : World) = w9 at V hb9 U9 hrow9 E9 hc9 ⊢
  clear U8 hrow8 E8 hc8 hb9 a0 a1 a2 a3 a4
  generalize w8.heap.size = Q at V hP8 ⊢
  -- a server
  refine (below_any g A n cap s w9 (by omega) hc9).mono ?_
  rintro e w10 ⟨x, ⟨hx0, hx1⟩, rfl, hc10, hg10⟩
  have hQl := V.lt
  have U10 := U9.kept hg10 (by intro e; injection e with e; omega)
  have V10 := V.kept hg10 (by intro e; injection e with e; omega)
  have hrow10 := hrow9.keptB (by omega) hg10 (fun k hk => by injection hk with hk; exact .inr (by omega))
  have E10 := bel_grown E9 hg10 hg
  clear U9 V hrow9 E9 hc9 hg10
  have hsv : srvB s l c sh zs x = true := by simp only [srvB, hok, Bool.true_and]; exact inB_true.2 (by omega)
  have hsn : srvB s l c sh zs s = false := by simp only [srvB, hok, Bool.true_and]; exact inB_false.2 (by omega)
  have hse := seB_3 hcl hsv
  have HV := Lib.hid (seV_yes hse)
  have HN := Lib.hid (seV_no (seB_2 (zs := zs) hsn ck ch ct cq cv))
  have HR : Hid (∀ t, riB s l c sh zs ck ch ct cq cv x t = decide (t = tagN zs ck ch ct cq cv x)) := riB_yes hse
  obtain ⟨ht0, ht1⟩ := tagN_bd zs ck ch ct cq cv x
  generalize tagN zs ck ch ct cq cv x = tg at HV HR ht0 ht1
  clear hse hsv hsn hok
  obtain ⟨a0, a1, a2, a3, a4⟩ := U10.five
  obtain ⟨v0, v1, v2, v3, v4⟩ := V10.five
  have hPl10 := U10.lt
  have hQl10 := V10.lt
  go_wp2_with fail
  -- its seal
  refine (sealOf_is HV.out _ N cap' w10 HML.out (hrow10.more (by omega))).mono ?_
  rintro e w11 ⟨rfl, hb11⟩
  have U11 := U10.later hb11 U10.lt
  have V11 := V10.later hb11 V10.lt
  have hrow11 := hrow10.below hb11 (by omega)
  have E11 := bel_trans E10 hb11
  have hc11 := hc10.kept (grown_bel hb11 none) (fun q hq => by cases hq)
  clear U10 V10 hrow10 E10 hc10 hb11 a0 a1 a2 a3 a4 v0 v1 v2 v3 v4 hPl10 hQl10
  obtain ⟨a0, a1, a2, a3, a4⟩ := U11.five
  obtain ⟨v0, v1, v2, v3, v4⟩ := V11.five
  have hPl11 := U11.lt
  have hQl11 := V11.lt
  have S := Box.new w11 37 #[.int .i64 x, .int .i64 tg]
  have hb12 := bel_alloc w11 (.cells #[.int .i64 x, .int .i64 tg] 37)
  go_wp2_with fail
  have U12 := U11.later hb12 U11.lt
  have V12 := V11.later hb12 V11.lt
  have hrow12 := hrow11.below hb12 (by omega)
  have E12 := bel_trans E11 hb12
  have hc12 := hc11.kept (grown_bel hb12 none) (fun q hq => by cases hq)
  generalize (w11.alloc _ : World) = w12 at S hb12 U12 V12 hrow12 E12 hc12 ⊢
  clear U11 V11 hrow11 E11 hc11 hb12 a0 a1 a2 a3 a4 v0 v1 v2 v3 v4 hPl11
  generalize w11.heap.size = S7 at S hQl11 ⊢
  refine (specSeal_is HV.out _ N cap' w12 HML.out (hrow12.more (by have := U12.lt; omega))).mono ?_
  rintro e w13 ⟨rfl, hb13⟩
  have hP12 := U12.lt
  have U13 := U12.later hb13 U12.lt
  have V13 := V12.later hb13 V12.lt
  have S13 := S.later hb13 S.lt
  have hrow13 := hrow12.below hb13 (by omega)
  have E13 := bel_trans E12 hb13
  have hc13 := hc12.kept (grown_bel hb13 none) (fun q hq => by cases hq)
  clear U12 V12 S hrow12 E12 hc12 hb13
  obtain ⟨a0, a1, a2, a3, a4⟩ := U13.five
  obtain ⟨v0, v1, v2, v3, v4⟩ := V13.five
  have hPl13 := U13.lt
  have hQl13 := V13.lt
  have hSl13 := S13.lt
  have Z := Box.new w13 37 #[.int .i64 x, .int .i64 tg]
  have hb14 := bel_alloc w13 (.cells #[.int .i64 x, .int .i64 tg] 37)
  go_wp2_with fail
  have U14 := U13.later hb14 U13.lt
  have V14 := V13.later hb14 V13.lt
  have S14 := S13.later hb14 S13.lt
  have hrow14 := hrow13.below hb14 (by omega)
  have E14 := bel_trans E13 hb14
  have hc14 := hc13.kept (grown_bel hb14 none) (fun q hq => by cases hq)
  generalize (w13.alloc _ : World) = w14 at Z hb14 U14 V14 S14 hrow14 E14 hc14 ⊢
  clear U13 V13 S13 hrow13 E13 hc13 hb14 a0 a1 a2 a3 a4 v0 v1 v2 v3 v4 hPl13 hQl13
  generalize w13.heap.size = S9 at Z hSl13 ⊢
  refine (sealOf_is HN.out _ N cap' w14 HML.out (hrow14.more (by have := U14.lt; omega))).mono ?_
  rintro e w15 ⟨rfl, hb15⟩
  have hP14 := U14.lt
  have U15 := U14.later hb15 U14.lt
  have V15 := V14.later hb15 V14.lt
  have S15 := S14.later hb15 S14.lt
  have Z15 := Z.later hb15 Z.lt
  have hrow15 := hrow14.below hb15 (by omega)
  have E15 := bel_trans E14 hb15
  have hc15 := hc14.kept (grown_bel hb15 none) (fun q hq => by cases hq)
  clear U14 V14 S14 Z hrow14 E14 hc14 hb15
  have hb16 := bel_alloc w15 (.cells #[.int .i64 0, .int .i64 0] 37)
  go_wp2_with fail
  have U16 := U15.later hb16 U15.lt
  have V16 := V15.later hb16 V15.lt
  have S16 := S15.later hb16 S15.lt
  have Z16 := Z15.later hb16 Z15.lt
  have hP15 := U15.lt
  have hrow16 := hrow15.below hb16 (by omega)
  have E16 := bel_trans E15 hb16
  have hc16 := hc15.kept (grown_bel hb16 none) (fun q hq => by cases hq)
  generalize (w15.alloc _ : World) = w16 at hb16 U16 V16 S16 Z16 hrow16 E16 hc16 ⊢
  clear U15 V15 S15 Z15 hrow15 E15 hc15 hb16
  have hP16 : P ≤ w16.heap.size := by have := U16.lt; omega
  have HC := Lib.hid hcl
  have HT : Hid (riB s l c sh zs ck ch ct cq cv x tg = true) := (HR.out tg).trans (by simp)
  clear hcl
  obtain ⟨a0, a1, a2, a3, a4⟩ := fiveAfter U16
  obtain ⟨v0, v1, v2, v3, v4⟩ := fiveAfter V16
  obtain ⟨y0, y1⟩ := twoAfter S16
  obtain ⟨z0, z1⟩ := twoAfter Z16
  refine wp_region_after (by kernel_rfl) (by kernel_rfl) ?_
  repeat (first | go_big_quiet_step (first
    | (go_at_call 14; exact after_of (right_is HT.out _ N cap' _ HML.out (rowAt hrow16 hP16 _)))
    | (go_at_call 15; exact after_of (claimOk_is HC.out _))
    | (go_at_call 16; exact after_of (digest_any ck ch ct cq cv _))
    | (go_at_call 17; exact after_of (specDigest_any ck ch ct cq cv _))) | quiet_step (first
    | (go_at_call 14; exact after_of (right_is HT.out _ N cap' _ HML.out (rowAt hrow16 hP16 _)))
    | (go_at_call 15; exact after_of (claimOk_is HC.out _))
    | (go_at_call 16; exact after_of (digest_any ck ch ct cq cv _))
    | (go_at_call 17; exact after_of (specDigest_any ck ch ct cq cv _))))
  refine wpQuiet_nil ?_
  intro p
  have U17 := U16.later p.bel U16.lt
  have V17 := V16.later p.bel V16.lt
  have S17 := S16.later p.bel S16.lt
  have hrow17 := hrow16.below p.bel hP16
  have E17 := bel_trans E16 p.bel
  have hc17 := hc16.kept (grown_bel p.bel none) (fun q hq => by cases hq)
  obtain ⟨w17, hw17⟩ : ∃ w17, p.x = w17 := ⟨_, rfl⟩
  rw [hw17] at U17 V17 S17 hrow17 E17 hc17 ⊢
  clear hw17 p a0 a1 a2 a3 a4 v0 v1 v2 v3 v4 y0 y1 z0 z1 U16 V16 S16 Z16 hrow16 E16 hc16 hP16
  go_upto_region 12 with fail
  have hP17 := U17.lt
  have hQ17 := V17.lt
  have hS17 := S17.lt
  go_cut [91] (fun _ wr => ∃ y : Int, tg < y ∧ Box wr P 29 #[.int .i64 s, .int .i64 l, .int .i64 c, .int .i64 sh, .slice (some ⟨q, 0, none⟩) N cap'] ∧ Box wr Q 35 #[.int .i64 ck, .int .i64 ch, .int .i64 ct, .int .i64 cq, .int .i64 cv] ∧ Box wr S7 37 #[.int .i64 x, .int .i64 y] ∧ Row wr P (some ⟨q, 0, none⟩) N zs ∧ Below w.heap.size w wr)
  case first =>
    obtain ⟨y0, y1⟩ := S17.two
    have f1 := S17.frozen 1
    have hw1 : IntKind.i64.wrap (tg + 1) = tg + 1 := IntWalk.i64_in _ (by omega)
    go_region_law (first
      | (go_simp; go_at_call 11; refine (below_any g A n cap 99 _ (by omega) ?_).mono ?_; exact hc17; rintro e w18 ⟨r, ⟨hr0, hr1⟩, rfl, hc18, hg18⟩; have F18 := grown_of_drew hg18; have S18 := S17.kept F18 (by intro e; injection e with e; omega); have K1 := S18.cell 1; have f2 := S18.frozen 1; have hwr : IntKind.i64.wrap (tg + 1 + r) = tg + 1 + r := IntWalk.i64_in _ (by omega)))
    all_goals
      have U18 := U17.kept F18 (by intro e; injection e with e; omega)
      have V18 := V17.kept F18 (by intro e; injection e with e; omega)
      have hrow18 := hrow17.keptB (by omega) F18 (fun k hk => by injection hk with hk; exact .inr (by omega))
      have E18 := bel_grown E17 F18 hg
      go_wp2_with fail
      go_meet
      try simp only [hw1, hwr]
      exact ⟨tg + 1 + r, by omega, U18.far (p := ⟨S7, 1, none⟩) (by show S7 ≠ P; omega) _, V18.far (p := ⟨S7, 1, none⟩) (by show S7 ≠ Q; omega) _, S18.set 1 _, hrow18.far (p := ⟨S7, 1, none⟩) (by show P ≤ S7; omega) _, E18.setCell (p := ⟨S7, 1, none⟩) (by show _ ≤ S7; omega) _⟩
  case rest =>
  obtain ⟨y, hy, U18, V18, S18, hrow18, E18⟩ := hcut
  clear U17 V17 S17 hrow17 E17 hc17 hP17 hQ17 hS17
  have HF : Hid (riB s l c sh zs ck ch ct cq cv x y = false) := (HR.out y).trans (by simp; omega)
  clear HT HR hy
  go_wp2_with fail
  refine (drawRight_any A n cap wc hn ((HB.out.below E18 (Nat.le_refl _)).more E18.size)).mono ?_
  rintro e w19 ⟨s', l', c', sh', q', o', m', cap'', zs', ck', ch', ct', cq', cv', x', t', rfl, hrowx, hmx, hb19⟩
  have hP18 := U18.lt
  have U19 := U18.later hb19 U18.lt
  have V19 := V18.later hb19 V18.lt
  have S19 := S18.later hb19 S18.lt
  have hrow19 := hrow18.below hb19 (by omega)
  have E19 := bel_trans E18 hb19
  clear U18 V18 S18 hrow18 E18 hb19
  have HMX : Hid (m' ≤ maxLen) := by show m' ≤ maxLen; unfold maxLen; omega
  have XG := ((Box.new w19 29 #[.int .i64 s', .int .i64 l', .int .i64 c', .int .i64 sh', .slice (some ⟨q', o', none⟩) m' cap'']).alloc (.cells #[.int .i64 ck', .int .i64 ch', .int .i64 ct', .int .i64 cq', .int .i64 cv'] 35)).alloc (.cells #[.int .i64 x', .int .i64 t'] 37)
  have XC := (Box.new (w19.alloc (.cells #[.int .i64 s', .int .i64 l', .int .i64 c', .int .i64 sh', .slice (some ⟨q', o', none⟩) m' cap''] 29)) 35 #[.int .i64 ck', .int .i64 ch', .int .i64 ct', .int .i64 cq', .int .i64 cv']).alloc (.cells #[.int .i64 x', .int .i64 t'] 37)
  have XS := Box.new ((w19.alloc (.cells #[.int .i64 s', .int .i64 l', .int .i64 c', .int .i64 sh', .slice (some ⟨q', o', none⟩) m' cap''] 29)).alloc (.cells #[.int .i64 ck', .int .i64 ch', .int .i64 ct', .int .i64 cq', .int .i64 cv'] 35)) 37 #[.int .i64 x', .int .i64 t']
  have hb20 := bel_trans (bel_trans (bel_alloc w19 (.cells #[.int .i64 s', .int .i64 l', .int .i64 c', .int .i64 sh', .slice (some ⟨q', o', none⟩) m' cap''] 29)) (bel_alloc _ (.cells #[.int .i64 ck', .int .i64 ch', .int .i64 ct', .int .i64 cq', .int .i64 cv'] 35))) (bel_alloc _ (.cells #[.int .i64 x', .int .i64 t'] 37))
  simp only [World.size_alloc] at XC XS
  go_wp2_with fail
  have U20 := U19.later hb20 U19.lt
  have V20 := V19.later hb20 V19.lt
  have S20 := S19.later hb20 S19.lt
  have hP19 := U19.lt
  have hrow20 := hrow19.below hb20 (by omega)
  have E20 := bel_trans E19 hb20
  have hrowx := (hrowx.below hb20 (Nat.le_refl _)).more hb20.size
  generalize (((w19.alloc _).alloc _).alloc _ : World) = w20 at XG XC XS hb20 U20 V20 S20 hrow20 E20 hrowx ⊢
  clear U19 V19 S19 hrow19 E19 hb20
  generalize w19.heap.size = H at XG XC XS ⊢
  have hP20 : P ≤ w20.heap.size := by have := U20.lt; omega
  obtain ⟨a0, a1, a2, a3, a4⟩ := fiveAfter U20
  obtain ⟨v0, v1, v2, v3, v4⟩ := fiveAfter V20
  obtain ⟨y0, y1⟩ := twoAfter S20
  obtain ⟨d0, d1, d2, d3, d4⟩ := fiveAfter XG
  obtain ⟨e0, e1, e2, e3, e4⟩ := fiveAfter XC
  obtain ⟨z0, z1⟩ := twoAfter XS
  refine wp_region_after (by kernel_rfl) (by kernel_rfl) ?_
  repeat (first | go_big_quiet_step (first
    | (go_at_call 14; with_reducible exact after_of (right_is HF.out _ N cap' _ HML.out (rowAt hrow20 hP20 _)))
    | (go_at_call 14; with_reducible exact after_of (sealRight_any s' l' c' sh' _ m' cap'' zs' ck' ch' ct' cq' cv' x' t' _ HMX.out (rowAfter hrowx _)))
    | (go_at_call 19; exact after_of (specRight_any s' l' c' sh' _ m' cap'' zs' ck' ch' ct' cq' cv' x' t' _ HMX.out (rowAfter hrowx _)))) | quiet_step (first
    | (go_at_call 14; with_reducible exact after_of (right_is HF.out _ N cap' _ HML.out (rowAt hrow20 hP20 _)))
    | (go_at_call 14; with_reducible exact after_of (sealRight_any s' l' c' sh' _ m' cap'' zs' ck' ch' ct' cq' cv' x' t' _ HMX.out (rowAfter hrowx _)))
    | (go_at_call 19; exact after_of (specRight_any s' l' c' sh' _ m' cap'' zs' ck' ch' ct' cq' cv' x' t' _ HMX.out (rowAfter hrowx _)))))
  refine wpQuiet_nil ?_
  intro p
  have E21 := bel_trans E20 p.bel
  go_wp2
  go_ret
  exact ⟨by first | rfl | simp, E21⟩

end Go.Proofs.Ytcejiellbefojaa
