/- The law FnCerts answers true, whatever bytes it is given: its walk; conditions: the bytes can be read. -/
import Derived.Test.YtdabmnhbmdaodaaCertBase
import Derived.Test.YtdabmnhbmdaodaaDrawProven
import Derived.Test.YtdabmnhbmdaodaaJoined
import Derived.Test.YtdabmnhbmdaodaaCert3
import Derived.Test.YtdabmnhbmdaodaaSpecProven
namespace Go.Proofs.Ytdabmnhbmdaodaa
open Go.RowKit

theorem puts_mem {l : List (Int × Int)} {p : Int × Int} (h : p ∈ puts l) : p ∈ l := by
  have : p ∈ of p.1 (puts l) := mem_of.2 ⟨h, rfl⟩
  rw [puts_of] at this
  exact (mem_of.1 (List.mem_of_mem_take this)).1
theorem puts_has {l : List (Int × Int)} {p : Int × Int} (h : p ∈ l) : ∃ r ∈ puts l, r.1 = p.1 := by
  have hm : p ∈ of p.1 l := mem_of.2 ⟨h, rfl⟩
  have he := puts_of l p.1
  match ho : of p.1 l with
  | [] => rw [ho] at hm; simp at hm
  | x :: r =>
    rw [ho] at he
    have : x ∈ of p.1 (puts l) := by rw [he]; simp
    exact ⟨x, (mem_of.1 this).1, (mem_of.1 this).2⟩
theorem ssrt_le : ∀ {a b : List (Int × Int)}, SSrt a → SSrt b → (∀ p ∈ a, ∃ r ∈ b, r.1 = p.1) → a.length ≤ b.length
  | [], _, _, _, _ => Nat.zero_le _
  | x :: a, b, ha, hb, h => by
    have ha' := List.pairwise_cons.1 ha
    obtain ⟨r, hr, hk⟩ := h x (by simp)
    obtain ⟨b1, b2, rfl⟩ := List.append_of_mem hr
    have hb' := List.pairwise_append.1 hb
    have hb2 := List.pairwise_cons.1 hb'.2.1
    have := ssrt_le (b := b2) ha'.2 hb2.2 (fun p hp => by
      obtain ⟨r', hr', hk'⟩ := h p (by simp [hp])
      have hlt := ha'.1 p hp
      rcases List.mem_append.1 hr' with h1 | h1
      · have := hb'.2.2 r' h1 r (by simp)
        omega
      · rcases List.mem_cons.1 h1 with h2 | h2
        · rw [h2] at hk'; omega
        · exact ⟨r', h2, hk'⟩)
    simp only [List.length_cons, List.length_append]
    omega
theorem puts_ssrt {J : List (Int × Int)} (h : SSrt J) : puts J = J := by
  refine same_eq (puts_srt _).srt h.srt fun k => ?_
  rw [puts_of, List.take_of_length_le (ssrt_of h k)]
theorem goodP_again (R : Int × Int → Bool) (ps : List (Int × Int)) : goodP R (goodP R ps) = goodP R ps := by
  have hf : (goodP R ps).filter R = goodP R ps := by
    rw [List.filter_eq_self]
    intro p hp
    have := puts_mem hp
    simpa using (List.mem_filter.1 this).2
  show puts ((goodP R ps).filter R) = goodP R ps
  rw [hf]
  exact puts_ssrt (puts_srt _)
theorem goodP_less (R : Int × Int → Bool) (ps : List (Int × Int)) : (goodP R (ps.drop 1)).length ≤ (goodP R ps).length := by
  refine ssrt_le (puts_srt _) (puts_srt _) fun p hp => ?_
  have := List.mem_filter.1 (puts_mem hp)
  exact puts_has (List.mem_filter.2 ⟨List.mem_of_mem_drop this.1, this.2⟩)
/-- A certificate has more than can lie, and what is good of it is one. -/
theorem cer_good {s l c sh : Int} {zs : List Int} {ck ch ct cq cv : Int} {ps : List (Int × Int)} (h : cerB s l c sh zs ck ch ct cq cv ps = true) :
    l < ((goodP (rB s l c sh zs ck ch ct cq cv) ps).length : Int) ∧ cerB s l c sh zs ck ch ct cq cv (goodP (rB s l c sh zs ck ch ct cq cv) ps) = true := by
  simp only [cerB, Bool.and_eq_true, decide_eq_true_eq] at h ⊢
  obtain ⟨⟨hok, h20⟩, hq⟩ := h
  have hb := okB_parts hok
  have hle := goodP_le (rB s l c sh zs ck ch ct cq cv) ps
  have hqn : quoN s l c sh zs = (s + l) / 2 + 1 := by simp [quoN, hok]
  unfold cntN at hq ⊢
  rw [goodP_again]
  exact ⟨by omega, ⟨hok, by omega⟩, hq⟩

theorem count_as {s l c sh : Int} {zs : List Int} {ck ch ct cq cv : Int} {ps : List (Int × Int)} {N : Int} (hN : cntN s l c sh zs ck ch ct cq cv ps = N) (A : Option Addr) (n cap : Nat) (P : Option Addr) (m pcap : Nat) (w : World) (hm : n ≤ maxLen) (hr : Row w w.heap.size A n zs) (hn : m ≤ 4194304) (h : Pairs w w.heap.size P m ps) :
    Calls Try.prog 16 #[.agg #[.int .i64 s, .int .i64 l, .int .i64 c, .int .i64 sh, .slice A n cap], .agg #[.int .i64 ck, .int .i64 ch, .int .i64 ct, .int .i64 cq, .int .i64 cv], .slice P m pcap] w fun e w' => e = .returned (.int .i64 N) ∧ Below w.heap.size w w' := hN ▸ count_is s l c sh A n cap zs ck ch ct cq cv P m pcap ps w hm hr hn h
theorem specCount_as {s l c sh : Int} {zs : List Int} {ck ch ct cq cv : Int} {ps : List (Int × Int)} {N : Int} (hN : cntN s l c sh zs ck ch ct cq cv ps = N) (A : Option Addr) (n cap : Nat) (P : Option Addr) (m pcap : Nat) (w : World) (hm : n ≤ maxLen) (hr : Row w w.heap.size A n zs) (hn : m ≤ 4194304) (h : Pairs w w.heap.size P m ps) :
    Calls Try.prog 18 #[.agg #[.int .i64 s, .int .i64 l, .int .i64 c, .int .i64 sh, .slice A n cap], .agg #[.int .i64 ck, .int .i64 ch, .int .i64 ct, .int .i64 cq, .int .i64 cv], .slice P m pcap] w fun e w' => e = .returned (.int .i64 N) ∧ Below w.heap.size w w' := hN ▸ specCount_is s l c sh A n cap zs ck ch ct cq cv P m pcap ps w hm hr hn h

theorem pairs_tail {w : World} {B p n : Nat} {ps : List (Int × Int)} (h : Pairs w B (some ⟨p, 0, none⟩) n ps) : Pairs w B (some ⟨p, 2, none⟩) (n - 1) (ps.drop 1) := by
  refine ⟨by rw [List.length_drop, h.1], fun hn => ?_⟩
  obtain ⟨b, o, hA, hb, hc⟩ := h.2 (by omega)
  cases hA
  refine ⟨_, _, rfl, hb, fun i hi => ?_⟩
  have := hc (i + 1) (by omega)
  have e : pth (ps.drop 1) i = pth ps (i + 1) := by rw [pth_drop, Nat.add_comm]
  rw [e, show 2 + i * 2 = 0 + (i + 1) * 2 by omega]
  exact this

theorem certs_big (A : Option Addr) (n cap : Nat) (w : World) (hm : n ≤ maxLen) (hb : 4096 < n) :
    Calls Try.prog 4 #[.slice A n cap] w fun e w' => e = .returned (.bool true) ∧ Below w.heap.size w w' := by
  have hd : decide (4096 < n) = true := by simpa using hb
  go_enter Try.func4, Try.ntmps4
  go_wp2_with (go_at_call 10; refine (big_any A n cap _ hm).mono ?_; rintro e w' ⟨rfl, rfl⟩)
  go_ret
  exact ⟨rfl, Below.refl _ _⟩

set_option maxRecDepth 100000 in
set_option maxHeartbeats 8000000 in
theorem certs_small (A : Option Addr) (n cap : Nat) (w : World) (hn : n ≤ 4096) (hB : Bytes w w.heap.size A n) :
    Calls Try.prog 4 #[.slice A n cap] w fun e w' => e = .returned (.bool true) ∧ Below w.heap.size w w' := by
  have hd : decide (4096 < n) = false := by simpa using hn
  have HM : Hid (n ≤ maxLen) := by show n ≤ maxLen; unfold maxLen; omega
  have HB := Lib.hid hB
  clear hB
  go_enter Try.func4, Try.ntmps4
  go_wp2_with fail
  refine (big_any A n cap _ HM.out).mono ?_
  rintro e w' ⟨rfl, rfl⟩
  go_wp2_with fail
  refine (drawCertOk_any A n cap w hn HB.out).mono ?_
  rintro e w1 ⟨s, l, c, sh, q, o, m, cap', zs, ck, ch, ct, cq, cv, p, pc, ps, rfl, hq, hrow1, hm100, hls, E1⟩
  have hpl := hls.len
  have PL1 := hls.pairs
  have hpcap : ps.length ≤ pc := by
    rcases hls.own.2 with ⟨h0, _⟩ | ⟨g', cap2, cur, hv, _, _, hnc, _⟩
    · cases h0
    · injection hv with _ _ hv; omega
  have hpcm : pc ≤ 9223372036854775807 := by
    rcases hls.own.2 with ⟨h0, _⟩ | ⟨g', cap2, cur, hv, _, _, _, hcm, _⟩
    · cases h0
    · injection hv with _ _ hv; unfold maxLen at hcm; omega
  have HX : Hid (m ≤ maxLen) := by show m ≤ maxLen; unfold maxLen; omega
  obtain ⟨J, hJ⟩ : ∃ J, goodP (rB s l c sh zs ck ch ct cq cv) ps = J := ⟨_, rfl⟩
  have hJl : J.length ≤ ps.length := by rw [← hJ]; exact goodP_le _ _
  have hcnt := Lib.hid (show cntN s l c sh zs ck ch ct cq cv ps = (J.length : Int) by unfold cntN; rw [hJ])
  obtain ⟨N1, hN1⟩ : ∃ N1, cntN s l c sh zs ck ch ct cq cv (ps.drop 1) = N1 := ⟨_, rfl⟩
  have hN1l : ¬ ((J.length : Int) < N1) := by
    rw [← hN1, ← hJ]
    unfold cntN
    have := goodP_less (rB s l c sh zs ck ch ct cq cv) ps
    omega
  have hcg := Lib.hid (fun h => hJ ▸ cer_good (s := s) (l := l) (c := c) (sh := sh) (zs := zs) (ck := ck) (ch := ch) (ct := ct) (cq := cq) (cv := cv) (ps := ps) h)
  replace hJ := Lib.hid hJ
  replace hN1 := Lib.hid hN1
  clear hls
  generalize hM : ps.length = M at hpl PL1 hpcap hJl ⊢
  replace hM := Lib.hid hM
  have U1 := (Box.new w1 33 #[.int .i64 s, .int .i64 l, .int .i64 c, .int .i64 sh, .slice (some ⟨q, o, none⟩) m cap']).alloc (.cells #[.int .i64 ck, .int .i64 ch, .int .i64 ct, .int .i64 cq, .int .i64 cv] 37)
  have V1 := Box.new (w1.alloc (.cells #[.int .i64 s, .int .i64 l, .int .i64 c, .int .i64 sh, .slice (some ⟨q, o, none⟩) m cap'] 33)) 37 #[.int .i64 ck, .int .i64 ch, .int .i64 ct, .int .i64 cq, .int .i64 cv]
  have hb2 := bel_trans (bel_alloc w1 (.cells #[.int .i64 s, .int .i64 l, .int .i64 c, .int .i64 sh, .slice (some ⟨q, o, none⟩) m cap'] 33)) (bel_alloc _ (.cells #[.int .i64 ck, .int .i64 ch, .int .i64 ct, .int .i64 cq, .int .i64 cv] 37))
  simp only [World.size_alloc] at V1
  go_upto_region 4 with fail
  generalize ((w1.alloc _).alloc _ : World) = w2 at U1 V1 hb2 ⊢
  generalize w1.heap.size = S at U1 V1 ⊢
  have E2 := bel_trans E1 hb2
  have hrow2 := (hrow1.below hb2 (Nat.le_refl _)).more hb2.size
  have PL2 := PL1.later hb2
  clear E1 hb2 hrow1 PL1
  obtain ⟨d0, d1, d2, d3, d4, x0, x1, x2, x3, x4⟩ := ten U1 V1
  go_wp2_with fail
  refine (count_as hcnt.out _ m cap' _ M pc w2 HX.out hrow2 (by omega) PL2).mono ?_
  rintro e w3 ⟨rfl, hb3⟩
  have U3 := U1.later hb3 U1.lt
  have V3 := V1.later hb3 V1.lt
  have E3 := bel_trans E2 hb3
  have hrow3 := (hrow2.below hb3 (Nat.le_refl _)).more hb3.size
  have PL3 := PL2.later hb3
  clear U1 V1 E2 hrow2 PL2 hb3 d0 d1 d2 d3 d4 x0 x1 x2 x3 x4
  obtain ⟨d0, d1, d2, d3, d4, x0, x1, x2, x3, x4⟩ := ten U3 V3
  go_wp2_with fail
  refine (good_is s l c sh _ m cap' zs ck ch ct cq cv _ M pc ps w3 HX.out hrow3 (by omega) PL3).mono ?_
  rintro e w4 ⟨u, rfl, hown⟩
  rw [hJ.out] at hown
  obtain ⟨A0, c0, rfl, PJ4, _⟩ := hown.form
  have U4 := U3.later hown.2 U3.lt
  have V4 := V3.later hown.2 V3.lt
  have E4 := bel_trans E3 hown.2
  have hrow4 := (hrow3.below hown.2 (Nat.le_refl _)).more hown.2.size
  have PL4 := PL3.later hown.2
  clear U3 V3 E3 hrow3 PL3 hown d0 d1 d2 d3 d4 x0 x1 x2 x3 x4
  obtain ⟨d0, d1, d2, d3, d4, x0, x1, x2, x3, x4⟩ := ten U4 V4
  have hj1 : (((J.length : Int)) != (J.length : Int)) = false := by simp
  go_upto_region 6 with fail
  go_cut [60] (fun v wr => v = .bool false ∧ Below w4.heap.size w4 wr)
  case first => as_aux_lemma =>
    rcases hcb : cerB s l c sh zs ck ch ct cq cv ps with _ | _
    all_goals
      have HC := Lib.hid hcb
      clear hcb
      go_wp2_with fail
      go_region_held3 (fun w' => w'.cell? ⟨S, 0, none⟩ = some (.int .i64 s) ∧ w'.cell? ⟨S, 1, none⟩ = some (.int .i64 l) ∧ w'.cell? ⟨S, 2, none⟩ = some (.int .i64 c) ∧ w'.cell? ⟨S, 3, none⟩ = some (.int .i64 sh) ∧ w'.cell? ⟨S, 4, none⟩ = some (.slice (some ⟨q, o, none⟩) m cap') ∧ w'.cell? ⟨S + 1, 0, none⟩ = some (.int .i64 ck) ∧ w'.cell? ⟨S + 1, 1, none⟩ = some (.int .i64 ch) ∧ w'.cell? ⟨S + 1, 2, none⟩ = some (.int .i64 ct) ∧ w'.cell? ⟨S + 1, 3, none⟩ = some (.int .i64 cq) ∧ w'.cell? ⟨S + 1, 4, none⟩ = some (.int .i64 cv))
        (first | (with_reducible exact K9) | (with_reducible exact K8) | (with_reducible exact K7) | (with_reducible exact K6) | (with_reducible exact K5) | go_keep)
        (first
          | (go_at_call 18; refine (specCount_as hcnt.out _ m cap' _ M pc _ HX.out ?_ (by omega) ?_).mono ?_; exact hrow4; exact PL4; rintro e w5 ⟨rfl, hb5⟩; have F5 := bel_drew' hb5; have hrow5 := (hrow4.below F5 (Nat.le_refl _)).more F5.size; have PL5 := PL4.later F5; have PJ5 := PJ4.later F5; have K5 := ten (U4.later F5 U4.lt) (V4.later F5 V4.lt))
          | (go_at_call 19; refine (specGood_is s l c sh _ m cap' zs ck ch ct cq cv _ M pc ps w5 HX.out hrow5 (by omega) PL5).mono ?_; rw [hJ.out]; rintro e w6 ⟨q6, c6, rfl, P6, hb6⟩; have F6 := bel_trans F5 hb6; have hrow6 := (hrow5.below hb6 (Nat.le_refl _)).more hb6.size; have PL6 := PL5.later hb6; have PJ6 := PJ5.later hb6; have K6 := ten (U4.later F6 U4.lt) (V4.later F6 V4.lt))
          | (go_at_call 13; refine (like_is A0 _ J.length c0 c6 J w6 (by omega) PJ6 P6).mono ?_; rintro e w7 ⟨rfl, hb7⟩; have F7 := bel_trans F6 hb7; have hrow7 := (hrow6.below hb7 (Nat.le_refl _)).more hb7.size; have PL7 := PL6.later hb7; have K7 := ten (U4.later F7 U4.lt) (V4.later F7 V4.lt))
          | (go_at_call 20; refine (certB_is HC.out _ m cap' _ M pc w7 HX.out hrow7 (by omega) PL7).mono ?_; rintro e w8 ⟨rfl, hb8⟩; have F8 := bel_trans F7 hb8; have hrow8 := (hrow7.below hb8 (Nat.le_refl _)).more hb8.size; have PL8 := PL7.later hb8; have K8 := ten (U4.later F8 U4.lt) (V4.later F8 V4.lt))
          | (go_at_call 21; refine (specCertB_is HC.out _ m cap' _ M pc w8 HX.out hrow8 (by omega) PL8).mono ?_; rintro e w9 ⟨rfl, hb9⟩; have F9 := bel_trans F8 hb9; have K9 := ten (U4.later F9 U4.lt) (V4.later F9 V4.lt)))
      go_wp2_with fail
      go_meet
      exact ⟨rfl, F9⟩
  case rest =>
  obtain ⟨rfl, hb5⟩ := hcut
  obtain ⟨w5, rfl⟩ : ∃ w5, w5 = wc := ⟨_, rfl⟩
  have U5 := U4.later hb5 U4.lt
  have V5 := V4.later hb5 V4.lt
  have E5 := bel_trans E4 hb5
  have hrow5 := (hrow4.below hb5 (Nat.le_refl _)).more hb5.size
  have PL5 := PL4.later hb5
  have PJ5 := PJ4.later hb5
  clear U4 V4 E4 hrow4 PL4 PJ4 hb5 d0 d1 d2 d3 d4 x0 x1 x2 x3 x4
  go_upto_region 8 with fail
  go_cut [72] (fun v wr => v = .bool false ∧ Below w5.heap.size w5 wr)
  case first => as_aux_lemma =>
    obtain ⟨f0, f1, f2, f3, f4⟩ := fiveAfter U5
    obtain ⟨f5, f6, f7, f8, f9⟩ := fiveAfter V5
    by_cases hp0 : M = 0
    · subst hp0
      refine wp_region_after (by kernel_rfl) (by kernel_rfl) ?_
      repeat (first | go_big_quiet_step (fail) | quiet_step (fail))
      refine wpQuiet_nil ?_
      intro pw
      go_wp2_with fail
      go_meet
      exact ⟨rfl, pw.bel⟩
    · have hz : 0 < (M : Int) := by omega
      have hd1 : decide (0 < (M : Int)) = true := by simp; omega
      have hd2 : decide (0 < M) = true := by simp; omega
      have h1c : 1 ≤ pc := by omega
      have h1l : 1 ≤ M := by omega
      refine wp_region_after (by kernel_rfl) (by kernel_rfl) ?_
      have P1 : Pairs w5 w5.heap.size (some ⟨p, 2, none⟩) (M - 1) (ps.drop 1) := pairs_tail PL5
      by_cases hpc : pc = 1
      · subst hpc
        obtain rfl : M = 1 := by omega
        have P0 : ∀ A : Option Addr, Pairs w5 w5.heap.size A 0 (ps.drop 1) := fun A => ⟨by rw [List.length_drop, hM.out], fun h => absurd h (by omega)⟩
        have HP0 := Lib.hid P0
        clear P0
        repeat (first | go_big_quiet_step ((go_at_call 16; exact after_of (count_as hN1.out _ m cap' _ 0 0 _ HX.out (rowAfter hrow5 _) (by omega) (pairsAfter (HP0.out _) _)))) | quiet_step ((go_at_call 16; exact after_of (count_as hN1.out _ m cap' _ 0 0 _ HX.out (rowAfter hrow5 _) (by omega) (pairsAfter (HP0.out _) _)))))
        refine wpQuiet_nil ?_
        intro pw
        go_wp2_with fail
        go_meet
        exact ⟨congrArg Value.bool (decide_eq_false (by omega)), pw.bel⟩
      · have hpc' : 1 < pc := by omega
        repeat (first | go_big_quiet_step ((go_at_call 16; exact after_of (count_as hN1.out _ m cap' _ (M - 1) (pc - 1) _ HX.out (rowAfter hrow5 _) (by omega) (pairsAfter P1 _)))) | quiet_step ((go_at_call 16; exact after_of (count_as hN1.out _ m cap' _ (M - 1) (pc - 1) _ HX.out (rowAfter hrow5 _) (by omega) (pairsAfter P1 _)))))
        refine wpQuiet_nil ?_
        intro pw
        go_wp2_with fail
        go_meet
        exact ⟨congrArg Value.bool (decide_eq_false (by omega)), pw.bel⟩
  case rest =>
  obtain ⟨rfl, hb6⟩ := hcut
  obtain ⟨w6, rfl⟩ : ∃ w6, w6 = wc := ⟨_, rfl⟩
  have U6 := U5.later hb6 U5.lt
  have V6 := V5.later hb6 V5.lt
  have E6 := bel_trans E5 hb6
  have hrow6 := (hrow5.below hb6 (Nat.le_refl _)).more hb6.size
  have PL6 := PL5.later hb6
  have PJ6 := PJ5.later hb6
  clear U5 V5 E5 hrow5 PL5 PJ5 hb6
  go_wp2_with fail
  refine (drawProven_any A n cap w6 hn ((HB.out.below E6 (Nat.le_refl _)).more E6.size)).mono ?_
  rintro e w7 ⟨s', l', c', sh', q', o', m', cap'', zs', x, ct', cq', v, p', pc', ks, rfl, hrow7', hm7, hls7, hb7⟩
  have U7 := U6.later hb7 U6.lt
  have V7 := V6.later hb7 V6.lt
  have E7 := bel_trans E6 hb7
  have hrow7 := (hrow6.below hb7 (Nat.le_refl _)).more hb7.size
  have PL7 := PL6.later hb7
  have PJ7 := PJ6.later hb7
  have HX' : Hid (m' ≤ maxLen) := by show m' ≤ maxLen; unfold maxLen; omega
  have PK7 := hls7.pairs
  have hkl := hls7.len
  generalize hM' : ks.length = M' at PK7 hkl ⊢
  replace hM' := Lib.hid hM'
  clear U6 V6 E6 hrow6 PL6 PJ6 hb7 hls7
  have Y := (Box.new w7 33 #[.int .i64 s', .int .i64 l', .int .i64 c', .int .i64 sh', .slice (some ⟨q', o', none⟩) m' cap'']).alloc (.cells #[.int .i64 ct', .int .i64 cq'] 35)
  have Z := Box.new (w7.alloc (.cells #[.int .i64 s', .int .i64 l', .int .i64 c', .int .i64 sh', .slice (some ⟨q', o', none⟩) m' cap''] 33)) 35 #[.int .i64 ct', .int .i64 cq']
  have hb8 := bel_trans (bel_alloc w7 (.cells #[.int .i64 s', .int .i64 l', .int .i64 c', .int .i64 sh', .slice (some ⟨q', o', none⟩) m' cap''] 33)) (bel_alloc _ (.cells #[.int .i64 ct', .int .i64 cq'] 35))
  simp only [World.size_alloc] at Z
  go_upto_region 11 with fail
  generalize ((w7.alloc _).alloc _ : World) = w8 at Y Z hb8 ⊢
  generalize w7.heap.size = S' at Y Z ⊢
  have U8 := U7.later hb8 U7.lt
  have V8 := V7.later hb8 V7.lt
  have E8 := bel_trans E7 hb8
  have hrow8 := (hrow7.below hb8 (Nat.le_refl _)).more hb8.size
  have PL8 := PL7.later hb8
  have PJ8 := PJ7.later hb8
  have PK8 := PK7.later hb8
  have hrow8' := (hrow7'.below hb8 (Nat.le_refl _)).more hb8.size
  clear U7 V7 E7 hrow7 PL7 PJ7 PK7 hrow7' hb8
  go_cut [93] (fun v wr => v = .bool false ∧ Below w8.heap.size w8 wr)
  case first => as_aux_lemma =>
    obtain ⟨f0, f1, f2, f3, f4⟩ := fiveAfter Y
    obtain ⟨t0, t1⟩ := Z.two
    have f5 := After.cell (by exact Z.lt) t0
    have f6 := After.cell (by exact Z.lt) t1
    clear t0 t1
    refine wp_region_after (by kernel_rfl) (by kernel_rfl) ?_
    repeat (first | go_big_quiet_step (first
      | (go_at_call 23; exact after_of (proven_is s' l' c' sh' _ m' cap'' zs' x ct' cq' v _ M' pc' ks _ HX'.out (rowAfter hrow8' _) (by omega) (pairsAfter PK8 _)))
      | (go_at_call 24; exact after_of (specProven_is s' l' c' sh' _ m' cap'' zs' x ct' cq' v _ M' pc' ks _ HX'.out (rowAfter hrow8' _) (by omega) (pairsAfter PK8 _)))) | quiet_step (first
      | (go_at_call 23; exact after_of (proven_is s' l' c' sh' _ m' cap'' zs' x ct' cq' v _ M' pc' ks _ HX'.out (rowAfter hrow8' _) (by omega) (pairsAfter PK8 _)))
      | (go_at_call 24; exact after_of (specProven_is s' l' c' sh' _ m' cap'' zs' x ct' cq' v _ M' pc' ks _ HX'.out (rowAfter hrow8' _) (by omega) (pairsAfter PK8 _)))))
    refine wpQuiet_nil ?_
    intro pw
    go_wp2_with fail
    go_meet
    exact ⟨by simp, pw.bel⟩
  case rest =>
  obtain ⟨rfl, hb9⟩ := hcut
  obtain ⟨w9, rfl⟩ : ∃ w9, w9 = wc := ⟨_, rfl⟩
  have U9 := U8.later hb9 U8.lt
  have V9 := V8.later hb9 V8.lt
  have E9 := bel_trans E8 hb9
  have hrow9 := (hrow8.below hb9 (Nat.le_refl _)).more hb9.size
  have PL9 := PL8.later hb9
  have PJ9 := PJ8.later hb9
  clear U8 V8 E8 hrow8 PL8 PJ8 PK8 hrow8' hb9 Y Z
  obtain ⟨d0, d1, d2, d3, d4, x0, x1, x2, x3, x4⟩ := ten U9 V9
  rcases hcb : cerB s l c sh zs ck ch ct cq cv ps with _ | _
  · have HC := Lib.hid hcb
    clear hcb
    go_wp2_with fail
    refine (certB_is HC.out _ m cap' _ M pc w9 HX.out hrow9 (by omega) PL9).mono ?_
    rintro e w10 ⟨rfl, hb10⟩
    have E10 := bel_trans E9 hb10
    go_wp2
    go_ret
    exact ⟨rfl, E10⟩
  · have HC := Lib.hid hcb
    obtain ⟨hli, hgd⟩ := hcg.out hcb
    have HGD := Lib.hid hgd
    clear hcb hgd
    go_wp2_with fail
    refine (certB_is HC.out _ m cap' _ M pc w9 HX.out hrow9 (by omega) PL9).mono ?_
    rintro e w10 ⟨rfl, hb10⟩
    have U10 := U9.later hb10 U9.lt
    have V10 := V9.later hb10 V9.lt
    have E10 := bel_trans E9 hb10
    have hrow10 := (hrow9.below hb10 (Nat.le_refl _)).more hb10.size
    have PJ10 := PJ9.later hb10
    clear U9 V9 E9 hrow9 PL9 PJ9 hb10 d0 d1 d2 d3 d4 x0 x1 x2 x3 x4
    obtain ⟨d0, d1, d2, d3, d4, x0, x1, x2, x3, x4⟩ := ten U10 V10
    go_wp2_with fail
    refine (certB_is HGD.out _ m cap' _ J.length c0 w10 HX.out hrow10 (by omega) PJ10).mono ?_
    rintro e w11 ⟨rfl, hb11⟩
    have E11 := bel_trans E10 hb11
    go_wp2
    go_ret
    exact ⟨rfl, E11⟩

end Go.Proofs.Ytdabmnhbmdaodaa
