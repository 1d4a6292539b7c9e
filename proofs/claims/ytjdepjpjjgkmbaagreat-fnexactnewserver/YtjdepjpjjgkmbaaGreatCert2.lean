/- The functions of certificates, second part: CertCount: its contract; up to some four million seals. -/
import Derived.Test.YtjdepjpjjgkmbaaGreatCert
import Derived.Test.YtjdepjpjjgkmbaaGreatDrawSpec
namespace Go.Proofs.YtjdepjpjjgkmbaaGreat
open Go.RowKit

/-- What CertCount keeps: the group, the claim, the flags. -/
structure CountAt (w0 wr : World) (J : List (Int × Int)) (s l c sh : Int) (A : Option Addr) (n cap : Nat) (ck ch ct cq cv : Int) : Prop where
  bel : Below w0.heap.size w0 wr
  gr : Box wr w0.heap.size 26 #[.int .i64 s, .int .i64 l, .int .i64 c, .int .i64 sh, .slice A n cap]
  cl : Box wr (w0.heap.size + 1) 180 #[.int .i64 ck, .int .i64 ch, .int .i64 ct, .int .i64 cq, .int .i64 cv]
  who : Box wr (w0.heap.size + 1 + 1) 255 #[.bool (fl (J) 0), .bool (fl (J) 1), .bool (fl (J) 2), .bool (fl (J) 3), .bool (fl (J) 4), .bool (fl (J) 5), .bool (fl (J) 6), .bool (fl (J) 7), .bool (fl (J) 8), .bool (fl (J) 9)]
theorem CountAt.later {w0 wr w' : World} {J : List (Int × Int)} {s l c sh : Int} {A : Option Addr} {n cap : Nat} {ck ch ct cq cv : Int} (h : CountAt w0 wr J s l c sh A n cap ck ch ct cq cv) (hb : Below wr.heap.size wr w') : CountAt w0 w' J s l c sh A n cap ck ch ct cq cv :=
  ⟨bel_trans h.bel hb, h.gr.later hb h.gr.lt, h.cl.later hb h.cl.lt, h.who.later hb h.who.lt⟩
theorem Box.put10 {w : World} {g : Nat} {t : TypeId} {v0 v1 v2 v3 v4 v5 v6 v7 v8 v9 : Value} (h : Box w g t #[v0, v1, v2, v3, v4, v5, v6, v7, v8, v9]) (u0 u1 u2 u3 u4 u5 u6 u7 u8 u9 : Value) : Box ((((((((((w.setCell ⟨g, 0, none⟩ u0).setCell ⟨g, 1, none⟩ u1).setCell ⟨g, 2, none⟩ u2).setCell ⟨g, 3, none⟩ u3).setCell ⟨g, 4, none⟩ u4).setCell ⟨g, 5, none⟩ u5).setCell ⟨g, 6, none⟩ u6).setCell ⟨g, 7, none⟩ u7).setCell ⟨g, 8, none⟩ u8).setCell ⟨g, 9, none⟩ u9) g t #[u0, u1, u2, u3, u4, u5, u6, u7, u8, u9] := by
  have h0 : Box _ g t #[u0, v1, v2, v3, v4, v5, v6, v7, v8, v9] := h.set 0 u0
  have h1 : Box _ g t #[u0, u1, v2, v3, v4, v5, v6, v7, v8, v9] := h0.set 1 u1
  have h2 : Box _ g t #[u0, u1, u2, v3, v4, v5, v6, v7, v8, v9] := h1.set 2 u2
  have h3 : Box _ g t #[u0, u1, u2, u3, v4, v5, v6, v7, v8, v9] := h2.set 3 u3
  have h4 : Box _ g t #[u0, u1, u2, u3, u4, v5, v6, v7, v8, v9] := h3.set 4 u4
  have h5 : Box _ g t #[u0, u1, u2, u3, u4, u5, v6, v7, v8, v9] := h4.set 5 u5
  have h6 : Box _ g t #[u0, u1, u2, u3, u4, u5, u6, v7, v8, v9] := h5.set 6 u6
  have h7 : Box _ g t #[u0, u1, u2, u3, u4, u5, u6, u7, v8, v9] := h6.set 7 u7
  have h8 : Box _ g t #[u0, u1, u2, u3, u4, u5, u6, u7, u8, v9] := h7.set 8 u8
  have h9 : Box _ g t #[u0, u1, u2, u3, u4, u5, u6, u7, u8, u9] := h8.set 9 u9
  exact h9
theorem Box.far10 {w : World} {g g' : Nat} {t : TypeId} {cs : Array Value} (h : Box w g' t cs) (hR : g ≠ g') (u0 u1 u2 u3 u4 u5 u6 u7 u8 u9 : Value) : Box ((((((((((w.setCell ⟨g, 0, none⟩ u0).setCell ⟨g, 1, none⟩ u1).setCell ⟨g, 2, none⟩ u2).setCell ⟨g, 3, none⟩ u3).setCell ⟨g, 4, none⟩ u4).setCell ⟨g, 5, none⟩ u5).setCell ⟨g, 6, none⟩ u6).setCell ⟨g, 7, none⟩ u7).setCell ⟨g, 8, none⟩ u8).setCell ⟨g, 9, none⟩ u9) g' t cs :=
  ((((((((((h.far (p := ⟨g, _, none⟩) hR u0).far (p := ⟨g, _, none⟩) hR u1).far (p := ⟨g, _, none⟩) hR u2).far (p := ⟨g, _, none⟩) hR u3).far (p := ⟨g, _, none⟩) hR u4).far (p := ⟨g, _, none⟩) hR u5).far (p := ⟨g, _, none⟩) hR u6).far (p := ⟨g, _, none⟩) hR u7).far (p := ⟨g, _, none⟩) hR u8).far (p := ⟨g, _, none⟩) hR u9)
/-- The flags are written anew. -/
theorem CountAt.put10 {w0 wr : World} {J : List (Int × Int)} {s l c sh : Int} {A : Option Addr} {n cap : Nat} {ck ch ct cq cv : Int} (h : CountAt w0 wr J s l c sh A n cap ck ch ct cq cv) (J' : List (Int × Int)) : CountAt w0 ((((((((((wr.setCell ⟨w0.heap.size + 1 + 1, 0, none⟩ (.bool (fl J' 0))).setCell ⟨w0.heap.size + 1 + 1, 1, none⟩ (.bool (fl J' 1))).setCell ⟨w0.heap.size + 1 + 1, 2, none⟩ (.bool (fl J' 2))).setCell ⟨w0.heap.size + 1 + 1, 3, none⟩ (.bool (fl J' 3))).setCell ⟨w0.heap.size + 1 + 1, 4, none⟩ (.bool (fl J' 4))).setCell ⟨w0.heap.size + 1 + 1, 5, none⟩ (.bool (fl J' 5))).setCell ⟨w0.heap.size + 1 + 1, 6, none⟩ (.bool (fl J' 6))).setCell ⟨w0.heap.size + 1 + 1, 7, none⟩ (.bool (fl J' 7))).setCell ⟨w0.heap.size + 1 + 1, 8, none⟩ (.bool (fl J' 8))).setCell ⟨w0.heap.size + 1 + 1, 9, none⟩ (.bool (fl J' 9))) J' s l c sh A n cap ck ch ct cq cv :=
  ⟨bel_ten h.bel (by omega) _ _ _ _ _ _ _ _ _ _, h.gr.far10 (by omega) _ _ _ _ _ _ _ _ _ _, h.cl.far10 (by omega) _ _ _ _ _ _ _ _ _ _, h.who.put10 _ _ _ _ _ _ _ _ _ _⟩

set_option maxRecDepth 100000 in
set_option maxHeartbeats 2000000 in
theorem count_is (s l c sh : Int) (A : Option Addr) (n cap : Nat) (zs : List Int) (ck ch ct cq cv : Int) (P : Option Addr) (m pcap : Nat) (ps : List (Int × Int)) (w : World) (hm : n ≤ maxLen) (hr : Row w w.heap.size A n zs) (hn : m ≤ 4194304) (h : Pairs w w.heap.size P m ps) :
    Calls Tryz.prog 242 #[.agg #[.int .i64 s, .int .i64 l, .int .i64 c, .int .i64 sh, .slice A n cap], .agg #[.int .i64 ck, .int .i64 ch, .int .i64 ct, .int .i64 cq, .int .i64 cv], .slice P m pcap] w fun e w' => e = .returned (.int .i64 (cntN s l c sh zs ck ch ct cq cv ps)) ∧ Below w.heap.size w w' := by
  have K0 : CountAt w (((w.alloc (.cells #[.int .i64 s, .int .i64 l, .int .i64 c, .int .i64 sh, .slice A n cap] 26)).alloc (.cells #[.int .i64 ck, .int .i64 ch, .int .i64 ct, .int .i64 cq, .int .i64 cv] 180)).alloc (.cells #[.bool false, .bool false, .bool false, .bool false, .bool false, .bool false, .bool false, .bool false, .bool false, .bool false] 255)) [] s l c sh A n cap ck ch ct cq cv := by
    refine ⟨bel_trans (bel_trans (bel_alloc _ _) (bel_alloc _ _)) (bel_alloc _ _), ((Box.new w _ _).alloc _).alloc _, ?_, ?_⟩
    · have := (Box.new (w.alloc (.cells #[.int .i64 s, .int .i64 l, .int .i64 c, .int .i64 sh, .slice A n cap] 26)) 180 #[.int .i64 ck, .int .i64 ch, .int .i64 ct, .int .i64 cq, .int .i64 cv]).alloc (.cells #[.bool false, .bool false, .bool false, .bool false, .bool false, .bool false, .bool false, .bool false, .bool false, .bool false] 255)
      simp only [World.size_alloc] at this
      exact this
    · have := Box.new ((w.alloc (.cells #[.int .i64 s, .int .i64 l, .int .i64 c, .int .i64 sh, .slice A n cap] 26)).alloc (.cells #[.int .i64 ck, .int .i64 ch, .int .i64 ct, .int .i64 cq, .int .i64 cv] 180)) 255 #[.bool false, .bool false, .bool false, .bool false, .bool false, .bool false, .bool false, .bool false, .bool false, .bool false]
      simp only [World.size_alloc] at this
      exact this
  have HR := Lib.hid hr
  have HM := Lib.hid hm
  have HP := Lib.hid h
  have hl := Lib.hid h.1
  clear h hr hm
  unfold cntN
  generalize hR : rB s l c sh zs ck ch ct cq cv = R
  have HRR := Lib.hid hR
  clear hR
  go_enter Tryz.func242, Tryz.ntmps242
  go_wp2_with fail
  generalize (((w.alloc _).alloc _).alloc _ : World) = w1 at K0 ⊢
  go_loopw [8, 14] (fun nv iv wr => ∃ (k : Nat) (J : List (Int × Int)), k ≤ m ∧ iv = .int .i64 k ∧ nv = .int .i64 J.length ∧ J = goodP R (ps.take k) ∧ CountAt w wr J s l c sh A n cap ck ch ct cq cv) (fun _ i _ => m - (intOf i).toNat)
  case atStart => exact ⟨0, [], Nat.zero_le _, rfl, rfl, by simp [goodP_nil], K0⟩
  case round =>
    obtain ⟨k, J, hk, rfl, rfl, hJ, hK⟩ := hrel
    by_cases hlt : k < m
    · have hlt' : (k : Int) < (m : Int) := by omega
      obtain ⟨b, o, hA, hbB, hcell⟩ := HP.out.2 (by omega)
      subst hA
      obtain ⟨c0, c1⟩ := hcell k hlt
      replace c0 := (hK.bel.cell (p := ⟨b, o + k * 2, none⟩) hbB).trans c0
      replace c1 := (hK.bel.cell (p := ⟨b, o + k * 2 + 1, none⟩) hbB).trans c1
      have hyes := Lib.hid (goodP_yes (R := R) (ps := ps) (k := k) (by rw [hl.out]; exact hlt))
      have hno := Lib.hid (goodP_no (R := R) (ps := ps) (k := k) (by rw [hl.out]; exact hlt))
      rw [← hJ] at hyes hno
      have hJl : J.length ≤ 4194304 := by
        rw [hJ]
        have := goodP_le R (ps.take k)
        rw [List.length_take] at this
        omega
      generalize hy : pth ps k = y at c0 c1 hyes hno
      obtain ⟨y, y'⟩ := y
      replace hJ := Lib.hid hJ
      replace hy := Lib.hid hy
      clear hcell
      have K2 := hK.later (bel_alloc wr (.cells #[.int .i64 y, .int .i64 y'] 136))
      have DS := Box.new wr 136 #[.int .i64 y, .int .i64 y']
      go_upto_region 6 with fail
      generalize (wr.alloc _ : World) = w2 at K2 DS ⊢
      generalize wr.heap.size = S at DS ⊢
      obtain ⟨p0, p1⟩ := DS.two
      obtain ⟨d0, d1, d2, d3, d4, x0, x1, x2, x3, x4⟩ := ten K2.gr K2.cl
      obtain ⟨e0, e1, e2, e3, e4, e5, e6, e7, e8, e9⟩ := K2.who.ten'
      have hrow := Lib.hid ((HR.out.below K2.bel (Nat.le_refl _)).more K2.bel.size)
      have HK2 := Lib.hid K2
      clear hK K0
      rcases hRy : R (y, y') with _ | _
      · have HY : Hid (rB s l c sh zs ck ch ct cq cv (y, y') = false) := by rw [HRR.out]; exact hRy
        replace hno := Lib.hid (hno.out hRy)
        clear hRy
        go_wp2_with fail
        refine (and_no J s l c sh A n cap zs ck ch ct cq cv y y' w2 HY.out HM.out hrow.out).mono ?_
        rintro e w3 ⟨rfl, hb3⟩
        clear p0 p1 d0 d1 d2 d3 d4 x0 x1 x2 x3 x4 e0 e1 e2 e3 e4 e5 e6 e7 e8 e9
        have K3 := K2.later hb3
        have DM := Box.new w3 255 #[.bool (fl (J) 0), .bool (fl (J) 1), .bool (fl (J) 2), .bool (fl (J) 3), .bool (fl (J) 4), .bool (fl (J) 5), .bool (fl (J) 6), .bool (fl (J) 7), .bool (fl (J) 8), .bool (fl (J) 9)]
        have K4 := K3.later (bel_alloc w3 (.cells #[.bool (fl (J) 0), .bool (fl (J) 1), .bool (fl (J) 2), .bool (fl (J) 3), .bool (fl (J) 4), .bool (fl (J) 5), .bool (fl (J) 6), .bool (fl (J) 7), .bool (fl (J) 8), .bool (fl (J) 9)] 255))
        clear K2 DS hb3 K3 HK2
        go_upto_region 7 with fail
        generalize (w3.alloc _ : World) = w4 at DM K4 ⊢
        generalize w3.heap.size = M at DM ⊢
        obtain ⟨d0, d1, d2, d3, d4, d5, d6, d7, d8, d9⟩ := K4.who.ten'
        obtain ⟨e0, e1, e2, e3, e4, e5, e6, e7, e8, e9⟩ := DM.ten'
        have HK4 := Lib.hid K4
        have hq := eqFlags_same J
        clear K4
        go_wp2
        go_roundw
        case rel => exact ⟨k + 1, J, by omega, by go_num, rfl, hno.out.symm, HK4.out⟩
        case measure => simp [intOf]; omega
      · have HY : Hid (rB s l c sh zs ck ch ct cq cv (y, y') = true) := by rw [HRR.out]; exact hRy
        replace hyes := Lib.hid (hyes.out hRy)
        have hy0 : 0 ≤ y := (rB_who HY.out).1
        have hy1 : y < 10 := Int.lt_of_lt_of_le (rB_who HY.out).2.1 (rB_who HY.out).2.2
        clear hRy
        have CC := and_yes J s l c sh A n cap zs ck ch ct cq cv y y' w2 HY.out HM.out hrow.out
        rcases hb : has J y with _ | _
        · obtain ⟨J', hJ'⟩ : ∃ J', put J (y, y') = J' := ⟨_, rfl⟩
          have hJl' : J'.length = J.length + 1 := by rw [← hJ', put_len]; simp [hb]
          rw [hJ'] at CC
          replace hyes : Hid (goodP R (ps.take (k + 1)) = J') := by rw [← hJ']; exact hyes.out
          replace hJ' := Lib.hid hJ'
          replace hJl' := Lib.hid hJl'
          have HC := Lib.hid CC
          clear CC
          go_wp2_with fail
          refine HC.out.mono ?_
          rintro e w3 ⟨rfl, hb3⟩
          clear HC p0 p1 d0 d1 d2 d3 d4 x0 x1 x2 x3 x4 e0 e1 e2 e3 e4 e5 e6 e7 e8 e9
          have K3 := K2.later hb3
          have DM := Box.new w3 255 #[.bool (fl (J') 0), .bool (fl (J') 1), .bool (fl (J') 2), .bool (fl (J') 3), .bool (fl (J') 4), .bool (fl (J') 5), .bool (fl (J') 6), .bool (fl (J') 7), .bool (fl (J') 8), .bool (fl (J') 9)]
          have K4 := K3.later (bel_alloc w3 (.cells #[.bool (fl (J') 0), .bool (fl (J') 1), .bool (fl (J') 2), .bool (fl (J') 3), .bool (fl (J') 4), .bool (fl (J') 5), .bool (fl (J') 6), .bool (fl (J') 7), .bool (fl (J') 8), .bool (fl (J') 9)] 255))
          have hM : w.heap.size + 1 + 1 < w3.heap.size := K3.who.lt
          clear K2 DS hb3 K3 HK2
          go_upto_region 7 with fail
          generalize (w3.alloc _ : World) = w4 at DM K4 ⊢
          generalize w3.heap.size = M at DM hM ⊢
          obtain ⟨d0, d1, d2, d3, d4, d5, d6, d7, d8, d9⟩ := K4.who.ten'
          obtain ⟨e0, e1, e2, e3, e4, e5, e6, e7, e8, e9⟩ := DM.ten'
          have hq := eqFlags_more J J' y.toNat (by omega) (by unfold fl; rw [show (y.toNat : Int) = y by omega]; exact hb) (by rw [← hJ'.out, fl_put]; simp; right; omega)
          have fz := K4.who.frozen
          have hne : M ≠ w.heap.size + 1 + 1 := by omega
          have hne' : w.heap.size + 1 + 1 ≠ M := by omega
          have HK5 := Lib.hid (CountAt.put10 K4 J')
          clear K4
          go_wp2
          go_roundw
          case rel => exact ⟨k + 1, J', by omega, by go_num, vint (by have := hJl'.out; omega), hyes.out.symm, HK5.out⟩
          case measure => simp [intOf]; omega
        · have hpj : put J (y, y') = J := by simp [put, hb]
          rw [hpj] at CC
          replace hyes : Hid (goodP R (ps.take (k + 1)) = J) := by rw [hyes.out]; exact hpj
          have HC := Lib.hid CC
          clear CC hpj hb
          go_wp2_with fail
          refine HC.out.mono ?_
          rintro e w3 ⟨rfl, hb3⟩
          clear HC p0 p1 d0 d1 d2 d3 d4 x0 x1 x2 x3 x4 e0 e1 e2 e3 e4 e5 e6 e7 e8 e9
          have K3 := K2.later hb3
          have DM := Box.new w3 255 #[.bool (fl (J) 0), .bool (fl (J) 1), .bool (fl (J) 2), .bool (fl (J) 3), .bool (fl (J) 4), .bool (fl (J) 5), .bool (fl (J) 6), .bool (fl (J) 7), .bool (fl (J) 8), .bool (fl (J) 9)]
          have K4 := K3.later (bel_alloc w3 (.cells #[.bool (fl (J) 0), .bool (fl (J) 1), .bool (fl (J) 2), .bool (fl (J) 3), .bool (fl (J) 4), .bool (fl (J) 5), .bool (fl (J) 6), .bool (fl (J) 7), .bool (fl (J) 8), .bool (fl (J) 9)] 255))
          clear K2 DS hb3 K3 HK2
          go_upto_region 7 with fail
          generalize (w3.alloc _ : World) = w4 at DM K4 ⊢
          generalize w3.heap.size = M at DM ⊢
          obtain ⟨d0, d1, d2, d3, d4, d5, d6, d7, d8, d9⟩ := K4.who.ten'
          obtain ⟨e0, e1, e2, e3, e4, e5, e6, e7, e8, e9⟩ := DM.ten'
          have HK4 := Lib.hid K4
          have hq := eqFlags_same J
          clear K4
          go_wp2
          go_roundw
          case rel => exact ⟨k + 1, J, by omega, by go_num, rfl, hyes.out.symm, HK4.out⟩
          case measure => simp [intOf]; omega
    · obtain rfl : k = m := by omega
      rw [← hl.out, List.take_length] at hJ
      replace hJ := Lib.hid hJ
      go_wp2
      go_ret
      rw [← hJ.out]
      exact ⟨rfl, hK.bel⟩

end Go.Proofs.YtjdepjpjjgkmbaaGreat
