/- The functions of certificates, third part: GoodSeals: its contract; up to some two million seals. -/
import Derived.Test.YtjdepjpjjgkmbaaGreatJoin
import Derived.Test.YtjdepjpjjgkmbaaGreatCert
import Derived.Test.YtjdepjpjjgkmbaaGreatDrawSpec
import Derived.Deep.CutBlock
namespace Go.Proofs.YtjdepjpjjgkmbaaGreat
open Go.RowKit

/-- What GoodSeals keeps: the group, the claim, the right ones so far. -/
structure GoodAt (w0 wr : World) (q cap' : Nat) (o : List (Int × Int)) (s l c sh : Int) (A : Option Addr) (n cap : Nat) (ck ch ct cq cv : Int) : Prop where
  bel : Below w0.heap.size w0 wr
  gr : Box wr w0.heap.size 26 #[.int .i64 s, .int .i64 l, .int .i64 c, .int .i64 sh, .slice A n cap]
  cl : Box wr (w0.heap.size + 1) 180 #[.int .i64 ck, .int .i64 ch, .int .i64 ct, .int .i64 cq, .int .i64 cv]
  own : wr.ownsRow (w0.heap.size + 2) 136 2 (.slice (some ⟨q, 0, none⟩) o.length cap') o.length (flatP o)
theorem GoodAt.later {w0 wr w' : World} {q cap' : Nat} {o : List (Int × Int)} {s l c sh : Int} {A : Option Addr} {n cap : Nat} {ck ch ct cq cv : Int} (h : GoodAt w0 wr q cap' o s l c sh A n cap ck ch ct cq cv) (hb : Below wr.heap.size wr w') : GoodAt w0 w' q cap' o s l c sh A n cap ck ch ct cq cv :=
  ⟨bel_trans h.bel hb, h.gr.later hb h.gr.lt, h.cl.later hb h.cl.lt, h.own.kept (grown_bel hb none) (by simp [Value.ownBlock])⟩
theorem GoodAt.push {w0 wr w2 : World} {q cap' gg cap2 : Nat} {o : List (Int × Int)} {s l c sh : Int} {A : Option Addr} {n cap : Nat} {ck ch ct cq cv : Int} {a b : Int} {ob : Obj} (h : GoodAt w0 wr q cap' o s l c sh A n cap ck ch ct cq cv)
    (hown : w2.ownsRow (w0.heap.size + 2) 136 2 (.slice (some ⟨gg, 0, none⟩) (o.length + 1) cap2) (o.length + 1) (flatP o ++ [.int .i64 a, .int .i64 b])) (hg : (wr.alloc ob).grownBy w2 (Value.ownBlock (.slice (some ⟨q, 0, none⟩) o.length cap'))) : GoodAt w0 w2 gg cap2 (o ++ [(a, b)]) s l c sh A n cap ck ch ct cq cv := by
  have hq := (h.own.lt q rfl).1
  have hg : (wr.alloc ob).grownBy w2 (some q) := hg
  refine ⟨bel_grown (bel_trans h.bel (bel_alloc wr ob)) hg (by omega), (h.gr.alloc ob).kept hg (by intro e; injection e with e; omega), (h.cl.alloc ob).kept hg (by intro e; injection e with e; omega), ?_⟩
  rw [flatP_snoc]
  simpa using hown
theorem filter_take {R : Int × Int → Bool} {ps : List (Int × Int)} {k : Nat} (h : k < ps.length) : (ps.take (k + 1)).filter R = (ps.take k).filter R ++ if R (pth ps k) then [pth ps k] else [] := by
  rw [List.take_succ_eq_append_getElem h, ← pth_lt h, List.filter_append]
  rcases hR : R (pth ps k) with _ | _ <;> simp [hR]

set_option maxRecDepth 100000 in
set_option maxHeartbeats 2000000 in
theorem good_is (s l c sh : Int) (A : Option Addr) (n cap : Nat) (zs : List Int) (ck ch ct cq cv : Int) (P : Option Addr) (m pcap : Nat) (ps : List (Int × Int)) (w : World) (hm : n ≤ maxLen) (hr : Row w w.heap.size A n zs) (hn : m ≤ 4194304) (h : Pairs w w.heap.size P m ps) :
    Calls Tryz.prog 239 #[.agg #[.int .i64 s, .int .i64 l, .int .i64 c, .int .i64 sh, .slice A n cap], .agg #[.int .i64 ck, .int .i64 ch, .int .i64 ct, .int .i64 cq, .int .i64 cv], .slice P m pcap] w fun e w' => ∃ u, e = .returned u ∧ Own w u (goodP (rB s l c sh zs ck ch ct cq cv) ps) w' := by
  obtain ⟨i0, hi0, hz0, hz1, hz2⟩ := info_parts Tryz.infoSealI
  have K0 : GoodAt w (((w.alloc (.cells #[.int .i64 s, .int .i64 l, .int .i64 c, .int .i64 sh, .slice A n cap] 26)).alloc (.cells #[.int .i64 ck, .int .i64 ch, .int .i64 ct, .int .i64 cq, .int .i64 cv] 180)).alloc (.cells #[] 136)) (w.heap.size + 1 + 1) 0 [] s l c sh A n cap ck ch ct cq cv := by
    refine ⟨bel_trans (bel_trans (bel_alloc _ _) (bel_alloc _ _)) (bel_alloc _ _), ((Box.new w _ _).alloc _).alloc _, ?_, ⟨rfl, .inr ⟨w.heap.size + 1 + 1, 0, #[], rfl, Nat.le_refl _, ?_, Nat.le_refl _, Nat.zero_le _, rfl, rfl⟩⟩⟩
    · have := (Box.new (w.alloc (.cells #[.int .i64 s, .int .i64 l, .int .i64 c, .int .i64 sh, .slice A n cap] 26)) 180 #[.int .i64 ck, .int .i64 ch, .int .i64 ct, .int .i64 cq, .int .i64 cv]).alloc (.cells #[] 136)
      simp only [World.size_alloc] at this
      exact this
    · have := Box.new ((w.alloc (.cells #[.int .i64 s, .int .i64 l, .int .i64 c, .int .i64 sh, .slice A n cap] 26)).alloc (.cells #[.int .i64 ck, .int .i64 ch, .int .i64 ct, .int .i64 cq, .int .i64 cv] 180)) 136 #[]
      simp only [World.size_alloc] at this
      exact this
  have HR := Lib.hid hr
  have HM := Lib.hid hm
  have HP := Lib.hid h
  have hl := Lib.hid h.1
  clear h hr hm
  generalize hR : rB s l c sh zs ck ch ct cq cv = R
  have HRR := Lib.hid hR
  clear hR
  go_enter Tryz.func239, Tryz.ntmps239
  go_wp2_with fail
  generalize (((w.alloc _).alloc _).alloc _ : World) = w1 at K0 ⊢
  go_loopw [7, 13] (fun ov iv wr => ∃ (k q cap' : Nat) (o : List (Int × Int)), k ≤ m ∧ iv = .int .i64 k ∧ ov = .slice (some ⟨q, 0, none⟩) o.length cap' ∧ o = (ps.take k).filter R ∧ GoodAt w wr q cap' o s l c sh A n cap ck ch ct cq cv) (fun _ i _ => m - (intOf i).toNat)
  case atStart => exact ⟨0, _, 0, [], Nat.zero_le _, rfl, rfl, by simp, K0⟩
  case round =>
    obtain ⟨k, q, cap', o, hk, rfl, rfl, ho, hK⟩ := hrel
    by_cases hlt : k < m
    · have hlt' : (k : Int) < (m : Int) := by omega
      obtain ⟨b, o', hA, hbB, hcell⟩ := HP.out.2 (by omega)
      subst hA
      obtain ⟨c0, c1⟩ := hcell k hlt
      replace c0 := (hK.bel.cell (p := ⟨b, o' + k * 2, none⟩) hbB).trans c0
      replace c1 := (hK.bel.cell (p := ⟨b, o' + k * 2 + 1, none⟩) hbB).trans c1
      have hst := Lib.hid (filter_take (R := R) (ps := ps) (k := k) (by rw [hl.out]; exact hlt))
      rw [← ho] at hst
      have hol : o.length ≤ 4194304 := by
        rw [ho]
        have := List.length_filter_le R (ps.take k)
        rw [List.length_take] at this
        omega
      generalize hy : pth ps k = y at c0 c1 hst
      obtain ⟨y, y'⟩ := y
      replace ho := Lib.hid ho
      replace hy := Lib.hid hy
      clear hcell
      have K2 := hK.later (bel_alloc wr (.cells #[.int .i64 y, .int .i64 y'] 136))
      have DS := Box.new wr 136 #[.int .i64 y, .int .i64 y']
      go_upto_region 5 with fail
      generalize (wr.alloc _ : World) = w2 at K2 DS ⊢
      generalize wr.heap.size = S at DS ⊢
      obtain ⟨p0, p1⟩ := DS.two
      obtain ⟨d0, d1, d2, d3, d4, x0, x1, x2, x3, x4⟩ := ten K2.gr K2.cl
      have hrow := Lib.hid ((HR.out.below K2.bel (Nat.le_refl _)).more K2.bel.size)
      clear hK K0
      rcases hRy : R (y, y') with _ | _
      · have HY : Hid (rB s l c sh zs ck ch ct cq cv (y, y') = false) := by rw [HRR.out]; exact hRy
        have hst' := Lib.hid (show (ps.take (k + 1)).filter R = o by rw [hst.out, hRy]; simp)
        clear hRy
        go_wp2_with fail
        refine (rightB_is HY.out A n cap w2 HM.out hrow.out).mono ?_
        rintro e w3 ⟨rfl, hb3⟩
        have HK3 := Lib.hid (K2.later hb3)
        clear K2 DS hb3 p0 p1 d0 d1 d2 d3 d4 x0 x1 x2 x3 x4
        go_wp2
        go_roundw
        case rel => exact ⟨k + 1, q, cap', o, by omega, by go_num, rfl, hst'.out.symm, HK3.out⟩
        case measure => simp [intOf]; omega
      · have HY : Hid (rB s l c sh zs ck ch ct cq cv (y, y') = true) := by rw [HRR.out]; exact hRy
        have hst' := Lib.hid (show (ps.take (k + 1)).filter R = o ++ [(y, y')] by rw [hst.out, hRy]; simp)
        clear hRy
        go_wp2_with fail
        refine (rightB_is HY.out A n cap w2 HM.out hrow.out).mono ?_
        rintro e w3 ⟨rfl, hb3⟩
        have K3 := K2.later hb3
        have DS3 := DS.later hb3 DS.lt
        clear K2 DS hb3 p0 p1 d0 d1 d2 d3 d4 x0 x1 x2 x3 x4
        obtain ⟨p0, p1⟩ := DS3.two
        have hsz := K3.bel.size
        have hcl := K3.cl.lt
        go_wp2_with (at_builtin; refine wpList_append_lies _ rfl _ _ _ rfl (w.heap.size + 2) 136 i0 _ 2 16 Tryz.underlying40 hi0 hz0 hz1 hz2 rfl (by omega) (.slice (some ⟨q, 0, none⟩) o.length cap') o.length (flatP o) rfl (K3.own.alloc _) ⟨w3.heap.size, 0, none⟩ 1 1 [.int .i64 y, .int .i64 y'] rfl rfl (World.news_of_block (cs := #[.int .i64 y, .int .i64 y']) (t := 136) (fr := (0, 0)) (heap_alloc_new w3 _)) (by simp [Value.oneCell']) (by omega) (by unfold maxLen; omega) (by omega) (by simp; omega) (w3.heap.size + 1) (by simp) ?_; intro gg cap2 w5 hown2 hgrow2 hat hlt2; have HK5 := Lib.hid (K3.push hown2 hgrow2); clear hown2 hgrow2 hat)
        go_roundw
        case rel =>
          have hl2 : (o ++ [(y, y')]).length = o.length + 1 := by simp
          exact ⟨k + 1, gg, cap2, o ++ [(y, y')], by omega, by go_num, by rw [hl2], hst'.out.symm, HK5.out⟩
        case measure => simp [intOf]; omega
    · obtain rfl : k = m := by omega
      rw [← hl.out, List.take_length] at ho
      have hol : o.length ≤ 4194304 := by
        rw [ho]
        have := List.length_filter_le R ps
        rw [hl.out] at this
        omega
      replace ho := Lib.hid ho
      have hsl : Slc wr (.slice (some ⟨q, 0, none⟩) o.length cap') o := .inr ⟨q, 0, _, cap', rfl, own_pairs hK.own⟩
      have hsl := Lib.hid hsl
      go_wp2_with fail
      refine (join_is _ _ o [] wr (by simpa using hol) hsl.out (.inl ⟨rfl, rfl⟩)).mono ?_
      rintro e w2 ⟨u, rfl, hown⟩
      have hown := Lib.hid hown
      go_wp2
      go_ret
      refine ⟨_, rfl, ?_, bel_trans hK.bel hown.out.2⟩
      have e : goodP R ps = puts (o ++ []) := by rw [List.append_nil, ho.out]; rfl
      rw [e]
      rcases hown.out.1 with hh | ⟨g, cap2, hg, hu, h1, h2, hh⟩
      · exact .inl hh
      · exact .inr ⟨g, cap2, Nat.le_trans hK.bel.size hg, hu, h1, h2, hh⟩

end Go.Proofs.YtjdepjpjjgkmbaaGreat
