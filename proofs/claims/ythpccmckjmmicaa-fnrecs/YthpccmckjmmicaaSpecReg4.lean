/- The model's l4Put and GoodSeals once more: what they answer is a row of the call's own (written by spec_own.py). -/
import Derived.Test.YthpccmckjmmicaaSpecCert
import Derived.Test.YthpccmckjmmicaaSpecReg1
import Derived.Test.YthpccmckjmmicaaSpecReg3
import Derived.Test.YthpccmckjmmicaaVarReg
namespace Go.Proofs.Ythpccmckjmmicaa
open Go.RowKit

/-- What is answered: a row of one's own, from base on. -/
def GivesO (base : Nat) (w : World) (ps : List (Int × Int)) (e : Ending) (w' : World) : Prop :=
  ∃ g cap, e = .returned (.slice (some ⟨g, 0, none⟩) ps.length cap) ∧ w'.ownsRow base 75 2 (.slice (some ⟨g, 0, none⟩) ps.length cap) ps.length (flatP ps) ∧ Below w.heap.size w w'

set_option maxRecDepth 100000 in
set_option maxHeartbeats 2000000 in
theorem putO_is (base g cap : Nat) (l : List (Int × Int)) (x t : Int) (w : World) (hn : l.length ≤ 4194304) (hbase : base ≤ w.heap.size) (hO : w.ownsRow base 75 2 (.slice (some ⟨g, 0, none⟩) l.length cap) l.length (flatP l)) :
    Calls Try.prog 92 #[.slice (some ⟨g, 0, none⟩) l.length cap, .agg #[.int .i64 x, .int .i64 t]] w (GivesO base w (put l (x, t))) := by
  have h := own_pairs hO
  have HO := Lib.hid hO
  clear hO
  obtain ⟨i0, hi0, hz0, hz1, hz2⟩ := info_parts Try.infoSealI
  have K0 : PutAt w ((w.alloc (.cells #[.int .i64 x, .int .i64 t] 75)).alloc (.cells #[] 75)) x t (w.heap.size + 1) 0 [] := by
    refine ⟨⟨rfl, .inr ⟨w.heap.size + 1, 0, #[], rfl, Nat.le_refl _, ?_, Nat.le_refl _, Nat.zero_le _, rfl, rfl⟩⟩, bel_trans (bel_alloc _ _) (bel_alloc _ _), (Box.new w _ _).alloc _⟩
    have := Box.new (w.alloc (.cells #[.int .i64 x, .int .i64 t] 75)) 75 #[]
    simp only [World.size_alloc] at this
    exact this
  have HP := Lib.hid h
  obtain ⟨n, hnl⟩ : ∃ n, l.length = n := ⟨_, rfl⟩
  have K1 : ∀ k, k < n → l.take (k + 1) = l.take k ++ [pth l k] := fun k hk => by
    rw [List.take_succ_eq_append_getElem (by omega), pth_lt (by omega)]
  have K1 := Lib.hid K1
  rw [hnl] at hn ⊢
  have hnl := Lib.hid hnl
  rename_i q1 q2
  clear h q1 q2
  go_enter Try.func92, Try.ntmps92
  go_wp2_with fail
  generalize ((w.alloc _).alloc _ : World) = w1 at K0 ⊢
  go_loopw [5, 6, 7] (fun ov bv iv wr => ∃ (k q cap' : Nat) (o : List (Int × Int)) (b : Bool), k ≤ n ∧ iv = .int .i64 k ∧ bv = .bool b ∧ ov = .slice (some ⟨q, 0, none⟩) o.length cap' ∧ PutAt w wr x t q cap' o ∧ o.length ≤ k + 1 ∧ (∀ p ∈ l.take k, p.1 ≠ x) ∧
      ((b = false ∧ o = l.take k ∧ ∀ p ∈ l.take k, p.1 ≤ x) ∨ (b = true ∧ o = ins (l.take k) (x, t) ∧ ∃ p ∈ l.take k, x < p.1))) (fun _ _ i _ => n - (intOf i).toNat)
  case atStart => exact ⟨0, _, 0, [], false, Nat.zero_le _, rfl, rfl, rfl, K0, by simp, by simp, .inl ⟨rfl, by simp, by simp⟩⟩
  case round =>
    obtain ⟨k, q, cap', o, b, hk, rfl, rfl, rfl, hP, hol, hne, hcase⟩ := hrel
    by_cases hlt : k < n
    · have hlt' : (k : Int) < (n : Int) := by omega
      obtain ⟨b', o', hA, hbB, hcell⟩ := HP.out.2 (by have := hnl.out; omega)
      cases hA
      obtain ⟨c0, c1⟩ := hcell k (by have := hnl.out; omega)
      rw [Nat.zero_add] at c0 c1
      have c0 := (hP.bel.cell (p := ⟨g, k * 2, none⟩) hbB).trans c0
      have c1 := (hP.bel.cell (p := ⟨g, k * 2 + 1, none⟩) hbB).trans c1
      have hst := Lib.hid (K1.out k hlt)
      generalize hy : pth l k = y at c0 c1 hst
      obtain ⟨y, y'⟩ := y
      obtain ⟨s0, s1⟩ := hP.box.two
      have hgl : g < wr.heap.size := Nat.lt_of_lt_of_le hbB hP.bel.size
      have hq := (hP.own.lt q rfl)
      have g0 := After.cell (by exact hgl) c0
      have g1 := After.cell (by exact hgl) c1
      have e0 := After.cell (by exact hP.box.lt) s0
      have e1 := After.cell (by exact hP.box.lt) s1
      have hy := Lib.hid hy
      have hcase := Lib.hid hcase
      have hne := Lib.hid hne
      have hPP := Lib.hid hP
      rename_i q1 q2 q3
      clear q1 q2 q3 hcell c0 c1 s0 s1 hP
      by_cases hyx : y = x
      · subst hyx
        have hhas : put l (y, t) = l := by
          have : has l y = true := has_mem.2 ⟨pth l k, by rw [pth_lt (by have := hnl.out; omega)]; exact List.getElem_mem _, by rw [hy.out]⟩
          simp [put, this]
        rw [hhas]
        go_wp2_with fail
        refine wp_region_after (by kernel_rfl) (by kernel_rfl) ?_
        repeat (first | go_big_quiet_step (fail) | quiet_step (fail))
        refine wpQuiet_nil ?_
        intro pw
        have hP := hPP.out.later pw.bel
        clear g0 g1 e0 e1
        go_wp2
        go_ret
        exact ⟨g, cap, by rw [hnl.out]; rfl, hnl.out ▸ HO.out.kept (grown_bel hP.bel none) (.inr (by intro e; cases e)), hP.bel⟩
      · have hyx' : (y == x) = false := by simp [hyx]
        have hyx := Lib.hid hyx
        rename_i q1
        clear q1
        go_wp2_with fail
        refine wp_region_after (by kernel_rfl) (by kernel_rfl) ?_
        repeat (first | go_big_quiet_step (fail) | quiet_step (fail))
        refine wpQuiet_nil ?_
        intro pw
        have d0 := g0 pw
        have d1 := g1 pw
        have d2 := e0 pw
        have d3 := e1 pw
        have hP := hPP.out.later pw.bel
        clear g0 g1 e0 e1 hPP
        generalize pw.x = w2 at d0 d1 d2 d3 hP ⊢
        have hsz := hP.bel.size
        have hbl := hP.box.lt
        have hgl2 : g < w2.heap.size := Nat.lt_of_lt_of_le hbB hsz
        have g0 := After.cell (by exact hgl2) d0
        have g1 := After.cell (by exact hgl2) d1
        have e0 := After.cell (by exact hbl) d2
        have e1 := After.cell (by exact hbl) d3
        have hPP := Lib.hid hP
        clear d0 d1 d2 d3 hP
        have hne' : ∀ p ∈ l.take (k + 1), p.1 ≠ x := by
          rw [hst.out]
          intro p hp
          rcases List.mem_append.1 hp with e | e
          · exact hne.out p e
          · simp only [List.mem_singleton] at e
            rw [e]
            exact hyx.out
        have hne' := Lib.hid hne'
        rename_i q1
        clear q1
        rcases hcase.out with ⟨rfl, ho, hall⟩ | ⟨rfl, ho, hex⟩
        · have ho := Lib.hid ho
          have hall := Lib.hid hall
          rename_i q1 q2
          clear q1 q2
          by_cases hxy : x < y
          · go_wp2_with fail
            refine wp_region_after (by kernel_rfl) (by kernel_rfl) ?_
            repeat (first | go_big_quiet_step (fail) | quiet_step (fail))
            refine wpQuiet_nil ?_
            intro pw2
            have d0 := g0 pw2
            have d1 := g1 pw2
            have d2 := e0 pw2
            have d3 := e1 pw2
            have hP := hPP.out.later pw2.bel
            clear g0 g1 e0 e1 hPP
            generalize pw2.x = w3 at d0 d1 d2 d3 hP ⊢
            have hq3 := hP.own.lt q rfl
            have hsz3 := hP.bel.size
            have hbx3 := hP.box.lt
            go_wp2_with (first | (at_builtin; refine wpList_append_lies _ rfl _ _ _ rfl (w.heap.size + 1) 75 i0 _ 2 16 Try.underlying29 hi0 hz0 hz1 hz2 rfl (by omega) (.slice (some ⟨gg, 0, none⟩) (o.length + 1) cap2) (o.length + 1) (flatP o ++ [.int .i64 x, .int .i64 t]) rfl (hown2.alloc _) ⟨w5.heap.size, 0, none⟩ 1 1 [.int .i64 y, .int .i64 y'] rfl rfl (World.news_of_block (cs := #[.int .i64 y, .int .i64 y']) (t := 75) (fr := (0, 0)) (heap_alloc_new w5 _)) (by simp [Value.oneCell']) (by omega) (by unfold maxLen; omega) (by omega) (by simp; omega) (w5.heap.size + 1) (by simp) ?_; intro g3 cap3 w6 hown3 hgrow3 hat3 hlt3; have hP3 := hP2.push (gg := g3) (cap2 := cap3) (a := y) (b := y') (by simpa [flatP_snoc] using hown3) (by simpa using hgrow3); clear hown3 hgrow3 hat3 hown2) | (at_builtin; refine wpList_append_lies _ rfl _ _ _ rfl (w.heap.size + 1) 75 i0 _ 2 16 Try.underlying29 hi0 hz0 hz1 hz2 rfl (by omega) (.slice (some ⟨q, 0, none⟩) (o.length) cap') (o.length) (flatP o) rfl (hP.own.alloc _) ⟨w3.heap.size, 0, none⟩ 1 1 [.int .i64 x, .int .i64 t] rfl rfl (World.news_of_block (cs := #[.int .i64 x, .int .i64 t]) (t := 75) (fr := (0, 0)) (heap_alloc_new w3 _)) (by simp [Value.oneCell']) (by omega) (by unfold maxLen; omega) (by omega) (by simp; omega) (w3.heap.size + 1) (by simp) ?_; intro gg cap2 w5 hown2 hgrow2 hat hlt2; have hP2 := hP.push hown2 hgrow2; have c0 := (hP2.bel.cell (p := ⟨g, k * 2, none⟩) hbB).trans ((hP.bel.cell (p := ⟨g, k * 2, none⟩) hbB).symm.trans d0); have c1 := (hP2.bel.cell (p := ⟨g, k * 2 + 1, none⟩) hbB).trans ((hP.bel.cell (p := ⟨g, k * 2 + 1, none⟩) hbB).symm.trans d1); have hsz5 := hP2.bel.size; have hbx5 := hP2.box.lt; clear hgrow2 hat))
            have hP3 := Lib.hid hP3
            rename_i q1
            clear q1 hP2 hP
            go_roundw
            case rel =>
              have hl2 : (o ++ [(x, t)] ++ [(y, y')]).length = o.length + 1 + 1 := by simp
              exact ⟨k + 1, _, _, o ++ [(x, t)] ++ [(y, y')], true, by omega, by go_num, rfl, by rw [hl2], hP3.out, by rw [hl2, ho.out, List.length_take]; have := hnl.out; omega, hne'.out, .inr ⟨rfl, by rw [hst.out, ins_here hall.out hxy, ho.out], (y, y'), by rw [hst.out]; simp, hxy⟩⟩
            case measure => simp [intOf]; omega
          · have hxy' : y ≤ x := Int.not_lt.1 hxy
            clear hxy
            go_wp2_with fail
            refine wp_region_after (by kernel_rfl) (by kernel_rfl) ?_
            repeat (first | go_big_quiet_step (fail) | quiet_step (fail))
            refine wpQuiet_nil ?_
            intro pw2
            have d0 := g0 pw2
            have d1 := g1 pw2
            have d2 := e0 pw2
            have d3 := e1 pw2
            have hP := hPP.out.later pw2.bel
            clear g0 g1 e0 e1 hPP
            generalize pw2.x = w3 at d0 d1 d2 d3 hP ⊢
            have hq3 := hP.own.lt q rfl
            have hsz3 := hP.bel.size
            have hbx3 := hP.box.lt
            go_wp2_with (at_builtin; refine wpList_append_lies _ rfl _ _ _ rfl (w.heap.size + 1) 75 i0 _ 2 16 Try.underlying29 hi0 hz0 hz1 hz2 rfl (by omega) (.slice (some ⟨q, 0, none⟩) (o.length) cap') (o.length) (flatP o) rfl (hP.own.alloc _) ⟨w3.heap.size, 0, none⟩ 1 1 [.int .i64 y, .int .i64 y'] rfl rfl (World.news_of_block (cs := #[.int .i64 y, .int .i64 y']) (t := 75) (fr := (0, 0)) (heap_alloc_new w3 _)) (by simp [Value.oneCell']) (by omega) (by unfold maxLen; omega) (by omega) (by simp; omega) (w3.heap.size + 1) (by simp) ?_; intro gg cap2 w5 hown2 hgrow2 hat hlt2; have hP3 := hP.push hown2 hgrow2; clear hown2 hgrow2 hat)
            have hP3 := Lib.hid hP3
            rename_i q1
            clear q1 hP
            go_roundw
            case rel =>
              exact ⟨k + 1, _, _, o ++ [(y, y')], false, by omega, by go_num, rfl, by simp, hP3.out, by rw [List.length_append, ho.out, List.length_take]; simp; omega, hne'.out, .inl ⟨rfl, by rw [hst.out, ho.out], by
                rw [hst.out]
                intro p hp
                rcases List.mem_append.1 hp with e | e
                · exact hall.out p e
                · simp only [List.mem_singleton] at e
                  rw [e]
                  exact hxy'⟩⟩
            case measure => simp [intOf]; omega
        · have ho := Lib.hid ho
          have hex := Lib.hid hex
          rename_i q1 q2
          clear q1 q2
          go_wp2_with fail
          refine wp_region_after (by kernel_rfl) (by kernel_rfl) ?_
          repeat (first | go_big_quiet_step (fail) | quiet_step (fail))
          refine wpQuiet_nil ?_
          intro pw2
          have d0 := g0 pw2
          have d1 := g1 pw2
          have d2 := e0 pw2
          have d3 := e1 pw2
          have hP := hPP.out.later pw2.bel
          clear g0 g1 e0 e1 hPP
          generalize pw2.x = w3 at d0 d1 d2 d3 hP ⊢
          have hq3 := hP.own.lt q rfl
          have hsz3 := hP.bel.size
          have hbx3 := hP.box.lt
          go_wp2_with (at_builtin; refine wpList_append_lies _ rfl _ _ _ rfl (w.heap.size + 1) 75 i0 _ 2 16 Try.underlying29 hi0 hz0 hz1 hz2 rfl (by omega) (.slice (some ⟨q, 0, none⟩) (o.length) cap') (o.length) (flatP o) rfl (hP.own.alloc _) ⟨w3.heap.size, 0, none⟩ 1 1 [.int .i64 y, .int .i64 y'] rfl rfl (World.news_of_block (cs := #[.int .i64 y, .int .i64 y']) (t := 75) (fr := (0, 0)) (heap_alloc_new w3 _)) (by simp [Value.oneCell']) (by omega) (by unfold maxLen; omega) (by omega) (by simp; omega) (w3.heap.size + 1) (by simp) ?_; intro gg cap2 w5 hown2 hgrow2 hat hlt2; have hP3 := hP.push hown2 hgrow2; clear hown2 hgrow2 hat)
          have hP3 := Lib.hid hP3
          rename_i q1
          clear q1 hP
          go_roundw
          case rel =>
            exact ⟨k + 1, _, _, o ++ [(y, y')], true, by omega, by go_num, rfl, by simp, hP3.out, by rw [List.length_append, ho.out, ins_len, List.length_take]; simp; omega, hne'.out, .inr ⟨rfl, by rw [hst.out, ins_snoc hex.out, ho.out], by
              obtain ⟨p, hp, hlt⟩ := hex.out
              exact ⟨p, by rw [hst.out]; simp [hp], hlt⟩⟩⟩
          case measure => simp [intOf]; omega
    · obtain rfl : k = n := by omega
      have hno : has l x = false := has_not.2 (by have := hne; rwa [← hnl.out, List.take_length] at this)
      have hpt : put l (x, t) = ins l (x, t) := by simp [put, hno]
      have hpt := Lib.hid hpt
      have hcase : (b = false ∧ o = l ∧ ∀ p ∈ l, p.1 ≤ x) ∨ (b = true ∧ o = ins l (x, t) ∧ ∃ p ∈ l, x < p.1) := by rwa [← hnl.out, List.take_length] at hcase
      rename_i q1 q2
      clear q1 q2 hno hne
      have hq3 := hP.own.lt q rfl
      have hsz3 := hP.bel.size
      have hbx3 := hP.box.lt
      obtain ⟨s0, s1⟩ := hP.box.two
      rcases hcase with ⟨rfl, ho, hall⟩ | ⟨rfl, ho, hex⟩
      · have ho := Lib.hid ho
        have hall := Lib.hid hall
        rename_i q1 q2
        clear q1 q2
        go_wp2_with (at_builtin; refine wpList_append_lies _ rfl _ _ _ rfl (w.heap.size + 1) 75 i0 _ 2 16 Try.underlying29 hi0 hz0 hz1 hz2 rfl (by omega) (.slice (some ⟨q, 0, none⟩) (o.length) cap') (o.length) (flatP o) rfl (hP.own.alloc _) ⟨wr.heap.size, 0, none⟩ 1 1 [.int .i64 x, .int .i64 t] rfl rfl (World.news_of_block (cs := #[.int .i64 x, .int .i64 t]) (t := 75) (fr := (0, 0)) (heap_alloc_new wr _)) (by simp [Value.oneCell']) (by omega) (by unfold maxLen; omega) (by omega) (by simp; omega) (wr.heap.size + 1) (by simp) ?_; intro gg cap2 w5 hown2 hgrow2 hat hlt2; have hP3 := hP.push hown2 hgrow2; clear hown2 hgrow2 hat)
        go_ret
        have e : put l (x, t) = o ++ [(x, t)] := by rw [hpt.out, ins_small hall.out, ho.out]
        rw [e]
        exact ⟨gg, cap2, by rw [List.length_append]; rfl, ownLow hP3.own (by omega), hP3.bel⟩
      · have ho := Lib.hid ho
        have hex := Lib.hid hex
        rename_i q1 q2
        clear q1 q2
        go_wp2
        go_ret
        have e : put l (x, t) = o := by rw [hpt.out, ho.out]
        rw [e]
        exact ⟨_, _, rfl, ownLow hP.own (by omega), hP.bel⟩


set_option maxRecDepth 100000 in
set_option maxHeartbeats 1000000 in
theorem specGoodO_is (s l c sh : Int) (A : Option Addr) (n cap : Nat) (zs : List Int) (ck ch ct cq cv : Int) (P : Option Addr) (m pcap : Nat) (ps : List (Int × Int)) (w : World) (hm : n ≤ maxLen) (hr : Row w w.heap.size A n zs) (hn : m ≤ 4194304) (h : Pairs w w.heap.size P m ps) :
    Calls Try.prog 71 #[.agg #[.int .i64 s, .int .i64 l, .int .i64 c, .int .i64 sh, .slice A n cap], .agg #[.int .i64 ck, .int .i64 ch, .int .i64 ct, .int .i64 cq, .int .i64 cv], .slice P m pcap] w (GivesO w.heap.size w (goodP (rB s l c sh zs ck ch ct cq cv) ps)) := by
  have E0 := bel_trans (bel_trans (bel_alloc w (.cells #[.int .i64 s, .int .i64 l, .int .i64 c, .int .i64 sh, .slice A n cap] 26)) (bel_alloc _ (.cells #[.int .i64 ck, .int .i64 ch, .int .i64 ct, .int .i64 cq, .int .i64 cv] 89))) (bel_alloc _ (.cells #[] 75))
  have DG := ((Box.new w 26 #[.int .i64 s, .int .i64 l, .int .i64 c, .int .i64 sh, .slice A n cap]).alloc (.cells #[.int .i64 ck, .int .i64 ch, .int .i64 ct, .int .i64 cq, .int .i64 cv] 89)).alloc (.cells #[] 75)
  have DC := (Box.new (w.alloc (.cells #[.int .i64 s, .int .i64 l, .int .i64 c, .int .i64 sh, .slice A n cap] 26)) 89 #[.int .i64 ck, .int .i64 ch, .int .i64 ct, .int .i64 cq, .int .i64 cv]).alloc (.cells #[] 75)
  simp only [World.size_alloc] at DC
  have O0 : (((w.alloc (.cells #[.int .i64 s, .int .i64 l, .int .i64 c, .int .i64 sh, .slice A n cap] 26)).alloc (.cells #[.int .i64 ck, .int .i64 ch, .int .i64 ct, .int .i64 cq, .int .i64 cv] 89)).alloc (.cells #[] 75)).ownsRow w.heap.size 75 2 (.slice (some ⟨w.heap.size + 1 + 1, 0, none⟩) 0 0) 0 [] := by
    have := own_new ((w.alloc (.cells #[.int .i64 s, .int .i64 l, .int .i64 c, .int .i64 sh, .slice A n cap] 26)).alloc (.cells #[.int .i64 ck, .int .i64 ch, .int .i64 ct, .int .i64 cq, .int .i64 cv] 89)) 75 2
    simp only [World.size_alloc] at this
    exact ownLow this (by omega)
  replace O0 := Lib.hid O0
  have HR := Lib.hid hr
  have HM := Lib.hid hm
  have HP := Lib.hid h
  have hl := Lib.hid h.1
  clear h hr hm
  generalize hR : rB s l c sh zs ck ch ct cq cv = R
  have HRR := Lib.hid hR
  clear hR
  go_enter Try.func71, Try.ntmps71
  go_wp2_with fail
  generalize (((w.alloc _).alloc _).alloc _ : World) = w1 at E0 DG DC O0 ⊢
  go_loopw [7, 8] (fun ov iv wr => ∃ (k q c' : Nat) (L : List (Int × Int)), k ≤ m ∧ iv = .int .i64 k ∧ ov = .slice (some ⟨q, 0, none⟩) L.length c' ∧ L = goodP R (ps.take k) ∧ wr.ownsRow w.heap.size 75 2 (.slice (some ⟨q, 0, none⟩) L.length c') L.length (flatP L) ∧ Below w.heap.size w wr ∧ Box wr w.heap.size 26 #[.int .i64 s, .int .i64 l, .int .i64 c, .int .i64 sh, .slice A n cap] ∧ Box wr (w.heap.size + 1) 89 #[.int .i64 ck, .int .i64 ch, .int .i64 ct, .int .i64 cq, .int .i64 cv]) (fun _ i _ => m - (intOf i).toNat)
  case atStart => exact ⟨0, _, 0, [], Nat.zero_le _, rfl, rfl, by simp [goodP_nil], O0.out, E0, DG, DC⟩
  case round =>
    obtain ⟨k, q, c', L, hk, rfl, rfl, hL, hp, hbel, DG, DC⟩ := hrel
    by_cases hlt : k < m
    · have hlt' : (k : Int) < (m : Int) := by omega
      obtain ⟨b, o, hA, hbB, hcell⟩ := HP.out.2 (by omega)
      subst hA
      obtain ⟨c0, c1⟩ := hcell k hlt
      replace c0 := (hbel.cell (p := ⟨b, o + k * 2, none⟩) hbB).trans c0
      replace c1 := (hbel.cell (p := ⟨b, o + k * 2 + 1, none⟩) hbB).trans c1
      have hyes := Lib.hid (goodP_yes (R := R) (ps := ps) (k := k) (by rw [hl.out]; exact hlt))
      have hno := Lib.hid (goodP_no (R := R) (ps := ps) (k := k) (by rw [hl.out]; exact hlt))
      rw [← hL] at hyes hno
      have hLl : L.length ≤ 4194304 := by
        rw [hL]
        have := goodP_le R (ps.take k)
        rw [List.length_take] at this
        omega
      generalize hy : pth ps k = y at c0 c1 hyes hno
      obtain ⟨y, y'⟩ := y
      replace hL := Lib.hid hL
      replace hy := Lib.hid hy
      have hbl : b < wr.heap.size := Nat.lt_of_lt_of_le hbB hbel.size
      have g0 := After.cell (by exact hbl) c0
      have g1 := After.cell (by exact hbl) c1
      obtain ⟨f0, f1, f2, f3, f4⟩ := fiveAfter DG
      obtain ⟨f5, f6, f7, f8, f9⟩ := fiveAfter DC
      have hrow := Lib.hid ((HR.out.below hbel (Nat.le_refl _)).more hbel.size)
      have HDG := Lib.hid DG
      have HDC := Lib.hid DC
      have HPL := Lib.hid hp
      clear hcell c0 c1 DG DC hp
      rcases hRy : R (y, y') with _ | _
      · have HY : Hid (rB s l c sh zs ck ch ct cq cv (y, y') = false) := by rw [HRR.out]; exact hRy
        replace hno := Lib.hid (hno.out hRy)
        clear hRy
        go_wp2_with fail
        refine wp_region_after (by kernel_rfl) (by kernel_rfl) ?_
        repeat (first | go_big_quiet_step ((go_at_call 91; exact after_of (specRightB_is HY.out _ n cap _ HM.out (rowAfter hrow.out _)))) | quiet_step ((go_at_call 91; exact after_of (specRightB_is HY.out _ n cap _ HM.out (rowAfter hrow.out _)))))
        refine wpQuiet_nil ?_
        intro pw
        have E2 := bel_trans hbel pw.bel
        have DG := HDG.out.later pw.bel HDG.out.lt
        have DC := HDC.out.later pw.bel HDC.out.lt
        have hp := Lib.hid (HPL.out.kept (grown_bel pw.bel none) (.inr (by intro e; cases e)))
        clear g0 g1 f0 f1 f2 f3 f4 f5 f6 f7 f8 f9
        go_wp2
        go_roundw
        case rel => exact ⟨k + 1, q, c', L, by omega, by go_num, rfl, hno.out.symm, hp.out, E2, DG, DC⟩
        case measure => simp [intOf]; omega
      · have HY : Hid (rB s l c sh zs ck ch ct cq cv (y, y') = true) := by rw [HRR.out]; exact hRy
        replace hyes := Lib.hid (hyes.out hRy)
        clear hRy
        go_wp2_with fail
        refine wp_region_after (by kernel_rfl) (by kernel_rfl) ?_
        repeat (first | go_big_quiet_step ((go_at_call 91; exact after_of (specRightB_is HY.out _ n cap _ HM.out (rowAfter hrow.out _)))) | quiet_step ((go_at_call 91; exact after_of (specRightB_is HY.out _ n cap _ HM.out (rowAfter hrow.out _)))))
        refine wpQuiet_nil ?_
        intro pw
        have E2 := bel_trans hbel pw.bel
        have DG := HDG.out.later pw.bel HDG.out.lt
        have DC := HDC.out.later pw.bel HDC.out.lt
        have hp := HPL.out.kept (grown_bel pw.bel none) (.inr (by intro e; cases e))
        have d0 := g0 pw
        have d1 := g1 pw
        clear g0 g1 f0 f1 f2 f3 f4 f5 f6 f7 f8 f9 HDG HDC HPL
        generalize pw.x = w2 at E2 DG DC hp d0 d1 ⊢
        go_wp2_with fail
        refine (putO_is w.heap.size q c' L y y' w2 hLl E2.size hp).mono ?_
        rintro e w3 ⟨g', c'', rfl, hp', hb'⟩
        replace hp' := Lib.hid hp'
        have DG' := DG.later hb' DG.lt
        have DC' := DC.later hb' DC.lt
        go_wp2
        go_roundw
        case rel => exact ⟨k + 1, g', c'', put L (y, y'), by omega, by go_num, rfl, hyes.out.symm, hp'.out, bel_trans E2 hb', DG', DC'⟩
        case measure => simp [intOf]; omega
    · obtain rfl : k = m := by omega
      rw [← hl.out, List.take_length] at hL
      replace hL := Lib.hid hL
      replace hp := Lib.hid hp
      go_wp2
      go_ret
      rw [← hL.out]
      exact ⟨q, c', rfl, hp.out, hbel⟩


theorem specGoodNew_is (s l c sh : Int) (A : Option Addr) (n cap : Nat) (zs : List Int) (ck ch ct cq cv : Int) (P : Option Addr) (m pcap : Nat) (ps : List (Int × Int)) (w : World) (hm : n ≤ maxLen) (hr : Row w w.heap.size A n zs) (hn : m ≤ 4194304) (h : Pairs w w.heap.size P m ps) :
    Calls Try.prog 71 #[.agg #[.int .i64 s, .int .i64 l, .int .i64 c, .int .i64 sh, .slice A n cap], .agg #[.int .i64 ck, .int .i64 ch, .int .i64 ct, .int .i64 cq, .int .i64 cv], .slice P m pcap] w fun e w' => ∃ g c', e = .returned (.slice (some ⟨g, 0, none⟩) (goodP (rB s l c sh zs ck ch ct cq cv) ps).length c') ∧ w.heap.size ≤ g ∧ Pairs w' w'.heap.size (some ⟨g, 0, none⟩) (goodP (rB s l c sh zs ck ch ct cq cv) ps).length (goodP (rB s l c sh zs ck ch ct cq cv) ps) ∧ Below w.heap.size w w' :=
  (specGoodO_is s l c sh A n cap zs ck ch ct cq cv P m pcap ps w hm hr hn h).mono fun _ _ ⟨g, c', he, ho, hb⟩ => ⟨g, c', he, (ho.lt g rfl).1, own_pairs ho, hb⟩

end Go.Proofs.Ythpccmckjmmicaa

/- The model's writing on a shelf: its contract. -/
namespace Go.Proofs.Ythpccmckjmmicaa
open Go.RowKit

/-- Can it be written? -/
def wrtB (s l c sh : Int) (zs : List Int) (x ct cq v : Int) (cs : List (Int × Int)) : Bool := !decide (ct = 0 ∧ cq = 0) && proB s l c sh zs x ct cq v cs
theorem wrt_parts {s l c sh : Int} {zs : List Int} {x ct cq v : Int} {cs : List (Int × Int)} (h : wrtB s l c sh zs x ct cq v cs = true) : stB ct cq = true ∧ cs.length ≤ 20 ∧ ¬ (ct = 0 ∧ cq = 0) ∧ proB s l c sh zs x ct cq v cs = true := by
  unfold wrtB at h
  simp only [Bool.and_eq_true, Bool.not_eq_true', decide_eq_false_iff_not] at h
  obtain ⟨hz, hp⟩ := h
  have hp' := hp
  rw [proB_eq, Bool.and_eq_true, Bool.or_eq_true] at hp'
  rcases hp'.2 with hn | hc
  · rcases nil_cases ct cq v with ⟨h1, h2, _, _⟩ | ⟨h, _⟩
    · exact absurd ⟨h1, h2⟩ hz
    · rw [h] at hn; cases hn
  · refine ⟨(cer_parts hc).1, ?_, hz, hp⟩
    unfold cerB at hc
    simp only [Bool.and_eq_true, decide_eq_true_eq] at hc
    omega
theorem wrt_zero (s l c sh : Int) (zs : List Int) (x v : Int) (cs : List (Int × Int)) : wrtB s l c sh zs x 0 0 v cs = false := by simp [wrtB]

/-- A shelf and a flag that are answered: its lists lie somewhere. -/
def SpR (w : World) (rt rq rv : Int) (ps : List (Int × Int)) (os : List Opn) (f : Bool) (e : Ending) (w' : World) : Prop :=
  ∃ (A : Option Addr) (n c : Nat) (A' : Option Addr) (n' c' : Nat), e = .returned (.tuple #[.agg #[.int .i64 rt, .int .i64 rq, .int .i64 rv, .slice A n c, .slice A' n' c'], .bool f]) ∧ Pairs w' w'.heap.size A n ps ∧ Quads w' w'.heap.size A' n' os ∧ (∀ b o, A = some ⟨b, o, none⟩ → w.heap.size ≤ b) ∧ (∀ b o, A' = some ⟨b, o, none⟩ → w.heap.size ≤ b) ∧ Below w.heap.size w w'

/-- The answer is laid down: the lists as they are. -/
theorem spr_put {w wr : World} {R : Nat} {rt rq rv : Int} {A : Option Addr} {n c : Nat} {A' : Option Addr} {n' c' : Nat} {ps : List (Int × Int)} {os : List Opn} {f : Bool} (hb : Below w.heap.size w wr) (hR : w.heap.size ≤ R) (h1 : Pairs wr wr.heap.size A n ps) (h2 : Quads wr wr.heap.size A' n' os) (hA : ∀ b o, A = some ⟨b, o, none⟩ → b ≠ R ∧ w.heap.size ≤ b) (hA' : ∀ b o, A' = some ⟨b, o, none⟩ → b ≠ R ∧ w.heap.size ≤ b) (x0 x1 x2 x3 x4 : Value) :
    SpR w rt rq rv ps os f (.returned (.tuple #[.agg #[.int .i64 rt, .int .i64 rq, .int .i64 rv, .slice A n c, .slice A' n' c'], .bool f])) (((((wr.setCell ⟨R, 0, none⟩ x0).setCell ⟨R, 1, none⟩ x1).setCell ⟨R, 2, none⟩ x2).setCell ⟨R, 3, none⟩ x3).setCell ⟨R, 4, none⟩ x4) := by
  have hc : ∀ (b o : Nat), b ≠ R → (((((wr.setCell ⟨R, 0, none⟩ x0).setCell ⟨R, 1, none⟩ x1).setCell ⟨R, 2, none⟩ x2).setCell ⟨R, 3, none⟩ x3).setCell ⟨R, 4, none⟩ x4).cell? ⟨b, o, none⟩ = wr.cell? ⟨b, o, none⟩ := by
    intro b o hbR
    have hn : ∀ j, (⟨R, j, none⟩ : Addr) ≠ ⟨b, o, none⟩ := fun j e => hbR (by injection e with e _ _; exact e.symm)
    rw [World.cell?_setCell_other _ _ _ _ (hn 4), World.cell?_setCell_other _ _ _ _ (hn 3), World.cell?_setCell_other _ _ _ _ (hn 2), World.cell?_setCell_other _ _ _ _ (hn 1), World.cell?_setCell_other _ _ _ _ (hn 0)]
  refine ⟨A, n, c, A', n', c', rfl, ⟨h1.1, fun hn => ?_⟩, ⟨h2.1, fun hn => ?_⟩, fun b o e => (hA b o e).2, fun b o e => (hA' b o e).2, bel_five hb hR x0 x1 x2 x3 x4⟩
  · obtain ⟨b, o, e, hbl, hcell⟩ := h1.2 hn
    have hbR := (hA b o e).1
    exact ⟨b, o, e, by simp only [size_set]; exact hbl, fun i hi => ⟨(hc b _ hbR).trans (hcell i hi).1, (hc b _ hbR).trans (hcell i hi).2⟩⟩
  · obtain ⟨b, o, e, hbl, hcell⟩ := h2.2 hn
    have hbR := (hA' b o e).1
    exact ⟨b, o, e, by simp only [size_set]; exact hbl, fun i hi => ⟨(hc b _ hbR).trans (hcell i hi).1, (hc b _ hbR).trans (hcell i hi).2.1, (hc b _ hbR).trans (hcell i hi).2.2.1, (hc b _ hbR).trans (hcell i hi).2.2.2⟩⟩
theorem resP_apart {wr : World} {lo hi : Nat} {A : Option Addr} {n c : Nat} {D : List (Int × Int)} (h : ResP wr lo hi (.slice A n c) D) {R : Nat} (hR : R < lo ∨ hi ≤ R) : D.length = n ∧ Pairs wr wr.heap.size A n D ∧ ∀ b o, A = some ⟨b, o, none⟩ → b ≠ R ∧ lo ≤ b := by
  rcases h with ⟨e, rfl⟩ | ⟨g, cap, h1, h2, e, h4, h5, h6⟩
  · injection e with e1 e2 e3
    subst e1 e2
    exact ⟨rfl, ⟨rfl, fun h => absurd h (by simp)⟩, fun b o e => by cases e⟩
  · injection e with e1 e2 e3
    subst e1 e2
    refine ⟨rfl, h6.pairs, fun b o e => ?_⟩
    injection e with e
    injection e with e _ _
    omega
theorem resO_apart {wr : World} {lo : Nat} {A : Option Addr} {n c : Nat} {D : List Opn} (h : ResO wr lo (.slice A n c) D) {R : Nat} (hR : R < lo) : D.length = n ∧ Quads wr wr.heap.size A n D ∧ ∀ b o, A = some ⟨b, o, none⟩ → b ≠ R ∧ lo ≤ b := by
  rcases h with ⟨e, rfl⟩ | ⟨g, cap, h1, e, h4, h5, h6⟩
  · injection e with e1 e2 e3
    subst e1 e2
    exact ⟨rfl, quads_nil _ _ _, fun b o e => by cases e⟩
  · injection e with e1 e2 e3
    subst e1 e2
    refine ⟨rfl, h6.quads, fun b o e => ?_⟩
    injection e with e
    injection e with e _ _
    omega
theorem ResQ.farHi {w : World} {lo hi : Nat} {u : Value} {D : List Opn} (h : ResQ w lo hi u D) {b : Nat} (hb : hi ≤ b) (o : Nat) (x : Value) : ResQ (w.setCell ⟨b, o, none⟩ x) lo hi u D := by
  rcases h with h | ⟨g, cap, h1, h2, h3, h4, h5, h6⟩
  · exact .inl h
  · exact .inr ⟨g, cap, h1, h2, h3, h4, h5, h6.far (by omega) o x⟩
/-- What the model's writing answers where it can be written. -/
def Wrote (w : World) (s l c sh : Int) (zs : List Int) (x rt rq rv : Int) (ps : List (Int × Int)) (os : List Opn) (ct cq v : Int) (cs : List (Int × Int)) (e : Ending) (w' : World) : Prop :=
  (¬ 0 < cmpN ct cq rt rq ∧ SpR w rt rq rv ps os true e w') ∨ (0 < cmpN ct cq rt rq ∧ SpR w ct cq v (goodP (rB s l c sh zs 1 x ct cq v) cs) os true e w')

end Go.Proofs.Ythpccmckjmmicaa
