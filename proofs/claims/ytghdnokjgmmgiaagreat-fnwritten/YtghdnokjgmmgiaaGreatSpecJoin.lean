/- The model's lists of seals: putting one in, joining two: contracts of each of them; up to some four million seals. -/
import Derived.Test.YtghdnokjgmmgiaaGreatSortConcat
import Derived.Test.YtghdnokjgmmgiaaGreatSpecSeal
namespace Go.Proofs.YtghdnokjgmmgiaaGreat
open Go.RowKit

theorem ins_small {l : List (Int × Int)} {s : Int × Int} (h : ∀ p ∈ l, p.1 ≤ s.1) : ins l s = l ++ [s] := by
  induction l with
  | nil => rfl
  | cons x l ih =>
    unfold ins
    rw [if_neg (Int.not_lt.2 (h x (by simp))), ih (fun p hp => h p (by simp [hp]))]
    rfl
theorem ins_snoc {l : List (Int × Int)} {s : Int × Int} (h : ∃ p ∈ l, s.1 < p.1) (y : Int × Int) : ins (l ++ [y]) s = ins l s ++ [y] := by
  induction l with
  | nil => simp at h
  | cons x l ih =>
    rw [List.cons_append]
    unfold ins
    split
    · rfl
    · rename_i hx
      obtain ⟨p, hp, hlt⟩ := h
      rcases List.mem_cons.1 hp with e | e
      · rw [e] at hlt; exact absurd hlt hx
      · rw [ih ⟨p, e, hlt⟩]; rfl
theorem ins_here {l : List (Int × Int)} {s y : Int × Int} (h : ∀ p ∈ l, p.1 ≤ s.1) (hy : s.1 < y.1) : ins (l ++ [y]) s = l ++ [s] ++ [y] := by
  induction l with
  | nil => simp [ins, hy]
  | cons x l ih =>
    rw [List.cons_append]
    unfold ins
    rw [if_neg (Int.not_lt.2 (h x (by simp))), ih (fun p hp => h p (by simp [hp]))]
    rfl

/-- A list of the call's own, and the box of the pair that is put. -/
structure PutAt (w0 wr : World) (x t : Int) (q cap' : Nat) (o : List (Int × Int)) : Prop where
  own : wr.ownsRow (w0.heap.size + 1) 94 2 (.slice (some ⟨q, 0, none⟩) o.length cap') o.length (flatP o)
  bel : Below w0.heap.size w0 wr
  box : Box wr w0.heap.size 94 #[.int .i64 x, .int .i64 t]
theorem PutAt.later {w0 wr w' : World} {x t : Int} {q cap' : Nat} {o : List (Int × Int)} (h : PutAt w0 wr x t q cap' o) (hb : Below wr.heap.size wr w') : PutAt w0 w' x t q cap' o :=
  ⟨h.own.kept (grown_bel hb none) (by simp [Value.ownBlock]), bel_trans h.bel hb, h.box.later hb h.box.lt⟩
theorem PutAt.push {w0 wr w2 : World} {x t : Int} {q cap' gg cap2 : Nat} {o : List (Int × Int)} {a b : Int} {ob : Obj} (h : PutAt w0 wr x t q cap' o)
    (hown : w2.ownsRow (w0.heap.size + 1) 94 2 (.slice (some ⟨gg, 0, none⟩) (o.length + 1) cap2) (o.length + 1) (flatP o ++ [.int .i64 a, .int .i64 b])) (hg : (wr.alloc ob).grownBy w2 (Value.ownBlock (.slice (some ⟨q, 0, none⟩) o.length cap'))) : PutAt w0 w2 x t gg cap2 (o ++ [(a, b)]) := by
  have hq := (h.own.lt q rfl).1
  have hg : (wr.alloc ob).grownBy w2 (some q) := hg
  refine ⟨?_, bel_grown (bel_trans h.bel (bel_alloc wr ob)) hg (by omega), (h.box.alloc ob).kept hg (by intro e; injection e with e; omega)⟩
  rw [flatP_snoc]
  simpa using hown

/-- What is answered: a list somewhere. -/
def Gives (w : World) (ps : List (Int × Int)) (e : Ending) (w' : World) : Prop :=
  ∃ g cap, e = .returned (.slice (some ⟨g, 0, none⟩) ps.length cap) ∧ Pairs w' w'.heap.size (some ⟨g, 0, none⟩) ps.length ps ∧ Below w.heap.size w w'

set_option maxRecDepth 100000 in
set_option maxHeartbeats 2000000 in
theorem put_is (g cap : Nat) (l : List (Int × Int)) (x t : Int) (w : World) (hn : l.length ≤ 4194304) (h : Pairs w w.heap.size (some ⟨g, 0, none⟩) l.length l) :
    Calls Tryz.prog 106 #[.slice (some ⟨g, 0, none⟩) l.length cap, .agg #[.int .i64 x, .int .i64 t]] w (Gives w (put l (x, t))) := by
  obtain ⟨i0, hi0, hz0, hz1, hz2⟩ := info_parts Tryz.infoSealI
  have K0 : PutAt w ((w.alloc (.cells #[.int .i64 x, .int .i64 t] 94)).alloc (.cells #[] 94)) x t (w.heap.size + 1) 0 [] := by
    refine ⟨⟨rfl, .inr ⟨w.heap.size + 1, 0, #[], rfl, Nat.le_refl _, ?_, Nat.le_refl _, Nat.zero_le _, rfl, rfl⟩⟩, bel_trans (bel_alloc _ _) (bel_alloc _ _), (Box.new w _ _).alloc _⟩
    have := Box.new (w.alloc (.cells #[.int .i64 x, .int .i64 t] 94)) 94 #[]
    simp only [World.size_alloc] at this
    exact this
  have HP := Lib.hid h
  obtain ⟨n, hnl⟩ : ∃ n, l.length = n := ⟨_, rfl⟩
  have K1 : ∀ k, k < n → l.take (k + 1) = l.take k ++ [pth l k] := fun k hk => by
    rw [List.take_succ_eq_append_getElem (by omega), pth_lt (by omega)]
  have K1 := Lib.hid K1
  rw [hnl] at hn ⊢
  have hnl := Lib.hid hnl
  rename_i q1 q2
  clear h q1 q2
  go_enter Tryz.func106, Tryz.ntmps106
  go_wp2_with fail
  generalize ((w.alloc _).alloc _ : World) = w1 at K0 ⊢
  go_loopw [5, 6, 7] (fun ov bv iv wr => ∃ (k q cap' : Nat) (o : List (Int × Int)) (b : Bool), k ≤ n ∧ iv = .int .i64 k ∧ bv = .bool b ∧ ov = .slice (some ⟨q, 0, none⟩) o.length cap' ∧ PutAt w wr x t q cap' o ∧ o.length ≤ k + 1 ∧ (∀ p ∈ l.take k, p.1 ≠ x) ∧
      ((b = false ∧ o = l.take k ∧ ∀ p ∈ l.take k, p.1 ≤ x) ∨ (b = true ∧ o = ins (l.take k) (x, t) ∧ ∃ p ∈ l.take k, x < p.1))) (fun _ _ i _ => n - (intOf i).toNat)
  case atStart => exact ⟨0, _, 0, [], false, Nat.zero_le _, rfl, rfl, rfl, K0, by simp, by simp, .inl ⟨rfl, by simp, by simp⟩⟩
  case round =>
    obtain ⟨k, q, cap', o, b, hk, rfl, rfl, rfl, hP, hol, hne, hcase⟩ := hrel
    by_cases hlt : k < n
    · have hlt' : (k : Int) < (n : Int) := by omega
      obtain ⟨b', o', hA, hbB, hcell⟩ := HP.out.2 (by have := hnl.out; omega)
      cases hA
      obtain ⟨c0, c1⟩ := hcell k (by have := hnl.out; omega)
      rw [Nat.zero_add] at c0 c1
      have c0 := (hP.bel.cell (p := ⟨g, k * 2, none⟩) hbB).trans c0
      have c1 := (hP.bel.cell (p := ⟨g, k * 2 + 1, none⟩) hbB).trans c1
      have hst := Lib.hid (K1.out k hlt)
      generalize hy : pth l k = y at c0 c1 hst
      obtain ⟨y, y'⟩ := y
      obtain ⟨s0, s1⟩ := hP.box.two
      have hgl : g < wr.heap.size := Nat.lt_of_lt_of_le hbB hP.bel.size
      have hq := (hP.own.lt q rfl)
      have g0 := After.cell (by exact hgl) c0
      have g1 := After.cell (by exact hgl) c1
      have e0 := After.cell (by exact hP.box.lt) s0
      have e1 := After.cell (by exact hP.box.lt) s1
      have hy := Lib.hid hy
      have hcase := Lib.hid hcase
      have hne := Lib.hid hne
      have hPP := Lib.hid hP
      rename_i q1 q2 q3
      clear q1 q2 q3 hcell c0 c1 s0 s1 hP
      by_cases hyx : y = x
      · subst hyx
        have hhas : put l (y, t) = l := by
          have : has l y = true := has_mem.2 ⟨pth l k, by rw [pth_lt (by have := hnl.out; omega)]; exact List.getElem_mem _, by rw [hy.out]⟩
          simp [put, this]
        rw [hhas]
        go_wp2_with fail
        refine wp_region_after (by kernel_rfl) (by kernel_rfl) ?_
        repeat (first | go_big_quiet_step (fail) | quiet_step (fail))
        refine wpQuiet_nil ?_
        intro pw
        have hP := hPP.out.later pw.bel
        clear g0 g1 e0 e1
        go_wp2
        go_ret
        exact ⟨g, cap, by rw [hnl.out]; rfl, HP.out.later hP.bel, hP.bel⟩
      · have hyx' : (y == x) = false := by simp [hyx]
        have hyx := Lib.hid hyx
        rename_i q1
        clear q1
        go_wp2_with fail
        refine wp_region_after (by kernel_rfl) (by kernel_rfl) ?_
        repeat (first | go_big_quiet_step (fail) | quiet_step (fail))
        refine wpQuiet_nil ?_
        intro pw
        have d0 := g0 pw
        have d1 := g1 pw
        have d2 := e0 pw
        have d3 := e1 pw
        have hP := hPP.out.later pw.bel
        clear g0 g1 e0 e1 hPP
        generalize pw.x = w2 at d0 d1 d2 d3 hP ⊢
        have hsz := hP.bel.size
        have hbl := hP.box.lt
        have hgl2 : g < w2.heap.size := Nat.lt_of_lt_of_le hbB hsz
        have g0 := After.cell (by exact hgl2) d0
        have g1 := After.cell (by exact hgl2) d1
        have e0 := After.cell (by exact hbl) d2
        have e1 := After.cell (by exact hbl) d3
        have hPP := Lib.hid hP
        clear d0 d1 d2 d3 hP
        have hne' : ∀ p ∈ l.take (k + 1), p.1 ≠ x := by
          rw [hst.out]
          intro p hp
          rcases List.mem_append.1 hp with e | e
          · exact hne.out p e
          · simp only [List.mem_singleton] at e
            rw [e]
            exact hyx.out
        have hne' := Lib.hid hne'
        rename_i q1
        clear q1
        rcases hcase.out with ⟨rfl, ho, hall⟩ | ⟨rfl, ho, hex⟩
        · have ho := Lib.hid ho
          have hall := Lib.hid hall
          rename_i q1 q2
          clear q1 q2
          by_cases hxy : x < y
          · go_wp2_with fail
            refine wp_region_after (by kernel_rfl) (by kernel_rfl) ?_
            repeat (first | go_big_quiet_step (fail) | quiet_step (fail))
            refine wpQuiet_nil ?_
            intro pw2
            have d0 := g0 pw2
            have d1 := g1 pw2
            have d2 := e0 pw2
            have d3 := e1 pw2
            have hP := hPP.out.later pw2.bel
            clear g0 g1 e0 e1 hPP
            generalize pw2.x = w3 at d0 d1 d2 d3 hP ⊢
            have hq3 := hP.own.lt q rfl
            have hsz3 := hP.bel.size
            have hbx3 := hP.box.lt
            go_wp2_with (first | (at_builtin; refine wpList_append_lies _ rfl _ _ _ rfl (w.heap.size + 1) 94 i0 _ 2 16 Tryz.underlying29 hi0 hz0 hz1 hz2 rfl (by omega) (.slice (some ⟨gg, 0, none⟩) (o.length + 1) cap2) (o.length + 1) (flatP o ++ [.int .i64 x, .int .i64 t]) rfl (hown2.alloc _) ⟨w5.heap.size, 0, none⟩ 1 1 [.int .i64 y, .int .i64 y'] rfl rfl (World.news_of_block (cs := #[.int .i64 y, .int .i64 y']) (t := 94) (fr := (0, 0)) (heap_alloc_new w5 _)) (by simp [Value.oneCell']) (by omega) (by unfold maxLen; omega) (by omega) (by simp; omega) (w5.heap.size + 1) (by simp) ?_; intro g3 cap3 w6 hown3 hgrow3 hat3 hlt3; have hP3 := hP2.push (gg := g3) (cap2 := cap3) (a := y) (b := y') (by simpa [flatP_snoc] using hown3) (by simpa using hgrow3); clear hown3 hgrow3 hat3 hown2) | (at_builtin; refine wpList_append_lies _ rfl _ _ _ rfl (w.heap.size + 1) 94 i0 _ 2 16 Tryz.underlying29 hi0 hz0 hz1 hz2 rfl (by omega) (.slice (some ⟨q, 0, none⟩) (o.length) cap') (o.length) (flatP o) rfl (hP.own.alloc _) ⟨w3.heap.size, 0, none⟩ 1 1 [.int .i64 x, .int .i64 t] rfl rfl (World.news_of_block (cs := #[.int .i64 x, .int .i64 t]) (t := 94) (fr := (0, 0)) (heap_alloc_new w3 _)) (by simp [Value.oneCell']) (by omega) (by unfold maxLen; omega) (by omega) (by simp; omega) (w3.heap.size + 1) (by simp) ?_; intro gg cap2 w5 hown2 hgrow2 hat hlt2; have hP2 := hP.push hown2 hgrow2; have c0 := (hP2.bel.cell (p := ⟨g, k * 2, none⟩) hbB).trans ((hP.bel.cell (p := ⟨g, k * 2, none⟩) hbB).symm.trans d0); have c1 := (hP2.bel.cell (p := ⟨g, k * 2 + 1, none⟩) hbB).trans ((hP.bel.cell (p := ⟨g, k * 2 + 1, none⟩) hbB).symm.trans d1); have hsz5 := hP2.bel.size; have hbx5 := hP2.box.lt; clear hgrow2 hat))
            have hP3 := Lib.hid hP3
            rename_i q1
            clear q1 hP2 hP
            go_roundw
            case rel =>
              have hl2 : (o ++ [(x, t)] ++ [(y, y')]).length = o.length + 1 + 1 := by simp
              exact ⟨k + 1, _, _, o ++ [(x, t)] ++ [(y, y')], true, by omega, by go_num, rfl, by rw [hl2], hP3.out, by rw [hl2, ho.out, List.length_take]; have := hnl.out; omega, hne'.out, .inr ⟨rfl, by rw [hst.out, ins_here hall.out hxy, ho.out], (y, y'), by rw [hst.out]; simp, hxy⟩⟩
            case measure => simp [intOf]; omega
          · have hxy' : y ≤ x := Int.not_lt.1 hxy
            clear hxy
            go_wp2_with fail
            refine wp_region_after (by kernel_rfl) (by kernel_rfl) ?_
            repeat (first | go_big_quiet_step (fail) | quiet_step (fail))
            refine wpQuiet_nil ?_
            intro pw2
            have d0 := g0 pw2
            have d1 := g1 pw2
            have d2 := e0 pw2
            have d3 := e1 pw2
            have hP := hPP.out.later pw2.bel
            clear g0 g1 e0 e1 hPP
            generalize pw2.x = w3 at d0 d1 d2 d3 hP ⊢
            have hq3 := hP.own.lt q rfl
            have hsz3 := hP.bel.size
            have hbx3 := hP.box.lt
            go_wp2_with (at_builtin; refine wpList_append_lies _ rfl _ _ _ rfl (w.heap.size + 1) 94 i0 _ 2 16 Tryz.underlying29 hi0 hz0 hz1 hz2 rfl (by omega) (.slice (some ⟨q, 0, none⟩) (o.length) cap') (o.length) (flatP o) rfl (hP.own.alloc _) ⟨w3.heap.size, 0, none⟩ 1 1 [.int .i64 y, .int .i64 y'] rfl rfl (World.news_of_block (cs := #[.int .i64 y, .int .i64 y']) (t := 94) (fr := (0, 0)) (heap_alloc_new w3 _)) (by simp [Value.oneCell']) (by omega) (by unfold maxLen; omega) (by omega) (by simp; omega) (w3.heap.size + 1) (by simp) ?_; intro gg cap2 w5 hown2 hgrow2 hat hlt2; have hP3 := hP.push hown2 hgrow2; clear hown2 hgrow2 hat)
            have hP3 := Lib.hid hP3
            rename_i q1
            clear q1 hP
            go_roundw
            case rel =>
              exact ⟨k + 1, _, _, o ++ [(y, y')], false, by omega, by go_num, rfl, by simp, hP3.out, by rw [List.length_append, ho.out, List.length_take]; simp; omega, hne'.out, .inl ⟨rfl, by rw [hst.out, ho.out], by
                rw [hst.out]
                intro p hp
                rcases List.mem_append.1 hp with e | e
                · exact hall.out p e
                · simp only [List.mem_singleton] at e
                  rw [e]
                  exact hxy'⟩⟩
            case measure => simp [intOf]; omega
        · have ho := Lib.hid ho
          have hex := Lib.hid hex
          rename_i q1 q2
          clear q1 q2
          go_wp2_with fail
          refine wp_region_after (by kernel_rfl) (by kernel_rfl) ?_
          repeat (first | go_big_quiet_step (fail) | quiet_step (fail))
          refine wpQuiet_nil ?_
          intro pw2
          have d0 := g0 pw2
          have d1 := g1 pw2
          have d2 := e0 pw2
          have d3 := e1 pw2
          have hP := hPP.out.later pw2.bel
          clear g0 g1 e0 e1 hPP
          generalize pw2.x = w3 at d0 d1 d2 d3 hP ⊢
          have hq3 := hP.own.lt q rfl
          have hsz3 := hP.bel.size
          have hbx3 := hP.box.lt
          go_wp2_with (at_builtin; refine wpList_append_lies _ rfl _ _ _ rfl (w.heap.size + 1) 94 i0 _ 2 16 Tryz.underlying29 hi0 hz0 hz1 hz2 rfl (by omega) (.slice (some ⟨q, 0, none⟩) (o.length) cap') (o.length) (flatP o) rfl (hP.own.alloc _) ⟨w3.heap.size, 0, none⟩ 1 1 [.int .i64 y, .int .i64 y'] rfl rfl (World.news_of_block (cs := #[.int .i64 y, .int .i64 y']) (t := 94) (fr := (0, 0)) (heap_alloc_new w3 _)) (by simp [Value.oneCell']) (by omega) (by unfold maxLen; omega) (by omega) (by simp; omega) (w3.heap.size + 1) (by simp) ?_; intro gg cap2 w5 hown2 hgrow2 hat hlt2; have hP3 := hP.push hown2 hgrow2; clear hown2 hgrow2 hat)
          have hP3 := Lib.hid hP3
          rename_i q1
          clear q1 hP
          go_roundw
          case rel =>
            exact ⟨k + 1, _, _, o ++ [(y, y')], true, by omega, by go_num, rfl, by simp, hP3.out, by rw [List.length_append, ho.out, ins_len, List.length_take]; simp; omega, hne'.out, .inr ⟨rfl, by rw [hst.out, ins_snoc hex.out, ho.out], by
              obtain ⟨p, hp, hlt⟩ := hex.out
              exact ⟨p, by rw [hst.out]; simp [hp], hlt⟩⟩⟩
          case measure => simp [intOf]; omega
    · obtain rfl : k = n := by omega
      have hno : has l x = false := has_not.2 (by have := hne; rwa [← hnl.out, List.take_length] at this)
      have hpt : put l (x, t) = ins l (x, t) := by simp [put, hno]
      have hpt := Lib.hid hpt
      have hcase : (b = false ∧ o = l ∧ ∀ p ∈ l, p.1 ≤ x) ∨ (b = true ∧ o = ins l (x, t) ∧ ∃ p ∈ l, x < p.1) := by rwa [← hnl.out, List.take_length] at hcase
      rename_i q1 q2
      clear q1 q2 hno hne
      have hq3 := hP.own.lt q rfl
      have hsz3 := hP.bel.size
      have hbx3 := hP.box.lt
      obtain ⟨s0, s1⟩ := hP.box.two
      rcases hcase with ⟨rfl, ho, hall⟩ | ⟨rfl, ho, hex⟩
      · have ho := Lib.hid ho
        have hall := Lib.hid hall
        rename_i q1 q2
        clear q1 q2
        go_wp2_with (at_builtin; refine wpList_append_lies _ rfl _ _ _ rfl (w.heap.size + 1) 94 i0 _ 2 16 Tryz.underlying29 hi0 hz0 hz1 hz2 rfl (by omega) (.slice (some ⟨q, 0, none⟩) (o.length) cap') (o.length) (flatP o) rfl (hP.own.alloc _) ⟨wr.heap.size, 0, none⟩ 1 1 [.int .i64 x, .int .i64 t] rfl rfl (World.news_of_block (cs := #[.int .i64 x, .int .i64 t]) (t := 94) (fr := (0, 0)) (heap_alloc_new wr _)) (by simp [Value.oneCell']) (by omega) (by unfold maxLen; omega) (by omega) (by simp; omega) (wr.heap.size + 1) (by simp) ?_; intro gg cap2 w5 hown2 hgrow2 hat hlt2; have hP3 := hP.push hown2 hgrow2; clear hown2 hgrow2 hat)
        go_ret
        have e : put l (x, t) = o ++ [(x, t)] := by rw [hpt.out, ins_small hall.out, ho.out]
        rw [e]
        exact ⟨gg, cap2, by rw [List.length_append]; rfl, own_pairs hP3.own, hP3.bel⟩
      · have ho := Lib.hid ho
        have hex := Lib.hid hex
        rename_i q1 q2
        clear q1 q2
        go_wp2
        go_ret
        have e : put l (x, t) = o := by rw [hpt.out, ho.out]
        rw [e]
        exact ⟨_, _, rfl, own_pairs hP.own, hP.bel⟩

end Go.Proofs.YtghdnokjgmmgiaaGreat
