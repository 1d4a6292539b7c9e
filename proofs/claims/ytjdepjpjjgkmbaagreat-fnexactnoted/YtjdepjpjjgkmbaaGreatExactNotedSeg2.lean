/- RecOk of the program at every group and record; conditions: the lists' sizes are such as memory holds. -/
import Derived.Test.YtjdepjpjjgkmbaaGreatExactNotedSeg1
import Derived.Laws.AppendOwn
import Derived.Laws.AppendOwnNone
import Derived.Deep.AppendLies
import Derived.Test.YtjdepjpjjgkmbaaGreatExactNotedSeg0
import Derived.Deep.CutBlock

/- The model's lists of seals: putting one in, joining two: contracts of each of them; up to some four million seals. -/
namespace Go.Proofs.YtjdepjpjjgkmbaaGreat
open Go.RowKit

theorem ins_small {l : List (Int × Int)} {s : Int × Int} (h : ∀ p ∈ l, p.1 ≤ s.1) : ins l s = l ++ [s] := by
  induction l with
  | nil => rfl
  | cons x l ih =>
    unfold ins
    rw [if_neg (Int.not_lt.2 (h x (by simp))), ih (fun p hp => h p (by simp [hp]))]
    rfl
theorem ins_snoc {l : List (Int × Int)} {s : Int × Int} (h : ∃ p ∈ l, s.1 < p.1) (y : Int × Int) : ins (l ++ [y]) s = ins l s ++ [y] := by
  induction l with
  | nil => simp at h
  | cons x l ih =>
    rw [List.cons_append]
    unfold ins
    split
    · rfl
    · rename_i hx
      obtain ⟨p, hp, hlt⟩ := h
      rcases List.mem_cons.1 hp with e | e
      · rw [e] at hlt; exact absurd hlt hx
      · rw [ih ⟨p, e, hlt⟩]; rfl
theorem ins_here {l : List (Int × Int)} {s y : Int × Int} (h : ∀ p ∈ l, p.1 ≤ s.1) (hy : s.1 < y.1) : ins (l ++ [y]) s = l ++ [s] ++ [y] := by
  induction l with
  | nil => simp [ins, hy]
  | cons x l ih =>
    rw [List.cons_append]
    unfold ins
    rw [if_neg (Int.not_lt.2 (h x (by simp))), ih (fun p hp => h p (by simp [hp]))]
    rfl

/-- A list of the call's own, and the box of the pair that is put. -/
structure PutAt (w0 wr : World) (x t : Int) (q cap' : Nat) (o : List (Int × Int)) : Prop where
  own : wr.ownsRow (w0.heap.size + 1) 136 2 (.slice (some ⟨q, 0, none⟩) o.length cap') o.length (flatP o)
  bel : Below w0.heap.size w0 wr
  box : Box wr w0.heap.size 136 #[.int .i64 x, .int .i64 t]
theorem PutAt.later {w0 wr w' : World} {x t : Int} {q cap' : Nat} {o : List (Int × Int)} (h : PutAt w0 wr x t q cap' o) (hb : Below wr.heap.size wr w') : PutAt w0 w' x t q cap' o :=
  ⟨h.own.kept (grown_bel hb none) (by simp [Value.ownBlock]), bel_trans h.bel hb, h.box.later hb h.box.lt⟩
theorem PutAt.push {w0 wr w2 : World} {x t : Int} {q cap' gg cap2 : Nat} {o : List (Int × Int)} {a b : Int} {ob : Obj} (h : PutAt w0 wr x t q cap' o)
    (hown : w2.ownsRow (w0.heap.size + 1) 136 2 (.slice (some ⟨gg, 0, none⟩) (o.length + 1) cap2) (o.length + 1) (flatP o ++ [.int .i64 a, .int .i64 b])) (hg : (wr.alloc ob).grownBy w2 (Value.ownBlock (.slice (some ⟨q, 0, none⟩) o.length cap'))) : PutAt w0 w2 x t gg cap2 (o ++ [(a, b)]) := by
  have hq := (h.own.lt q rfl).1
  have hg : (wr.alloc ob).grownBy w2 (some q) := hg
  refine ⟨?_, bel_grown (bel_trans h.bel (bel_alloc wr ob)) hg (by omega), (h.box.alloc ob).kept hg (by intro e; injection e with e; omega)⟩
  rw [flatP_snoc]
  simpa using hown

/-- What is answered: a list somewhere. -/
def Gives (w : World) (ps : List (Int × Int)) (e : Ending) (w' : World) : Prop :=
  ∃ g cap, e = .returned (.slice (some ⟨g, 0, none⟩) ps.length cap) ∧ Pairs w' w'.heap.size (some ⟨g, 0, none⟩) ps.length ps ∧ Below w.heap.size w w'

set_option maxRecDepth 100000 in
set_option maxHeartbeats 2000000 in
theorem put_is (g cap : Nat) (l : List (Int × Int)) (x t : Int) (w : World) (hn : l.length ≤ 4194304) (h : Pairs w w.heap.size (some ⟨g, 0, none⟩) l.length l) :
    Calls Tryz.prog 238 #[.slice (some ⟨g, 0, none⟩) l.length cap, .agg #[.int .i64 x, .int .i64 t]] w (Gives w (put l (x, t))) := by
  obtain ⟨i0, hi0, hz0, hz1, hz2⟩ := info_parts Tryz.infoSealI
  have K0 : PutAt w ((w.alloc (.cells #[.int .i64 x, .int .i64 t] 136)).alloc (.cells #[] 136)) x t (w.heap.size + 1) 0 [] := by
    refine ⟨⟨rfl, .inr ⟨w.heap.size + 1, 0, #[], rfl, Nat.le_refl _, ?_, Nat.le_refl _, Nat.zero_le _, rfl, rfl⟩⟩, bel_trans (bel_alloc _ _) (bel_alloc _ _), (Box.new w _ _).alloc _⟩
    have := Box.new (w.alloc (.cells #[.int .i64 x, .int .i64 t] 136)) 136 #[]
    simp only [World.size_alloc] at this
    exact this
  have HP := Lib.hid h
  obtain ⟨n, hnl⟩ : ∃ n, l.length = n := ⟨_, rfl⟩
  have K1 : ∀ k, k < n → l.take (k + 1) = l.take k ++ [pth l k] := fun k hk => by
    rw [List.take_succ_eq_append_getElem (by omega), pth_lt (by omega)]
  have K1 := Lib.hid K1
  rw [hnl] at hn ⊢
  have hnl := Lib.hid hnl
  rename_i q1 q2
  clear h q1 q2
  go_enter Tryz.func238, Tryz.ntmps238
  go_wp2_with fail
  generalize ((w.alloc _).alloc _ : World) = w1 at K0 ⊢
  go_loopw [5, 6, 7] (fun ov bv iv wr => ∃ (k q cap' : Nat) (o : List (Int × Int)) (b : Bool), k ≤ n ∧ iv = .int .i64 k ∧ bv = .bool b ∧ ov = .slice (some ⟨q, 0, none⟩) o.length cap' ∧ PutAt w wr x t q cap' o ∧ o.length ≤ k + 1 ∧ (∀ p ∈ l.take k, p.1 ≠ x) ∧
      ((b = false ∧ o = l.take k ∧ ∀ p ∈ l.take k, p.1 ≤ x) ∨ (b = true ∧ o = ins (l.take k) (x, t) ∧ ∃ p ∈ l.take k, x < p.1))) (fun _ _ i _ => n - (intOf i).toNat)
  case atStart => exact ⟨0, _, 0, [], false, Nat.zero_le _, rfl, rfl, rfl, K0, by simp, by simp, .inl ⟨rfl, by simp, by simp⟩⟩
  case round =>
    obtain ⟨k, q, cap', o, b, hk, rfl, rfl, rfl, hP, hol, hne, hcase⟩ := hrel
    by_cases hlt : k < n
    · have hlt' : (k : Int) < (n : Int) := by omega
      obtain ⟨b', o', hA, hbB, hcell⟩ := HP.out.2 (by have := hnl.out; omega)
      cases hA
      obtain ⟨c0, c1⟩ := hcell k (by have := hnl.out; omega)
      rw [Nat.zero_add] at c0 c1
      have c0 := (hP.bel.cell (p := ⟨g, k * 2, none⟩) hbB).trans c0
      have c1 := (hP.bel.cell (p := ⟨g, k * 2 + 1, none⟩) hbB).trans c1
      have hst := Lib.hid (K1.out k hlt)
      generalize hy : pth l k = y at c0 c1 hst
      obtain ⟨y, y'⟩ := y
      obtain ⟨s0, s1⟩ := hP.box.two
      have hgl : g < wr.heap.size := Nat.lt_of_lt_of_le hbB hP.bel.size
      have hq := (hP.own.lt q rfl)
      have g0 := After.cell (by exact hgl) c0
      have g1 := After.cell (by exact hgl) c1
      have e0 := After.cell (by exact hP.box.lt) s0
      have e1 := After.cell (by exact hP.box.lt) s1
      have hy := Lib.hid hy
      have hcase := Lib.hid hcase
      have hne := Lib.hid hne
      have hPP := Lib.hid hP
      rename_i q1 q2 q3
      clear q1 q2 q3 hcell c0 c1 s0 s1 hP
      by_cases hyx : y = x
      · subst hyx
        have hhas : put l (y, t) = l := by
          have : has l y = true := has_mem.2 ⟨pth l k, by rw [pth_lt (by have := hnl.out; omega)]; exact List.getElem_mem _, by rw [hy.out]⟩
          simp [put, this]
        rw [hhas]
        go_wp2_with fail
        refine wp_region_after (by kernel_rfl) (by kernel_rfl) ?_
        repeat (first | go_big_quiet_step (fail) | quiet_step (fail))
        refine wpQuiet_nil ?_
        intro pw
        have hP := hPP.out.later pw.bel
        clear g0 g1 e0 e1
        go_wp2
        go_ret
        exact ⟨g, cap, by rw [hnl.out]; rfl, HP.out.later hP.bel, hP.bel⟩
      · have hyx' : (y == x) = false := by simp [hyx]
        have hyx := Lib.hid hyx
        rename_i q1
        clear q1
        go_wp2_with fail
        refine wp_region_after (by kernel_rfl) (by kernel_rfl) ?_
        repeat (first | go_big_quiet_step (fail) | quiet_step (fail))
        refine wpQuiet_nil ?_
        intro pw
        have d0 := g0 pw
        have d1 := g1 pw
        have d2 := e0 pw
        have d3 := e1 pw
        have hP := hPP.out.later pw.bel
        clear g0 g1 e0 e1 hPP
        generalize pw.x = w2 at d0 d1 d2 d3 hP ⊢
        have hsz := hP.bel.size
        have hbl := hP.box.lt
        have hgl2 : g < w2.heap.size := Nat.lt_of_lt_of_le hbB hsz
        have g0 := After.cell (by exact hgl2) d0
        have g1 := After.cell (by exact hgl2) d1
        have e0 := After.cell (by exact hbl) d2
        have e1 := After.cell (by exact hbl) d3
        have hPP := Lib.hid hP
        clear d0 d1 d2 d3 hP
        have hne' : ∀ p ∈ l.take (k + 1), p.1 ≠ x := by
          rw [hst.out]
          intro p hp
          rcases List.mem_append.1 hp with e | e
          · exact hne.out p e
          · simp only [List.mem_singleton] at e
            rw [e]
            exact hyx.out
        have hne' := Lib.hid hne'
        rename_i q1
        clear q1
        rcases hcase.out with ⟨rfl, ho, hall⟩ | ⟨rfl, ho, hex⟩
        · have ho := Lib.hid ho
          have hall := Lib.hid hall
          rename_i q1 q2
          clear q1 q2
          by_cases hxy : x < y
          · go_wp2_with fail
            refine wp_region_after (by kernel_rfl) (by kernel_rfl) ?_
            repeat (first | go_big_quiet_step (fail) | quiet_step (fail))
            refine wpQuiet_nil ?_
            intro pw2
            have d0 := g0 pw2
            have d1 := g1 pw2
            have d2 := e0 pw2
            have d3 := e1 pw2
            have hP := hPP.out.later pw2.bel
            clear g0 g1 e0 e1 hPP
            generalize pw2.x = w3 at d0 d1 d2 d3 hP ⊢
            have hq3 := hP.own.lt q rfl
            have hsz3 := hP.bel.size
            have hbx3 := hP.box.lt
            go_wp2_with (first | (at_builtin; refine wpList_append_lies _ rfl _ _ _ rfl (w.heap.size + 1) 136 i0 _ 2 16 Tryz.underlying40 hi0 hz0 hz1 hz2 rfl (by omega) (.slice (some ⟨gg, 0, none⟩) (o.length + 1) cap2) (o.length + 1) (flatP o ++ [.int .i64 x, .int .i64 t]) rfl (hown2.alloc _) ⟨w5.heap.size, 0, none⟩ 1 1 [.int .i64 y, .int .i64 y'] rfl rfl (World.news_of_block (cs := #[.int .i64 y, .int .i64 y']) (t := 136) (fr := (0, 0)) (heap_alloc_new w5 _)) (by simp [Value.oneCell']) (by omega) (by unfold maxLen; omega) (by omega) (by simp; omega) (w5.heap.size + 1) (by simp) ?_; intro g3 cap3 w6 hown3 hgrow3 hat3 hlt3; have hP3 := hP2.push (gg := g3) (cap2 := cap3) (a := y) (b := y') (by simpa [flatP_snoc] using hown3) (by simpa using hgrow3); clear hown3 hgrow3 hat3 hown2) | (at_builtin; refine wpList_append_lies _ rfl _ _ _ rfl (w.heap.size + 1) 136 i0 _ 2 16 Tryz.underlying40 hi0 hz0 hz1 hz2 rfl (by omega) (.slice (some ⟨q, 0, none⟩) (o.length) cap') (o.length) (flatP o) rfl (hP.own.alloc _) ⟨w3.heap.size, 0, none⟩ 1 1 [.int .i64 x, .int .i64 t] rfl rfl (World.news_of_block (cs := #[.int .i64 x, .int .i64 t]) (t := 136) (fr := (0, 0)) (heap_alloc_new w3 _)) (by simp [Value.oneCell']) (by omega) (by unfold maxLen; omega) (by omega) (by simp; omega) (w3.heap.size + 1) (by simp) ?_; intro gg cap2 w5 hown2 hgrow2 hat hlt2; have hP2 := hP.push hown2 hgrow2; have c0 := (hP2.bel.cell (p := ⟨g, k * 2, none⟩) hbB).trans ((hP.bel.cell (p := ⟨g, k * 2, none⟩) hbB).symm.trans d0); have c1 := (hP2.bel.cell (p := ⟨g, k * 2 + 1, none⟩) hbB).trans ((hP.bel.cell (p := ⟨g, k * 2 + 1, none⟩) hbB).symm.trans d1); have hsz5 := hP2.bel.size; have hbx5 := hP2.box.lt; clear hgrow2 hat))
            have hP3 := Lib.hid hP3
            rename_i q1
            clear q1 hP2 hP
            go_roundw
            case rel =>
              have hl2 : (o ++ [(x, t)] ++ [(y, y')]).length = o.length + 1 + 1 := by simp
              exact ⟨k + 1, _, _, o ++ [(x, t)] ++ [(y, y')], true, by omega, by go_num, rfl, by rw [hl2], hP3.out, by rw [hl2, ho.out, List.length_take]; have := hnl.out; omega, hne'.out, .inr ⟨rfl, by rw [hst.out, ins_here hall.out hxy, ho.out], (y, y'), by rw [hst.out]; simp, hxy⟩⟩
            case measure => simp [intOf]; omega
          · have hxy' : y ≤ x := Int.not_lt.1 hxy
            clear hxy
            go_wp2_with fail
            refine wp_region_after (by kernel_rfl) (by kernel_rfl) ?_
            repeat (first | go_big_quiet_step (fail) | quiet_step (fail))
            refine wpQuiet_nil ?_
            intro pw2
            have d0 := g0 pw2
            have d1 := g1 pw2
            have d2 := e0 pw2
            have d3 := e1 pw2
            have hP := hPP.out.later pw2.bel
            clear g0 g1 e0 e1 hPP
            generalize pw2.x = w3 at d0 d1 d2 d3 hP ⊢
            have hq3 := hP.own.lt q rfl
            have hsz3 := hP.bel.size
            have hbx3 := hP.box.lt
            go_wp2_with (at_builtin; refine wpList_append_lies _ rfl _ _ _ rfl (w.heap.size + 1) 136 i0 _ 2 16 Tryz.underlying40 hi0 hz0 hz1 hz2 rfl (by omega) (.slice (some ⟨q, 0, none⟩) (o.length) cap') (o.length) (flatP o) rfl (hP.own.alloc _) ⟨w3.heap.size, 0, none⟩ 1 1 [.int .i64 y, .int .i64 y'] rfl rfl (World.news_of_block (cs := #[.int .i64 y, .int .i64 y']) (t := 136) (fr := (0, 0)) (heap_alloc_new w3 _)) (by simp [Value.oneCell']) (by omega) (by unfold maxLen; omega) (by omega) (by simp; omega) (w3.heap.size + 1) (by simp) ?_; intro gg cap2 w5 hown2 hgrow2 hat hlt2; have hP3 := hP.push hown2 hgrow2; clear hown2 hgrow2 hat)
            have hP3 := Lib.hid hP3
            rename_i q1
            clear q1 hP
            go_roundw
            case rel =>
              exact ⟨k + 1, _, _, o ++ [(y, y')], false, by omega, by go_num, rfl, by simp, hP3.out, by rw [List.length_append, ho.out, List.length_take]; simp; omega, hne'.out, .inl ⟨rfl, by rw [hst.out, ho.out], by
                rw [hst.out]
                intro p hp
                rcases List.mem_append.1 hp with e | e
                · exact hall.out p e
                · simp only [List.mem_singleton] at e
                  rw [e]
                  exact hxy'⟩⟩
            case measure => simp [intOf]; omega
        · have ho := Lib.hid ho
          have hex := Lib.hid hex
          rename_i q1 q2
          clear q1 q2
          go_wp2_with fail
          refine wp_region_after (by kernel_rfl) (by kernel_rfl) ?_
          repeat (first | go_big_quiet_step (fail) | quiet_step (fail))
          refine wpQuiet_nil ?_
          intro pw2
          have d0 := g0 pw2
          have d1 := g1 pw2
          have d2 := e0 pw2
          have d3 := e1 pw2
          have hP := hPP.out.later pw2.bel
          clear g0 g1 e0 e1 hPP
          generalize pw2.x = w3 at d0 d1 d2 d3 hP ⊢
          have hq3 := hP.own.lt q rfl
          have hsz3 := hP.bel.size
          have hbx3 := hP.box.lt
          go_wp2_with (at_builtin; refine wpList_append_lies _ rfl _ _ _ rfl (w.heap.size + 1) 136 i0 _ 2 16 Tryz.underlying40 hi0 hz0 hz1 hz2 rfl (by omega) (.slice (some ⟨q, 0, none⟩) (o.length) cap') (o.length) (flatP o) rfl (hP.own.alloc _) ⟨w3.heap.size, 0, none⟩ 1 1 [.int .i64 y, .int .i64 y'] rfl rfl (World.news_of_block (cs := #[.int .i64 y, .int .i64 y']) (t := 136) (fr := (0, 0)) (heap_alloc_new w3 _)) (by simp [Value.oneCell']) (by omega) (by unfold maxLen; omega) (by omega) (by simp; omega) (w3.heap.size + 1) (by simp) ?_; intro gg cap2 w5 hown2 hgrow2 hat hlt2; have hP3 := hP.push hown2 hgrow2; clear hown2 hgrow2 hat)
          have hP3 := Lib.hid hP3
          rename_i q1
          clear q1 hP
          go_roundw
          case rel =>
            exact ⟨k + 1, _, _, o ++ [(y, y')], true, by omega, by go_num, rfl, by simp, hP3.out, by rw [List.length_append, ho.out, ins_len, List.length_take]; simp; omega, hne'.out, .inr ⟨rfl, by rw [hst.out, ins_snoc hex.out, ho.out], by
              obtain ⟨p, hp, hlt⟩ := hex.out
              exact ⟨p, by rw [hst.out]; simp [hp], hlt⟩⟩⟩
          case measure => simp [intOf]; omega
    · obtain rfl : k = n := by omega
      have hno : has l x = false := has_not.2 (by have := hne; rwa [← hnl.out, List.take_length] at this)
      have hpt : put l (x, t) = ins l (x, t) := by simp [put, hno]
      have hpt := Lib.hid hpt
      have hcase : (b = false ∧ o = l ∧ ∀ p ∈ l, p.1 ≤ x) ∨ (b = true ∧ o = ins l (x, t) ∧ ∃ p ∈ l, x < p.1) := by rwa [← hnl.out, List.take_length] at hcase
      rename_i q1 q2
      clear q1 q2 hno hne
      have hq3 := hP.own.lt q rfl
      have hsz3 := hP.bel.size
      have hbx3 := hP.box.lt
      obtain ⟨s0, s1⟩ := hP.box.two
      rcases hcase with ⟨rfl, ho, hall⟩ | ⟨rfl, ho, hex⟩
      · have ho := Lib.hid ho
        have hall := Lib.hid hall
        rename_i q1 q2
        clear q1 q2
        go_wp2_with (at_builtin; refine wpList_append_lies _ rfl _ _ _ rfl (w.heap.size + 1) 136 i0 _ 2 16 Tryz.underlying40 hi0 hz0 hz1 hz2 rfl (by omega) (.slice (some ⟨q, 0, none⟩) (o.length) cap') (o.length) (flatP o) rfl (hP.own.alloc _) ⟨wr.heap.size, 0, none⟩ 1 1 [.int .i64 x, .int .i64 t] rfl rfl (World.news_of_block (cs := #[.int .i64 x, .int .i64 t]) (t := 136) (fr := (0, 0)) (heap_alloc_new wr _)) (by simp [Value.oneCell']) (by omega) (by unfold maxLen; omega) (by omega) (by simp; omega) (wr.heap.size + 1) (by simp) ?_; intro gg cap2 w5 hown2 hgrow2 hat hlt2; have hP3 := hP.push hown2 hgrow2; clear hown2 hgrow2 hat)
        go_ret
        have e : put l (x, t) = o ++ [(x, t)] := by rw [hpt.out, ins_small hall.out, ho.out]
        rw [e]
        exact ⟨gg, cap2, by rw [List.length_append]; rfl, own_pairs hP3.own, hP3.bel⟩
      · have ho := Lib.hid ho
        have hex := Lib.hid hex
        rename_i q1 q2
        clear q1 q2
        go_wp2
        go_ret
        have e : put l (x, t) = o := by rw [hpt.out, ho.out]
        rw [e]
        exact ⟨_, _, rfl, own_pairs hP.own, hP.bel⟩

end Go.Proofs.YtjdepjpjjgkmbaaGreat

/- The model's JoinSeals, GoodSeals and CertCount: contracts of each of them; up to some four million seals. -/
namespace Go.Proofs.YtjdepjpjjgkmbaaGreat
open Go.RowKit

set_option maxRecDepth 100000 in
set_option maxHeartbeats 1000000 in
theorem specGood_is (s l c sh : Int) (A : Option Addr) (n cap : Nat) (zs : List Int) (ck ch ct cq cv : Int) (P : Option Addr) (m pcap : Nat) (ps : List (Int × Int)) (w : World) (hm : n ≤ maxLen) (hr : Row w w.heap.size A n zs) (hn : m ≤ 4194304) (h : Pairs w w.heap.size P m ps) :
    Calls Tryz.prog 220 #[.agg #[.int .i64 s, .int .i64 l, .int .i64 c, .int .i64 sh, .slice A n cap], .agg #[.int .i64 ck, .int .i64 ch, .int .i64 ct, .int .i64 cq, .int .i64 cv], .slice P m pcap] w (Gives w (goodP (rB s l c sh zs ck ch ct cq cv) ps)) := by
  have E0 := bel_trans (bel_trans (bel_alloc w (.cells #[.int .i64 s, .int .i64 l, .int .i64 c, .int .i64 sh, .slice A n cap] 26)) (bel_alloc _ (.cells #[.int .i64 ck, .int .i64 ch, .int .i64 ct, .int .i64 cq, .int .i64 cv] 180))) (bel_alloc _ (.cells #[] 136))
  have DG := ((Box.new w 26 #[.int .i64 s, .int .i64 l, .int .i64 c, .int .i64 sh, .slice A n cap]).alloc (.cells #[.int .i64 ck, .int .i64 ch, .int .i64 ct, .int .i64 cq, .int .i64 cv] 180)).alloc (.cells #[] 136)
  have DC := (Box.new (w.alloc (.cells #[.int .i64 s, .int .i64 l, .int .i64 c, .int .i64 sh, .slice A n cap] 26)) 180 #[.int .i64 ck, .int .i64 ch, .int .i64 ct, .int .i64 cq, .int .i64 cv]).alloc (.cells #[] 136)
  simp only [World.size_alloc] at DC
  have HR := Lib.hid hr
  have HM := Lib.hid hm
  have HP := Lib.hid h
  have hl := Lib.hid h.1
  clear h hr hm
  generalize hR : rB s l c sh zs ck ch ct cq cv = R
  have HRR := Lib.hid hR
  clear hR
  go_enter Tryz.func220, Tryz.ntmps220
  go_wp2_with fail
  generalize (((w.alloc _).alloc _).alloc _ : World) = w1 at E0 DG DC ⊢
  go_loopw [7, 8] (fun ov iv wr => ∃ (k q c' : Nat) (L : List (Int × Int)), k ≤ m ∧ iv = .int .i64 k ∧ ov = .slice (some ⟨q, 0, none⟩) L.length c' ∧ L = goodP R (ps.take k) ∧ Pairs wr wr.heap.size (some ⟨q, 0, none⟩) L.length L ∧ Below w.heap.size w wr ∧ Box wr w.heap.size 26 #[.int .i64 s, .int .i64 l, .int .i64 c, .int .i64 sh, .slice A n cap] ∧ Box wr (w.heap.size + 1) 180 #[.int .i64 ck, .int .i64 ch, .int .i64 ct, .int .i64 cq, .int .i64 cv]) (fun _ i _ => m - (intOf i).toNat)
  case atStart => exact ⟨0, _, 0, [], Nat.zero_le _, rfl, rfl, by simp [goodP_nil], ⟨rfl, fun h => absurd h (by simp)⟩, E0, DG, DC⟩
  case round =>
    obtain ⟨k, q, c', L, hk, rfl, rfl, hL, hp, hbel, DG, DC⟩ := hrel
    by_cases hlt : k < m
    · have hlt' : (k : Int) < (m : Int) := by omega
      obtain ⟨b, o, hA, hbB, hcell⟩ := HP.out.2 (by omega)
      subst hA
      obtain ⟨c0, c1⟩ := hcell k hlt
      replace c0 := (hbel.cell (p := ⟨b, o + k * 2, none⟩) hbB).trans c0
      replace c1 := (hbel.cell (p := ⟨b, o + k * 2 + 1, none⟩) hbB).trans c1
      have hyes := Lib.hid (goodP_yes (R := R) (ps := ps) (k := k) (by rw [hl.out]; exact hlt))
      have hno := Lib.hid (goodP_no (R := R) (ps := ps) (k := k) (by rw [hl.out]; exact hlt))
      rw [← hL] at hyes hno
      have hLl : L.length ≤ 4194304 := by
        rw [hL]
        have := goodP_le R (ps.take k)
        rw [List.length_take] at this
        omega
      generalize hy : pth ps k = y at c0 c1 hyes hno
      obtain ⟨y, y'⟩ := y
      replace hL := Lib.hid hL
      replace hy := Lib.hid hy
      have hbl : b < wr.heap.size := Nat.lt_of_lt_of_le hbB hbel.size
      have g0 := After.cell (by exact hbl) c0
      have g1 := After.cell (by exact hbl) c1
      obtain ⟨f0, f1, f2, f3, f4⟩ := fiveAfter DG
      obtain ⟨f5, f6, f7, f8, f9⟩ := fiveAfter DC
      have hrow := Lib.hid ((HR.out.below hbel (Nat.le_refl _)).more hbel.size)
      have HDG := Lib.hid DG
      have HDC := Lib.hid DC
      have HPL := Lib.hid hp
      clear hcell c0 c1 DG DC hp
      rcases hRy : R (y, y') with _ | _
      · have HY : Hid (rB s l c sh zs ck ch ct cq cv (y, y') = false) := by rw [HRR.out]; exact hRy
        replace hno := Lib.hid (hno.out hRy)
        clear hRy
        go_wp2_with fail
        refine wp_region_after (by kernel_rfl) (by kernel_rfl) ?_
        repeat (first | go_big_quiet_step ((go_at_call 237; exact after_of (specRightB_is HY.out _ n cap _ HM.out (rowAfter hrow.out _)))) | quiet_step ((go_at_call 237; exact after_of (specRightB_is HY.out _ n cap _ HM.out (rowAfter hrow.out _)))))
        refine wpQuiet_nil ?_
        intro pw
        have E2 := bel_trans hbel pw.bel
        have DG := HDG.out.later pw.bel HDG.out.lt
        have DC := HDC.out.later pw.bel HDC.out.lt
        have hp := Lib.hid (HPL.out.later pw.bel)
        clear g0 g1 f0 f1 f2 f3 f4 f5 f6 f7 f8 f9
        go_wp2
        go_roundw
        case rel => exact ⟨k + 1, q, c', L, by omega, by go_num, rfl, hno.out.symm, hp.out, E2, DG, DC⟩
        case measure => simp [intOf]; omega
      · have HY : Hid (rB s l c sh zs ck ch ct cq cv (y, y') = true) := by rw [HRR.out]; exact hRy
        replace hyes := Lib.hid (hyes.out hRy)
        clear hRy
        go_wp2_with fail
        refine wp_region_after (by kernel_rfl) (by kernel_rfl) ?_
        repeat (first | go_big_quiet_step ((go_at_call 237; exact after_of (specRightB_is HY.out _ n cap _ HM.out (rowAfter hrow.out _)))) | quiet_step ((go_at_call 237; exact after_of (specRightB_is HY.out _ n cap _ HM.out (rowAfter hrow.out _)))))
        refine wpQuiet_nil ?_
        intro pw
        have E2 := bel_trans hbel pw.bel
        have DG := HDG.out.later pw.bel HDG.out.lt
        have DC := HDC.out.later pw.bel HDC.out.lt
        have hp := HPL.out.later pw.bel
        have d0 := g0 pw
        have d1 := g1 pw
        clear g0 g1 f0 f1 f2 f3 f4 f5 f6 f7 f8 f9 HDG HDC HPL
        generalize pw.x = w2 at E2 DG DC hp d0 d1 ⊢
        go_wp2_with fail
        refine (put_is q c' L y y' w2 hLl hp).mono ?_
        rintro e w3 ⟨g', c'', rfl, hp', hb'⟩
        replace hp' := Lib.hid hp'
        have DG' := DG.later hb' DG.lt
        have DC' := DC.later hb' DC.lt
        go_wp2
        go_roundw
        case rel => exact ⟨k + 1, g', c'', put L (y, y'), by omega, by go_num, rfl, hyes.out.symm, hp'.out, bel_trans E2 hb', DG', DC'⟩
        case measure => simp [intOf]; omega
    · obtain rfl : k = m := by omega
      rw [← hl.out, List.take_length] at hL
      replace hL := Lib.hid hL
      replace hp := Lib.hid hp
      go_wp2
      go_ret
      rw [← hL.out]
      exact ⟨q, c', rfl, hp.out, hbel⟩

theorem specCount_is (s l c sh : Int) (A : Option Addr) (n cap : Nat) (zs : List Int) (ck ch ct cq cv : Int) (P : Option Addr) (m pcap : Nat) (ps : List (Int × Int)) (w : World) (hm : n ≤ maxLen) (hr : Row w w.heap.size A n zs) (hn : m ≤ 4194304) (h : Pairs w w.heap.size P m ps) :
    Calls Tryz.prog 228 #[.agg #[.int .i64 s, .int .i64 l, .int .i64 c, .int .i64 sh, .slice A n cap], .agg #[.int .i64 ck, .int .i64 ch, .int .i64 ct, .int .i64 cq, .int .i64 cv], .slice P m pcap] w fun e w' => e = .returned (.int .i64 (cntN s l c sh zs ck ch ct cq cv ps)) ∧ Below w.heap.size w w' := by
  have E0 := bel_trans (bel_alloc w (.cells #[.int .i64 s, .int .i64 l, .int .i64 c, .int .i64 sh, .slice A n cap] 26)) (bel_alloc _ (.cells #[.int .i64 ck, .int .i64 ch, .int .i64 ct, .int .i64 cq, .int .i64 cv] 180))
  have DG := (Box.new w 26 #[.int .i64 s, .int .i64 l, .int .i64 c, .int .i64 sh, .slice A n cap]).alloc (.cells #[.int .i64 ck, .int .i64 ch, .int .i64 ct, .int .i64 cq, .int .i64 cv] 180)
  have DC := Box.new (w.alloc (.cells #[.int .i64 s, .int .i64 l, .int .i64 c, .int .i64 sh, .slice A n cap] 26)) 180 #[.int .i64 ck, .int .i64 ch, .int .i64 ct, .int .i64 cq, .int .i64 cv]
  simp only [World.size_alloc] at DC
  have HR := Lib.hid hr
  have HM := Lib.hid hm
  have HP := Lib.hid h
  have hle := goodP_le (rB s l c sh zs ck ch ct cq cv) ps
  have hl := h.1
  obtain ⟨K, hK⟩ : ∃ K, K = (goodP (rB s l c sh zs ck ch ct cq cv) ps).length := ⟨_, rfl⟩
  have hKn : K ≤ 4194304 := by omega
  replace hK := Lib.hid hK
  clear h hr hm hle hl
  obtain ⟨d0, d1, d2, d3, d4, x0, x1, x2, x3, x4⟩ := ten DG DC
  go_enter Tryz.func228, Tryz.ntmps228
  go_wp2_with fail
  generalize ((w.alloc _).alloc _ : World) = w1 at E0 DG DC d0 d1 d2 d3 d4 x0 x1 x2 x3 x4 ⊢
  refine (specGood_is s l c sh A n cap zs ck ch ct cq cv P m pcap ps w1 HM.out ((HR.out.below E0 (Nat.le_refl _)).more E0.size) hn (HP.out.later E0)).mono ?_
  rintro e w2 ⟨q, c', rfl, _, hb⟩
  rw [← hK.out]
  have E2 := bel_trans E0 hb
  go_wp2
  go_ret
  exact ⟨by unfold cntN; rw [← hK.out]; rfl, E2⟩

end Go.Proofs.YtjdepjpjjgkmbaaGreat

/- Append onto a slice of the call's own, of whatever slice (nil, empty, somewhere): one law for a plain statement and one for a step of a region that draws its order; no conditions but the sizes. -/
namespace Go.Proofs.YtjdepjpjjgkmbaaGreat
open Go.RowKit Go.Deep

/-- The slice u of m elements, 'size' cells each, holds the cells news; nil where it is nil. -/
def Src (w : World) (u : Value) (m size : Nat) (news : List Value) : Prop :=
  (u = .slice none 0 0 ∧ m = 0 ∧ news = []) ∨ ∃ (ad : Addr) (c : Nat), u = .slice (some ad) m c ∧ news.length = m * size ∧ (∀ j x, news[j]? = some x → w.cell? (ad.add j) = some x) ∧ ∀ x ∈ news, x.oneCell' = true

theorem own_lies {w : World} {base : Nat} {e : TypeId} {size : Nat} {v : Value} {n : Nat} {xs : List Value} (h : w.ownsRow base e size v n xs) (hv : v ≠ .slice none 0 0) : ∃ g cap, v = .slice (some ⟨g, 0, none⟩) n cap ∧ base ≤ g ∧ g < w.heap.size := by
  rcases h.2 with ⟨h', _⟩ | ⟨g, cap, cur, rfl, hb, hg, _⟩
  · exact absurd h' hv
  · exact ⟨g, cap, rfl, hb, (h.lt g rfl).2⟩

section
variable {P : Program} {w : World}
theorem run_append_src (base : Nat) (t ty e : TypeId) (i : TypeInfo) (z : Value) (size bytes : Nat) (ht : P.underlying t = some (.slice e)) (hi : P.info? e = some i) (hz : i.zero = some z)
    (hsize : i.size = size) (hby : i.bytes = bytes) (hzs : z.cells.size = size) (hsz : 0 < size)
    (v : Value) (n : Nat) (xs : List Value) (hown : w.ownsRow base e size v n xs) (hv : v ≠ .slice none 0 0)
    (u : Value) (m : Nat) (news : List Value) (hu : Src w u m size news) (h63 : n + m ≤ maxLen) (hbytes : (n + m) * bytes ≤ 140737488355328) (hbase : base ≤ w.heap.size) :
    ∃ g cap w', (Builtin.append_ #[t, t] ty #[v, u]).run P w = .ok (.slice (some ⟨g, 0, none⟩) (n + m) cap) w' ∧ w'.ownsRow base e size (.slice (some ⟨g, 0, none⟩) (n + m) cap) (n + m) (xs ++ news) ∧ w.grownBy w' v.ownBlock ∧ base ≤ g ∧ g < w'.heap.size := by
  rcases hu with ⟨rfl, rfl, rfl⟩ | ⟨ad, c, rfl, hl, hn, h1⟩
  · have hr := run_append_owned_none (P := P) (w := w) base t ty e i size ht hi v n xs hown
    obtain ⟨g, cap, rfl, hb, hg⟩ := own_lies hown hv
    refine ⟨g, cap, w, hr, by simpa using hown, ⟨rfl, rfl, rfl, Nat.le_refl _, fun _ _ _ => rfl⟩, hb, hg⟩
  · obtain ⟨v', w', hr, h2, h3, h4⟩ := run_append_own (P := P) w base t ty e i z size bytes ht hi hz hsize hby hzs hsz v n xs hown ad m c news hl hn h1 h63 hbytes hbase
    have hv' : v' ≠ .slice none 0 0 := fun e => hv (h4.1 e).1
    obtain ⟨g, cap, rfl, hb, hg⟩ := own_lies h2 hv'
    exact ⟨g, cap, w', hr, h2, h3, hb, hg⟩

theorem wp_append_src {o : Oper} {a : Act} {K : Act → World → Prop} {Q : Exit → Act → World → Prop} (s x : Operand) (t : TypeId)
    (ho : o.op = .call { callee := .builtin .append, args := #[s, x], argTypes := #[t, t] })
    (base : Nat) (e : TypeId) (i : TypeInfo) (z : Value) (size bytes : Nat) (ht : P.underlying t = some (.slice e)) (hi : P.info? e = some i) (hz : i.zero = some z)
    (hsize : i.size = size) (hby : i.bytes = bytes) (hzs : z.cells.size = size) (hsz : 0 < size)
    (v : Value) (n : Nat) (xs : List Value) (hs : a.eval s = v) (hown : w.ownsRow base e size v n xs) (hv : v ≠ .slice none 0 0)
    (u : Value) (m : Nat) (news : List Value) (hx : a.eval x = u) (hu : Src w u m size news) (h63 : n + m ≤ maxLen) (hbytes : (n + m) * bytes ≤ 140737488355328) (hbase : base ≤ w.heap.size)
    (h : ∀ g cap w', w'.ownsRow base e size (.slice (some ⟨g, 0, none⟩) (n + m) cap) (n + m) (xs ++ news) → w.grownBy w' v.ownBlock → base ≤ g → g < w'.heap.size → K (a.put o.dst (.slice (some ⟨g, 0, none⟩) (n + m) cap)) w') : o.wp P a w K Q := by
  obtain ⟨g, cap, w', hr, h2, h3, h4, h5⟩ := run_append_src (P := P) base t o.type e i z size bytes ht hi hz hsize hby hzs hsz v n xs hown hv u m news hu h63 hbytes hbase
  unfold Oper.wp execOp
  simp only [ho, resolve, invoke, builtin, Sem.run_bind, Sem.run_pure, Result.andThen_ok, List.map_toArray, List.map_cons, List.map_nil, hs, hx, hr]
  exact h g cap w' h2 h3 h4 h5

theorem wpList_append_src {ops : Array Oper} {rest : List Oper} {o : Oper} {a : Act} {Q : Exit → Act → World → Prop} (hgd : o.guard = none) (s x : Operand) (t : TypeId)
    (ho : o.op = .call { callee := .builtin .append, args := #[s, x], argTypes := #[t, t] })
    (base : Nat) (e : TypeId) (i : TypeInfo) (z : Value) (size bytes : Nat) (ht : P.underlying t = some (.slice e)) (hi : P.info? e = some i) (hz : i.zero = some z)
    (hsize : i.size = size) (hby : i.bytes = bytes) (hzs : z.cells.size = size) (hsz : 0 < size)
    (v : Value) (n : Nat) (xs : List Value) (hs : a.eval s = v) (hown : w.ownsRow base e size v n xs) (hv : v ≠ .slice none 0 0)
    (u : Value) (m : Nat) (news : List Value) (hx : a.eval x = u) (hu : Src w u m size news) (h63 : n + m ≤ maxLen) (hbytes : (n + m) * bytes ≤ 140737488355328) (hbase : base ≤ w.heap.size)
    (h : ∀ g cap w', w'.ownsRow base e size (.slice (some ⟨g, 0, none⟩) (n + m) cap) (n + m) (xs ++ news) → w.grownBy w' v.ownBlock → base ≤ g → g < w'.heap.size → wpList P ops Q rest (a.put o.dst (.slice (some ⟨g, 0, none⟩) (n + m) cap)) w') : wpList P ops Q (o :: rest) a w :=
  wpList_plain hgd fun _ hK => wp_append_src s x t ho base e i z size bytes ht hi hz hsize hby hzs hsz v n xs hs hown hv u m news hx hu h63 hbytes hbase fun g cap w' h2 h3 h4 h5 => hK _ _ (h g cap w' h2 h3 h4 h5)

theorem step_append_src {ops : Array Oper} {o : Oper} {a : Act} {K : Act → World → Prop} {Q : Exit → Act → World → Prop} {E : Prop} (hgd : o.guard = none) (s x : Operand) (t : TypeId)
    (ho : o.op = .call { callee := .builtin .append, args := #[s, x], argTypes := #[t, t] })
    (base : Nat) (e : TypeId) (i : TypeInfo) (z : Value) (size bytes : Nat) (ht : P.underlying t = some (.slice e)) (hi : P.info? e = some i) (hz : i.zero = some z)
    (hsize : i.size = size) (hby : i.bytes = bytes) (hzs : z.cells.size = size) (hsz : 0 < size)
    (v : Value) (n : Nat) (xs : List Value) (hs : a.eval s = v) (hown : w.ownsRow base e size v n xs) (hv : v ≠ .slice none 0 0)
    (u : Value) (m : Nat) (news : List Value) (hx : a.eval x = u) (hu : Src w u m size news) (h63 : n + m ≤ maxLen) (hbytes : (n + m) * bytes ≤ 140737488355328) (hbase : base ≤ w.heap.size)
    (h : ∀ g cap w', w'.ownsRow base e size (.slice (some ⟨g, 0, none⟩) (n + m) cap) (n + m) (xs ++ news) → w.grownBy w' v.ownBlock → base ≤ g → g < w'.heap.size → K (a.put o.dst (.slice (some ⟨g, 0, none⟩) (n + m) cap)) w') :
    if Region.wanted o (yielded ops a.tmps) = true then Oper.wp P o a w K Q else E := by
  have hw : Region.wanted o (yielded ops a.tmps) = true := by simp [Region.wanted, hgd]
  rw [if_pos hw]
  exact wp_append_src s x t ho base e i z size bytes ht hi hz hsize hby hzs hsz v n xs hs hown hv u m news hx hu h63 hbytes hbase h
theorem step_append_srcN {ops : Array Oper} {o : Oper} {a : Act} {K : Act → World → Prop} {Q : Exit → Act → World → Prop} {E : Prop} (hgd : o.guard = none) (s x : Operand) (t : TypeId)
    (ho : o.op = .call { callee := .builtin .append, args := #[s, x], argTypes := #[t, t] })
    (base : Nat) (e : TypeId) (i : TypeInfo) (z : Value) (size bytes : Nat) (ht : P.underlying t = some (.slice e)) (hi : P.info? e = some i) (hz : i.zero = some z)
    (hsize : i.size = size) (hby : i.bytes = bytes) (hzs : z.cells.size = size) (hsz : 0 < size)
    (v : Value) (n : Nat) (xs : List Value) (hs : a.eval s = v) (hown : w.ownsRow base e size v n xs) (hv : v ≠ .slice none 0 0)
    (u : Value) (m : Nat) (news : List Value) (hx : a.eval x = u) (hu : Src w u m size news) (N : Nat) (XS : List Value) (hN : n + m = N) (hXS : xs ++ news = XS) (h63 : N ≤ maxLen) (hbytes : N * bytes ≤ 140737488355328) (hbase : base ≤ w.heap.size)
    (h : ∀ g cap w', w'.ownsRow base e size (.slice (some ⟨g, 0, none⟩) N cap) N XS → w.grownBy w' v.ownBlock → base ≤ g → g < w'.heap.size → K (a.put o.dst (.slice (some ⟨g, 0, none⟩) N cap)) w') :
    if Region.wanted o (yielded ops a.tmps) = true then Oper.wp P o a w K Q else E := by
  subst hN hXS
  exact step_append_src hgd s x t ho base e i z size bytes ht hi hz hsize hby hzs hsz v n xs hs hown hv u m news hx hu h63 hbytes hbase h
end

end Go.Proofs.YtjdepjpjjgkmbaaGreat

/- The model's functions of shelves, first part: a shelf copied, an open put to its place: contracts of each of them. -/
namespace Go.Proofs.YtjdepjpjjgkmbaaGreat
open Go.RowKit Go.Deep

theorem Slc.src {w : World} {u : Value} {ps : List (Int × Int)} (h : Slc w u ps) : Src w u ps.length 2 (flatP ps) := by
  rcases h with ⟨rfl, rfl⟩ | ⟨b, o, n, cap, rfl, hp⟩
  · exact .inl ⟨rfl, rfl, rfl⟩
  · exact .inr ⟨_, cap, by rw [hp.1], flatP_len ps, pairs_news hp, flatP_one ps⟩
theorem SlcQ.src {w : World} {u : Value} {os : List Opn} (h : SlcQ w u os) : Src w u os.length 4 (flatO os) := by
  rcases h with ⟨rfl, rfl⟩ | ⟨b, o, n, cap, rfl, _, _, hp⟩
  · exact .inl ⟨rfl, rfl, rfl⟩
  · exact .inr ⟨_, cap, by rw [hp.1], flatO_len os, quads_news hp, flatO_one os⟩
theorem own_resP {w : World} {base : Nat} {t : TypeId} {g cap : Nat} {ps : List (Int × Int)} (h : w.ownsRow base t 2 (.slice (some ⟨g, 0, none⟩) ps.length cap) ps.length (flatP ps)) : ResP w base w.heap.size (.slice (some ⟨g, 0, none⟩) ps.length cap) ps := by
  have h0 := own_held h
  rcases h.2 with ⟨h', _⟩ | ⟨g', cap', cur, h', hb, hg, hnc, hcm, _⟩
  · cases h'
  · injection h' with e1 _ e3
    injection e1 with e1
    injection e1 with e1 _ _
    subst e1 e3
    exact .inr ⟨g, cap, hb, h0.lt, rfl, hnc, hcm, h0⟩
theorem own_resO {w : World} {base : Nat} {t : TypeId} {g cap : Nat} {os : List Opn} (h : w.ownsRow base t 4 (.slice (some ⟨g, 0, none⟩) os.length cap) os.length (flatO os)) : ResO w base (.slice (some ⟨g, 0, none⟩) os.length cap) os := by
  have h0 := own_heldQ h
  rcases h.2 with ⟨h', _⟩ | ⟨g', cap', cur, h', hb, hg, hnc, hcm, _⟩
  · cases h'
  · injection h' with e1 _ e3
    injection e1 with e1
    injection e1 with e1 _ _
    subst e1 e3
    exact .inr ⟨g, cap, hb, rfl, hnc, hcm, h0⟩
theorem heldKept {w w' : World} {g : Nat} {d : List (Int × Int)} {r : Option Nat} (h : Held w g d) (hg : w.grownBy w' r) (hne : r ≠ some g) : Held w' g d :=
  ⟨Nat.lt_of_lt_of_le h.lt hg.size, fun o => (hg.frozen_far ⟨g, o, none⟩ h.lt (fun e => hne e.symm)).trans (h.fr o), fun i hi => (hg.cell_far ⟨g, i * 2, none⟩ h.lt (fun e => hne e.symm)).trans (h.at0 i hi), fun i hi => (hg.cell_far ⟨g, i * 2 + 1, none⟩ h.lt (fun e => hne e.symm)).trans (h.at1 i hi)⟩
theorem ResP.kept {w w' : World} {lo hi : Nat} {u : Value} {D : List (Int × Int)} {r : Nat} (h : ResP w lo hi u D) (hg : w.grownBy w' (some r)) (hr : hi ≤ r) : ResP w' lo hi u D := by
  rcases h with h | ⟨g, cap, h1, h2, h3, h4, h5, h6⟩
  · exact .inl h
  · exact .inr ⟨g, cap, h1, h2, h3, h4, h5, heldKept h6 hg (by intro e; injection e with e; omega)⟩

set_option maxRecDepth 100000 in
set_option maxHeartbeats 2000000 in
theorem l7Copy_is (rt rq rv : Int) (P : Option Addr) (p pc : Nat) (Q : Option Addr) (q qc : Nat) (ps : List (Int × Int)) (os : List Opn) (w : World) (hp : ps.length ≤ 4194304) (hq : os.length ≤ 4194304) (h1 : Slc w (.slice P p pc) ps) (h2 : SlcQ w (.slice Q q qc) os) :
    Calls Tryz.prog 98 #[.agg #[.int .i64 rt, .int .i64 rq, .int .i64 rv, .slice P p pc, .slice Q q qc]] w (RegR w rt rq rv ps os) := by
  obtain ⟨i0, hi0, hz0, hz1, hz2⟩ := info_parts Tryz.infoSealI
  obtain ⟨j0, hj0, hy0, hy1, hy2⟩ := info_parts Tryz.infoOpen
  have D := (Box.new w 80 #[.int .i64 rt, .int .i64 rq, .int .i64 rv, .slice P p pc, .slice Q q qc]).alloc (.cells #[.int .i64 0, .int .i64 0, .int .i64 0, .slice none 0 0, .slice none 0 0] 80)
  have X := Box.new (w.alloc (.cells #[.int .i64 rt, .int .i64 rq, .int .i64 rv, .slice P p pc, .slice Q q qc] 80)) 80 #[.int .i64 0, .int .i64 0, .int .i64 0, .slice none 0 0, .slice none 0 0]
  have hb0 := bel_trans (bel_alloc w (.cells #[.int .i64 rt, .int .i64 rq, .int .i64 rv, .slice P p pc, .slice Q q qc] 80)) (bel_alloc _ (.cells #[.int .i64 0, .int .i64 0, .int .i64 0, .slice none 0 0, .slice none 0 0] 80))
  simp only [World.size_alloc] at X
  have hszW : w.heap.size + 1 + 1 = ((w.alloc (.cells #[.int .i64 rt, .int .i64 rq, .int .i64 rv, .slice P p pc, .slice Q q qc] 80)).alloc (.cells #[.int .i64 0, .int .i64 0, .int .i64 0, .slice none 0 0, .slice none 0 0] 80)).heap.size := by simp
  generalize hW : ((w.alloc (.cells #[.int .i64 rt, .int .i64 rq, .int .i64 rv, .slice P p pc, .slice Q q qc] 80)).alloc (.cells #[.int .i64 0, .int .i64 0, .int .i64 0, .slice none 0 0, .slice none 0 0] 80) : World) = w0 at hb0 D X hszW
  have hb1 := bel_alloc w0 (.cells #[] 136)
  have hown := own_new w0 136 2
  have S1 := Lib.hid ((h1.later hb0).later hb1).src
  have H2 := Lib.hid (h2.later hb0)
  have D1 := D.later hb1 D.lt
  have X1 := X.later hb1 X.lt
  have E1 := bel_trans hb0 hb1
  have hbs : w0.heap.size ≤ (w0.alloc (.cells #[] 136)).heap.size := hb1.size
  replace hszW := Lib.hid hszW
  go_enter Tryz.func98, Tryz.ntmps98
  go_upto_region 1 with fail
  clear hW
  obtain ⟨d0, d1, d2, d3, d4⟩ := D.five
  have hD := D.lt
  have hX := X.lt
  go_upto_region 2 with (at_builtin; refine wpList_append_src rfl _ _ _ rfl w0.heap.size 136 i0 _ 2 16 Tryz.underlying40 hi0 hz0 hz1 hz2 rfl (by omega) (.slice (some ⟨w0.heap.size, 0, none⟩) 0 0) 0 [] rfl hown (by simp) (.slice P p pc) ps.length (flatP ps) rfl S1.out (by unfold maxLen; omega) (by omega) hbs ?_; intro g1 cap1 w1 hown1 hgrow1 hbg1 hlg1; have hR1 := hown1; rw [Nat.zero_add, List.nil_append] at hR1; have R1 := own_resP hR1; have hgr : (w0.alloc (.cells #[] 136)).grownBy w1 (some w0.heap.size) := hgrow1; have D2 := D1.kept hgr (by intro e; injection e with e; omega); have X2 := X1.kept hgr (by intro e; injection e with e; omega); have E2 := bel_grown E1 hgr (by have := hb0.size; omega); obtain ⟨e0, e1, e2, e3, e4⟩ := D2.five; have fd := D2.frozen; clear hown1 hgrow1 hR1)
  have hlo : w.heap.size < w0.heap.size := hD
  have R3 := R1.far (b := w.heap.size) hlo 3 (.slice (some ⟨g1, 0, none⟩) ps.length cap1)
  have D3 : Box (w1.setCell ⟨w.heap.size, 3, none⟩ (.slice (some ⟨g1, 0, none⟩) ps.length cap1)) w.heap.size 80 #[.int .i64 rt, .int .i64 rq, .int .i64 rv, .slice (some ⟨g1, 0, none⟩) ps.length cap1, .slice Q q qc] := D2.set 3 _
  have X3 := X2.far (p := ⟨w.heap.size, 3, none⟩) (by show w.heap.size ≠ _; omega) (.slice (some ⟨g1, 0, none⟩) ps.length cap1)
  have E3 := E2.setCell (p := ⟨w.heap.size, 3, none⟩) (Nat.le_refl _) (.slice (some ⟨g1, 0, none⟩) ps.length cap1)
  have hs3 : (w1.setCell ⟨w.heap.size, 3, none⟩ (.slice (some ⟨g1, 0, none⟩) ps.length cap1)).heap.size = w1.heap.size := size_set _ _ _
  rw [← hs3] at R3
  clear R1 D2 X2 E2 hgr e0 e1 e2 e3 e4 fd d0 d1 d2 d3 d4 D X D1 X1 E1 S1 hown hb1 hbs hs3 hlg1
  try simp only [Nat.zero_add]
  generalize (w1.setCell _ _ : World) = w2 at R3 D3 X3 E3 ⊢
  have hb4 := bel_alloc w2 (.cells #[] 97)
  have hown := own_new w2 97 4
  have S2 := Lib.hid ((h2.later E3).later hb4).src
  have D4 := D3.later hb4 D3.lt
  have X4 := X3.later hb4 X3.lt
  have E4 := bel_trans E3 hb4
  have R4 := R3.later hb4
  have hbs : w2.heap.size ≤ (w2.alloc (.cells #[] 97)).heap.size := hb4.size
  obtain ⟨d0, d1, d2, d3, d4⟩ := D3.five
  have hD3 := D3.lt
  have hX3 := X3.lt
  go_upto_region 3 with (at_builtin; refine wpList_append_src rfl _ _ _ rfl w2.heap.size 97 j0 _ 4 32 Tryz.underlying78 hj0 hy0 hy1 hy2 rfl (by omega) (.slice (some ⟨w2.heap.size, 0, none⟩) 0 0) 0 [] rfl hown (by simp) (.slice Q q qc) os.length (flatO os) rfl S2.out (by unfold maxLen; omega) (by omega) hbs ?_; intro g2 cap2 w5 hown5 hgrow5 hbg5 hlg5; have hR5 := hown5; rw [Nat.zero_add, List.nil_append] at hR5; have O5 := own_resO hR5; have hgr : (w2.alloc (.cells #[] 97)).grownBy w5 (some w2.heap.size) := hgrow5; have D5 := D4.kept hgr (by intro e; injection e with e; omega); have X5 := X4.kept hgr (by intro e; injection e with e; omega); have E5 := bel_grown E4 hgr (by have := E3.size; omega); have R5 := R4.kept hgr (Nat.le_refl _); obtain ⟨e0, e1, e2, e3, e4⟩ := D5.five; have fd := D5.frozen; clear hown5 hgrow5 hR5)
  have R6 := R5.far (b := w.heap.size) hlo 4 (.slice (some ⟨g2, 0, none⟩) os.length cap2)
  have O6 := O5.far (b := w.heap.size) hD3 4 (.slice (some ⟨g2, 0, none⟩) os.length cap2)
  have D6 : Box (w5.setCell ⟨w.heap.size, 4, none⟩ (.slice (some ⟨g2, 0, none⟩) os.length cap2)) w.heap.size 80 #[.int .i64 rt, .int .i64 rq, .int .i64 rv, .slice (some ⟨g1, 0, none⟩) ps.length cap1, .slice (some ⟨g2, 0, none⟩) os.length cap2] := D5.set 4 _
  have X6 := X5.far (p := ⟨w.heap.size, 4, none⟩) (by show w.heap.size ≠ _; omega) (.slice (some ⟨g2, 0, none⟩) os.length cap2)
  have E6 := E5.setCell (p := ⟨w.heap.size, 4, none⟩) (Nat.le_refl _) (.slice (some ⟨g2, 0, none⟩) os.length cap2)
  have hs6 : w2.heap.size ≤ (w5.setCell ⟨w.heap.size, 4, none⟩ (.slice (some ⟨g2, 0, none⟩) os.length cap2)).heap.size := by rw [size_set]; exact Nat.le_trans hb4.size hgr.size
  clear R5 O5 D5 X5 E5 hgr e0 e1 e2 e3 e4 fd d0 d1 d2 d3 d4 D3 X3 E4 R4 D4 X4 S2 hown hb4 hbs hlg5 R3
  try simp only [Nat.zero_add]
  generalize (w5.setCell _ _ : World) = w6 at R6 O6 D6 X6 E6 hs6 ⊢
  have hw2 : w0.heap.size ≤ w2.heap.size := Nat.le_trans (Nat.le_of_eq hszW.out.symm) (by omega)
  have hwB : w.heap.size ≤ w2.heap.size := E3.size
  have HP : Hid (∀ x0 x1 x2 x3 x4 : Value, RegR w rt rq rv ps os (.returned (.agg #[.int .i64 rt, .int .i64 rq, .int .i64 rv, .slice (some ⟨g1, 0, none⟩) ps.length cap1, .slice (some ⟨g2, 0, none⟩) os.length cap2])) (((((w6.setCell ⟨w.heap.size + 1, 0, none⟩ x0).setCell ⟨w.heap.size + 1, 1, none⟩ x1).setCell ⟨w.heap.size + 1, 2, none⟩ x2).setCell ⟨w.heap.size + 1, 3, none⟩ x3).setCell ⟨w.heap.size + 1, 4, none⟩ x4)) := Lib.hid fun x0 x1 x2 x3 x4 =>
    ⟨w2.heap.size, _, _, hwB, by simp only [size_set]; exact hs6, rfl, (R6.far5 hX x0 x1 x2 x3 x4).wide hb0.size (Nat.le_refl _), O6.far5 (by omega) x0 x1 x2 x3 x4, bel_five E6 (by omega) x0 x1 x2 x3 x4⟩
  obtain ⟨d0, d1, d2, d3, d4⟩ := D6.five
  obtain ⟨x0, x1, x2, x3, x4⟩ := X6.five
  have fx := X6.frozen
  clear R6 O6 E6 D6 X6
  go_wp2
  exact bodyPost_ret (v := .agg #[.int .i64 rt, .int .i64 rq, .int .i64 rv, .slice (some ⟨g1, 0, none⟩) ps.length cap1, .slice (some ⟨g2, 0, none⟩) os.length cap2]) (by simp [results, Tryz.results98, go_sem, x0, x1, x2, x3, x4]) rfl (HP.out _ _ _ _ _)


theorem putO_set {os : List Opn} {i : Nat} (h : i < os.length) (o : Opn) : putO os i (i + 1) o = os.set i o := by
  unfold putO
  rw [List.set_eq_take_append_cons_drop, if_pos h]
  simp
theorem ResP.farHi {w : World} {lo hi : Nat} {u : Value} {D : List (Int × Int)} (h : ResP w lo hi u D) {b : Nat} (hb : hi ≤ b) (o : Nat) (x : Value) : ResP (w.setCell ⟨b, o, none⟩ x) lo hi u D := by
  rcases h with h | ⟨g, cap, h1, h2, h3, h4, h5, h6⟩
  · exact .inl h
  · exact .inr ⟨g, cap, h1, h2, h3, h4, h5, HeldK.far h6 (by omega) o x⟩
theorem ResO.farS {w : World} {lo : Nat} {v : Value} {D : List Opn} (h : ResO w lo v D) {b : Nat} (hb : ∀ g cap, v = .slice (some ⟨g, 0, none⟩) D.length cap → b ≠ g) (o : Nat) (x : Value) : ResO (w.setCell ⟨b, o, none⟩ x) lo v D := by
  rcases h with h | ⟨g, cap, h1, h3, h4, h5, h6⟩
  · exact .inl h
  · exact .inr ⟨g, cap, h1, h3, h4, h5, h6.far (hb g cap h3) o x⟩
/-- One open of the copy is written, and the answer. -/
theorem swith_set {w wr : World} {rt rq rv : Int} {B g k cap : Nat} {u : Value} {ps : List (Int × Int)} {os : List Opn} {o : Opn} (hk : k < os.length) (hlo : w.heap.size + 1 + 1 < B) (hBg : B ≤ g) (hb : Below w.heap.size w wr) (hR : ResP wr (w.heap.size + 1 + 1 + 1) B u ps) (hh : HeldQ wr g os) (hc : os.length ≤ cap) (hm : cap ≤ maxLen) (hw : withO os o = putO os k (k + 1) o) (x0 x1 x2 x3 x4 : Value) :
    RegR w rt rq rv ps (withO os o) (.returned (.agg #[.int .i64 rt, .int .i64 rq, .int .i64 rv, u, .slice (some ⟨g, 0, none⟩) os.length cap])) (((((((((wr.setCell ⟨g, k * 4, none⟩ (.int .i64 o.1)).setCell ⟨g, k * 4 + 1, none⟩ (.int .i64 o.2.1)).setCell ⟨g, k * 4 + 2, none⟩ (.int .i64 o.2.2.1)).setCell ⟨g, k * 4 + 3, none⟩ (.int .i64 o.2.2.2)).setCell ⟨w.heap.size + 1 + 1, 0, none⟩ x0).setCell ⟨w.heap.size + 1 + 1, 1, none⟩ x1).setCell ⟨w.heap.size + 1 + 1, 2, none⟩ x2).setCell ⟨w.heap.size + 1 + 1, 3, none⟩ x3).setCell ⟨w.heap.size + 1 + 1, 4, none⟩ x4) := by
  have hV := hh.put k o
  have hR' := (((hR.farHi hBg (k * 4) (.int .i64 o.1)).farHi hBg (k * 4 + 1) (.int .i64 o.2.1)).farHi hBg (k * 4 + 2) (.int .i64 o.2.2.1)).farHi hBg (k * 4 + 3) (.int .i64 o.2.2.2)
  have hgw : w.heap.size ≤ g := by omega
  have hb' := (((hb.setCell (p := ⟨g, k * 4, none⟩) hgw (.int .i64 o.1)).setCell (p := ⟨g, k * 4 + 1, none⟩) hgw (.int .i64 o.2.1)).setCell (p := ⟨g, k * 4 + 2, none⟩) hgw (.int .i64 o.2.2.1)).setCell (p := ⟨g, k * 4 + 3, none⟩) hgw (.int .i64 o.2.2.2)
  have hgl := hh.lt
  rw [hw, putO_set hk]
  have hl : (os.set k o).length = os.length := List.length_set
  refine ⟨B, _, _, by omega, by simp only [size_set]; omega, rfl, (hR'.far5 (by omega) x0 x1 x2 x3 x4).wide (by omega) (Nat.le_refl _), ?_, bel_five hb' (by omega) x0 x1 x2 x3 x4⟩
  have hV' : ResO _ B (.slice (some ⟨g, 0, none⟩) os.length cap) (os.set k o) := .inr ⟨g, cap, hBg, by rw [hl], by rw [hl]; exact hc, hm, hV⟩
  exact hV'.far5 (by omega) x0 x1 x2 x3 x4

/-- What the model's WithOpen keeps: what came in, the copy, the variable of the answer. -/
structure SWith (w wr : World) (S B : Nat) (rt rq rv : Int) (P : Option Addr) (p pc : Nat) (Q : Option Addr) (q qc : Nat) (a b c d : Int) (u v : Value) (ps : List (Int × Int)) (os : List Opn) : Prop where
  bel : Below w.heap.size w wr
  D : Box wr w.heap.size 80 #[.int .i64 rt, .int .i64 rq, .int .i64 rv, .slice P p pc, .slice Q q qc]
  O : Box wr (w.heap.size + 1) 97 #[.int .i64 a, .int .i64 b, .int .i64 c, .int .i64 d]
  X : Box wr (w.heap.size + 1 + 1) 80 #[.int .i64 0, .int .i64 0, .int .i64 0, .slice none 0 0, .slice none 0 0]
  Y : Box wr S 80 #[.int .i64 rt, .int .i64 rq, .int .i64 rv, u, v]
  hlo : w.heap.size + 1 + 1 < B
  hBS : B ≤ S
  R : ResP wr (w.heap.size + 1 + 1 + 1) B u ps
  V : ResO wr B v os
  VS : ∀ g cap, v = .slice (some ⟨g, 0, none⟩) os.length cap → g < S
theorem SWith.later {w wr w' : World} {S B : Nat} {rt rq rv : Int} {P : Option Addr} {p pc : Nat} {Q : Option Addr} {q qc : Nat} {a b c d : Int} {u v : Value} {ps : List (Int × Int)} {os : List Opn} (h : SWith w wr S B rt rq rv P p pc Q q qc a b c d u v ps os) (hb : Below wr.heap.size wr w') : SWith w w' S B rt rq rv P p pc Q q qc a b c d u v ps os :=
  ⟨bel_trans h.bel hb, h.D.later hb h.D.lt, h.O.later hb h.O.lt, h.X.later hb h.X.lt, h.Y.later hb h.Y.lt, h.hlo, h.hBS, h.R.later hb, h.V.later hb, h.VS⟩

theorem ownLow {w : World} {base base' : Nat} {e : TypeId} {size : Nat} {v : Value} {n : Nat} {xs : List Value} (h : w.ownsRow base e size v n xs) (hb : base' ≤ base) : w.ownsRow base' e size v n xs := by
  refine ⟨h.1, ?_⟩
  rcases h.2 with h' | ⟨g, cap, cur, h1, h2, h3⟩
  · exact .inl h'
  · exact .inr ⟨g, cap, cur, h1, by omega, h3⟩
theorem dfive {w : World} {g g' : Nat} {t t' : TypeId} {v0 v1 v2 v3 v4 u0 u1 u2 u3 : Value} (h : Box w g t #[v0, v1, v2, v3, v4]) (h' : Box w g' t' #[u0, u1, u2, u3]) :
    w.cell? ⟨g, 4, none⟩ = some v4 ∧ w.cell? ⟨g', 0, none⟩ = some u0 ∧ w.cell? ⟨g', 1, none⟩ = some u1 ∧ w.cell? ⟨g', 2, none⟩ = some u2 ∧ w.cell? ⟨g', 3, none⟩ = some u3 :=
  ⟨h.cell 4, h'.cell 0, h'.cell 1, h'.cell 2, h'.cell 3⟩
/-- What the model's WithOpen keeps, behind its list put together. -/
def SEnd (w wr : World) (S B : Nat) (rt rq rv : Int) (u : Value) (ps : List (Int × Int)) (os : List Opn) : Prop :=
  ∃ (g n cap : Nat), Box wr (w.heap.size + 1 + 1) 80 #[.int .i64 0, .int .i64 0, .int .i64 0, .slice none 0 0, .slice none 0 0] ∧ Box wr S 80 #[.int .i64 rt, .int .i64 rq, .int .i64 rv, u, .slice (some ⟨g, 0, none⟩) n cap] ∧ ResP wr (w.heap.size + 1 + 1 + 1) B u ps ∧ ResO wr B (.slice (some ⟨g, 0, none⟩) n cap) os ∧ Below w.heap.size w wr ∧ B ≤ wr.heap.size
theorem send_mk {w wr : World} {S B : Nat} {rt rq rv : Int} {P : Option Addr} {p pc : Nat} {Q : Option Addr} {q qc : Nat} {a b c d : Int} {u v : Value} {ps : List (Int × Int)} {os J : List Opn} {g n cap : Nat} (h : SWith w wr S B rt rq rv P p pc Q q qc a b c d u v ps os) {w' : World} {t : TypeId} (hb : Below wr.heap.size wr w') (ho : w'.ownsRow wr.heap.size t 4 (.slice (some ⟨g, 0, none⟩) n cap) n (flatO J)) (hn : J.length = n) :
    SEnd w (w'.setCell ⟨S, 4, none⟩ (.slice (some ⟨g, 0, none⟩) n cap)) S B rt rq rv u ps J := by
  subst hn
  have h' := h.later hb
  have hlo := h.hlo
  have hBS := h.hBS
  have hYl := h.Y.lt
  refine ⟨g, _, cap, h'.X.far (p := ⟨S, 4, none⟩) (by show S ≠ _; omega) _, h'.Y.set 4 _, h'.R.farHi hBS 4 _, ((own_resO ho).wide (by omega)).farS (b := S) ?_ 4 _, h'.bel.setCell (p := ⟨S, 4, none⟩) (by show _ ≤ S; omega) _, by rw [size_set]; have := hb.size; omega⟩
  intro g' cap' hv
  injection hv with e1 _ _
  injection e1 with e1
  injection e1 with e1 _ _
  have := (ho.lt g rfl).1
  omega

theorem send_put {w wr : World} {B : Nat} {rt rq rv : Int} {u v : Value} {ps : List (Int × Int)} {J : List Opn} (hlo : w.heap.size + 1 + 1 < B) (hR : ResP wr (w.heap.size + 1 + 1 + 1) B u ps) (hO : ResO wr B v J) (hb : Below w.heap.size w wr) (hB : B ≤ wr.heap.size) (x0 x1 x2 x3 x4 : Value) :
    RegR w rt rq rv ps J (.returned (.agg #[.int .i64 rt, .int .i64 rq, .int .i64 rv, u, v])) (((((wr.setCell ⟨w.heap.size + 1 + 1, 0, none⟩ x0).setCell ⟨w.heap.size + 1 + 1, 1, none⟩ x1).setCell ⟨w.heap.size + 1 + 1, 2, none⟩ x2).setCell ⟨w.heap.size + 1 + 1, 3, none⟩ x3).setCell ⟨w.heap.size + 1 + 1, 4, none⟩ x4) :=
  ⟨B, u, v, by omega, by simp only [size_set]; exact hB, rfl, (hR.far5 (by omega) x0 x1 x2 x3 x4).wide (by omega) (Nat.le_refl _), hO.far5 (by omega) x0 x1 x2 x3 x4, bel_five hb (by omega) x0 x1 x2 x3 x4⟩

set_option maxRecDepth 100000 in
set_option maxHeartbeats 4000000 in
theorem specWith_is (rt rq rv : Int) (P : Option Addr) (p pc : Nat) (Q : Option Addr) (q qc : Nat) (a b c d : Int) (ps : List (Int × Int)) (os : List Opn) (w : World) (hp : ps.length ≤ 2000000) (hq : os.length ≤ 2000000) (h1 : Slc w (.slice P p pc) ps) (h2 : SlcQ w (.slice Q q qc) os) :
    Calls Tryz.prog 96 #[.agg #[.int .i64 rt, .int .i64 rq, .int .i64 rv, .slice P p pc, .slice Q q qc], .agg #[.int .i64 a, .int .i64 b, .int .i64 c, .int .i64 d]] w (RegR w rt rq rv ps (withO os (a, b, c, d))) := by
  obtain ⟨j0, hj0, hy0, hy1, hy2⟩ := info_parts Tryz.infoOpen
  have D := ((Box.new w 80 #[.int .i64 rt, .int .i64 rq, .int .i64 rv, .slice P p pc, .slice Q q qc]).alloc (.cells #[.int .i64 a, .int .i64 b, .int .i64 c, .int .i64 d] 97)).alloc (.cells #[.int .i64 0, .int .i64 0, .int .i64 0, .slice none 0 0, .slice none 0 0] 80)
  have O := (Box.new (w.alloc (.cells #[.int .i64 rt, .int .i64 rq, .int .i64 rv, .slice P p pc, .slice Q q qc] 80)) 97 #[.int .i64 a, .int .i64 b, .int .i64 c, .int .i64 d]).alloc (.cells #[.int .i64 0, .int .i64 0, .int .i64 0, .slice none 0 0, .slice none 0 0] 80)
  have X := Box.new ((w.alloc (.cells #[.int .i64 rt, .int .i64 rq, .int .i64 rv, .slice P p pc, .slice Q q qc] 80)).alloc (.cells #[.int .i64 a, .int .i64 b, .int .i64 c, .int .i64 d] 97)) 80 #[.int .i64 0, .int .i64 0, .int .i64 0, .slice none 0 0, .slice none 0 0]
  have hb0 := bel_trans (bel_trans (bel_alloc w (.cells #[.int .i64 rt, .int .i64 rq, .int .i64 rv, .slice P p pc, .slice Q q qc] 80)) (bel_alloc _ (.cells #[.int .i64 a, .int .i64 b, .int .i64 c, .int .i64 d] 97))) (bel_alloc _ (.cells #[.int .i64 0, .int .i64 0, .int .i64 0, .slice none 0 0, .slice none 0 0] 80))
  simp only [World.size_alloc] at X O
  have H1w := Lib.hid h1
  have H2w := Lib.hid h2
  clear h1 h2
  go_enter Tryz.func96, Tryz.ntmps96
  go_wp2_with fail
  generalize (((w.alloc _).alloc _).alloc _ : World) = w0 at hb0 D O X ⊢
  refine (l7Copy_is rt rq rv P p pc Q q qc ps os w0 (by omega) (by omega) (H1w.out.later hb0) (H2w.out.later hb0)).mono ?_
  rintro e w1 ⟨B, u, v, hB, hB', rfl, hR, hV, hb1⟩
  obtain ⟨A5, c5, rfl, _, _, _, _⟩ := hR.form
  obtain ⟨A6, c6, rfl, _, _, _, _⟩ := hV.form
  have hb2 := bel_alloc w1 (.cells #[.int .i64 rt, .int .i64 rq, .int .i64 rv, .slice A5 ps.length c5, .slice A6 os.length c6] 80)
  have hXl := X.lt
  have K : SWith w (w1.alloc (.cells #[.int .i64 rt, .int .i64 rq, .int .i64 rv, .slice A5 ps.length c5, .slice A6 os.length c6] 80)) w1.heap.size B rt rq rv P p pc Q q qc a b c d (.slice A5 ps.length c5) (.slice A6 os.length c6) ps os := by
    have hb12 := bel_trans hb1 hb2
    refine ⟨bel_trans hb0 hb12, D.later hb12 D.lt, O.later hb12 O.lt, X.later hb12 X.lt, Box.new w1 _ _, by omega, hB', (hR.later hb2).wide (by omega) (Nat.le_refl _), hV.later hb2, ?_⟩
    intro g cap hg
    rcases hV with ⟨h', _⟩ | ⟨g', cap', _, h', _, _, hh⟩
    · rw [h'] at hg; cases hg
    · rw [h'] at hg
      injection hg with e1 _ _
      injection e1 with e1
      injection e1 with e1 _ _
      rw [← e1]
      exact hh.lt
  clear hR hV D O X hb0 hb1 hb2 hB
  go_wp2_with fail
  generalize (w1.alloc _ : World) = w2 at K ⊢
  generalize w1.heap.size = S at K hB' ⊢
  clear hB' hXl
  go_loopw [6] (fun iv wr => ∃ k : Nat, k ≤ os.length ∧ iv = .int .i64 k ∧ (∀ j, j < k → (oth os j).1 ≠ a) ∧ SWith w wr S B rt rq rv P p pc Q q qc a b c d (.slice A5 ps.length c5) (.slice A6 os.length c6) ps os) (fun i _ => os.length - (intOf i).toNat)
  case atStart => exact ⟨0, Nat.zero_le _, rfl, fun j hj => absurd hj (by omega), K⟩
  case round =>
    obtain ⟨k, hk, rfl, hne, hK⟩ := hrel
    clear K
    by_cases hlt : k < os.length
    · rcases hK.V with ⟨_, h0⟩ | ⟨g, cap, hBg, hv, hl1, hl2, hh⟩
      · rw [h0] at hlt; exact absurd hlt (by simp)
      injection hv with e1 _ e3
      subst e1 e3
      have hgS := hK.VS g c6 rfl
      obtain ⟨g0, g1, g2, g3⟩ := hh.cs k hlt
      have hgl := hh.lt
      have m0 := After.cell (w := wr) (a := ⟨g, k * 4, none⟩) hgl g0
      have m1 := After.cell (w := wr) (a := ⟨S, 4, none⟩) hK.Y.lt (hK.Y.cell 4)
      have m2 := After.cell (w := wr) (a := ⟨w.heap.size + 1, 0, none⟩) hK.O.lt (hK.O.cell 0)
      have n4 := hK.Y.cell 4
      generalize hx : oth os k = x at m0 g0 g1 g2 g3
      obtain ⟨x, y, z, t⟩ := x
      have HX := Lib.hid hx
      have hlt' : (k : Int) < (os.length : Int) := by omega
      replace hne := Lib.hid hne
      clear hx
      have hlo := hK.hlo
      have hBS := hK.hBS
      by_cases he : x = a
      · subst he
        have hw := Lib.hid (withO_first (os := os) (o := (x, b, c, d)) (i := k) ⟨hlt, by rw [HX.out], hne.out⟩)
        go_wp2_with fail
        refine wp_region_after (by kernel_rfl) (by kernel_rfl) ?_
        repeat (first | go_big_quiet_step (fail) | quiet_step (fail))
        refine wpQuiet_nil ?_
        intro pw
        have K3 := hK.later pw.bel
        have hh3 := hh.later pw.bel
        generalize pw.x = w3 at K3 hh3 ⊢
        clear pw m0 m1 m2 g0 g1 g2 g3 hK hh n4
        obtain ⟨g0, g1, g2, g3⟩ := hh3.cs k hlt
        have fg := hh3.fr
        obtain ⟨o0, o1, o2, o3⟩ := K3.O.four
        obtain ⟨y0, y1, y2, y3, y4⟩ := K3.Y.five
        obtain ⟨x0, x1, x2, x3, x4⟩ := K3.X.five
        have fx := K3.X.frozen
        have HP := Lib.hid (swith_set (rt := rt) (rq := rq) (rv := rv) (o := (x, b, c, d)) hlt hlo hBg K3.bel K3.R hh3 hl1 hl2 hw.out)
        clear hh3 K3
        go_wp2
        exact bodyPost_ret (v := .agg #[.int .i64 rt, .int .i64 rq, .int .i64 rv, .slice A5 ps.length c5, .slice (some ⟨g, 0, none⟩) os.length c6]) (by simp [results, Tryz.results96, go_sem, x0, x1, x2, x3, x4]) rfl (HP.out _ _ _ _ _)
      · have he' : (x == a) = false := by simpa using he
        have hne2 := Lib.hid (show ∀ j, j < k + 1 → (oth os j).1 ≠ a from fun j hj => by
          by_cases ej : j = k
          · subst ej; rw [HX.out]; exact he
          · exact hne.out j (by omega))
        go_wp2_with fail
        refine wp_region_after (by kernel_rfl) (by kernel_rfl) ?_
        repeat (first | go_big_quiet_step (fail) | quiet_step (fail))
        refine wpQuiet_nil ?_
        intro pw
        have K3 := hK.later pw.bel
        replace K3 := Lib.hid K3
        go_wp2
        go_roundw
        case rel => exact ⟨k + 1, by omega, by go_num, hne2.out, K3.out⟩
        case measure => simp [intOf]; omega
    · obtain rfl : k = os.length := by omega
      have hno : noneAt a os := hne
      have HN := Lib.hid hno
      have hw := Lib.hid (withO_none (os := os) (o := (a, b, c, d)) hno)
      clear hne hno
      obtain ⟨AQ, nQ, cQ, hQv, hQl, hQ⟩ : ∃ (A : Option Addr) (n cap : Nat), Value.slice Q q qc = .slice A n cap ∧ n = os.length ∧ Quads w w.heap.size A n os := by
        rcases H2w.out with ⟨hv, rfl⟩ | ⟨bb, oo, n, cap, hv, _, _, hq⟩
        · exact ⟨none, 0, 0, hv, rfl, quads_nil _ _ _⟩
        · exact ⟨_, n, cap, hv, hq.1.symm, hq⟩
      injection hQv with e1 e2 e3
      subst e1 e2 e3 hQl
      have HQ := Lib.hid hQ
      clear hQ
      obtain ⟨d0, d1, d2, d3, d4⟩ := hK.D.five
      obtain ⟨y0, y1, y2, y3, y4⟩ := hK.Y.five
      go_wp2_with fail
      go_loopw [7, 8] (fun bv iv wr => ∃ k bb : Nat, k ≤ os.length ∧ bb ≤ k ∧ iv = .int .i64 k ∧ bv = .int .i64 bb ∧ behN a (os.take k) = bb ∧ SWith w wr S B rt rq rv P p pc Q os.length qc a b c d (.slice A5 ps.length c5) (.slice A6 os.length c6) ps os) (fun _ i _ => os.length - (intOf i).toNat)
      case atStart => exact ⟨0, 0, Nat.zero_le _, Nat.le_refl _, rfl, rfl, rfl, hK⟩
      case round =>
        clear d0 d1 d2 d3 d4 y0 y1 y2 y3 y4 hK
        obtain ⟨k, bb, hk, hbk, rfl, rfl, hbe, hK⟩ := hrel
        by_cases hlt : k < os.length
        · obtain ⟨qb, qo, hA, hbB, hcell⟩ := HQ.out.2 (by omega)
          subst hA
          have hb := hK.bel
          have hzb := hb.size
          obtain ⟨g0, _, _, _⟩ := hcell k hlt
          have g0 := (hb.cell (p := ⟨qb, qo + k * 4, none⟩) hbB).trans g0
          have m0 := After.cell (w := wr) (a := ⟨qb, qo + k * 4, none⟩) (by show qb < _; omega) g0
          have m1 := After.cell (w := wr) (a := ⟨w.heap.size, 4, none⟩) hK.D.lt (hK.D.cell 4)
          have m2 := After.cell (w := wr) (a := ⟨w.heap.size + 1, 0, none⟩) hK.O.lt (hK.O.cell 0)
          have n4 := hK.D.cell 4
          have hsn := behN_snoc (c := a) (os := os) (k := k) hlt
          generalize oth os k = x at m0 g0 hsn
          obtain ⟨x, y, z, t⟩ := x
          have hlt' : (k : Int) < (os.length : Int) := by omega
          rw [hbe] at hsn
          replace hbe := Lib.hid hbe
          clear hcell
          by_cases hl : x < a
          · simp only [hl, if_true] at hsn
            replace hsn := Lib.hid hsn
            go_wp2_with fail
            refine wp_region_after (by kernel_rfl) (by kernel_rfl) ?_
            repeat (first | go_big_quiet_step (fail) | quiet_step (fail))
            refine wpQuiet_nil ?_
            intro pw
            have K3 := hK.later pw.bel
            replace K3 := Lib.hid K3
            go_wp2
            go_roundw
            case rel => exact ⟨k + 1, k + 1, by omega, by omega, by go_num, by go_num, hsn.out, K3.out⟩
            case measure => simp [intOf]; omega
          · simp only [hl, if_false] at hsn
            replace hsn := Lib.hid hsn
            go_wp2_with fail
            refine wp_region_after (by kernel_rfl) (by kernel_rfl) ?_
            repeat (first | go_big_quiet_step (fail) | quiet_step (fail))
            refine wpQuiet_nil ?_
            intro pw
            have K3 := hK.later pw.bel
            replace K3 := Lib.hid K3
            go_wp2
            go_roundw
            case rel => exact ⟨k + 1, bb, by omega, by omega, by go_num, rfl, hsn.out, K3.out⟩
            case measure => simp [intOf]; omega
        · obtain rfl : k = os.length := by omega
          rw [List.take_length] at hbe
          rw [hbe] at hw
          replace hbe := Lib.hid hbe
          obtain ⟨o0, o1, o2, o3⟩ := hK.O.four
          have n4 := hK.D.cell 4
          have y4 := hK.Y.cell 4
          have fy := hK.Y.frozen
          have hYl := hK.Y.lt
          have hlo := hK.hlo
          have hBS := hK.hBS
          have hDl := hK.D.lt
          have hOl := hK.O.lt
          rcases H2w.out with ⟨hv, hos⟩ | ⟨qb, qo, n, cap, hv, hnc, hcm, hQ⟩
          · injection hv with e1 e2 e3
            subst e1 e3
            obtain rfl := hos
            obtain rfl : bb = 0 := by simpa using hbk
            have hEw := hK.bel
            have hsz := hEw.size
            have hbE := bel_alloc wr (.cells #[] 97)
            have OE : (wr.alloc (.cells #[] 97)).drew.ownsRow wr.heap.size 97 4 (.slice (some ⟨wr.heap.size, 0, none⟩) 0 0) 0 [] := (own_new wr 97 4).drew
            have SQ1 : Src (wr.alloc (.cells #[] 97)).drew (.slice none 0 0) 0 4 [] := .inl ⟨rfl, rfl, rfl⟩
            have hbEb := bel_trans hbE (bel_alloc _ (.cells #[.int .i64 a, .int .i64 b, .int .i64 c, .int .i64 d] 97))
            have OEb : ((wr.alloc (.cells #[] 97)).alloc (.cells #[.int .i64 a, .int .i64 b, .int .i64 c, .int .i64 d] 97)).drew.ownsRow wr.heap.size 97 4 (.slice (some ⟨wr.heap.size, 0, none⟩) 0 0) 0 [] := ((own_new wr 97 4).alloc _).drew
            have SQb : Src ((wr.alloc (.cells #[] 97)).alloc (.cells #[.int .i64 a, .int .i64 b, .int .i64 c, .int .i64 d] 97)).drew (.slice none 0 0) 0 4 [] := .inl ⟨rfl, rfl, rfl⟩
            have BOb : Box ((wr.alloc (.cells #[] 97)).alloc (.cells #[.int .i64 a, .int .i64 b, .int .i64 c, .int .i64 d] 97)).drew (wr.heap.size + 1) 97 #[.int .i64 a, .int .i64 b, .int .i64 c, .int .i64 d] := by
              have := Box.new (wr.alloc (.cells #[] 97)) 97 #[.int .i64 a, .int .i64 b, .int .i64 c, .int .i64 d]
              simp only [World.size_alloc] at this
              exact this
            have hbEc := bel_trans (bel_alloc wr (.cells #[.int .i64 a, .int .i64 b, .int .i64 c, .int .i64 d] 97)) (bel_alloc _ (.cells #[] 97))
            have OEc : ((wr.alloc (.cells #[.int .i64 a, .int .i64 b, .int .i64 c, .int .i64 d] 97)).alloc (.cells #[] 97)).drew.ownsRow wr.heap.size 97 4 (.slice (some ⟨wr.heap.size + 1, 0, none⟩) 0 0) 0 [] := by
              have := own_new (wr.alloc (.cells #[.int .i64 a, .int .i64 b, .int .i64 c, .int .i64 d] 97)) 97 4
              simp only [World.size_alloc] at this
              exact (ownLow this (by omega)).drew
            have SQc : Src ((wr.alloc (.cells #[.int .i64 a, .int .i64 b, .int .i64 c, .int .i64 d] 97)).alloc (.cells #[] 97)).drew (.slice none 0 0) 0 4 [] := .inl ⟨rfl, rfl, rfl⟩
            have BOc : Box ((wr.alloc (.cells #[.int .i64 a, .int .i64 b, .int .i64 c, .int .i64 d] 97)).alloc (.cells #[] 97)).drew wr.heap.size 97 #[.int .i64 a, .int .i64 b, .int .i64 c, .int .i64 d] := (Box.new wr 97 #[.int .i64 a, .int .i64 b, .int .i64 c, .int .i64 d]).alloc (.cells #[] 97)
            obtain ⟨L, hL⟩ : ∃ L, (putO [] 0 0 (a, b, c, d)).length = L := ⟨_, rfl⟩
            have hL' : 0 + 1 + 0 = L := by rw [← hL]; rfl
            have hLm : L ≤ 4194304 := by omega
            replace hL := Lib.hid hL
            replace hL' := Lib.hid hL'
            have hX2 : ([] : List Value) ++ [.int .i64 a, .int .i64 b, .int .i64 c, .int .i64 d] = flatO [(a, b, c, d)] := rfl
            have hX3 : flatO [(a, b, c, d)] ++ [] = flatO (putO [] 0 0 (a, b, c, d)) := rfl
            replace hX2 := Lib.hid hX2
            replace hX3 := Lib.hid hX3
            have hSD : (⟨S, 4, none⟩ : Addr).block ≠ w.heap.size := by show S ≠ _; omega
            have hSO : (⟨S, 4, none⟩ : Addr).block ≠ w.heap.size + 1 := by show S ≠ _; omega
            go_upto_region 14 with fail
            go_cut [64] (fun _ wr => SEnd w wr S B rt rq rv (.slice A5 ps.length c5) ps (putO [] 0 0 (a, b, c, d)))
            case first =>
              go_region_held3 (fun w' => w'.cell? ⟨w.heap.size, 4, none⟩ = some (.slice none 0 0) ∧ w'.cell? ⟨w.heap.size + 1, 0, none⟩ = some (.int .i64 a) ∧ w'.cell? ⟨w.heap.size + 1, 1, none⟩ = some (.int .i64 b) ∧ w'.cell? ⟨w.heap.size + 1, 2, none⟩ = some (.int .i64 c) ∧ w'.cell? ⟨w.heap.size + 1, 3, none⟩ = some (.int .i64 d))
                (first | (with_reducible exact KD) | (with_reducible exact KC) | (with_reducible exact KB) | (with_reducible exact KA) | go_keep)
                (first
                  | (refine step_append_srcN (by rfl) _ _ _ (by rfl) wr.heap.size 97 j0 _ 4 32 Tryz.underlying78 hj0 hy0 hy1 hy2 rfl (by omega) (.slice (some ⟨wr.heap.size, 0, none⟩) 0 0) 0 [] (by rfl) OE (by simp) (.slice none 0 0) 0 [] (by rfl) SQ1 0 [] (Nat.zero_add _) rfl (by unfold maxLen; omega) (by omega) (by simp; try omega) ?_; intro g1 cap1 wA hown1 hgrow1 hbg1 hlg1; have FA := bel_grown (g := wr.heap.size) (hbE.drew) hgrow1 (by omega); have KA := dfive (hK.D.later FA hK.D.lt) (hK.O.later FA hK.O.lt); have hsA' := FA.size; have hbO := bel_alloc wA (.cells #[.int .i64 a, .int .i64 b, .int .i64 c, .int .i64 d] 97); have hown1' := hown1.alloc (.cells #[.int .i64 a, .int .i64 b, .int .i64 c, .int .i64 d] 97); have SQ2 := (slcQ_one (Box.new wA 97 #[.int .i64 a, .int .i64 b, .int .i64 c, .int .i64 d])).src; have FAO := bel_trans FA hbO; have hsA := FAO.size)
                  | (refine step_append_srcN (by rfl) _ _ _ (by rfl) wr.heap.size 97 j0 _ 4 32 Tryz.underlying78 hj0 hy0 hy1 hy2 rfl (by omega) (.slice (some ⟨wr.heap.size, 0, none⟩) 0 0) 0 [] (by rfl) OEb (by simp) (.slice none 0 0) 0 [] (by rfl) SQb 0 [] (Nat.zero_add _) rfl (by unfold maxLen; omega) (by omega) (by simp; try omega) ?_; intro g1 cap1 wA hown1 hgrow1 hbg1 hlg1; have FA := bel_grown (g := wr.heap.size) (hbEb.drew) hgrow1 (by omega); have KA := dfive (hK.D.later FA hK.D.lt) (hK.O.later FA hK.O.lt); have hsA' := FA.size; have hown1' := hown1; have SQ2 := (slcQ_one (BOb.kept (r := some wr.heap.size) hgrow1 (by simp))).src; have FAO := FA; have hsA := FAO.size)
                  | (refine step_append_srcN (by rfl) _ _ _ (by rfl) wr.heap.size 97 j0 _ 4 32 Tryz.underlying78 hj0 hy0 hy1 hy2 rfl (by omega) (.slice (some ⟨wr.heap.size + 1, 0, none⟩) 0 0) 0 [] (by rfl) OEc (by simp) (.slice none 0 0) 0 [] (by rfl) SQc 0 [] (Nat.zero_add _) rfl (by unfold maxLen; omega) (by omega) (by simp; try omega) ?_; intro g1 cap1 wA hown1 hgrow1 hbg1 hlg1; have FA := bel_grown (g := wr.heap.size + 1) (hbEc.drew) hgrow1 (by omega); have KA := dfive (hK.D.later FA hK.D.lt) (hK.O.later FA hK.O.lt); have hsA' := FA.size; have hown1' := hown1; have SQ2 := (slcQ_one (BOc.kept (r := some (wr.heap.size + 1)) hgrow1 (by simp))).src; have FAO := FA; have hsA := FAO.size)
                  | (refine step_append_srcN (by rfl) _ _ _ (by rfl) wr.heap.size 97 j0 _ 4 32 Tryz.underlying78 hj0 hy0 hy1 hy2 rfl (by omega) (.slice (some ⟨g1, 0, none⟩) 0 cap1) 0 [] (by rfl) hown1' (by simp) _ 1 (flatO [(a, b, c, d)]) (by rfl) SQ2 1 (flatO [(a, b, c, d)]) rfl hX2.out (by unfold maxLen; omega) (by omega) hsA ?_; intro g2 cap2 wB hown2 hgrow2 hbg2 hlg2; have FB := bel_grown (g := g1) FAO hgrow2 hbg1; have KB := dfive (hK.D.later FB hK.D.lt) (hK.O.later FB hK.O.lt); have hsB := FB.size; have SQ3 : Src wB (.slice none 0 0) 0 4 [] := .inl ⟨rfl, rfl, rfl⟩)
                  | (refine step_append_srcN (by rfl) _ _ _ (by rfl) wr.heap.size 97 j0 _ 4 32 Tryz.underlying78 hj0 hy0 hy1 hy2 rfl (by omega) (.slice (some ⟨g2, 0, none⟩) 1 cap2) 1 (flatO [(a, b, c, d)]) (by rfl) hown2 (by simp) (.slice none 0 0) 0 [] (by rfl) SQ3 L (flatO (putO [] 0 0 (a, b, c, d))) hL'.out hX3.out (by unfold maxLen; omega) (by omega) hsB ?_; intro g3 cap3 wC hown3 hgrow3 hbg3 hlg3; have FC := bel_grown (g := g2) FB hgrow3 hbg2; have KC := dfive (hK.D.later FC hK.D.lt) (hK.O.later FC hK.O.lt); have KD := dfive ((hK.D.later FC hK.D.lt).far (p := ⟨S, 4, none⟩) hSD (.slice (some ⟨g3, 0, none⟩) L cap3)) ((hK.O.later FC hK.O.lt).far (p := ⟨S, 4, none⟩) hSO (.slice (some ⟨g3, 0, none⟩) L cap3)); have yC := (hK.Y.later FC hK.Y.lt).cell 4; have fyC := (hK.Y.later FC hK.Y.lt).frozen))
              all_goals
                have HE := Lib.hid (send_mk hK FC hown3 hL.out)
                clear KA KB KC KD yC fyC hown1 hown1' hown2 hown3 SQ1 SQ2 SQ3 SQb SQc OE OEb OEc FA FAO FB FC
                go_wp2_with fail
                go_meet
                exact HE.out
            case rest =>
            clear o0 o1 o2 o3 n4 y4 fy
            obtain ⟨g3, n3, cap3, X4, Y4, R4, O4, E4, hB4⟩ := hcut
            obtain ⟨x0, x1, x2, x3, x4⟩ := X4.five
            obtain ⟨y0, y1, y2, y3, y4'⟩ := Y4.five
            have fx := X4.frozen
            have HP := Lib.hid (send_put (rt := rt) (rq := rq) (rv := rv) hlo R4 O4 E4 hB4)
            rw [← hw.out] at HP
            clear R4 O4 X4 Y4 E4
            go_wp2
            exact bodyPost_ret (v := .agg #[.int .i64 rt, .int .i64 rq, .int .i64 rv, .slice A5 ps.length c5, .slice (some ⟨g3, 0, none⟩) n3 cap3]) (by simp [results, Tryz.results96, go_sem, x0, x1, x2, x3, x4]) rfl (HP.out _ _ _ _ _)

          · injection hv with e1 e2 e3
            subst e1 e2 e3
            unfold maxLen at hcm
            have hi0 : (0 : Int) ≤ (bb : Int) := by omega
            have hi1 : (bb : Int) ≤ (qc : Int) := by omega
            have hi2 : (bb : Int) ≤ (os.length : Int) := by omega
            have hi3 : (os.length : Int) ≤ (qc : Int) := by omega
            obtain ⟨Z, hZ⟩ : ∃ Z : Option Addr, (if qc = bb then some ⟨qb, qo, none⟩ else some ⟨qb, qo + bb * 4, none⟩) = Z := ⟨_, rfl⟩
            have hEw := hK.bel
            have hsz := hEw.size
            have hbE := bel_alloc wr (.cells #[] 97)
            have OE : (wr.alloc (.cells #[] 97)).drew.ownsRow wr.heap.size 97 4 (.slice (some ⟨wr.heap.size, 0, none⟩) 0 0) 0 [] := (own_new wr 97 4).drew
            have hQr := hQ.later hEw
            have SQ1 : Src (wr.alloc (.cells #[] 97)).drew (.slice (some ⟨qb, qo, none⟩) bb qc) bb 4 (flatO (os.take bb)) := by
              have := (slcQ_take (hQr.later hbE) hbk hnc (show qc ≤ maxLen by unfold maxLen; omega)).src
              rw [List.length_take, Nat.min_eq_left hbk] at this
              exact this
            have hbEb := bel_trans hbE (bel_alloc _ (.cells #[.int .i64 a, .int .i64 b, .int .i64 c, .int .i64 d] 97))
            have OEb : ((wr.alloc (.cells #[] 97)).alloc (.cells #[.int .i64 a, .int .i64 b, .int .i64 c, .int .i64 d] 97)).drew.ownsRow wr.heap.size 97 4 (.slice (some ⟨wr.heap.size, 0, none⟩) 0 0) 0 [] := ((own_new wr 97 4).alloc _).drew
            have SQb : Src ((wr.alloc (.cells #[] 97)).alloc (.cells #[.int .i64 a, .int .i64 b, .int .i64 c, .int .i64 d] 97)).drew (.slice (some ⟨qb, qo, none⟩) bb qc) bb 4 (flatO (os.take bb)) := by
              have := (slcQ_take (hQr.later hbEb) hbk hnc (show qc ≤ maxLen by unfold maxLen; omega)).src
              rw [List.length_take, Nat.min_eq_left hbk] at this
              exact this
            have BOb : Box ((wr.alloc (.cells #[] 97)).alloc (.cells #[.int .i64 a, .int .i64 b, .int .i64 c, .int .i64 d] 97)).drew (wr.heap.size + 1) 97 #[.int .i64 a, .int .i64 b, .int .i64 c, .int .i64 d] := by
              have := Box.new (wr.alloc (.cells #[] 97)) 97 #[.int .i64 a, .int .i64 b, .int .i64 c, .int .i64 d]
              simp only [World.size_alloc] at this
              exact this
            have hbEc := bel_trans (bel_alloc wr (.cells #[.int .i64 a, .int .i64 b, .int .i64 c, .int .i64 d] 97)) (bel_alloc _ (.cells #[] 97))
            have OEc : ((wr.alloc (.cells #[.int .i64 a, .int .i64 b, .int .i64 c, .int .i64 d] 97)).alloc (.cells #[] 97)).drew.ownsRow wr.heap.size 97 4 (.slice (some ⟨wr.heap.size + 1, 0, none⟩) 0 0) 0 [] := by
              have := own_new (wr.alloc (.cells #[.int .i64 a, .int .i64 b, .int .i64 c, .int .i64 d] 97)) 97 4
              simp only [World.size_alloc] at this
              exact (ownLow this (by omega)).drew
            have SQc : Src ((wr.alloc (.cells #[.int .i64 a, .int .i64 b, .int .i64 c, .int .i64 d] 97)).alloc (.cells #[] 97)).drew (.slice (some ⟨qb, qo, none⟩) bb qc) bb 4 (flatO (os.take bb)) := by
              have := (slcQ_take (hQr.later hbEc) hbk hnc (show qc ≤ maxLen by unfold maxLen; omega)).src
              rw [List.length_take, Nat.min_eq_left hbk] at this
              exact this
            have BOc : Box ((wr.alloc (.cells #[.int .i64 a, .int .i64 b, .int .i64 c, .int .i64 d] 97)).alloc (.cells #[] 97)).drew wr.heap.size 97 #[.int .i64 a, .int .i64 b, .int .i64 c, .int .i64 d] := (Box.new wr 97 #[.int .i64 a, .int .i64 b, .int .i64 c, .int .i64 d]).alloc (.cells #[] 97)
            obtain ⟨L, hL⟩ : ∃ L, (putO os bb bb (a, b, c, d)).length = L := ⟨_, rfl⟩
            have hL' : bb + 1 + (os.length - bb) = L := by rw [← hL, putO_len hbk hbk]
            have hLm : L ≤ 4194304 := by omega
            replace hL := Lib.hid hL
            replace hL' := Lib.hid hL'
            have hX2 : flatO (os.take bb) ++ [.int .i64 a, .int .i64 b, .int .i64 c, .int .i64 d] = flatO (os.take bb ++ [(a, b, c, d)]) := (flatO_snoc _ _ _ _ _).symm
            have hX3 : flatO (os.take bb ++ [(a, b, c, d)]) ++ flatO (os.drop bb) = flatO (putO os bb bb (a, b, c, d)) := by unfold putO; rw [flatO_app (os.take bb ++ [(a, b, c, d)])]
            replace hX2 := Lib.hid hX2
            replace hX3 := Lib.hid hX3
            have hSD : (⟨S, 4, none⟩ : Addr).block ≠ w.heap.size := by show S ≠ _; omega
            have hSO : (⟨S, 4, none⟩ : Addr).block ≠ w.heap.size + 1 := by show S ≠ _; omega
            go_upto_region 14 with fail
            go_cut [64] (fun _ wr => SEnd w wr S B rt rq rv (.slice A5 ps.length c5) ps (putO os bb bb (a, b, c, d)))
            case first =>
              go_region_held3 (fun w' => w'.cell? ⟨w.heap.size, 4, none⟩ = some (.slice (some ⟨qb, qo, none⟩) os.length qc) ∧ w'.cell? ⟨w.heap.size + 1, 0, none⟩ = some (.int .i64 a) ∧ w'.cell? ⟨w.heap.size + 1, 1, none⟩ = some (.int .i64 b) ∧ w'.cell? ⟨w.heap.size + 1, 2, none⟩ = some (.int .i64 c) ∧ w'.cell? ⟨w.heap.size + 1, 3, none⟩ = some (.int .i64 d))
                (first | (with_reducible exact KD) | (with_reducible exact KC) | (with_reducible exact KB) | (with_reducible exact KA) | go_keep)
                (first
                  | (refine step_append_srcN (by rfl) _ _ _ (by rfl) wr.heap.size 97 j0 _ 4 32 Tryz.underlying78 hj0 hy0 hy1 hy2 rfl (by omega) (.slice (some ⟨wr.heap.size, 0, none⟩) 0 0) 0 [] (by rfl) OE (by simp) (.slice (some ⟨qb, qo, none⟩) bb qc) bb (flatO (os.take bb)) (by rfl) SQ1 bb (flatO (os.take bb)) (Nat.zero_add _) rfl (by unfold maxLen; omega) (by omega) (by simp; try omega) ?_; intro g1 cap1 wA hown1 hgrow1 hbg1 hlg1; have FA := bel_grown (g := wr.heap.size) (hbE.drew) hgrow1 (by omega); have KA := dfive (hK.D.later FA hK.D.lt) (hK.O.later FA hK.O.lt); have hsA' := FA.size; have hbO := bel_alloc wA (.cells #[.int .i64 a, .int .i64 b, .int .i64 c, .int .i64 d] 97); have hown1' := hown1.alloc (.cells #[.int .i64 a, .int .i64 b, .int .i64 c, .int .i64 d] 97); have SQ2 := (slcQ_one (Box.new wA 97 #[.int .i64 a, .int .i64 b, .int .i64 c, .int .i64 d])).src; have FAO := bel_trans FA hbO; have hsA := FAO.size)
                  | (refine step_append_srcN (by rfl) _ _ _ (by rfl) wr.heap.size 97 j0 _ 4 32 Tryz.underlying78 hj0 hy0 hy1 hy2 rfl (by omega) (.slice (some ⟨wr.heap.size, 0, none⟩) 0 0) 0 [] (by rfl) OEb (by simp) (.slice (some ⟨qb, qo, none⟩) bb qc) bb (flatO (os.take bb)) (by rfl) SQb bb (flatO (os.take bb)) (Nat.zero_add _) rfl (by unfold maxLen; omega) (by omega) (by simp; try omega) ?_; intro g1 cap1 wA hown1 hgrow1 hbg1 hlg1; have FA := bel_grown (g := wr.heap.size) (hbEb.drew) hgrow1 (by omega); have KA := dfive (hK.D.later FA hK.D.lt) (hK.O.later FA hK.O.lt); have hsA' := FA.size; have hown1' := hown1; have SQ2 := (slcQ_one (BOb.kept (r := some wr.heap.size) hgrow1 (by simp))).src; have FAO := FA; have hsA := FAO.size)
                  | (refine step_append_srcN (by rfl) _ _ _ (by rfl) wr.heap.size 97 j0 _ 4 32 Tryz.underlying78 hj0 hy0 hy1 hy2 rfl (by omega) (.slice (some ⟨wr.heap.size + 1, 0, none⟩) 0 0) 0 [] (by rfl) OEc (by simp) (.slice (some ⟨qb, qo, none⟩) bb qc) bb (flatO (os.take bb)) (by rfl) SQc bb (flatO (os.take bb)) (Nat.zero_add _) rfl (by unfold maxLen; omega) (by omega) (by simp; try omega) ?_; intro g1 cap1 wA hown1 hgrow1 hbg1 hlg1; have FA := bel_grown (g := wr.heap.size + 1) (hbEc.drew) hgrow1 (by omega); have KA := dfive (hK.D.later FA hK.D.lt) (hK.O.later FA hK.O.lt); have hsA' := FA.size; have hown1' := hown1; have SQ2 := (slcQ_one (BOc.kept (r := some (wr.heap.size + 1)) hgrow1 (by simp))).src; have FAO := FA; have hsA := FAO.size)
                  | (refine step_append_srcN (by rfl) _ _ _ (by rfl) wr.heap.size 97 j0 _ 4 32 Tryz.underlying78 hj0 hy0 hy1 hy2 rfl (by omega) (.slice (some ⟨g1, 0, none⟩) bb cap1) bb (flatO (os.take bb)) (by rfl) hown1' (by simp) _ 1 (flatO [(a, b, c, d)]) (by rfl) SQ2 (bb + 1) (flatO (os.take bb ++ [(a, b, c, d)])) rfl hX2.out (by unfold maxLen; omega) (by omega) hsA ?_; intro g2 cap2 wB hown2 hgrow2 hbg2 hlg2; have FB := bel_grown (g := g1) FAO hgrow2 hbg1; have KB := dfive (hK.D.later FB hK.D.lt) (hK.O.later FB hK.O.lt); have hsB := FB.size; have SQ3 := (slcQ_drop (hQr.later FB) hbk hnc (show qc ≤ maxLen by unfold maxLen; omega)).src; rw [hZ, List.length_drop] at SQ3)
                  | (refine step_append_srcN (by rfl) _ _ _ (by rfl) wr.heap.size 97 j0 _ 4 32 Tryz.underlying78 hj0 hy0 hy1 hy2 rfl (by omega) (.slice (some ⟨g2, 0, none⟩) (bb + 1) cap2) (bb + 1) (flatO (os.take bb ++ [(a, b, c, d)])) (by rfl) hown2 (by simp) (.slice Z (os.length - bb) (qc - bb)) (os.length - bb) (flatO (os.drop bb)) (by rfl) SQ3 L (flatO (putO os bb bb (a, b, c, d))) hL'.out hX3.out (by unfold maxLen; omega) (by omega) hsB ?_; intro g3 cap3 wC hown3 hgrow3 hbg3 hlg3; have FC := bel_grown (g := g2) FB hgrow3 hbg2; have KC := dfive (hK.D.later FC hK.D.lt) (hK.O.later FC hK.O.lt); have KD := dfive ((hK.D.later FC hK.D.lt).far (p := ⟨S, 4, none⟩) hSD (.slice (some ⟨g3, 0, none⟩) L cap3)) ((hK.O.later FC hK.O.lt).far (p := ⟨S, 4, none⟩) hSO (.slice (some ⟨g3, 0, none⟩) L cap3)); have yC := (hK.Y.later FC hK.Y.lt).cell 4; have fyC := (hK.Y.later FC hK.Y.lt).frozen))
              all_goals
                have HE := Lib.hid (send_mk hK FC hown3 hL.out)
                clear KA KB KC KD yC fyC hown1 hown1' hown2 hown3 SQ1 SQ2 SQ3 SQb SQc OE OEb OEc FA FAO FB FC
                go_wp2_with fail
                go_meet
                exact HE.out
            case rest =>
            clear o0 o1 o2 o3 n4 y4 fy
            obtain ⟨g3, n3, cap3, X4, Y4, R4, O4, E4, hB4⟩ := hcut
            obtain ⟨x0, x1, x2, x3, x4⟩ := X4.five
            obtain ⟨y0, y1, y2, y3, y4'⟩ := Y4.five
            have fx := X4.frozen
            have HP := Lib.hid (send_put (rt := rt) (rq := rq) (rv := rv) hlo R4 O4 E4 hB4)
            rw [← hw.out] at HP
            clear R4 O4 X4 Y4 E4
            go_wp2
            exact bodyPost_ret (v := .agg #[.int .i64 rt, .int .i64 rq, .int .i64 rv, .slice A5 ps.length c5, .slice (some ⟨g3, 0, none⟩) n3 cap3]) (by simp [results, Tryz.results96, go_sem, x0, x1, x2, x3, x4]) rfl (HP.out _ _ _ _ _)

end Go.Proofs.YtjdepjpjjgkmbaaGreat

/- The functions of certificates, second part: CertCount: its contract; up to some four million seals. -/
namespace Go.Proofs.YtjdepjpjjgkmbaaGreat
open Go.RowKit

/-- What CertCount keeps: the group, the claim, the flags. -/
structure CountAt (w0 wr : World) (J : List (Int × Int)) (s l c sh : Int) (A : Option Addr) (n cap : Nat) (ck ch ct cq cv : Int) : Prop where
  bel : Below w0.heap.size w0 wr
  gr : Box wr w0.heap.size 26 #[.int .i64 s, .int .i64 l, .int .i64 c, .int .i64 sh, .slice A n cap]
  cl : Box wr (w0.heap.size + 1) 180 #[.int .i64 ck, .int .i64 ch, .int .i64 ct, .int .i64 cq, .int .i64 cv]
  who : Box wr (w0.heap.size + 1 + 1) 255 #[.bool (fl (J) 0), .bool (fl (J) 1), .bool (fl (J) 2), .bool (fl (J) 3), .bool (fl (J) 4), .bool (fl (J) 5), .bool (fl (J) 6), .bool (fl (J) 7), .bool (fl (J) 8), .bool (fl (J) 9)]
theorem CountAt.later {w0 wr w' : World} {J : List (Int × Int)} {s l c sh : Int} {A : Option Addr} {n cap : Nat} {ck ch ct cq cv : Int} (h : CountAt w0 wr J s l c sh A n cap ck ch ct cq cv) (hb : Below wr.heap.size wr w') : CountAt w0 w' J s l c sh A n cap ck ch ct cq cv :=
  ⟨bel_trans h.bel hb, h.gr.later hb h.gr.lt, h.cl.later hb h.cl.lt, h.who.later hb h.who.lt⟩
theorem Box.put10 {w : World} {g : Nat} {t : TypeId} {v0 v1 v2 v3 v4 v5 v6 v7 v8 v9 : Value} (h : Box w g t #[v0, v1, v2, v3, v4, v5, v6, v7, v8, v9]) (u0 u1 u2 u3 u4 u5 u6 u7 u8 u9 : Value) : Box ((((((((((w.setCell ⟨g, 0, none⟩ u0).setCell ⟨g, 1, none⟩ u1).setCell ⟨g, 2, none⟩ u2).setCell ⟨g, 3, none⟩ u3).setCell ⟨g, 4, none⟩ u4).setCell ⟨g, 5, none⟩ u5).setCell ⟨g, 6, none⟩ u6).setCell ⟨g, 7, none⟩ u7).setCell ⟨g, 8, none⟩ u8).setCell ⟨g, 9, none⟩ u9) g t #[u0, u1, u2, u3, u4, u5, u6, u7, u8, u9] := by
  have h0 : Box _ g t #[u0, v1, v2, v3, v4, v5, v6, v7, v8, v9] := h.set 0 u0
  have h1 : Box _ g t #[u0, u1, v2, v3, v4, v5, v6, v7, v8, v9] := h0.set 1 u1
  have h2 : Box _ g t #[u0, u1, u2, v3, v4, v5, v6, v7, v8, v9] := h1.set 2 u2
  have h3 : Box _ g t #[u0, u1, u2, u3, v4, v5, v6, v7, v8, v9] := h2.set 3 u3
  have h4 : Box _ g t #[u0, u1, u2, u3, u4, v5, v6, v7, v8, v9] := h3.set 4 u4
  have h5 : Box _ g t #[u0, u1, u2, u3, u4, u5, v6, v7, v8, v9] := h4.set 5 u5
  have h6 : Box _ g t #[u0, u1, u2, u3, u4, u5, u6, v7, v8, v9] := h5.set 6 u6
  have h7 : Box _ g t #[u0, u1, u2, u3, u4, u5, u6, u7, v8, v9] := h6.set 7 u7
  have h8 : Box _ g t #[u0, u1, u2, u3, u4, u5, u6, u7, u8, v9] := h7.set 8 u8
  have h9 : Box _ g t #[u0, u1, u2, u3, u4, u5, u6, u7, u8, u9] := h8.set 9 u9
  exact h9
theorem Box.far10 {w : World} {g g' : Nat} {t : TypeId} {cs : Array Value} (h : Box w g' t cs) (hR : g ≠ g') (u0 u1 u2 u3 u4 u5 u6 u7 u8 u9 : Value) : Box ((((((((((w.setCell ⟨g, 0, none⟩ u0).setCell ⟨g, 1, none⟩ u1).setCell ⟨g, 2, none⟩ u2).setCell ⟨g, 3, none⟩ u3).setCell ⟨g, 4, none⟩ u4).setCell ⟨g, 5, none⟩ u5).setCell ⟨g, 6, none⟩ u6).setCell ⟨g, 7, none⟩ u7).setCell ⟨g, 8, none⟩ u8).setCell ⟨g, 9, none⟩ u9) g' t cs :=
  ((((((((((h.far (p := ⟨g, _, none⟩) hR u0).far (p := ⟨g, _, none⟩) hR u1).far (p := ⟨g, _, none⟩) hR u2).far (p := ⟨g, _, none⟩) hR u3).far (p := ⟨g, _, none⟩) hR u4).far (p := ⟨g, _, none⟩) hR u5).far (p := ⟨g, _, none⟩) hR u6).far (p := ⟨g, _, none⟩) hR u7).far (p := ⟨g, _, none⟩) hR u8).far (p := ⟨g, _, none⟩) hR u9)
/-- The flags are written anew. -/
theorem CountAt.put10 {w0 wr : World} {J : List (Int × Int)} {s l c sh : Int} {A : Option Addr} {n cap : Nat} {ck ch ct cq cv : Int} (h : CountAt w0 wr J s l c sh A n cap ck ch ct cq cv) (J' : List (Int × Int)) : CountAt w0 ((((((((((wr.setCell ⟨w0.heap.size + 1 + 1, 0, none⟩ (.bool (fl J' 0))).setCell ⟨w0.heap.size + 1 + 1, 1, none⟩ (.bool (fl J' 1))).setCell ⟨w0.heap.size + 1 + 1, 2, none⟩ (.bool (fl J' 2))).setCell ⟨w0.heap.size + 1 + 1, 3, none⟩ (.bool (fl J' 3))).setCell ⟨w0.heap.size + 1 + 1, 4, none⟩ (.bool (fl J' 4))).setCell ⟨w0.heap.size + 1 + 1, 5, none⟩ (.bool (fl J' 5))).setCell ⟨w0.heap.size + 1 + 1, 6, none⟩ (.bool (fl J' 6))).setCell ⟨w0.heap.size + 1 + 1, 7, none⟩ (.bool (fl J' 7))).setCell ⟨w0.heap.size + 1 + 1, 8, none⟩ (.bool (fl J' 8))).setCell ⟨w0.heap.size + 1 + 1, 9, none⟩ (.bool (fl J' 9))) J' s l c sh A n cap ck ch ct cq cv :=
  ⟨bel_ten h.bel (by omega) _ _ _ _ _ _ _ _ _ _, h.gr.far10 (by omega) _ _ _ _ _ _ _ _ _ _, h.cl.far10 (by omega) _ _ _ _ _ _ _ _ _ _, h.who.put10 _ _ _ _ _ _ _ _ _ _⟩

set_option maxRecDepth 100000 in
set_option maxHeartbeats 2000000 in
theorem count_is (s l c sh : Int) (A : Option Addr) (n cap : Nat) (zs : List Int) (ck ch ct cq cv : Int) (P : Option Addr) (m pcap : Nat) (ps : List (Int × Int)) (w : World) (hm : n ≤ maxLen) (hr : Row w w.heap.size A n zs) (hn : m ≤ 4194304) (h : Pairs w w.heap.size P m ps) :
    Calls Tryz.prog 242 #[.agg #[.int .i64 s, .int .i64 l, .int .i64 c, .int .i64 sh, .slice A n cap], .agg #[.int .i64 ck, .int .i64 ch, .int .i64 ct, .int .i64 cq, .int .i64 cv], .slice P m pcap] w fun e w' => e = .returned (.int .i64 (cntN s l c sh zs ck ch ct cq cv ps)) ∧ Below w.heap.size w w' := by
  have K0 : CountAt w (((w.alloc (.cells #[.int .i64 s, .int .i64 l, .int .i64 c, .int .i64 sh, .slice A n cap] 26)).alloc (.cells #[.int .i64 ck, .int .i64 ch, .int .i64 ct, .int .i64 cq, .int .i64 cv] 180)).alloc (.cells #[.bool false, .bool false, .bool false, .bool false, .bool false, .bool false, .bool false, .bool false, .bool false, .bool false] 255)) [] s l c sh A n cap ck ch ct cq cv := by
    refine ⟨bel_trans (bel_trans (bel_alloc _ _) (bel_alloc _ _)) (bel_alloc _ _), ((Box.new w _ _).alloc _).alloc _, ?_, ?_⟩
    · have := (Box.new (w.alloc (.cells #[.int .i64 s, .int .i64 l, .int .i64 c, .int .i64 sh, .slice A n cap] 26)) 180 #[.int .i64 ck, .int .i64 ch, .int .i64 ct, .int .i64 cq, .int .i64 cv]).alloc (.cells #[.bool false, .bool false, .bool false, .bool false, .bool false, .bool false, .bool false, .bool false, .bool false, .bool false] 255)
      simp only [World.size_alloc] at this
      exact this
    · have := Box.new ((w.alloc (.cells #[.int .i64 s, .int .i64 l, .int .i64 c, .int .i64 sh, .slice A n cap] 26)).alloc (.cells #[.int .i64 ck, .int .i64 ch, .int .i64 ct, .int .i64 cq, .int .i64 cv] 180)) 255 #[.bool false, .bool false, .bool false, .bool false, .bool false, .bool false, .bool false, .bool false, .bool false, .bool false]
      simp only [World.size_alloc] at this
      exact this
  have HR := Lib.hid hr
  have HM := Lib.hid hm
  have HP := Lib.hid h
  have hl := Lib.hid h.1
  clear h hr hm
  unfold cntN
  generalize hR : rB s l c sh zs ck ch ct cq cv = R
  have HRR := Lib.hid hR
  clear hR
  go_enter Tryz.func242, Tryz.ntmps242
  go_wp2_with fail
  generalize (((w.alloc _).alloc _).alloc _ : World) = w1 at K0 ⊢
  go_loopw [8, 14] (fun nv iv wr => ∃ (k : Nat) (J : List (Int × Int)), k ≤ m ∧ iv = .int .i64 k ∧ nv = .int .i64 J.length ∧ J = goodP R (ps.take k) ∧ CountAt w wr J s l c sh A n cap ck ch ct cq cv) (fun _ i _ => m - (intOf i).toNat)
  case atStart => exact ⟨0, [], Nat.zero_le _, rfl, rfl, by simp [goodP_nil], K0⟩
  case round =>
    obtain ⟨k, J, hk, rfl, rfl, hJ, hK⟩ := hrel
    by_cases hlt : k < m
    · have hlt' : (k : Int) < (m : Int) := by omega
      obtain ⟨b, o, hA, hbB, hcell⟩ := HP.out.2 (by omega)
      subst hA
      obtain ⟨c0, c1⟩ := hcell k hlt
      replace c0 := (hK.bel.cell (p := ⟨b, o + k * 2, none⟩) hbB).trans c0
      replace c1 := (hK.bel.cell (p := ⟨b, o + k * 2 + 1, none⟩) hbB).trans c1
      have hyes := Lib.hid (goodP_yes (R := R) (ps := ps) (k := k) (by rw [hl.out]; exact hlt))
      have hno := Lib.hid (goodP_no (R := R) (ps := ps) (k := k) (by rw [hl.out]; exact hlt))
      rw [← hJ] at hyes hno
      have hJl : J.length ≤ 4194304 := by
        rw [hJ]
        have := goodP_le R (ps.take k)
        rw [List.length_take] at this
        omega
      generalize hy : pth ps k = y at c0 c1 hyes hno
      obtain ⟨y, y'⟩ := y
      replace hJ := Lib.hid hJ
      replace hy := Lib.hid hy
      clear hcell
      have K2 := hK.later (bel_alloc wr (.cells #[.int .i64 y, .int .i64 y'] 136))
      have DS := Box.new wr 136 #[.int .i64 y, .int .i64 y']
      go_upto_region 6 with fail
      generalize (wr.alloc _ : World) = w2 at K2 DS ⊢
      generalize wr.heap.size = S at DS ⊢
      obtain ⟨p0, p1⟩ := DS.two
      obtain ⟨d0, d1, d2, d3, d4, x0, x1, x2, x3, x4⟩ := ten K2.gr K2.cl
      obtain ⟨e0, e1, e2, e3, e4, e5, e6, e7, e8, e9⟩ := K2.who.ten'
      have hrow := Lib.hid ((HR.out.below K2.bel (Nat.le_refl _)).more K2.bel.size)
      have HK2 := Lib.hid K2
      clear hK K0
      rcases hRy : R (y, y') with _ | _
      · have HY : Hid (rB s l c sh zs ck ch ct cq cv (y, y') = false) := by rw [HRR.out]; exact hRy
        replace hno := Lib.hid (hno.out hRy)
        clear hRy
        go_wp2_with fail
        refine (and_no J s l c sh A n cap zs ck ch ct cq cv y y' w2 HY.out HM.out hrow.out).mono ?_
        rintro e w3 ⟨rfl, hb3⟩
        clear p0 p1 d0 d1 d2 d3 d4 x0 x1 x2 x3 x4 e0 e1 e2 e3 e4 e5 e6 e7 e8 e9
        have K3 := K2.later hb3
        have DM := Box.new w3 255 #[.bool (fl (J) 0), .bool (fl (J) 1), .bool (fl (J) 2), .bool (fl (J) 3), .bool (fl (J) 4), .bool (fl (J) 5), .bool (fl (J) 6), .bool (fl (J) 7), .bool (fl (J) 8), .bool (fl (J) 9)]
        have K4 := K3.later (bel_alloc w3 (.cells #[.bool (fl (J) 0), .bool (fl (J) 1), .bool (fl (J) 2), .bool (fl (J) 3), .bool (fl (J) 4), .bool (fl (J) 5), .bool (fl (J) 6), .bool (fl (J) 7), .bool (fl (J) 8), .bool (fl (J) 9)] 255))
        clear K2 DS hb3 K3 HK2
        go_upto_region 7 with fail
        generalize (w3.alloc _ : World) = w4 at DM K4 ⊢
        generalize w3.heap.size = M at DM ⊢
        obtain ⟨d0, d1, d2, d3, d4, d5, d6, d7, d8, d9⟩ := K4.who.ten'
        obtain ⟨e0, e1, e2, e3, e4, e5, e6, e7, e8, e9⟩ := DM.ten'
        have HK4 := Lib.hid K4
        have hq := eqFlags_same J
        clear K4
        go_wp2
        go_roundw
        case rel => exact ⟨k + 1, J, by omega, by go_num, rfl, hno.out.symm, HK4.out⟩
        case measure => simp [intOf]; omega
      · have HY : Hid (rB s l c sh zs ck ch ct cq cv (y, y') = true) := by rw [HRR.out]; exact hRy
        replace hyes := Lib.hid (hyes.out hRy)
        have hy0 : 0 ≤ y := (rB_who HY.out).1
        have hy1 : y < 10 := Int.lt_of_lt_of_le (rB_who HY.out).2.1 (rB_who HY.out).2.2
        clear hRy
        have CC := and_yes J s l c sh A n cap zs ck ch ct cq cv y y' w2 HY.out HM.out hrow.out
        rcases hb : has J y with _ | _
        · obtain ⟨J', hJ'⟩ : ∃ J', put J (y, y') = J' := ⟨_, rfl⟩
          have hJl' : J'.length = J.length + 1 := by rw [← hJ', put_len]; simp [hb]
          rw [hJ'] at CC
          replace hyes : Hid (goodP R (ps.take (k + 1)) = J') := by rw [← hJ']; exact hyes.out
          replace hJ' := Lib.hid hJ'
          replace hJl' := Lib.hid hJl'
          have HC := Lib.hid CC
          clear CC
          go_wp2_with fail
          refine HC.out.mono ?_
          rintro e w3 ⟨rfl, hb3⟩
          clear HC p0 p1 d0 d1 d2 d3 d4 x0 x1 x2 x3 x4 e0 e1 e2 e3 e4 e5 e6 e7 e8 e9
          have K3 := K2.later hb3
          have DM := Box.new w3 255 #[.bool (fl (J') 0), .bool (fl (J') 1), .bool (fl (J') 2), .bool (fl (J') 3), .bool (fl (J') 4), .bool (fl (J') 5), .bool (fl (J') 6), .bool (fl (J') 7), .bool (fl (J') 8), .bool (fl (J') 9)]
          have K4 := K3.later (bel_alloc w3 (.cells #[.bool (fl (J') 0), .bool (fl (J') 1), .bool (fl (J') 2), .bool (fl (J') 3), .bool (fl (J') 4), .bool (fl (J') 5), .bool (fl (J') 6), .bool (fl (J') 7), .bool (fl (J') 8), .bool (fl (J') 9)] 255))
          have hM : w.heap.size + 1 + 1 < w3.heap.size := K3.who.lt
          clear K2 DS hb3 K3 HK2
          go_upto_region 7 with fail
          generalize (w3.alloc _ : World) = w4 at DM K4 ⊢
          generalize w3.heap.size = M at DM hM ⊢
          obtain ⟨d0, d1, d2, d3, d4, d5, d6, d7, d8, d9⟩ := K4.who.ten'
          obtain ⟨e0, e1, e2, e3, e4, e5, e6, e7, e8, e9⟩ := DM.ten'
          have hq := eqFlags_more J J' y.toNat (by omega) (by unfold fl; rw [show (y.toNat : Int) = y by omega]; exact hb) (by rw [← hJ'.out, fl_put]; simp; right; omega)
          have fz := K4.who.frozen
          have hne : M ≠ w.heap.size + 1 + 1 := by omega
          have hne' : w.heap.size + 1 + 1 ≠ M := by omega
          have HK5 := Lib.hid (CountAt.put10 K4 J')
          clear K4
          go_wp2
          go_roundw
          case rel => exact ⟨k + 1, J', by omega, by go_num, vint (by have := hJl'.out; omega), hyes.out.symm, HK5.out⟩
          case measure => simp [intOf]; omega
        · have hpj : put J (y, y') = J := by simp [put, hb]
          rw [hpj] at CC
          replace hyes : Hid (goodP R (ps.take (k + 1)) = J) := by rw [hyes.out]; exact hpj
          have HC := Lib.hid CC
          clear CC hpj hb
          go_wp2_with fail
          refine HC.out.mono ?_
          rintro e w3 ⟨rfl, hb3⟩
          clear HC p0 p1 d0 d1 d2 d3 d4 x0 x1 x2 x3 x4 e0 e1 e2 e3 e4 e5 e6 e7 e8 e9
          have K3 := K2.later hb3
          have DM := Box.new w3 255 #[.bool (fl (J) 0), .bool (fl (J) 1), .bool (fl (J) 2), .bool (fl (J) 3), .bool (fl (J) 4), .bool (fl (J) 5), .bool (fl (J) 6), .bool (fl (J) 7), .bool (fl (J) 8), .bool (fl (J) 9)]
          have K4 := K3.later (bel_alloc w3 (.cells #[.bool (fl (J) 0), .bool (fl (J) 1), .bool (fl (J) 2), .bool (fl (J) 3), .bool (fl (J) 4), .bool (fl (J) 5), .bool (fl (J) 6), .bool (fl (J) 7), .bool (fl (J) 8), .bool (fl (J) 9)] 255))
          clear K2 DS hb3 K3 HK2
          go_upto_region 7 with fail
          generalize (w3.alloc _ : World) = w4 at DM K4 ⊢
          generalize w3.heap.size = M at DM ⊢
          obtain ⟨d0, d1, d2, d3, d4, d5, d6, d7, d8, d9⟩ := K4.who.ten'
          obtain ⟨e0, e1, e2, e3, e4, e5, e6, e7, e8, e9⟩ := DM.ten'
          have HK4 := Lib.hid K4
          have hq := eqFlags_same J
          clear K4
          go_wp2
          go_roundw
          case rel => exact ⟨k + 1, J, by omega, by go_num, rfl, hyes.out.symm, HK4.out⟩
          case measure => simp [intOf]; omega
    · obtain rfl : k = m := by omega
      rw [← hl.out, List.take_length] at hJ
      replace hJ := Lib.hid hJ
      go_wp2
      go_ret
      rw [← hJ.out]
      exact ⟨rfl, hK.bel⟩

end Go.Proofs.YtjdepjpjjgkmbaaGreat

/- CertOk and ProvenOk, and their models: contracts of each of them; up to some four million seals. -/
namespace Go.Proofs.YtjdepjpjjgkmbaaGreat
open Go.RowKit

set_option maxRecDepth 100000 in
set_option maxHeartbeats 2000000 in
theorem certOk_is (s l c sh : Int) (A : Option Addr) (n cap : Nat) (zs : List Int) (ck ch ct cq cv : Int) (P : Option Addr) (m pcap : Nat) (ps : List (Int × Int)) (w : World) (hm : n ≤ maxLen) (hr : Row w w.heap.size A n zs) (hn : m ≤ 4194304) (h : Pairs w w.heap.size P m ps) :
    Calls Tryz.prog 234 #[.agg #[.int .i64 s, .int .i64 l, .int .i64 c, .int .i64 sh, .slice A n cap], .agg #[.int .i64 ck, .int .i64 ch, .int .i64 ct, .int .i64 cq, .int .i64 cv], .slice P m pcap] w fun e w' => e = .returned (.bool (cerB s l c sh zs ck ch ct cq cv ps)) ∧ Below w.heap.size w w' := by
  have E0 := bel_trans (bel_alloc w (.cells #[.int .i64 s, .int .i64 l, .int .i64 c, .int .i64 sh, .slice A n cap] 26)) (bel_alloc _ (.cells #[.int .i64 ck, .int .i64 ch, .int .i64 ct, .int .i64 cq, .int .i64 cv] 180))
  have DG := (Box.new w 26 #[.int .i64 s, .int .i64 l, .int .i64 c, .int .i64 sh, .slice A n cap]).alloc (.cells #[.int .i64 ck, .int .i64 ch, .int .i64 ct, .int .i64 cq, .int .i64 cv] 180)
  have DC := Box.new (w.alloc (.cells #[.int .i64 s, .int .i64 l, .int .i64 c, .int .i64 sh, .slice A n cap] 26)) 180 #[.int .i64 ck, .int .i64 ch, .int .i64 ct, .int .i64 cq, .int .i64 cv]
  simp only [World.size_alloc] at DC
  have HR := Lib.hid ((hr.below E0 (Nat.le_refl _)).more E0.size)
  have HM := Lib.hid hm
  have HP := Lib.hid (h.later E0)
  have hl := Lib.hid h.1
  have hN := Lib.hid hn
  clear h hr hm
  have hcer : Hid (cerB s l c sh zs ck ch ct cq cv ps = (okB s l c sh zs && decide ((m : Int) ≤ 20) && decide (quoN s l c sh zs ≤ cntN s l c sh zs ck ch ct cq cv ps))) := by
    unfold cerB
    rw [hl.out]
    exact rfl
  go_enter Tryz.func234, Tryz.ntmps234
  go_wp2_with fail
  generalize ((w.alloc _).alloc _ : World) = w1 at E0 DG DC HR HP ⊢
  obtain ⟨f0, f1, f2, f3, f4⟩ := fiveAfter DG
  obtain ⟨f5, f6, f7, f8, f9⟩ := fiveAfter DC
  rcases hok : okB s l c sh zs with _ | _
  · have HO := Lib.hid hok
    clear hok
    refine wp_region_after (by kernel_rfl) (by kernel_rfl) ?_
    repeat (first | go_big_quiet_step ((go_at_call 175; exact after_of (groupB_is HO.out _ n cap _ HM.out (rowAfter HR.out _)))) | quiet_step ((go_at_call 175; exact after_of (groupB_is HO.out _ n cap _ HM.out (rowAfter HR.out _)))))
    refine wpQuiet_nil ?_
    intro pw
    go_wp2
    go_ret
    exact ⟨by rw [hcer.out, HO.out]; rfl, bel_trans E0 pw.bel⟩
  · have HO := Lib.hid hok
    clear hok
    by_cases h20 : m ≤ 20
    · have h20' : (m : Int) ≤ 20 := by omega
      refine wp_region_after (by kernel_rfl) (by kernel_rfl) ?_
      repeat (first | go_big_quiet_step (first
        | (go_at_call 175; exact after_of (groupB_is HO.out _ n cap _ HM.out (rowAfter HR.out _)))
        | (go_at_call 242; exact after_of (count_is s l c sh _ n cap zs ck ch ct cq cv _ m pcap ps _ HM.out (rowAfter HR.out _) hN.out (pairsAfter HP.out _)))
        | (go_at_call 243; exact after_of (quorum_any s l c sh _ n cap zs _ HM.out (rowAfter HR.out _)))) | quiet_step (first
        | (go_at_call 175; exact after_of (groupB_is HO.out _ n cap _ HM.out (rowAfter HR.out _)))
        | (go_at_call 242; exact after_of (count_is s l c sh _ n cap zs ck ch ct cq cv _ m pcap ps _ HM.out (rowAfter HR.out _) hN.out (pairsAfter HP.out _)))
        | (go_at_call 243; exact after_of (quorum_any s l c sh _ n cap zs _ HM.out (rowAfter HR.out _)))))
      refine wpQuiet_nil ?_
      intro pw
      go_wp2
      go_ret
      exact ⟨by rw [hcer.out, HO.out]; simp [h20'], bel_trans E0 pw.bel⟩
    · have h20' : ¬ (m : Int) ≤ 20 := by omega
      have h20d := Lib.hid (show decide ((m : Int) ≤ 20) = false by simpa using h20')
      refine wp_region_after (by kernel_rfl) (by kernel_rfl) ?_
      repeat (first | go_big_quiet_step ((go_at_call 175; exact after_of (groupB_is HO.out _ n cap _ HM.out (rowAfter HR.out _)))) | quiet_step ((go_at_call 175; exact after_of (groupB_is HO.out _ n cap _ HM.out (rowAfter HR.out _)))))
      refine wpQuiet_nil ?_
      intro pw
      go_wp2
      go_ret
      exact ⟨by rw [hcer.out, HO.out, h20d.out]; rfl, bel_trans E0 pw.bel⟩

set_option maxRecDepth 100000 in
set_option maxHeartbeats 2000000 in
theorem specCertOk_is (s l c sh : Int) (A : Option Addr) (n cap : Nat) (zs : List Int) (ck ch ct cq cv : Int) (P : Option Addr) (m pcap : Nat) (ps : List (Int × Int)) (w : World) (hm : n ≤ maxLen) (hr : Row w w.heap.size A n zs) (hn : m ≤ 4194304) (h : Pairs w w.heap.size P m ps) :
    Calls Tryz.prog 199 #[.agg #[.int .i64 s, .int .i64 l, .int .i64 c, .int .i64 sh, .slice A n cap], .agg #[.int .i64 ck, .int .i64 ch, .int .i64 ct, .int .i64 cq, .int .i64 cv], .slice P m pcap] w fun e w' => e = .returned (.bool (cerB s l c sh zs ck ch ct cq cv ps)) ∧ Below w.heap.size w w' := by
  have E0 := bel_trans (bel_alloc w (.cells #[.int .i64 s, .int .i64 l, .int .i64 c, .int .i64 sh, .slice A n cap] 26)) (bel_alloc _ (.cells #[.int .i64 ck, .int .i64 ch, .int .i64 ct, .int .i64 cq, .int .i64 cv] 180))
  have DG := (Box.new w 26 #[.int .i64 s, .int .i64 l, .int .i64 c, .int .i64 sh, .slice A n cap]).alloc (.cells #[.int .i64 ck, .int .i64 ch, .int .i64 ct, .int .i64 cq, .int .i64 cv] 180)
  have DC := Box.new (w.alloc (.cells #[.int .i64 s, .int .i64 l, .int .i64 c, .int .i64 sh, .slice A n cap] 26)) 180 #[.int .i64 ck, .int .i64 ch, .int .i64 ct, .int .i64 cq, .int .i64 cv]
  simp only [World.size_alloc] at DC
  have HR := Lib.hid ((hr.below E0 (Nat.le_refl _)).more E0.size)
  have HM := Lib.hid hm
  have HP := Lib.hid (h.later E0)
  have hl := Lib.hid h.1
  have hN := Lib.hid hn
  clear h hr hm
  have hcer : Hid (cerB s l c sh zs ck ch ct cq cv ps = (okB s l c sh zs && decide ((m : Int) ≤ 20) && decide (quoN s l c sh zs ≤ cntN s l c sh zs ck ch ct cq cv ps))) := by
    unfold cerB
    rw [hl.out]
    exact rfl
  go_enter Tryz.func199, Tryz.ntmps199
  go_wp2_with fail
  generalize ((w.alloc _).alloc _ : World) = w1 at E0 DG DC HR HP ⊢
  obtain ⟨f0, f1, f2, f3, f4⟩ := fiveAfter DG
  obtain ⟨f5, f6, f7, f8, f9⟩ := fiveAfter DC
  rcases hok : okB s l c sh zs with _ | _
  · have HO := Lib.hid hok
    clear hok
    refine wp_region_after (by kernel_rfl) (by kernel_rfl) ?_
    repeat (first | go_big_quiet_step ((go_at_call 133; exact after_of (specGroupB_is HO.out _ n cap _ HM.out (rowAfter HR.out _)))) | quiet_step ((go_at_call 133; exact after_of (specGroupB_is HO.out _ n cap _ HM.out (rowAfter HR.out _)))))
    refine wpQuiet_nil ?_
    intro pw
    go_wp2
    go_ret
    exact ⟨by rw [hcer.out, HO.out]; rfl, bel_trans E0 pw.bel⟩
  · have HO := Lib.hid hok
    clear hok
    by_cases h20 : m ≤ 20
    · have h20' : (m : Int) ≤ 20 := by omega
      refine wp_region_after (by kernel_rfl) (by kernel_rfl) ?_
      repeat (first | go_big_quiet_step (first
        | (go_at_call 133; exact after_of (specGroupB_is HO.out _ n cap _ HM.out (rowAfter HR.out _)))
        | (go_at_call 228; exact after_of (specCount_is s l c sh _ n cap zs ck ch ct cq cv _ m pcap ps _ HM.out (rowAfter HR.out _) hN.out (pairsAfter HP.out _)))
        | (go_at_call 183; exact after_of (specQuorum_any s l c sh _ n cap zs _ HM.out (rowAfter HR.out _)))) | quiet_step (first
        | (go_at_call 133; exact after_of (specGroupB_is HO.out _ n cap _ HM.out (rowAfter HR.out _)))
        | (go_at_call 228; exact after_of (specCount_is s l c sh _ n cap zs ck ch ct cq cv _ m pcap ps _ HM.out (rowAfter HR.out _) hN.out (pairsAfter HP.out _)))
        | (go_at_call 183; exact after_of (specQuorum_any s l c sh _ n cap zs _ HM.out (rowAfter HR.out _)))))
      refine wpQuiet_nil ?_
      intro pw
      go_wp2
      go_ret
      exact ⟨by rw [hcer.out, HO.out]; simp [h20'], bel_trans E0 pw.bel⟩
    · have h20' : ¬ (m : Int) ≤ 20 := by omega
      have h20d := Lib.hid (show decide ((m : Int) ≤ 20) = false by simpa using h20')
      refine wp_region_after (by kernel_rfl) (by kernel_rfl) ?_
      repeat (first | go_big_quiet_step ((go_at_call 133; exact after_of (specGroupB_is HO.out _ n cap _ HM.out (rowAfter HR.out _)))) | quiet_step ((go_at_call 133; exact after_of (specGroupB_is HO.out _ n cap _ HM.out (rowAfter HR.out _)))))
      refine wpQuiet_nil ?_
      intro pw
      go_wp2
      go_ret
      exact ⟨by rw [hcer.out, HO.out, h20d.out]; rfl, bel_trans E0 pw.bel⟩


theorem certB_is {s l c sh : Int} {zs : List Int} {ck ch ct cq cv : Int} {ps : List (Int × Int)} {b : Bool} (hb : cerB s l c sh zs ck ch ct cq cv ps = b) (A : Option Addr) (n cap : Nat) (P : Option Addr) (m pcap : Nat) (w : World) (hm : n ≤ maxLen) (hr : Row w w.heap.size A n zs) (hn : m ≤ 4194304) (h : Pairs w w.heap.size P m ps) :
    Calls Tryz.prog 234 #[.agg #[.int .i64 s, .int .i64 l, .int .i64 c, .int .i64 sh, .slice A n cap], .agg #[.int .i64 ck, .int .i64 ch, .int .i64 ct, .int .i64 cq, .int .i64 cv], .slice P m pcap] w fun e w' => e = .returned (.bool b) ∧ Below w.heap.size w w' := hb ▸ certOk_is s l c sh A n cap zs ck ch ct cq cv P m pcap ps w hm hr hn h
theorem specCertB_is {s l c sh : Int} {zs : List Int} {ck ch ct cq cv : Int} {ps : List (Int × Int)} {b : Bool} (hb : cerB s l c sh zs ck ch ct cq cv ps = b) (A : Option Addr) (n cap : Nat) (P : Option Addr) (m pcap : Nat) (w : World) (hm : n ≤ maxLen) (hr : Row w w.heap.size A n zs) (hn : m ≤ 4194304) (h : Pairs w w.heap.size P m ps) :
    Calls Tryz.prog 199 #[.agg #[.int .i64 s, .int .i64 l, .int .i64 c, .int .i64 sh, .slice A n cap], .agg #[.int .i64 ck, .int .i64 ch, .int .i64 ct, .int .i64 cq, .int .i64 cv], .slice P m pcap] w fun e w' => e = .returned (.bool b) ∧ Below w.heap.size w w' := hb ▸ specCertOk_is s l c sh A n cap zs ck ch ct cq cv P m pcap ps w hm hr hn h

end Go.Proofs.YtjdepjpjjgkmbaaGreat

/- ProvenOk and its model: contracts of each of them; up to some four million seals. -/
namespace Go.Proofs.YtjdepjpjjgkmbaaGreat
open Go.RowKit

theorem proB_eq (s l c sh : Int) (zs : List Int) (x ct cq v : Int) (ps : List (Int × Int)) : proB s l c sh zs x ct cq v ps = (shfB s l c sh zs x && (nilB ct cq v || cerB s l c sh zs 1 x ct cq v ps)) := rfl

set_option maxRecDepth 100000 in
set_option maxHeartbeats 2000000 in
theorem proven_is (s l c sh : Int) (A : Option Addr) (n cap : Nat) (zs : List Int) (x ct cq v : Int) (P : Option Addr) (m pcap : Nat) (ps : List (Int × Int)) (w : World) (hm : n ≤ maxLen) (hr : Row w w.heap.size A n zs) (hn : m ≤ 4194304) (h : Pairs w w.heap.size P m ps) :
    Calls Tryz.prog 209 #[.agg #[.int .i64 s, .int .i64 l, .int .i64 c, .int .i64 sh, .slice A n cap], .int .i64 x, .agg #[.int .i64 ct, .int .i64 cq], .int .i64 v, .slice P m pcap] w fun e w' => e = .returned (.bool (proB s l c sh zs x ct cq v ps)) ∧ Below w.heap.size w w' := by
  rw [proB_eq]
  have E0 := bel_trans (bel_alloc w (.cells #[.int .i64 s, .int .i64 l, .int .i64 c, .int .i64 sh, .slice A n cap] 26)) (bel_alloc _ (.cells #[.int .i64 ct, .int .i64 cq] 39))
  have DG := (Box.new w 26 #[.int .i64 s, .int .i64 l, .int .i64 c, .int .i64 sh, .slice A n cap]).alloc (.cells #[.int .i64 ct, .int .i64 cq] 39)
  have DT := Box.new (w.alloc (.cells #[.int .i64 s, .int .i64 l, .int .i64 c, .int .i64 sh, .slice A n cap] 26)) 39 #[.int .i64 ct, .int .i64 cq]
  simp only [World.size_alloc] at DT
  have HR := Lib.hid ((hr.below E0 (Nat.le_refl _)).more E0.size)
  have HM := Lib.hid hm
  have HP := Lib.hid (h.later E0)
  have hN := Lib.hid hn
  clear h hr hm
  obtain ⟨d0, d1, d2, d3, d4⟩ := DG.five
  go_enter Tryz.func209, Tryz.ntmps209
  go_wp2_with fail
  generalize ((w.alloc _).alloc _ : World) = w1 at E0 DG DT HR HP d0 d1 d2 d3 d4 ⊢
  rcases hsf : shfB s l c sh zs x with _ | _
  · have HO := Lib.hid hsf
    clear hsf
    refine (isShelfB_is HO.out A n cap w1 HM.out HR.out).mono ?_
    rintro e w2 ⟨rfl, hb2⟩
    have E2 := bel_trans E0 hb2
    go_wp2
    go_ret
    exact ⟨by first | rfl | (rw [HO.out]; rfl), E2⟩
  · have HO := Lib.hid hsf
    clear hsf
    refine (isShelfB_is HO.out A n cap w1 HM.out HR.out).mono ?_
    rintro e w2 ⟨rfl, hb2⟩
    have E2 := bel_trans E0 hb2
    have DG2 := DG.later hb2 DG.lt
    have DT2 := DT.later hb2 DT.lt
    have HR2 := Lib.hid ((HR.out.below hb2 (Nat.le_refl _)).more hb2.size)
    have HP2 := Lib.hid (HP.out.later hb2)
    clear d0 d1 d2 d3 d4 DG DT HR HP hb2 E0
    obtain ⟨d0, d1, d2, d3, d4⟩ := DG2.five
    obtain ⟨t0, t1⟩ := DT2.two
    rcases hc : cerB s l c sh zs 1 x ct cq v ps with _ | _
    all_goals (
      have HC := Lib.hid hc
      clear hc
      rcases nil_cases ct cq v with ⟨rfl, rfl, rfl, hnil⟩ | ⟨hnil, hcase⟩
      · have HNL := Lib.hid hnil
        clear hnil
        go_wp2
        go_ret
        exact ⟨by first | rfl | (rw [HNL.out]; rfl) | (rw [HO.out, HNL.out]; rfl), E2⟩
      · have HNL := Lib.hid hnil
        clear hnil
        rcases hcase with h1 | ⟨h1, h2⟩ | ⟨rfl, rfl, h2⟩
        all_goals (
          go_wp2_with fail
          refine (certB_is HC.out A n cap P m pcap w2 HM.out HR2.out hN.out HP2.out).mono ?_
          rintro e w3 ⟨rfl, hb3⟩
          have E3 := bel_trans E2 hb3
          go_wp2
          go_ret
          exact ⟨by first | rfl | (rw [HNL.out]; rfl) | (rw [HO.out, HNL.out]; rfl) | (rw [HNL.out, HC.out]; rfl) | (rw [HO.out, HNL.out, HC.out]; rfl), E3⟩))

end Go.Proofs.YtjdepjpjjgkmbaaGreat

/- The functions of certificates, third part: GoodSeals: its contract; up to some two million seals. -/
namespace Go.Proofs.YtjdepjpjjgkmbaaGreat
open Go.RowKit

/-- What GoodSeals keeps: the group, the claim, the right ones so far. -/
structure GoodAt (w0 wr : World) (q cap' : Nat) (o : List (Int × Int)) (s l c sh : Int) (A : Option Addr) (n cap : Nat) (ck ch ct cq cv : Int) : Prop where
  bel : Below w0.heap.size w0 wr
  gr : Box wr w0.heap.size 26 #[.int .i64 s, .int .i64 l, .int .i64 c, .int .i64 sh, .slice A n cap]
  cl : Box wr (w0.heap.size + 1) 180 #[.int .i64 ck, .int .i64 ch, .int .i64 ct, .int .i64 cq, .int .i64 cv]
  own : wr.ownsRow (w0.heap.size + 2) 136 2 (.slice (some ⟨q, 0, none⟩) o.length cap') o.length (flatP o)
theorem GoodAt.later {w0 wr w' : World} {q cap' : Nat} {o : List (Int × Int)} {s l c sh : Int} {A : Option Addr} {n cap : Nat} {ck ch ct cq cv : Int} (h : GoodAt w0 wr q cap' o s l c sh A n cap ck ch ct cq cv) (hb : Below wr.heap.size wr w') : GoodAt w0 w' q cap' o s l c sh A n cap ck ch ct cq cv :=
  ⟨bel_trans h.bel hb, h.gr.later hb h.gr.lt, h.cl.later hb h.cl.lt, h.own.kept (grown_bel hb none) (by simp [Value.ownBlock])⟩
theorem GoodAt.push {w0 wr w2 : World} {q cap' gg cap2 : Nat} {o : List (Int × Int)} {s l c sh : Int} {A : Option Addr} {n cap : Nat} {ck ch ct cq cv : Int} {a b : Int} {ob : Obj} (h : GoodAt w0 wr q cap' o s l c sh A n cap ck ch ct cq cv)
    (hown : w2.ownsRow (w0.heap.size + 2) 136 2 (.slice (some ⟨gg, 0, none⟩) (o.length + 1) cap2) (o.length + 1) (flatP o ++ [.int .i64 a, .int .i64 b])) (hg : (wr.alloc ob).grownBy w2 (Value.ownBlock (.slice (some ⟨q, 0, none⟩) o.length cap'))) : GoodAt w0 w2 gg cap2 (o ++ [(a, b)]) s l c sh A n cap ck ch ct cq cv := by
  have hq := (h.own.lt q rfl).1
  have hg : (wr.alloc ob).grownBy w2 (some q) := hg
  refine ⟨bel_grown (bel_trans h.bel (bel_alloc wr ob)) hg (by omega), (h.gr.alloc ob).kept hg (by intro e; injection e with e; omega), (h.cl.alloc ob).kept hg (by intro e; injection e with e; omega), ?_⟩
  rw [flatP_snoc]
  simpa using hown
theorem filter_take {R : Int × Int → Bool} {ps : List (Int × Int)} {k : Nat} (h : k < ps.length) : (ps.take (k + 1)).filter R = (ps.take k).filter R ++ if R (pth ps k) then [pth ps k] else [] := by
  rw [List.take_succ_eq_append_getElem h, ← pth_lt h, List.filter_append]
  rcases hR : R (pth ps k) with _ | _ <;> simp [hR]

set_option maxRecDepth 100000 in
set_option maxHeartbeats 2000000 in
theorem good_is (s l c sh : Int) (A : Option Addr) (n cap : Nat) (zs : List Int) (ck ch ct cq cv : Int) (P : Option Addr) (m pcap : Nat) (ps : List (Int × Int)) (w : World) (hm : n ≤ maxLen) (hr : Row w w.heap.size A n zs) (hn : m ≤ 4194304) (h : Pairs w w.heap.size P m ps) :
    Calls Tryz.prog 239 #[.agg #[.int .i64 s, .int .i64 l, .int .i64 c, .int .i64 sh, .slice A n cap], .agg #[.int .i64 ck, .int .i64 ch, .int .i64 ct, .int .i64 cq, .int .i64 cv], .slice P m pcap] w fun e w' => ∃ u, e = .returned u ∧ Own w u (goodP (rB s l c sh zs ck ch ct cq cv) ps) w' := by
  obtain ⟨i0, hi0, hz0, hz1, hz2⟩ := info_parts Tryz.infoSealI
  have K0 : GoodAt w (((w.alloc (.cells #[.int .i64 s, .int .i64 l, .int .i64 c, .int .i64 sh, .slice A n cap] 26)).alloc (.cells #[.int .i64 ck, .int .i64 ch, .int .i64 ct, .int .i64 cq, .int .i64 cv] 180)).alloc (.cells #[] 136)) (w.heap.size + 1 + 1) 0 [] s l c sh A n cap ck ch ct cq cv := by
    refine ⟨bel_trans (bel_trans (bel_alloc _ _) (bel_alloc _ _)) (bel_alloc _ _), ((Box.new w _ _).alloc _).alloc _, ?_, ⟨rfl, .inr ⟨w.heap.size + 1 + 1, 0, #[], rfl, Nat.le_refl _, ?_, Nat.le_refl _, Nat.zero_le _, rfl, rfl⟩⟩⟩
    · have := (Box.new (w.alloc (.cells #[.int .i64 s, .int .i64 l, .int .i64 c, .int .i64 sh, .slice A n cap] 26)) 180 #[.int .i64 ck, .int .i64 ch, .int .i64 ct, .int .i64 cq, .int .i64 cv]).alloc (.cells #[] 136)
      simp only [World.size_alloc] at this
      exact this
    · have := Box.new ((w.alloc (.cells #[.int .i64 s, .int .i64 l, .int .i64 c, .int .i64 sh, .slice A n cap] 26)).alloc (.cells #[.int .i64 ck, .int .i64 ch, .int .i64 ct, .int .i64 cq, .int .i64 cv] 180)) 136 #[]
      simp only [World.size_alloc] at this
      exact this
  have HR := Lib.hid hr
  have HM := Lib.hid hm
  have HP := Lib.hid h
  have hl := Lib.hid h.1
  clear h hr hm
  generalize hR : rB s l c sh zs ck ch ct cq cv = R
  have HRR := Lib.hid hR
  clear hR
  go_enter Tryz.func239, Tryz.ntmps239
  go_wp2_with fail
  generalize (((w.alloc _).alloc _).alloc _ : World) = w1 at K0 ⊢
  go_loopw [7, 13] (fun ov iv wr => ∃ (k q cap' : Nat) (o : List (Int × Int)), k ≤ m ∧ iv = .int .i64 k ∧ ov = .slice (some ⟨q, 0, none⟩) o.length cap' ∧ o = (ps.take k).filter R ∧ GoodAt w wr q cap' o s l c sh A n cap ck ch ct cq cv) (fun _ i _ => m - (intOf i).toNat)
  case atStart => exact ⟨0, _, 0, [], Nat.zero_le _, rfl, rfl, by simp, K0⟩
  case round =>
    obtain ⟨k, q, cap', o, hk, rfl, rfl, ho, hK⟩ := hrel
    by_cases hlt : k < m
    · have hlt' : (k : Int) < (m : Int) := by omega
      obtain ⟨b, o', hA, hbB, hcell⟩ := HP.out.2 (by omega)
      subst hA
      obtain ⟨c0, c1⟩ := hcell k hlt
      replace c0 := (hK.bel.cell (p := ⟨b, o' + k * 2, none⟩) hbB).trans c0
      replace c1 := (hK.bel.cell (p := ⟨b, o' + k * 2 + 1, none⟩) hbB).trans c1
      have hst := Lib.hid (filter_take (R := R) (ps := ps) (k := k) (by rw [hl.out]; exact hlt))
      rw [← ho] at hst
      have hol : o.length ≤ 4194304 := by
        rw [ho]
        have := List.length_filter_le R (ps.take k)
        rw [List.length_take] at this
        omega
      generalize hy : pth ps k = y at c0 c1 hst
      obtain ⟨y, y'⟩ := y
      replace ho := Lib.hid ho
      replace hy := Lib.hid hy
      clear hcell
      have K2 := hK.later (bel_alloc wr (.cells #[.int .i64 y, .int .i64 y'] 136))
      have DS := Box.new wr 136 #[.int .i64 y, .int .i64 y']
      go_upto_region 5 with fail
      generalize (wr.alloc _ : World) = w2 at K2 DS ⊢
      generalize wr.heap.size = S at DS ⊢
      obtain ⟨p0, p1⟩ := DS.two
      obtain ⟨d0, d1, d2, d3, d4, x0, x1, x2, x3, x4⟩ := ten K2.gr K2.cl
      have hrow := Lib.hid ((HR.out.below K2.bel (Nat.le_refl _)).more K2.bel.size)
      clear hK K0
      rcases hRy : R (y, y') with _ | _
      · have HY : Hid (rB s l c sh zs ck ch ct cq cv (y, y') = false) := by rw [HRR.out]; exact hRy
        have hst' := Lib.hid (show (ps.take (k + 1)).filter R = o by rw [hst.out, hRy]; simp)
        clear hRy
        go_wp2_with fail
        refine (rightB_is HY.out A n cap w2 HM.out hrow.out).mono ?_
        rintro e w3 ⟨rfl, hb3⟩
        have HK3 := Lib.hid (K2.later hb3)
        clear K2 DS hb3 p0 p1 d0 d1 d2 d3 d4 x0 x1 x2 x3 x4
        go_wp2
        go_roundw
        case rel => exact ⟨k + 1, q, cap', o, by omega, by go_num, rfl, hst'.out.symm, HK3.out⟩
        case measure => simp [intOf]; omega
      · have HY : Hid (rB s l c sh zs ck ch ct cq cv (y, y') = true) := by rw [HRR.out]; exact hRy
        have hst' := Lib.hid (show (ps.take (k + 1)).filter R = o ++ [(y, y')] by rw [hst.out, hRy]; simp)
        clear hRy
        go_wp2_with fail
        refine (rightB_is HY.out A n cap w2 HM.out hrow.out).mono ?_
        rintro e w3 ⟨rfl, hb3⟩
        have K3 := K2.later hb3
        have DS3 := DS.later hb3 DS.lt
        clear K2 DS hb3 p0 p1 d0 d1 d2 d3 d4 x0 x1 x2 x3 x4
        obtain ⟨p0, p1⟩ := DS3.two
        have hsz := K3.bel.size
        have hcl := K3.cl.lt
        go_wp2_with (at_builtin; refine wpList_append_lies _ rfl _ _ _ rfl (w.heap.size + 2) 136 i0 _ 2 16 Tryz.underlying40 hi0 hz0 hz1 hz2 rfl (by omega) (.slice (some ⟨q, 0, none⟩) o.length cap') o.length (flatP o) rfl (K3.own.alloc _) ⟨w3.heap.size, 0, none⟩ 1 1 [.int .i64 y, .int .i64 y'] rfl rfl (World.news_of_block (cs := #[.int .i64 y, .int .i64 y']) (t := 136) (fr := (0, 0)) (heap_alloc_new w3 _)) (by simp [Value.oneCell']) (by omega) (by unfold maxLen; omega) (by omega) (by simp; omega) (w3.heap.size + 1) (by simp) ?_; intro gg cap2 w5 hown2 hgrow2 hat hlt2; have HK5 := Lib.hid (K3.push hown2 hgrow2); clear hown2 hgrow2 hat)
        go_roundw
        case rel =>
          have hl2 : (o ++ [(y, y')]).length = o.length + 1 := by simp
          exact ⟨k + 1, gg, cap2, o ++ [(y, y')], by omega, by go_num, by rw [hl2], hst'.out.symm, HK5.out⟩
        case measure => simp [intOf]; omega
    · obtain rfl : k = m := by omega
      rw [← hl.out, List.take_length] at ho
      have hol : o.length ≤ 4194304 := by
        rw [ho]
        have := List.length_filter_le R ps
        rw [hl.out] at this
        omega
      replace ho := Lib.hid ho
      have hsl : Slc wr (.slice (some ⟨q, 0, none⟩) o.length cap') o := .inr ⟨q, 0, _, cap', rfl, own_pairs hK.own⟩
      have hsl := Lib.hid hsl
      go_wp2_with fail
      refine (join_is _ _ o [] wr (by simpa using hol) hsl.out (.inl ⟨rfl, rfl⟩)).mono ?_
      rintro e w2 ⟨u, rfl, hown⟩
      have hown := Lib.hid hown
      go_wp2
      go_ret
      refine ⟨_, rfl, ?_, bel_trans hK.bel hown.out.2⟩
      have e : goodP R ps = puts (o ++ []) := by rw [List.append_nil, ho.out]; rfl
      rw [e]
      rcases hown.out.1 with hh | ⟨g, cap2, hg, hu, h1, h2, hh⟩
      · exact .inl hh
      · exact .inr ⟨g, cap2, Nat.le_trans hK.bel.size hg, hu, h1, h2, hh⟩

end Go.Proofs.YtjdepjpjjgkmbaaGreat

/- What RegOk's parts compute (the program's): an open that is right, opens in order, seals that are as they are left: contracts of each of them. -/
namespace Go.Proofs.YtjdepjpjjgkmbaaGreat
open Go.RowKit

/-- An open that is right. -/
def opnB (s l c sh : Int) (zs : List Int) (o : Opn) : Bool := cliB s l c sh zs o.1 && decide (o.2.2.1 = o.1) && decide (1 ≤ o.2.1) && stB o.2.1 o.2.2.1 && valB o.2.2.2
theorem opn_1 {s l c sh : Int} {zs : List Int} {k t y v : Int} (h : cliB s l c sh zs k = false) : opnB s l c sh zs (k, t, y, v) = false := by simp [opnB, h]
theorem opn_2 {s l c sh : Int} {zs : List Int} {k t y v : Int} (h : y ≠ k) : opnB s l c sh zs (k, t, y, v) = false := by simp [opnB, h]
theorem opn_3 {s l c sh : Int} {zs : List Int} {k t y v : Int} (h : ¬ 1 ≤ t) : opnB s l c sh zs (k, t, y, v) = false := by simp [opnB, h]
theorem opn_4 {s l c sh : Int} {zs : List Int} {k t y v : Int} (h : stB t y = false) : opnB s l c sh zs (k, t, y, v) = false := by simp [opnB, h]
theorem opn_5 {s l c sh : Int} {zs : List Int} {k t v : Int} (h1 : cliB s l c sh zs k = true) (h3 : 1 ≤ t) (h4 : stB t k = true) : opnB s l c sh zs (k, t, k, v) = valB v := by simp [opnB, h1, h3, h4]
/-- The open at place i is right, and of a later client than the one ahead of it. -/
def stepB (R : Opn → Bool) (os : List Opn) (i : Nat) : Bool := R (oth os i) && (decide (i = 0) || decide ((oth os (i - 1)).1 < (oth os i).1))
def opsB (R : Opn → Bool) (os : List Opn) : Bool := (List.range os.length).all (stepB R os)
theorem opsB_false {R : Opn → Bool} {os : List Opn} {k : Nat} (hk : k < os.length) (h : stepB R os k = false) : opsB R os = false := by
  unfold opsB
  rw [List.all_eq_false]
  exact ⟨k, List.mem_range.2 hk, by simp [h]⟩
theorem opsB_true {R : Opn → Bool} {os : List Opn} (h : ∀ j, j < os.length → stepB R os j = true) : opsB R os = true := by
  unfold opsB
  rw [List.all_eq_true]
  exact fun j hj => h j (List.mem_range.1 hj)

theorem isValR_is {x : Int} {b : Bool} (h : valB x = b) (w : World) : Calls Tryz.prog 225 #[.int .i64 x] w fun e w' => e = .returned (.bool b) ∧ w = w' := by
  subst h
  go_enter Tryz.func225, Tryz.ntmps225
  go_wp2_with (go_at_call 143; refine (within_any _ _ _ _).mono ?_; rintro e w' ⟨rfl, rfl⟩)
  go_ret
  exact ⟨rfl, rfl⟩
theorem clientR_is {s l c sh : Int} {zs : List Int} {x : Int} {b : Bool} (h : cliB s l c sh zs x = b) (A : Option Addr) (n cap : Nat) (w : World) (hm : n ≤ maxLen) (hr : Row w w.heap.size A n zs) :
    Calls Tryz.prog 224 #[.agg #[.int .i64 s, .int .i64 l, .int .i64 c, .int .i64 sh, .slice A n cap], .int .i64 x] w fun e w' => e = .returned (.bool b) ∧ Below w.heap.size w w' := h ▸ client_any s l c sh A n cap zs x w hm hr
theorem stampR_is {c k : Int} {b : Bool} (h : stB c k = b) (w : World) : Calls Tryz.prog 114 #[.agg #[.int .i64 c, .int .i64 k]] w fun e w' => e = .returned (.bool b) ∧ Below w.heap.size w w' := h ▸ stampOk_any c k w

set_option maxHeartbeats 1000000 in
theorem isRight_is (s l c sh : Int) (A : Option Addr) (n cap : Nat) (zs : List Int) (k t y v : Int) (w : World) (hm : n ≤ maxLen) (hr : Row w w.heap.size A n zs) :
    Calls Tryz.prog 191 #[.agg #[.int .i64 k, .int .i64 t, .int .i64 y, .int .i64 v], .agg #[.int .i64 s, .int .i64 l, .int .i64 c, .int .i64 sh, .slice A n cap]] w fun e w' => e = .returned (.bool (opnB s l c sh zs (k, t, y, v))) ∧ Below w.heap.size w w' := by
  have D := (Box.new w 97 #[.int .i64 k, .int .i64 t, .int .i64 y, .int .i64 v]).alloc (.cells #[.int .i64 s, .int .i64 l, .int .i64 c, .int .i64 sh, .slice A n cap] 26)
  have E := bel_trans (bel_alloc w (.cells #[.int .i64 k, .int .i64 t, .int .i64 y, .int .i64 v] 97)) (bel_alloc _ (.cells #[.int .i64 s, .int .i64 l, .int .i64 c, .int .i64 sh, .slice A n cap] 26))
  have HR := Lib.hid ((hr.below E (Nat.le_refl _)).more E.size)
  have HM := Lib.hid hm
  clear hr hm
  rcases hcl : cliB s l c sh zs k with _ | _
  · have HV := Lib.hid (opn_1 (t := t) (y := y) (v := v) hcl)
    have HC := Lib.hid hcl
    clear hcl
    go_enter Tryz.func191, Tryz.ntmps191
    go_wp2_with fail
    generalize ((w.alloc _).alloc _ : World) = w0 at D E HR ⊢
    refine (clientR_is HC.out A n cap w0 HM.out HR.out).mono ?_
    rintro e w1 ⟨rfl, hb1⟩
    go_wp2
    go_ret
    exact ⟨by rw [HV.out]; rfl, bel_trans E hb1⟩
  · have HC := Lib.hid hcl
    clear hcl
    go_enter Tryz.func191, Tryz.ntmps191
    go_wp2_with fail
    generalize ((w.alloc _).alloc _ : World) = w0 at D E HR ⊢
    refine (clientR_is HC.out A n cap w0 HM.out HR.out).mono ?_
    rintro e w1 ⟨rfl, hb1⟩
    have D1 := D.later hb1 D.lt
    have E1 := bel_trans E hb1
    clear D E HR hb1
    obtain ⟨d0, d1, d2, d3⟩ := D1.four
    by_cases h2 : y = k
    · subst h2
      by_cases h3 : 1 ≤ t
      · rcases h4 : stB t y with _ | _
        · have HV := Lib.hid (opn_4 (s := s) (l := l) (c := c) (sh := sh) (zs := zs) (k := y) (v := v) h4)
          have H4 := Lib.hid h4
          clear h4
          go_wp2_with (go_at_call 114; refine (stampR_is H4.out _).mono ?_; rintro e w2 ⟨rfl, hb2⟩; have E2 := bel_trans E1 hb2)
          go_ret
          exact ⟨by rw [HV.out]; rfl, E2⟩
        · have HV := Lib.hid (opn_5 (v := v) HC.out h3 h4)
          have H4 := Lib.hid h4
          clear h4
          rcases h5 : valB v with _ | _
          all_goals
            have H5 := Lib.hid h5
            clear h5
            go_wp2_with fail
            refine (stampR_is H4.out w1).mono ?_
            rintro e w2 ⟨rfl, hb2⟩
            have E2 := bel_trans E1 hb2
            have D2 := D1.later hb2 D1.lt
            have c3 : w2.cell? ⟨w.heap.size, 3, none⟩ = some (.int .i64 v) := D2.cell 3
            clear D2 hb2
            go_wp2_with (go_at_call 225; refine (isValR_is H5.out _).mono ?_; rintro e w3 ⟨rfl, rfl⟩)
            go_ret
            exact ⟨by rw [HV.out, H5.out]; rfl, E2⟩
      · have HV := Lib.hid (opn_3 (s := s) (l := l) (c := c) (sh := sh) (zs := zs) (k := y) (y := y) (v := v) h3)
        go_wp2
        go_ret
        exact ⟨by rw [HV.out]; rfl, E1⟩
    · have h2' : (y == k) = false := by simpa using h2
      have HV := Lib.hid (opn_2 (s := s) (l := l) (c := c) (sh := sh) (zs := zs) (t := t) (v := v) h2)
      go_wp2
      go_ret
      exact ⟨by rw [HV.out]; rfl, E1⟩
theorem isRightB_is {s l c sh : Int} {zs : List Int} {k t y v : Int} {b : Bool} (h : opnB s l c sh zs (k, t, y, v) = b) (A : Option Addr) (n cap : Nat) (w : World) (hm : n ≤ maxLen) (hr : Row w w.heap.size A n zs) :
    Calls Tryz.prog 191 #[.agg #[.int .i64 k, .int .i64 t, .int .i64 y, .int .i64 v], .agg #[.int .i64 s, .int .i64 l, .int .i64 c, .int .i64 sh, .slice A n cap]] w fun e w' => e = .returned (.bool b) ∧ Below w.heap.size w w' := h ▸ isRight_is s l c sh A n cap zs k t y v w hm hr

theorem quadA {w : World} {g : Nat} {t : TypeId} {v0 v1 v2 v3 : Value} (h : Box w g t #[v0, v1, v2, v3]) :
    (∀ p : After w, p.x.cell? ⟨g, 0, none⟩ = some v0) ∧ (∀ p : After w, p.x.cell? ⟨g, 1, none⟩ = some v1) ∧ (∀ p : After w, p.x.cell? ⟨g, 2, none⟩ = some v2) ∧ (∀ p : After w, p.x.cell? ⟨g, 3, none⟩ = some v3) :=
  ⟨After.cell h.lt (h.cell 0), After.cell h.lt (h.cell 1), After.cell h.lt (h.cell 2), After.cell h.lt (h.cell 3)⟩

set_option maxRecDepth 100000 in
set_option maxHeartbeats 2000000 in
theorem opensOk_is (s l c sh : Int) (A : Option Addr) (n cap : Nat) (zs : List Int) (Q : Option Addr) (q qc : Nat) (os : List Opn) (w : World) (hm : n ≤ maxLen) (hr : Row w w.heap.size A n zs) (hq : q ≤ 4194304) (h : Quads w w.heap.size Q q os) :
    Calls Tryz.prog 201 #[.agg #[.int .i64 s, .int .i64 l, .int .i64 c, .int .i64 sh, .slice A n cap], .slice Q q qc] w fun e w' => e = .returned (.bool (opsB (opnB s l c sh zs) os)) ∧ Below w.heap.size w w' := by
  have HL := Lib.hid h.1
  have HQ := Lib.hid h
  have HR := Lib.hid hr
  have HM := Lib.hid hm
  clear h hr hm
  go_enter Tryz.func201, Tryz.ntmps201
  go_wp2_with fail
  go_loopw [9] (fun iv wr => ∃ k : Nat, k ≤ q ∧ iv = .int .i64 k ∧ (∀ j, j < k → stepB (opnB s l c sh zs) os j = true) ∧ Box wr w.heap.size 26 #[.int .i64 s, .int .i64 l, .int .i64 c, .int .i64 sh, .slice A n cap] ∧ Below w.heap.size w wr) (fun i _ => q - (intOf i).toNat)
  case atStart => exact ⟨0, Nat.zero_le _, rfl, fun j hj => absurd hj (by omega), Box.new w _ _, bel_alloc _ _⟩
  case round =>
    obtain ⟨k, hk, rfl, hst, G, hb⟩ := hrel
    by_cases hlt : k < q
    · obtain ⟨b, o, hA, hbB, hcell⟩ := HQ.out.2 (by omega)
      subst hA
      obtain ⟨g0, g1, g2, g3⟩ := hcell k hlt
      have g0 := (hb.cell (p := ⟨b, o + k * 4, none⟩) hbB).trans g0
      have g1 := (hb.cell (p := ⟨b, o + k * 4 + 1, none⟩) hbB).trans g1
      have g2 := (hb.cell (p := ⟨b, o + k * 4 + 2, none⟩) hbB).trans g2
      have g3 := (hb.cell (p := ⟨b, o + k * 4 + 3, none⟩) hbB).trans g3
      generalize hx : oth os k = x at g0 g1 g2 g3
      obtain ⟨x, t, y, v⟩ := x
      have HX := Lib.hid hx
      have hlt' : (k : Int) < (q : Int) := by omega
      replace hst := Lib.hid hst
      have hzb := hb.size
      have Y := Box.new wr 97 #[.int .i64 x, .int .i64 t, .int .i64 y, .int .i64 v]
      have hbY := bel_alloc wr (.cells #[.int .i64 x, .int .i64 t, .int .i64 y, .int .i64 v] 97)
      have G2 := G.later hbY G.lt
      have E2 := bel_trans hb hbY
      clear hx
      go_upto_region 4 with fail
      generalize (wr.alloc _ : World) = w2 at Y hbY G2 E2 ⊢
      generalize wr.heap.size = S at Y ⊢
      obtain ⟨f0, f1, f2, f3⟩ := quadA Y
      obtain ⟨e0, e1, e2, e3, e4⟩ := fiveAfter G2
      have hrow := Lib.hid ((HR.out.below E2 (Nat.le_refl _)).more E2.size)
      clear g0 g1 g2 g3 hb G
      rcases hR : opnB s l c sh zs (x, t, y, v) with _ | _
      · have HF : Hid (opsB (opnB s l c sh zs) os = false) := Lib.hid (opsB_false (k := k) (by rw [HL.out]; exact hlt) (by unfold stepB; rw [HX.out, hR]; rfl))
        have HRR := Lib.hid hR
        clear hR hcell
        refine wp_region_after (by kernel_rfl) (by kernel_rfl) ?_
        repeat (first | go_big_quiet_step ((go_at_call 191; exact after_of (isRightB_is HRR.out _ n cap _ HM.out (rowAfter hrow.out _)))) | quiet_step ((go_at_call 191; exact after_of (isRightB_is HRR.out _ n cap _ HM.out (rowAfter hrow.out _)))))
        refine wpQuiet_nil ?_
        intro pw
        go_wp2
        go_ret
        exact ⟨by rw [HF.out]; rfl, bel_trans E2 pw.bel⟩
      · have HRR := Lib.hid hR
        rcases k with _ | j
        · have hst2 := Lib.hid (show ∀ i, i < 0 + 1 → stepB (opnB s l c sh zs) os i = true from fun i hi => by
            obtain rfl : i = 0 := by omega
            unfold stepB; rw [HX.out, hR]; rfl)
          clear hR hcell
          refine wp_region_after (by kernel_rfl) (by kernel_rfl) ?_
          repeat (first | go_big_quiet_step ((go_at_call 191; exact after_of (isRightB_is HRR.out _ n cap _ HM.out (rowAfter hrow.out _)))) | quiet_step ((go_at_call 191; exact after_of (isRightB_is HRR.out _ n cap _ HM.out (rowAfter hrow.out _)))))
          refine wpQuiet_nil ?_
          intro pw
          have G3 := Lib.hid (G2.later pw.bel G2.lt)
          have E3 := Lib.hid (bel_trans E2 pw.bel)
          go_wp2
          go_roundw
          case rel => exact ⟨1, by omega, by go_num, hst2.out, G3.out, E3.out⟩
          case measure => simp [intOf]; omega
        · obtain ⟨p0, _, _, _⟩ := hcell j (by omega)
          have p0 := After.cell (w := w2) (a := ⟨b, o + j * 4, none⟩) (by show b < _; have := E2.size; omega) ((E2.cell (p := ⟨b, o + j * 4, none⟩) hbB).trans p0)
          have hxx : Hid (stepB (opnB s l c sh zs) os (j + 1) = decide ((oth os j).1 < x)) := Lib.hid (by unfold stepB; rw [HX.out, hR]; simp)
          generalize (oth os j).1 = z at p0 hxx
          have hj0 : (0 : Int) ≤ (j : Int) := by omega
          have hj1 : (j : Int) < (q : Int) := by omega
          have hjw : IntKind.i64.wrap ((j : Int) + 1 - 1) = (j : Int) := by rw [Int.add_sub_cancel]; exact IntWalk.i64_in _ (by omega)
          have hjw' : IntKind.i64.wrap (j : Int) = (j : Int) := IntWalk.i64_in _ (by omega)
          have hpos : (0 : Int) < (j : Int) + 1 := by omega
          clear hR hcell
          by_cases hz : z < x
          · have hst2 := Lib.hid (show ∀ i, i < j + 1 + 1 → stepB (opnB s l c sh zs) os i = true from fun i hi => by
              by_cases ei : i = j + 1
              · subst ei; rw [hxx.out]; exact decide_eq_true hz
              · exact hst.out i (by omega))
            have hz1 : decide (x ≤ z) = false := decide_eq_false (by omega)
            refine wp_region_after (by kernel_rfl) (by kernel_rfl) ?_
            repeat (first | go_big_quiet_step ((go_at_call 191; exact after_of (isRightB_is HRR.out _ n cap _ HM.out (rowAfter hrow.out _)))) | quiet_step ((go_at_call 191; exact after_of (isRightB_is HRR.out _ n cap _ HM.out (rowAfter hrow.out _)))))
            refine wpQuiet_nil ?_
            intro pw
            have G3 := Lib.hid (G2.later pw.bel G2.lt)
            have E3 := Lib.hid (bel_trans E2 pw.bel)
            clear hjw hjw' p0
            go_wp2
            go_roundw
            case rel => exact ⟨j + 1 + 1, by omega, by go_num, hst2.out, G3.out, E3.out⟩
            case measure => simp [intOf]; omega
          · have HF : Hid (opsB (opnB s l c sh zs) os = false) := Lib.hid (opsB_false (k := j + 1) (by rw [HL.out]; exact hlt) (by rw [hxx.out]; exact decide_eq_false hz))
            have hz1 : decide (x ≤ z) = true := decide_eq_true (by omega)
            refine wp_region_after (by kernel_rfl) (by kernel_rfl) ?_
            repeat (first | go_big_quiet_step ((go_at_call 191; exact after_of (isRightB_is HRR.out _ n cap _ HM.out (rowAfter hrow.out _)))) | quiet_step ((go_at_call 191; exact after_of (isRightB_is HRR.out _ n cap _ HM.out (rowAfter hrow.out _)))))
            refine wpQuiet_nil ?_
            intro pw
            clear hjw hjw' p0
            go_wp2
            go_ret
            exact ⟨by rw [HF.out]; rfl, bel_trans E2 pw.bel⟩
    · obtain rfl : k = q := by omega
      have HF : Hid (opsB (opnB s l c sh zs) os = true) := Lib.hid (opsB_true fun j hj => hst j (by rw [← HL.out]; exact hj))
      replace hst := Lib.hid hst
      go_wp2
      go_ret
      exact ⟨by rw [HF.out]; rfl, hb⟩

end Go.Proofs.YtjdepjpjjgkmbaaGreat

/- RegOk: seals compared, the seals that are left good, a shelf that is right: contracts of the program's functions. -/
namespace Go.Proofs.YtjdepjpjjgkmbaaGreat
open Go.RowKit

theorem pth_ext {ps qs : List (Int × Int)} (hl : ps.length = qs.length) (h : ∀ j, j < ps.length → pth ps j = pth qs j) : ps = qs := by
  refine List.ext_getElem hl fun i h1 h2 => ?_
  have := h i h1
  rwa [pth_lt h1, pth_lt h2] at this

set_option maxHeartbeats 2000000 in
theorem equal_is (A A' : Option Addr) (n cap n' cap' : Nat) (ps qs : List (Int × Int)) (w : World) (hm : n ≤ 4194304) (hm' : n' ≤ 4194304) (hr : Pairs w w.heap.size A n ps) (hr' : Pairs w w.heap.size A' n' qs) :
    Calls Tryz.prog 226 #[.slice A n cap, .slice A' n' cap'] w fun e w' => e = .returned (.bool (decide (ps = qs))) ∧ Below w.heap.size w w' := by
  by_cases hnn : n = n'
  · subst hnn
    have HL := Lib.hid hr.1
    have HL' := Lib.hid hr'.1
    have HR := Lib.hid hr
    have HR' := Lib.hid hr'
    clear hr hr'
    go_enter Tryz.func226, Tryz.ntmps226
    go_wp2_with fail
    go_loopw [13] (fun i wr => ∃ k : Nat, k ≤ n ∧ i = .int .i64 k ∧ (∀ j, j < k → pth ps j = pth qs j) ∧ Below w.heap.size w wr) (fun i _ => n - (intOf i).toNat)
    case atStart => exact ⟨0, Nat.zero_le _, rfl, fun j hj => absurd hj (by omega), Below.refl _ _⟩
    case round =>
      obtain ⟨k, hk, rfl, heq, hb⟩ := hrel
      by_cases hlt : k < n
      · obtain ⟨b, o, hA, hbB, hcell⟩ := HR.out.2 (by omega)
        obtain ⟨b', o', hA', hbB', hcell'⟩ := HR'.out.2 (by omega)
        subst hA hA'
        obtain ⟨g0, g1⟩ := hcell k hlt
        obtain ⟨h0, h1⟩ := hcell' k hlt
        have hz := hb.size
        have g0 := After.cell (w := wr) (a := ⟨b, o + k * 2, none⟩) (by simp; omega) ((hb.cell (p := ⟨b, o + k * 2, none⟩) hbB).trans g0)
        have g1 := After.cell (w := wr) (a := ⟨b, o + k * 2 + 1, none⟩) (by simp; omega) ((hb.cell (p := ⟨b, o + k * 2 + 1, none⟩) hbB).trans g1)
        have h0 := After.cell (w := wr) (a := ⟨b', o' + k * 2, none⟩) (by simp; omega) ((hb.cell (p := ⟨b', o' + k * 2, none⟩) hbB').trans h0)
        have h1 := After.cell (w := wr) (a := ⟨b', o' + k * 2 + 1, none⟩) (by simp; omega) ((hb.cell (p := ⟨b', o' + k * 2 + 1, none⟩) hbB').trans h1)
        generalize hx : pth ps k = x at g0 g1
        generalize hy : pth qs k = y at h0 h1
        obtain ⟨x, x'⟩ := x
        obtain ⟨y, y'⟩ := y
        have HX := Lib.hid hx
        have HY := Lib.hid hy
        replace heq := Lib.hid heq
        have hlt' : (k : Int) < (n : Int) := by omega
        clear hcell hcell' hx hy
        by_cases e1 : x = y
        · subst e1
          by_cases e2 : x' = y'
          · subst e2
            have hst := Lib.hid (show ∀ j, j < k + 1 → pth ps j = pth qs j from fun j hj => by
              by_cases ej : j = k
              · subst ej; rw [HX.out, HY.out]
              · exact heq.out j (by omega))
            go_wp2_with fail
            refine wp_region_after (by kernel_rfl) (by kernel_rfl) ?_
            repeat (first | go_big_quiet_step (fail) | quiet_step (fail))
            refine wpQuiet_nil ?_
            intro pw
            have E3 := bel_trans hb pw.bel
            go_wp2
            go_roundw
            case rel => exact ⟨k + 1, by omega, by go_num, hst.out, E3⟩
            case measure => simp [intOf]; omega
          · have e2' : (x' == y') = false := by simpa using e2
            have HF : Hid (decide (ps = qs) = false) := Lib.hid (decide_eq_false fun h => e2 (by have a := HX.out; rw [h, HY.out] at a; injection a with _ a; exact a.symm))
            go_wp2_with fail
            refine wp_region_after (by kernel_rfl) (by kernel_rfl) ?_
            repeat (first | go_big_quiet_step (fail) | quiet_step (fail))
            refine wpQuiet_nil ?_
            intro pw
            have E3 := bel_trans hb pw.bel
            go_wp2
            go_ret
            exact ⟨by rw [HF.out]; rfl, E3⟩
        · have e1' : (x == y) = false := by simpa using e1
          have HF : Hid (decide (ps = qs) = false) := Lib.hid (decide_eq_false fun h => e1 (by have a := HX.out; rw [h, HY.out] at a; injection a with a _; exact a.symm))
          go_wp2_with fail
          refine wp_region_after (by kernel_rfl) (by kernel_rfl) ?_
          repeat (first | go_big_quiet_step (fail) | quiet_step (fail))
          refine wpQuiet_nil ?_
          intro pw
          have E3 := bel_trans hb pw.bel
          go_wp2
          go_ret
          exact ⟨by rw [HF.out]; rfl, E3⟩
      · obtain rfl : k = n := by omega
        have HF : Hid (decide (ps = qs) = true) := Lib.hid (decide_eq_true (pth_ext (by rw [HL.out, HL'.out]) fun j hj => heq j (by rw [← HL.out]; exact hj)))
        replace heq := Lib.hid heq
        go_wp2
        go_ret
        exact ⟨by rw [HF.out]; rfl, hb⟩
  · have hne : ((n : Int) != (n' : Int)) = true := by simp; omega
    have HF : Hid (decide (ps = qs) = false) := Lib.hid (decide_eq_false fun h => hnn (by rw [← hr.1, ← hr'.1, h]))
    clear hr hr'
    go_enter Tryz.func226, Tryz.ntmps226
    go_wp2
    go_ret
    exact ⟨by rw [HF.out]; rfl, Below.refl _ _⟩

/-- The seals that are left good beside a stamp: none beside the zero one. -/
def lefS (s l c sh : Int) (zs : List Int) (x ct cq v : Int) (ps : List (Int × Int)) : List (Int × Int) := if ct = 0 ∧ cq = 0 then [] else goodP (rB s l c sh zs 1 x ct cq v) ps
theorem lefS_le (s l c sh : Int) (zs : List Int) (x ct cq v : Int) (ps : List (Int × Int)) : (lefS s l c sh zs x ct cq v ps).length ≤ ps.length := by
  unfold lefS
  split
  · simp
  · exact goodP_le _ _
theorem zero_cases (ct cq : Int) : (ct = 0 ∧ cq = 0) ∨ ((ct == 0) = false ∨ ((ct == 0) = true ∧ (cq == 0) = false)) ∧ ¬ (ct = 0 ∧ cq = 0) := by
  by_cases h1 : ct = 0
  · by_cases h2 : cq = 0
    · exact .inl ⟨h1, h2⟩
    · exact .inr ⟨.inr ⟨by simpa using h1, by simpa using h2⟩, fun h => h2 h.2⟩
  · exact .inr ⟨.inl (by simpa using h1), fun h => h1 h.1⟩

set_option maxRecDepth 100000 in
set_option maxHeartbeats 2000000 in
theorem leftSeals_is (s l c sh : Int) (A : Option Addr) (n cap : Nat) (zs : List Int) (x ct cq v : Int) (P : Option Addr) (m pcap : Nat) (ps : List (Int × Int)) (w : World) (hm : n ≤ maxLen) (hr : Row w w.heap.size A n zs) (hn : m ≤ 4194304) (h : Pairs w w.heap.size P m ps) :
    Calls Tryz.prog 227 #[.agg #[.int .i64 ct, .int .i64 cq, .int .i64 v, .slice P m pcap], .agg #[.int .i64 s, .int .i64 l, .int .i64 c, .int .i64 sh, .slice A n cap], .int .i64 x] w fun e w' => ∃ u, e = .returned u ∧ Own w u (lefS s l c sh zs x ct cq v ps) w' := by
  have D := (Box.new w 199 #[.int .i64 ct, .int .i64 cq, .int .i64 v, .slice P m pcap]).alloc (.cells #[.int .i64 s, .int .i64 l, .int .i64 c, .int .i64 sh, .slice A n cap] 26)
  have G := Box.new (w.alloc (.cells #[.int .i64 ct, .int .i64 cq, .int .i64 v, .slice P m pcap] 199)) 26 #[.int .i64 s, .int .i64 l, .int .i64 c, .int .i64 sh, .slice A n cap]
  have E := bel_trans (bel_alloc w (.cells #[.int .i64 ct, .int .i64 cq, .int .i64 v, .slice P m pcap] 199)) (bel_alloc _ (.cells #[.int .i64 s, .int .i64 l, .int .i64 c, .int .i64 sh, .slice A n cap] 26))
  simp only [World.size_alloc] at G
  have HR := Lib.hid ((hr.below E (Nat.le_refl _)).more E.size)
  have HP := Lib.hid (h.later E)
  have HM := Lib.hid hm
  clear hr hm h
  rcases zero_cases ct cq with ⟨rfl, rfl⟩ | ⟨hcase, hnz⟩
  · have HV : Hid (lefS s l c sh zs x 0 0 v ps = []) := Lib.hid (by simp [lefS])
    go_enter Tryz.func227, Tryz.ntmps227
    go_wp2
    go_ret
    exact ⟨_, rfl, .inl ⟨rfl, HV.out⟩, E⟩
  · have HV : Hid (lefS s l c sh zs x ct cq v ps = goodP (rB s l c sh zs 1 x ct cq v) ps) := Lib.hid (by unfold lefS; rw [if_neg hnz])
    clear hnz
    rcases hcase with h1 | ⟨h1, h2⟩
    all_goals
      go_enter Tryz.func227, Tryz.ntmps227
      go_wp2_with fail
      generalize ((w.alloc _).alloc _ : World) = w0 at D G E HR HP ⊢
      refine (good_is s l c sh A n cap zs 1 x ct cq v P m pcap ps w0 HM.out HR.out hn HP.out).mono ?_
      rintro e w1 ⟨u, rfl, hO⟩
      go_wp2
      go_ret
      rw [HV.out]
      exact ⟨_, rfl, by
        rcases hO.1 with hh | ⟨g, cap2, hg, hu, h1, h2, hh⟩
        · exact .inl hh
        · exact .inr ⟨g, cap2, Nat.le_trans E.size hg, hu, h1, h2, hh⟩, bel_trans E hO.2⟩

/-- Is what is newest as it is left? -/
def lefB (s l c sh : Int) (zs : List Int) (x ct cq v : Int) (ps : List (Int × Int)) : Bool := proB s l c sh zs x ct cq v ps && decide (ps = lefS s l c sh zs x ct cq v ps)
theorem provenR_is {s l c sh : Int} {zs : List Int} {x ct cq v : Int} {ps : List (Int × Int)} {b : Bool} (hb : proB s l c sh zs x ct cq v ps = b) (A : Option Addr) (n cap : Nat) (P : Option Addr) (m pcap : Nat) (w : World) (hm : n ≤ maxLen) (hr : Row w w.heap.size A n zs) (hn : m ≤ 4194304) (h : Pairs w w.heap.size P m ps) :
    Calls Tryz.prog 209 #[.agg #[.int .i64 s, .int .i64 l, .int .i64 c, .int .i64 sh, .slice A n cap], .int .i64 x, .agg #[.int .i64 ct, .int .i64 cq], .int .i64 v, .slice P m pcap] w fun e w' => e = .returned (.bool b) ∧ Below w.heap.size w w' := hb ▸ proven_is s l c sh A n cap zs x ct cq v P m pcap ps w hm hr hn h
theorem Own.prs {w w' : World} {u : Value} {ps : List (Int × Int)} (h : Own w u ps w') : ∃ (A : Option Addr) (n cap : Nat), u = .slice A n cap ∧ Pairs w' w'.heap.size A n ps := by
  rcases h.1 with ⟨rfl, rfl⟩ | ⟨g, cap, _, rfl, _, _, hh⟩
  · exact ⟨none, 0, 0, rfl, ⟨rfl, fun h => absurd h (by omega)⟩⟩
  · exact ⟨_, _, cap, rfl, hh.pairs⟩

theorem nineGD {w : World} {g g' : Nat} {t t' : TypeId} {v0 v1 v2 v3 v4 u0 u1 u2 u3 : Value} (h : Box w g t #[v0, v1, v2, v3, v4]) (h' : Box w g' t' #[u0, u1, u2, u3]) :
    w.cell? ⟨g, 0, none⟩ = some v0 ∧ w.cell? ⟨g, 1, none⟩ = some v1 ∧ w.cell? ⟨g, 2, none⟩ = some v2 ∧ w.cell? ⟨g, 3, none⟩ = some v3 ∧ w.cell? ⟨g, 4, none⟩ = some v4 ∧ w.cell? ⟨g', 0, none⟩ = some u0 ∧ w.cell? ⟨g', 1, none⟩ = some u1 ∧ w.cell? ⟨g', 2, none⟩ = some u2 ∧ w.cell? ⟨g', 3, none⟩ = some u3 :=
  ⟨h.cell 0, h.cell 1, h.cell 2, h.cell 3, h.cell 4, h'.cell 0, h'.cell 1, h'.cell 2, h'.cell 3⟩

set_option maxRecDepth 100000 in
set_option maxHeartbeats 2000000 in
theorem isLeft_is (s l c sh : Int) (A : Option Addr) (n cap : Nat) (zs : List Int) (x ct cq v : Int) (P : Option Addr) (m pcap : Nat) (ps : List (Int × Int)) (w : World) (hm : n ≤ maxLen) (hr : Row w w.heap.size A n zs) (hn : m ≤ 4194304) (h : Pairs w w.heap.size P m ps) :
    Calls Tryz.prog 193 #[.agg #[.int .i64 ct, .int .i64 cq, .int .i64 v, .slice P m pcap], .agg #[.int .i64 s, .int .i64 l, .int .i64 c, .int .i64 sh, .slice A n cap], .int .i64 x] w fun e w' => e = .returned (.bool (lefB s l c sh zs x ct cq v ps)) ∧ Below w.heap.size w w' := by
  have D := (Box.new w 199 #[.int .i64 ct, .int .i64 cq, .int .i64 v, .slice P m pcap]).alloc (.cells #[.int .i64 s, .int .i64 l, .int .i64 c, .int .i64 sh, .slice A n cap] 26)
  have G := Box.new (w.alloc (.cells #[.int .i64 ct, .int .i64 cq, .int .i64 v, .slice P m pcap] 199)) 26 #[.int .i64 s, .int .i64 l, .int .i64 c, .int .i64 sh, .slice A n cap]
  have E := bel_trans (bel_alloc w (.cells #[.int .i64 ct, .int .i64 cq, .int .i64 v, .slice P m pcap] 199)) (bel_alloc _ (.cells #[.int .i64 s, .int .i64 l, .int .i64 c, .int .i64 sh, .slice A n cap] 26))
  simp only [World.size_alloc] at G
  have R0 := (hr.below E (Nat.le_refl _)).more E.size
  have P0 := h.later E
  have hlen : (lefS s l c sh zs x ct cq v ps).length ≤ 4194304 := by have := lefS_le s l c sh zs x ct cq v ps; rw [h.1] at this; omega
  replace hlen := Lib.hid hlen
  have HM := Lib.hid hm
  clear hr hm h
  go_enter Tryz.func193, Tryz.ntmps193
  go_wp2_with fail
  generalize ((w.alloc _).alloc _ : World) = w0 at D G E R0 P0 ⊢
  rcases hpv : proB s l c sh zs x ct cq v ps with _ | _
  · have HV : Hid (lefB s l c sh zs x ct cq v ps = false) := Lib.hid (by simp [lefB, hpv])
    have HPV := Lib.hid hpv
    have HR := Lib.hid R0
    have HP := Lib.hid P0
    clear hpv R0 P0
    obtain ⟨f0, f1, f2, f3⟩ := quadA D
    obtain ⟨e0, e1, e2, e3, e4⟩ := fiveAfter G
    refine wp_region_after (by kernel_rfl) (by kernel_rfl) ?_
    repeat (first | go_big_quiet_step ((go_at_call 209; exact after_of (provenR_is HPV.out _ n cap _ m pcap _ HM.out (rowAfter HR.out _) hn (pairsAfter HP.out _)))) | quiet_step ((go_at_call 209; exact after_of (provenR_is HPV.out _ n cap _ m pcap _ HM.out (rowAfter HR.out _) hn (pairsAfter HP.out _)))))
    refine wpQuiet_nil ?_
    intro pw
    go_wp2
    go_ret
    exact ⟨by rw [HV.out]; rfl, bel_trans E pw.bel⟩
  · have HV : Hid (lefB s l c sh zs x ct cq v ps = decide (ps = lefS s l c sh zs x ct cq v ps)) := Lib.hid (by simp [lefB, hpv])
    have HPV := Lib.hid hpv
    clear hpv
    obtain ⟨d0, d1, d2, d3⟩ := D.four
    obtain ⟨e0, e1, e2, e3, e4⟩ := G.five
    go_region_held3 (fun w' => w'.cell? ⟨w.heap.size + 1, 0, none⟩ = some (.int .i64 s) ∧ w'.cell? ⟨w.heap.size + 1, 1, none⟩ = some (.int .i64 l) ∧ w'.cell? ⟨w.heap.size + 1, 2, none⟩ = some (.int .i64 c) ∧ w'.cell? ⟨w.heap.size + 1, 3, none⟩ = some (.int .i64 sh) ∧ w'.cell? ⟨w.heap.size + 1, 4, none⟩ = some (.slice A n cap) ∧ w'.cell? ⟨w.heap.size, 0, none⟩ = some (.int .i64 ct) ∧ w'.cell? ⟨w.heap.size, 1, none⟩ = some (.int .i64 cq) ∧ w'.cell? ⟨w.heap.size, 2, none⟩ = some (.int .i64 v) ∧ w'.cell? ⟨w.heap.size, 3, none⟩ = some (.slice P m pcap))
      (first | (with_reducible exact K3) | (with_reducible exact K2) | (with_reducible exact K1) | go_keep)
      (first
        | (go_at_call 209; refine (provenR_is HPV.out A n cap P m pcap _ HM.out ?_ hn ?_).mono ?_; exact R0; exact P0; rintro e w1 ⟨rfl, hb1⟩; have F1 := bel_drew' hb1; have R1 := (R0.below F1 (Nat.le_refl _)).more F1.size; have P1 := P0.later F1; have K1 := nineGD (G.later F1 G.lt) (D.later F1 D.lt))
        | (go_at_call 227; refine (leftSeals_is s l c sh A n cap zs x ct cq v P m pcap ps _ HM.out R1 hn P1).mono ?_; rintro e w2 ⟨u, rfl, hO2⟩; obtain ⟨A2, n2, c2, rfl, Q2⟩ := hO2.prs; have F2 := bel_trans F1 hO2.2; have P2 := P1.later hO2.2; have K2 := nineGD (G.later F2 G.lt) (D.later F2 D.lt); have hn2 : n2 ≤ 4194304 := (by rw [← Q2.1]; exact hlen.out))
        | (go_at_call 226; refine (equal_is P A2 m pcap n2 c2 ps _ _ hn hn2 P2 Q2).mono ?_; rintro e w3 ⟨rfl, hb3⟩; have F3 := bel_trans F2 hb3; have K3 := nineGD (G.later F3 G.lt) (D.later F3 D.lt)))
    have E3 := bel_trans E F3
    clear K1 K2 K3 d0 d1 d2 d3 e0 e1 e2 e3 e4
    go_wp2
    go_ret
    exact ⟨by rw [HV.out]; rfl, E3⟩

/-- What RegOk answers. -/
def regB (s l c sh : Int) (zs : List Int) (x ct cq v : Int) (ps : List (Int × Int)) (os : List Opn) : Bool := lefB s l c sh zs x ct cq v ps && opsB (opnB s l c sh zs) os

theorem isLeftB_is {s l c sh : Int} {zs : List Int} {x ct cq v : Int} {ps : List (Int × Int)} {b : Bool} (hb : lefB s l c sh zs x ct cq v ps = b) (A : Option Addr) (n cap : Nat) (P : Option Addr) (m pcap : Nat) (w : World) (hm : n ≤ maxLen) (hr : Row w w.heap.size A n zs) (hn : m ≤ 4194304) (h : Pairs w w.heap.size P m ps) :
    Calls Tryz.prog 193 #[.agg #[.int .i64 ct, .int .i64 cq, .int .i64 v, .slice P m pcap], .agg #[.int .i64 s, .int .i64 l, .int .i64 c, .int .i64 sh, .slice A n cap], .int .i64 x] w fun e w' => e = .returned (.bool b) ∧ Below w.heap.size w w' := hb ▸ isLeft_is s l c sh A n cap zs x ct cq v P m pcap ps w hm hr hn h

set_option maxRecDepth 100000 in
set_option maxHeartbeats 2000000 in
theorem regOk_is (s l c sh : Int) (A : Option Addr) (n cap : Nat) (zs : List Int) (x rt rq rv : Int) (P : Option Addr) (p pc : Nat) (Q : Option Addr) (q qc : Nat) (ps : List (Int × Int)) (os : List Opn) (w : World) (hm : n ≤ maxLen) (hr : Row w w.heap.size A n zs) (hp : p ≤ 4194304) (hq : q ≤ 4194304) (h1 : Pairs w w.heap.size P p ps) (h2 : Quads w w.heap.size Q q os) :
    Calls Tryz.prog 155 #[.agg #[.int .i64 s, .int .i64 l, .int .i64 c, .int .i64 sh, .slice A n cap], .int .i64 x, .agg #[.int .i64 rt, .int .i64 rq, .int .i64 rv, .slice P p pc, .slice Q q qc]] w fun e w' => e = .returned (.bool (regB s l c sh zs x rt rq rv ps os)) ∧ Below w.heap.size w w' := by
  have G := (Box.new w 26 #[.int .i64 s, .int .i64 l, .int .i64 c, .int .i64 sh, .slice A n cap]).alloc (.cells #[.int .i64 rt, .int .i64 rq, .int .i64 rv, .slice P p pc, .slice Q q qc] 80)
  have E := bel_trans (bel_alloc w (.cells #[.int .i64 s, .int .i64 l, .int .i64 c, .int .i64 sh, .slice A n cap] 26)) (bel_alloc _ (.cells #[.int .i64 rt, .int .i64 rq, .int .i64 rv, .slice P p pc, .slice Q q qc] 80))
  have HR := Lib.hid hr
  have HP := Lib.hid h1
  have HQ := Lib.hid h2
  have HM := Lib.hid hm
  clear hr hm h1 h2
  go_enter Tryz.func155, Tryz.ntmps155
  go_wp2_with fail
  generalize ((w.alloc _).alloc _ : World) = w0 at G E ⊢
  refine (boardOf_is rt rq rv P p pc Q q qc w0).mono ?_
  rintro e w1 ⟨rfl, hb1⟩
  have Y := Box.new w1 201 #[.int .i64 rt, .int .i64 rq, .int .i64 rv, .slice P p pc, .slice Q q qc]
  have hb2 := bel_trans hb1 (bel_alloc w1 (.cells #[.int .i64 rt, .int .i64 rq, .int .i64 rv, .slice P p pc, .slice Q q qc] 201))
  have G2 := G.later hb2 G.lt
  have E2 := bel_trans E hb2
  have hG1 := (G.later hb1 G.lt).lt
  obtain ⟨d0, d1, d2, d3, d4⟩ := (G.later hb1 G.lt).five
  clear hb1 hb2 G E
  rcases hlf : lefB s l c sh zs x rt rq rv ps with _ | _
  · have HV : Hid (regB s l c sh zs x rt rq rv ps os = false) := Lib.hid (by simp [regB, hlf])
    have HLF := Lib.hid hlf
    clear hlf
    go_wp2_with fail
    generalize (w1.alloc _ : World) = w2 at Y G2 E2 ⊢
    refine (isLeftB_is HLF.out A n cap P p pc w2 HM.out ((HR.out.below E2 (Nat.le_refl _)).more E2.size) hp (HP.out.later E2)).mono ?_
    rintro e w3 ⟨rfl, hb3⟩
    have E3 := bel_trans E2 hb3
    go_wp2
    go_ret
    exact ⟨by rw [HV.out]; rfl, E3⟩
  · have HV : Hid (regB s l c sh zs x rt rq rv ps os = opsB (opnB s l c sh zs) os) := Lib.hid (by simp [regB, hlf])
    have HLF := Lib.hid hlf
    clear hlf
    go_wp2_with fail
    generalize (w1.alloc _ : World) = w2 at Y G2 E2 ⊢
    refine (isLeftB_is HLF.out A n cap P p pc w2 HM.out ((HR.out.below E2 (Nat.le_refl _)).more E2.size) hp (HP.out.later E2)).mono ?_
    rintro e w3 ⟨rfl, hb3⟩
    have E3 := bel_trans E2 hb3
    have G3 := G2.later hb3 G2.lt
    have Y3 := Y.later hb3 Y.lt
    have y4 : w3.cell? ⟨w1.heap.size, 4, none⟩ = some (.slice Q q qc) := Y3.cell 4
    clear d0 d1 d2 d3 d4 Y G2 E2 hb3
    obtain ⟨d0, d1, d2, d3, d4⟩ := G3.five
    go_wp2_with fail
    refine (opensOk_is s l c sh A n cap zs Q q qc os w3 HM.out ((HR.out.below E3 (Nat.le_refl _)).more E3.size) hq (HQ.out.later E3)).mono ?_
    rintro e w4 ⟨rfl, hb4⟩
    have E4 := bel_trans E3 hb4
    go_wp2
    go_ret
    exact ⟨by rw [HV.out]; rfl, E4⟩

end Go.Proofs.YtjdepjpjjgkmbaaGreat

/- The model's ProvenOk: its contract; up to some four million seals. -/
namespace Go.Proofs.YtjdepjpjjgkmbaaGreat
open Go.RowKit

set_option maxRecDepth 100000 in
set_option maxHeartbeats 2000000 in
theorem specProven_is (s l c sh : Int) (A : Option Addr) (n cap : Nat) (zs : List Int) (x ct cq v : Int) (P : Option Addr) (m pcap : Nat) (ps : List (Int × Int)) (w : World) (hm : n ≤ maxLen) (hr : Row w w.heap.size A n zs) (hn : m ≤ 4194304) (h : Pairs w w.heap.size P m ps) :
    Calls Tryz.prog 152 #[.agg #[.int .i64 s, .int .i64 l, .int .i64 c, .int .i64 sh, .slice A n cap], .int .i64 x, .agg #[.int .i64 ct, .int .i64 cq], .int .i64 v, .slice P m pcap] w fun e w' => e = .returned (.bool (proB s l c sh zs x ct cq v ps)) ∧ Below w.heap.size w w' := by
  rw [proB_eq]
  have E0 := bel_trans (bel_alloc w (.cells #[.int .i64 s, .int .i64 l, .int .i64 c, .int .i64 sh, .slice A n cap] 26)) (bel_alloc _ (.cells #[.int .i64 ct, .int .i64 cq] 39))
  have DG := (Box.new w 26 #[.int .i64 s, .int .i64 l, .int .i64 c, .int .i64 sh, .slice A n cap]).alloc (.cells #[.int .i64 ct, .int .i64 cq] 39)
  have DT := Box.new (w.alloc (.cells #[.int .i64 s, .int .i64 l, .int .i64 c, .int .i64 sh, .slice A n cap] 26)) 39 #[.int .i64 ct, .int .i64 cq]
  simp only [World.size_alloc] at DT
  have HR := Lib.hid ((hr.below E0 (Nat.le_refl _)).more E0.size)
  have HM := Lib.hid hm
  have HP := Lib.hid (h.later E0)
  have hN := Lib.hid hn
  clear h hr hm
  obtain ⟨d0, d1, d2, d3, d4⟩ := DG.five
  go_enter Tryz.func152, Tryz.ntmps152
  go_wp2_with fail
  generalize ((w.alloc _).alloc _ : World) = w1 at E0 DG DT HR HP d0 d1 d2 d3 d4 ⊢
  rcases hok : okB s l c sh zs with _ | _
  · have hs := Lib.hid (show shfB s l c sh zs x = false by simp [shfB, hok])
    have HO := Lib.hid hok
    clear hok
    refine (specGroupB_is HO.out A n cap w1 HM.out HR.out).mono ?_
    rintro e w2 ⟨rfl, hb2⟩
    have E2 := bel_trans E0 hb2
    go_wp2
    go_ret
    exact ⟨by rw [hs.out]; rfl, E2⟩
  · have hsh := okB_sh hok
    have hs := Lib.hid (show shfB s l c sh zs x = inB x 0 (sh - 1) by simp [shfB, hok])
    have HO := Lib.hid hok
    clear hok
    refine (specGroupB_is HO.out A n cap w1 HM.out HR.out).mono ?_
    rintro e w2 ⟨rfl, hb2⟩
    have E2 := bel_trans E0 hb2
    have DG2 := DG.later hb2 DG.lt
    have DT2 := DT.later hb2 DT.lt
    have HR2 := Lib.hid ((HR.out.below hb2 (Nat.le_refl _)).more hb2.size)
    have HP2 := Lib.hid (HP.out.later hb2)
    clear d0 d1 d2 d3 d4 DG DT HR HP hb2 E0
    obtain ⟨d0, d1, d2, d3, d4⟩ := DG2.five
    obtain ⟨f0, f1, f2, f3, f4⟩ := fiveAfter DG2
    obtain ⟨t0, t1⟩ := DT2.two
    have f5 := After.cell (by exact DT2.lt) t0
    have f6 := After.cell (by exact DT2.lt) t1
    rcases hin : inB x 0 (sh - 1) with _ | _
    · have HI := Lib.hid hin
      go_wp2_with (go_at_call 174; refine (l1In_any _ _ _ _).mono ?_; rintro e w' ⟨rfl, rfl⟩)
      go_ret
      exact ⟨by rw [hs.out, HI.out]; rfl, E2⟩
    · have HI := Lib.hid hin
      rcases hc : cerB s l c sh zs 1 x ct cq v ps with _ | _
      all_goals (
        have HC := Lib.hid hc
        clear hc
        rcases nil_cases ct cq v with ⟨rfl, rfl, rfl, hnil⟩ | ⟨hnil, hcase⟩
        · have HNL := Lib.hid hnil
          clear hnil
          go_wp2_with (go_at_call 174; refine (l1In_any _ _ _ _).mono ?_; rintro e w' ⟨rfl, rfl⟩)
          refine wp_region_after (by kernel_rfl) (by kernel_rfl) ?_
          repeat (first | go_big_quiet_step ((go_at_call 161; exact after_of (l4Zero_yes _))) | quiet_step ((go_at_call 161; exact after_of (l4Zero_yes _))))
          refine wpQuiet_nil ?_
          intro pw
          go_wp2
          go_ret
          exact ⟨by rw [hs.out, HI.out, HNL.out]; rfl, bel_trans E2 pw.bel⟩
        · have HNL := Lib.hid hnil
          clear hnil
          rcases hcase with h1 | ⟨h1, h2⟩ | ⟨rfl, rfl, h2⟩
          · go_wp2_with (go_at_call 174; refine (l1In_any _ _ _ _).mono ?_; rintro e w' ⟨rfl, rfl⟩)
            refine wp_region_after (by kernel_rfl) (by kernel_rfl) ?_
            repeat (first | go_big_quiet_step (first | (go_at_call 161; exact after_of (l4Zero_no ct cq (.inl h1) _)) | (go_at_call 137; exact after_of (l4Ready_is x ct cq v _)) | (go_at_call 199; exact after_of (specCertB_is HC.out _ n cap _ m pcap _ HM.out (rowAfter HR2.out _) hN.out (pairsAfter HP2.out _)))) | quiet_step (first | (go_at_call 161; exact after_of (l4Zero_no ct cq (.inl h1) _)) | (go_at_call 137; exact after_of (l4Ready_is x ct cq v _)) | (go_at_call 199; exact after_of (specCertB_is HC.out _ n cap _ m pcap _ HM.out (rowAfter HR2.out _) hN.out (pairsAfter HP2.out _)))))
            refine wpQuiet_nil ?_
            intro pw
            go_wp2
            go_ret
            exact ⟨by rw [hs.out, HI.out, HNL.out, HC.out]; rfl, bel_trans E2 pw.bel⟩
          · go_wp2_with (go_at_call 174; refine (l1In_any _ _ _ _).mono ?_; rintro e w' ⟨rfl, rfl⟩)
            refine wp_region_after (by kernel_rfl) (by kernel_rfl) ?_
            repeat (first | go_big_quiet_step (first | (go_at_call 161; exact after_of (l4Zero_no ct cq (.inr ⟨h1, h2⟩) _)) | (go_at_call 137; exact after_of (l4Ready_is x ct cq v _)) | (go_at_call 199; exact after_of (specCertB_is HC.out _ n cap _ m pcap _ HM.out (rowAfter HR2.out _) hN.out (pairsAfter HP2.out _)))) | quiet_step (first | (go_at_call 161; exact after_of (l4Zero_no ct cq (.inr ⟨h1, h2⟩) _)) | (go_at_call 137; exact after_of (l4Ready_is x ct cq v _)) | (go_at_call 199; exact after_of (specCertB_is HC.out _ n cap _ m pcap _ HM.out (rowAfter HR2.out _) hN.out (pairsAfter HP2.out _)))))
            refine wpQuiet_nil ?_
            intro pw
            go_wp2
            go_ret
            exact ⟨by rw [hs.out, HI.out, HNL.out, HC.out]; rfl, bel_trans E2 pw.bel⟩
          · go_wp2_with (go_at_call 174; refine (l1In_any _ _ _ _).mono ?_; rintro e w' ⟨rfl, rfl⟩)
            refine wp_region_after (by kernel_rfl) (by kernel_rfl) ?_
            repeat (first | go_big_quiet_step (first | (go_at_call 161; exact after_of (l4Zero_yes _)) | (go_at_call 137; exact after_of (l4Ready_is x 0 0 v _)) | (go_at_call 199; exact after_of (specCertB_is HC.out _ n cap _ m pcap _ HM.out (rowAfter HR2.out _) hN.out (pairsAfter HP2.out _)))) | quiet_step (first | (go_at_call 161; exact after_of (l4Zero_yes _)) | (go_at_call 137; exact after_of (l4Ready_is x 0 0 v _)) | (go_at_call 199; exact after_of (specCertB_is HC.out _ n cap _ m pcap _ HM.out (rowAfter HR2.out _) hN.out (pairsAfter HP2.out _)))))
            refine wpQuiet_nil ?_
            intro pw
            go_wp2
            go_ret
            exact ⟨by rw [hs.out, HI.out, HNL.out, HC.out]; rfl, bel_trans E2 pw.bel⟩)

end Go.Proofs.YtjdepjpjjgkmbaaGreat

/- The model's functions of shelves, second part: a shelf that is right: contracts of each of them. -/
namespace Go.Proofs.YtjdepjpjjgkmbaaGreat
open Go.RowKit

theorem sevenGD {w : World} {g g' : Nat} {t t' : TypeId} {v0 v1 v2 v3 v4 u0 u1 : Value} (h : Box w g t #[v0, v1, v2, v3, v4]) (h' : Box w g' t' #[u0, u1]) :
    w.cell? ⟨g, 0, none⟩ = some v0 ∧ w.cell? ⟨g, 1, none⟩ = some v1 ∧ w.cell? ⟨g, 2, none⟩ = some v2 ∧ w.cell? ⟨g, 3, none⟩ = some v3 ∧ w.cell? ⟨g, 4, none⟩ = some v4 ∧ w.cell? ⟨g', 0, none⟩ = some u0 ∧ w.cell? ⟨g', 1, none⟩ = some u1 :=
  ⟨h.cell 0, h.cell 1, h.cell 2, h.cell 3, h.cell 4, h'.cell 0, h'.cell 1⟩
/-- What a certificate tells: its stamp and value are right, and it has a seal. -/
theorem cer_parts {s l c sh : Int} {zs : List Int} {x ct cq v : Int} {ps : List (Int × Int)} (h : cerB s l c sh zs 1 x ct cq v ps = true) : stB ct cq = true ∧ valB v = true ∧ ps ≠ [] := by
  unfold cerB at h
  simp only [Bool.and_eq_true, decide_eq_true_eq] at h
  obtain ⟨⟨hok, _⟩, hq⟩ := h
  have hb := okB_parts hok
  have hq1 : 1 ≤ quoN s l c sh zs := by unfold quoN; rw [if_pos hok]; omega
  have hc : 1 ≤ (goodP (rB s l c sh zs 1 x ct cq v) ps).length := by
    unfold cntN at hq
    omega
  have hle : (goodP (rB s l c sh zs 1 x ct cq v) ps).length ≤ (ps.filter (rB s l c sh zs 1 x ct cq v)).length := puts_le _
  obtain ⟨p, hp⟩ := List.exists_mem_of_length_pos (l := ps.filter (rB s l c sh zs 1 x ct cq v)) (by omega)
  rw [List.mem_filter] at hp
  have hr := hp.2
  simp only [rB, riB, seB, clB, Bool.and_eq_true] at hr
  refine ⟨hr.1.1.1.2, hr.1.1.2, fun e => ?_⟩
  rw [e] at hp
  exact absurd hp.1 (by simp)
/-- The model's spelling of it. -/
def spcB (s l c sh : Int) (zs : List Int) (x ct cq v : Int) (ps : List (Int × Int)) : Bool := stB ct cq && valB v && proB s l c sh zs x ct cq v ps && (if ct = 0 ∧ cq = 0 then decide (v = 0) && decide (ps = []) else decide (ps = goodP (rB s l c sh zs 1 x ct cq v) ps))
theorem lefB_spec (s l c sh : Int) (zs : List Int) (x ct cq v : Int) (ps : List (Int × Int)) : spcB s l c sh zs x ct cq v ps = lefB s l c sh zs x ct cq v ps := by
  unfold lefB spcB
  rcases hp : proB s l c sh zs x ct cq v ps with _ | _
  · simp
  · have hp' := hp
    rw [proB_eq, Bool.and_eq_true, Bool.or_eq_true] at hp'
    rcases hp'.2 with hn | hc
    · have : ct = 0 ∧ cq = 0 ∧ v = 0 := by
        rcases nil_cases ct cq v with ⟨h1, h2, h3, _⟩ | ⟨h, _⟩
        · exact ⟨h1, h2, h3⟩
        · rw [h] at hn; cases hn
      obtain ⟨rfl, rfl, rfl⟩ := this
      simp [stB_00, lefS, valB, inB]
    · obtain ⟨h1, h2, h3⟩ := cer_parts hc
      rw [h1, h2]
      unfold lefS
      by_cases hz : ct = 0 ∧ cq = 0
      · rw [if_pos hz, if_pos hz]
        simp [h3]
      · rw [if_neg hz, if_neg hz]
        rfl

theorem specValR_is {x : Int} {b : Bool} (h : valB x = b) (w : World) : Calls Tryz.prog 196 #[.int .i64 x] w fun e w' => e = .returned (.bool b) ∧ w = w' := by
  subst h
  go_enter Tryz.func196, Tryz.ntmps196
  go_wp2_with (go_at_call 174; refine (l1In_any _ _ _ _).mono ?_; rintro e w' ⟨rfl, rfl⟩)
  go_ret
  exact ⟨rfl, rfl⟩
theorem specClientR_is {s l c sh : Int} {zs : List Int} {x : Int} {b : Bool} (h : cliB s l c sh zs x = b) (A : Option Addr) (n cap : Nat) (w : World) (hm : n ≤ maxLen) (hr : Row w w.heap.size A n zs) :
    Calls Tryz.prog 194 #[.agg #[.int .i64 s, .int .i64 l, .int .i64 c, .int .i64 sh, .slice A n cap], .int .i64 x] w fun e w' => e = .returned (.bool b) ∧ Below w.heap.size w w' := h ▸ specClient_any s l c sh A n cap zs x w hm hr
theorem specStampR_is {c k : Int} {b : Bool} (h : stB c k = b) (w : World) : Calls Tryz.prog 195 #[.agg #[.int .i64 c, .int .i64 k]] w fun e w' => e = .returned (.bool b) ∧ Below w.heap.size w w' := h ▸ specStampOk_any c k w
theorem specProvenR_is {s l c sh : Int} {zs : List Int} {x ct cq v : Int} {ps : List (Int × Int)} {b : Bool} (hb : proB s l c sh zs x ct cq v ps = b) (A : Option Addr) (n cap : Nat) (P : Option Addr) (m pcap : Nat) (w : World) (hm : n ≤ maxLen) (hr : Row w w.heap.size A n zs) (hn : m ≤ 4194304) (h : Pairs w w.heap.size P m ps) :
    Calls Tryz.prog 152 #[.agg #[.int .i64 s, .int .i64 l, .int .i64 c, .int .i64 sh, .slice A n cap], .int .i64 x, .agg #[.int .i64 ct, .int .i64 cq], .int .i64 v, .slice P m pcap] w fun e w' => e = .returned (.bool b) ∧ Below w.heap.size w w' := hb ▸ specProven_is s l c sh A n cap zs x ct cq v P m pcap ps w hm hr hn h

set_option maxHeartbeats 1000000 in
theorem l7Open_is (s l c sh : Int) (A : Option Addr) (n cap : Nat) (zs : List Int) (k t y v : Int) (w : World) (hm : n ≤ maxLen) (hr : Row w w.heap.size A n zs) :
    Calls Tryz.prog 180 #[.agg #[.int .i64 s, .int .i64 l, .int .i64 c, .int .i64 sh, .slice A n cap], .agg #[.int .i64 k, .int .i64 t, .int .i64 y, .int .i64 v]] w fun e w' => e = .returned (.bool (opnB s l c sh zs (k, t, y, v))) ∧ Below w.heap.size w w' := by
  have D := Box.new (w.alloc (.cells #[.int .i64 s, .int .i64 l, .int .i64 c, .int .i64 sh, .slice A n cap] 26)) 97 #[.int .i64 k, .int .i64 t, .int .i64 y, .int .i64 v]
  have E := bel_trans (bel_alloc w (.cells #[.int .i64 s, .int .i64 l, .int .i64 c, .int .i64 sh, .slice A n cap] 26)) (bel_alloc _ (.cells #[.int .i64 k, .int .i64 t, .int .i64 y, .int .i64 v] 97))
  simp only [World.size_alloc] at D
  have HR := Lib.hid ((hr.below E (Nat.le_refl _)).more E.size)
  have HM := Lib.hid hm
  clear hr hm
  rcases hcl : cliB s l c sh zs k with _ | _
  · have HV := Lib.hid (opn_1 (t := t) (y := y) (v := v) hcl)
    have HC := Lib.hid hcl
    clear hcl
    go_enter Tryz.func180, Tryz.ntmps180
    go_wp2_with fail
    generalize ((w.alloc _).alloc _ : World) = w0 at D E HR ⊢
    refine (specClientR_is HC.out A n cap w0 HM.out HR.out).mono ?_
    rintro e w1 ⟨rfl, hb1⟩
    go_wp2
    go_ret
    exact ⟨by rw [HV.out]; rfl, bel_trans E hb1⟩
  · have HC := Lib.hid hcl
    clear hcl
    go_enter Tryz.func180, Tryz.ntmps180
    go_wp2_with fail
    generalize ((w.alloc _).alloc _ : World) = w0 at D E HR ⊢
    refine (specClientR_is HC.out A n cap w0 HM.out HR.out).mono ?_
    rintro e w1 ⟨rfl, hb1⟩
    have D1 := D.later hb1 D.lt
    have E1 := bel_trans E hb1
    clear D E HR hb1
    obtain ⟨d0, d1, d2, d3⟩ := D1.four
    rcases h4 : stB t y with _ | _
    · have HV := Lib.hid (opn_4 (s := s) (l := l) (c := c) (sh := sh) (zs := zs) (k := k) (v := v) h4)
      have H4 := Lib.hid h4
      clear h4
      go_wp2_with (go_at_call 195; refine (specStampR_is H4.out _).mono ?_; rintro e w2 ⟨rfl, hb2⟩; have E2 := bel_trans E1 hb2)
      go_ret
      exact ⟨by rw [HV.out]; rfl, E2⟩
    · have H4 := Lib.hid h4
      go_wp2_with fail
      refine (specStampR_is H4.out w1).mono ?_
      rintro e w2 ⟨rfl, hb2⟩
      have E2 := bel_trans E1 hb2
      have D2 := D1.later hb2 D1.lt
      clear D1 E1 hb2 d0 d1 d2 d3
      obtain ⟨d0, d1, d2, d3⟩ := D2.four
      by_cases h3 : 1 ≤ t
      · have h3' : 0 < t := by omega
        by_cases h2 : y = k
        · subst h2
          have HV := Lib.hid (opn_5 (v := v) HC.out h3 h4)
          clear h4
          rcases h5 : valB v with _ | _
          all_goals
            have H5 := Lib.hid h5
            clear h5
            go_wp2_with (go_at_call 196; refine (specValR_is H5.out _).mono ?_; rintro e w3 ⟨rfl, rfl⟩)
            go_ret
            exact ⟨by rw [HV.out, H5.out]; rfl, E2⟩
        · have h2' : (y == k) = false := by simpa using h2
          have HV := Lib.hid (opn_2 (s := s) (l := l) (c := c) (sh := sh) (zs := zs) (t := t) (v := v) h2)
          clear h4
          go_wp2
          go_ret
          exact ⟨by rw [HV.out]; rfl, E2⟩
      · have h3' : ¬ 0 < t := by omega
        have HV := Lib.hid (opn_3 (s := s) (l := l) (c := c) (sh := sh) (zs := zs) (k := k) (y := y) (v := v) h3)
        clear h4
        go_wp2
        go_ret
        exact ⟨by rw [HV.out]; rfl, E2⟩
theorem l7OpenB_is {s l c sh : Int} {zs : List Int} {k t y v : Int} {b : Bool} (h : opnB s l c sh zs (k, t, y, v) = b) (A : Option Addr) (n cap : Nat) (w : World) (hm : n ≤ maxLen) (hr : Row w w.heap.size A n zs) :
    Calls Tryz.prog 180 #[.agg #[.int .i64 s, .int .i64 l, .int .i64 c, .int .i64 sh, .slice A n cap], .agg #[.int .i64 k, .int .i64 t, .int .i64 y, .int .i64 v]] w fun e w' => e = .returned (.bool b) ∧ Below w.heap.size w w' := h ▸ l7Open_is s l c sh A n cap zs k t y v w hm hr

set_option maxHeartbeats 2000000 in
theorem l7Like_is (A A' : Option Addr) (n cap n' cap' : Nat) (ps qs : List (Int × Int)) (w : World) (hm : n ≤ 4194304) (hm' : n' ≤ 4194304) (hr : Pairs w w.heap.size A n ps) (hr' : Pairs w w.heap.size A' n' qs) :
    Calls Tryz.prog 219 #[.slice A n cap, .slice A' n' cap'] w fun e w' => e = .returned (.bool (decide (ps = qs))) ∧ Below w.heap.size w w' := by
  by_cases hnn : n = n'
  · subst hnn
    have HL := Lib.hid hr.1
    have HL' := Lib.hid hr'.1
    have HR := Lib.hid hr
    have HR' := Lib.hid hr'
    clear hr hr'
    go_enter Tryz.func219, Tryz.ntmps219
    go_wp2_with fail
    go_loopw [5] (fun i wr => ∃ k : Nat, k ≤ n ∧ i = .int .i64 k ∧ (∀ j, j < k → pth ps j = pth qs j) ∧ Below w.heap.size w wr) (fun i _ => n - (intOf i).toNat)
    case atStart => exact ⟨0, Nat.zero_le _, rfl, fun j hj => absurd hj (by omega), Below.refl _ _⟩
    case round =>
      obtain ⟨k, hk, rfl, heq, hb⟩ := hrel
      by_cases hlt : k < n
      · obtain ⟨b, o, hA, hbB, hcell⟩ := HR.out.2 (by omega)
        obtain ⟨b', o', hA', hbB', hcell'⟩ := HR'.out.2 (by omega)
        subst hA hA'
        obtain ⟨g0, g1⟩ := hcell k hlt
        obtain ⟨h0, h1⟩ := hcell' k hlt
        have hz := hb.size
        have g0 := After.cell (w := wr) (a := ⟨b, o + k * 2, none⟩) (by simp; omega) ((hb.cell (p := ⟨b, o + k * 2, none⟩) hbB).trans g0)
        have g1 := After.cell (w := wr) (a := ⟨b, o + k * 2 + 1, none⟩) (by simp; omega) ((hb.cell (p := ⟨b, o + k * 2 + 1, none⟩) hbB).trans g1)
        have h0 := After.cell (w := wr) (a := ⟨b', o' + k * 2, none⟩) (by simp; omega) ((hb.cell (p := ⟨b', o' + k * 2, none⟩) hbB').trans h0)
        have h1 := After.cell (w := wr) (a := ⟨b', o' + k * 2 + 1, none⟩) (by simp; omega) ((hb.cell (p := ⟨b', o' + k * 2 + 1, none⟩) hbB').trans h1)
        generalize hx : pth ps k = x at g0 g1
        generalize hy : pth qs k = y at h0 h1
        obtain ⟨x, x'⟩ := x
        obtain ⟨y, y'⟩ := y
        have HX := Lib.hid hx
        have HY := Lib.hid hy
        replace heq := Lib.hid heq
        have hlt' : (k : Int) < (n : Int) := by omega
        clear hcell hcell' hx hy
        by_cases e1 : x = y
        · subst e1
          by_cases e2 : x' = y'
          · subst e2
            have hst := Lib.hid (show ∀ j, j < k + 1 → pth ps j = pth qs j from fun j hj => by
              by_cases ej : j = k
              · subst ej; rw [HX.out, HY.out]
              · exact heq.out j (by omega))
            go_wp2_with fail
            refine wp_region_after (by kernel_rfl) (by kernel_rfl) ?_
            repeat (first | go_big_quiet_step (fail) | quiet_step (fail))
            refine wpQuiet_nil ?_
            intro pw
            have E3 := bel_trans hb pw.bel
            go_wp2
            go_roundw
            case rel => exact ⟨k + 1, by omega, by go_num, hst.out, E3⟩
            case measure => simp [intOf]; omega
          · have e2' : (x' == y') = false := by simpa using e2
            have HF : Hid (decide (ps = qs) = false) := Lib.hid (decide_eq_false fun h => e2 (by have a := HX.out; rw [h, HY.out] at a; injection a with _ a; exact a.symm))
            go_wp2_with fail
            refine wp_region_after (by kernel_rfl) (by kernel_rfl) ?_
            repeat (first | go_big_quiet_step (fail) | quiet_step (fail))
            refine wpQuiet_nil ?_
            intro pw
            have E3 := bel_trans hb pw.bel
            go_wp2
            go_ret
            exact ⟨by rw [HF.out]; rfl, E3⟩
        · have e1' : (x == y) = false := by simpa using e1
          have HF : Hid (decide (ps = qs) = false) := Lib.hid (decide_eq_false fun h => e1 (by have a := HX.out; rw [h, HY.out] at a; injection a with a _; exact a.symm))
          go_wp2_with fail
          refine wp_region_after (by kernel_rfl) (by kernel_rfl) ?_
          repeat (first | go_big_quiet_step (fail) | quiet_step (fail))
          refine wpQuiet_nil ?_
          intro pw
          have E3 := bel_trans hb pw.bel
          go_wp2
          go_ret
          exact ⟨by rw [HF.out]; rfl, E3⟩
      · obtain rfl : k = n := by omega
        have HF : Hid (decide (ps = qs) = true) := Lib.hid (decide_eq_true (pth_ext (by rw [HL.out, HL'.out]) fun j hj => heq j (by rw [← HL.out]; exact hj)))
        replace heq := Lib.hid heq
        go_wp2
        go_ret
        exact ⟨by rw [HF.out]; rfl, hb⟩
  · have hne : ((n : Int) != (n' : Int)) = true := by simp; omega
    have HF : Hid (decide (ps = qs) = false) := Lib.hid (decide_eq_false fun h => hnn (by rw [← hr.1, ← hr'.1, h]))
    clear hr hr'
    go_enter Tryz.func219, Tryz.ntmps219
    go_wp2
    go_ret
    exact ⟨by rw [HF.out]; rfl, Below.refl _ _⟩


set_option maxRecDepth 100000 in
set_option maxHeartbeats 2000000 in
theorem l7Proven_is (s l c sh : Int) (A : Option Addr) (n cap : Nat) (zs : List Int) (x ct cq v : Int) (P : Option Addr) (m pcap : Nat) (ps : List (Int × Int)) (w : World) (hm : n ≤ maxLen) (hr : Row w w.heap.size A n zs) (hn : m ≤ 4194304) (h : Pairs w w.heap.size P m ps) :
    Calls Tryz.prog 181 #[.agg #[.int .i64 s, .int .i64 l, .int .i64 c, .int .i64 sh, .slice A n cap], .int .i64 x, .agg #[.int .i64 ct, .int .i64 cq], .int .i64 v, .slice P m pcap] w fun e w' => e = .returned (.bool (lefB s l c sh zs x ct cq v ps)) ∧ Below w.heap.size w w' := by
  rw [← lefB_spec]
  have G := (Box.new w 26 #[.int .i64 s, .int .i64 l, .int .i64 c, .int .i64 sh, .slice A n cap]).alloc (.cells #[.int .i64 ct, .int .i64 cq] 39)
  have D := Box.new (w.alloc (.cells #[.int .i64 s, .int .i64 l, .int .i64 c, .int .i64 sh, .slice A n cap] 26)) 39 #[.int .i64 ct, .int .i64 cq]
  have E := bel_trans (bel_alloc w (.cells #[.int .i64 s, .int .i64 l, .int .i64 c, .int .i64 sh, .slice A n cap] 26)) (bel_alloc _ (.cells #[.int .i64 ct, .int .i64 cq] 39))
  simp only [World.size_alloc] at D
  have HR := Lib.hid hr
  have HP := Lib.hid h
  have HL := Lib.hid h.1
  have HM := Lib.hid hm
  clear hr hm h
  go_enter Tryz.func181, Tryz.ntmps181
  go_wp2_with fail
  generalize ((w.alloc _).alloc _ : World) = w0 at D G E ⊢
  rcases h1 : stB ct cq with _ | _
  · have H1 := Lib.hid h1
    clear h1
    refine (specStampR_is H1.out w0).mono ?_
    rintro e w1 ⟨rfl, hb1⟩
    have E1 := bel_trans E hb1
    go_wp2
    go_ret
    exact ⟨by unfold spcB; rw [H1.out]; rfl, E1⟩
  have H1 := Lib.hid h1
  clear h1
  refine (specStampR_is H1.out w0).mono ?_
  rintro e w1 ⟨rfl, hb1⟩
  have E1 := bel_trans E hb1
  have G1 := G.later hb1 G.lt
  have D1 := D.later hb1 D.lt
  clear E G D hb1
  obtain ⟨d0, d1⟩ := D1.two
  obtain ⟨g0, g1, g2, g3, g4⟩ := G1.five
  rcases h2 : valB v with _ | _
  · have H2 := Lib.hid h2
    clear h2
    go_wp2_with (go_at_call 196; refine (specValR_is H2.out _).mono ?_; rintro e w3 ⟨rfl, rfl⟩)
    go_ret
    exact ⟨by unfold spcB; rw [H1.out, H2.out]; rfl, E1⟩
  have H2 := Lib.hid h2
  clear h2
  go_wp2_with fail
  refine (specValR_is H2.out w1).mono ?_
  rintro e w1' ⟨rfl, rfl⟩
  rcases h3 : proB s l c sh zs x ct cq v ps with _ | _
  · have H3 := Lib.hid h3
    clear h3
    go_wp2_with fail
    refine (specProvenR_is H3.out A n cap P m pcap w1 HM.out ((HR.out.below E1 (Nat.le_refl _)).more E1.size) hn (HP.out.later E1)).mono ?_
    rintro e w2 ⟨rfl, hb2⟩
    have E2 := bel_trans E1 hb2
    go_wp2
    go_ret
    exact ⟨by unfold spcB; rw [H1.out, H2.out, H3.out]; rfl, E2⟩
  have H3 := Lib.hid h3
  clear h3
  go_wp2_with fail
  refine (specProvenR_is H3.out A n cap P m pcap w1 HM.out ((HR.out.below E1 (Nat.le_refl _)).more E1.size) hn (HP.out.later E1)).mono ?_
  rintro e w2 ⟨rfl, hb2⟩
  have E2 := bel_trans E1 hb2
  have G2 := G1.later hb2 G1.lt
  have D2 := D1.later hb2 D1.lt
  clear E1 G1 D1 hb2 d0 d1 g0 g1 g2 g3 g4
  obtain ⟨d0, d1⟩ := D2.two
  rcases zero_cases ct cq with ⟨rfl, rfl⟩ | ⟨hcase, hnz⟩
  · go_wp2_with fail
    refine (l4Zero_yes w2).mono ?_
    rintro e w3 ⟨rfl, hb3⟩
    have E3 := bel_trans E2 hb3
    by_cases hv : v = 0
    · subst hv
      by_cases hz : m = 0
      · subst hz
        have hps : Hid (ps = []) := Lib.hid (List.length_eq_zero_iff.1 HL.out)
        go_wp2
        go_ret
        exact ⟨by unfold spcB; rw [H1.out, H2.out, H3.out, hps.out]; simp, E3⟩
      · have hm0 : ((m : Int) == 0) = false := by simp; exact hz
        have hps : Hid (ps ≠ []) := Lib.hid (fun e => hz (by rw [← HL.out, e]; rfl))
        go_wp2
        go_ret
        exact ⟨by unfold spcB; rw [H1.out, H2.out, H3.out]; have := hps.out; simp [this], E3⟩
    · have hv' : (v == 0) = false := by simpa using hv
      go_wp2
      go_ret
      exact ⟨by unfold spcB; rw [H1.out, H2.out, H3.out]; simp [hv], E3⟩
  · have HZ := Lib.hid (l4Zero_no ct cq hcase)
    have HN := Lib.hid hnz
    clear hcase hnz
    go_wp2_with fail
    refine (HZ.out w2).mono ?_
    rintro e w3 ⟨rfl, hb3⟩
    have E3 := bel_trans E2 hb3
    have G3 := G2.later hb3 G2.lt
    have D3 := D2.later hb3 D2.lt
    have R3 := (HR.out.below E3 (Nat.le_refl _)).more E3.size
    have P3 := HP.out.later E3
    clear E2 G2 D2 hb3 d0 d1
    obtain ⟨d0, d1⟩ := D3.two
    obtain ⟨g0, g1, g2, g3, g4⟩ := G3.five
    obtain ⟨J, hJ⟩ : ∃ J, goodP (rB s l c sh zs 1 x ct cq v) ps = J := ⟨_, rfl⟩
    have hJl : J.length ≤ 4194304 := by
      rw [← hJ]
      have := goodP_le (rB s l c sh zs 1 x ct cq v) ps
      rw [HL.out] at this
      omega
    replace hJ := Lib.hid hJ
    go_wp2_with fail
    go_region_held3 (fun w' => w'.cell? ⟨w.heap.size, 0, none⟩ = some (.int .i64 s) ∧ w'.cell? ⟨w.heap.size, 1, none⟩ = some (.int .i64 l) ∧ w'.cell? ⟨w.heap.size, 2, none⟩ = some (.int .i64 c) ∧ w'.cell? ⟨w.heap.size, 3, none⟩ = some (.int .i64 sh) ∧ w'.cell? ⟨w.heap.size, 4, none⟩ = some (.slice A n cap) ∧ w'.cell? ⟨w.heap.size + 1, 0, none⟩ = some (.int .i64 ct) ∧ w'.cell? ⟨w.heap.size + 1, 1, none⟩ = some (.int .i64 cq))
      (first | (with_reducible exact K6) | (with_reducible exact K5) | (with_reducible exact K4) | go_keep)
      (first
        | (go_at_call 137; refine (l4Ready_is x ct cq v _).mono ?_; rintro e w4 ⟨rfl, hb4⟩; have F4 := bel_drew' hb4; have R4 := (R3.below F4 (Nat.le_refl _)).more F4.size; have P4 := P3.later F4; have K4 := sevenGD (G3.later F4 G3.lt) (D3.later F4 D3.lt))
        | (go_at_call 220; refine (specGood_is s l c sh A n cap zs 1 x ct cq v P m pcap ps _ HM.out R4 hn P4).mono ?_; rintro e w5 ⟨q5, c5, rfl, hw5, hb5⟩; rw [hJ.out] at hw5; have F5 := bel_trans F4 hb5; have P5 := P4.later hb5; have K5 := sevenGD (G3.later F5 G3.lt) (D3.later F5 D3.lt))
        | (go_at_call 219; rw [hJ.out]; refine (l7Like_is P _ m pcap J.length c5 ps J _ hn hJl P5 hw5).mono ?_; rintro e w6 ⟨rfl, hb6⟩; have F6 := bel_trans F5 hb6; have K6 := sevenGD (G3.later F6 G3.lt) (D3.later F6 D3.lt)))
    have E6 := bel_trans E3 F6
    clear K4 K5 K6 d0 d1 g0 g1 g2 g3 g4
    go_wp2
    go_ret
    exact ⟨by unfold spcB; rw [H1.out, H2.out, H3.out, if_neg HN.out, hJ.out]; rfl, E6⟩

end Go.Proofs.YtjdepjpjjgkmbaaGreat

/- The model's RegOk: its contract. -/
namespace Go.Proofs.YtjdepjpjjgkmbaaGreat
open Go.RowKit

end Go.Proofs.YtjdepjpjjgkmbaaGreat

/- The model's l4Put and GoodSeals once more: what they answer is a row of the call's own (written by spec_own.py). -/
namespace Go.Proofs.YtjdepjpjjgkmbaaGreat
open Go.RowKit

/-- What is answered: a row of one's own, from base on. -/
def GivesO (base : Nat) (w : World) (ps : List (Int × Int)) (e : Ending) (w' : World) : Prop :=
  ∃ g cap, e = .returned (.slice (some ⟨g, 0, none⟩) ps.length cap) ∧ w'.ownsRow base 136 2 (.slice (some ⟨g, 0, none⟩) ps.length cap) ps.length (flatP ps) ∧ Below w.heap.size w w'

set_option maxRecDepth 100000 in
set_option maxHeartbeats 2000000 in
theorem putO_is (base g cap : Nat) (l : List (Int × Int)) (x t : Int) (w : World) (hn : l.length ≤ 4194304) (hbase : base ≤ w.heap.size) (hO : w.ownsRow base 136 2 (.slice (some ⟨g, 0, none⟩) l.length cap) l.length (flatP l)) :
    Calls Tryz.prog 238 #[.slice (some ⟨g, 0, none⟩) l.length cap, .agg #[.int .i64 x, .int .i64 t]] w (GivesO base w (put l (x, t))) := by
  have h := own_pairs hO
  have HO := Lib.hid hO
  clear hO
  obtain ⟨i0, hi0, hz0, hz1, hz2⟩ := info_parts Tryz.infoSealI
  have K0 : PutAt w ((w.alloc (.cells #[.int .i64 x, .int .i64 t] 136)).alloc (.cells #[] 136)) x t (w.heap.size + 1) 0 [] := by
    refine ⟨⟨rfl, .inr ⟨w.heap.size + 1, 0, #[], rfl, Nat.le_refl _, ?_, Nat.le_refl _, Nat.zero_le _, rfl, rfl⟩⟩, bel_trans (bel_alloc _ _) (bel_alloc _ _), (Box.new w _ _).alloc _⟩
    have := Box.new (w.alloc (.cells #[.int .i64 x, .int .i64 t] 136)) 136 #[]
    simp only [World.size_alloc] at this
    exact this
  have HP := Lib.hid h
  obtain ⟨n, hnl⟩ : ∃ n, l.length = n := ⟨_, rfl⟩
  have K1 : ∀ k, k < n → l.take (k + 1) = l.take k ++ [pth l k] := fun k hk => by
    rw [List.take_succ_eq_append_getElem (by omega), pth_lt (by omega)]
  have K1 := Lib.hid K1
  rw [hnl] at hn ⊢
  have hnl := Lib.hid hnl
  rename_i q1 q2
  clear h q1 q2
  go_enter Tryz.func238, Tryz.ntmps238
  go_wp2_with fail
  generalize ((w.alloc _).alloc _ : World) = w1 at K0 ⊢
  go_loopw [5, 6, 7] (fun ov bv iv wr => ∃ (k q cap' : Nat) (o : List (Int × Int)) (b : Bool), k ≤ n ∧ iv = .int .i64 k ∧ bv = .bool b ∧ ov = .slice (some ⟨q, 0, none⟩) o.length cap' ∧ PutAt w wr x t q cap' o ∧ o.length ≤ k + 1 ∧ (∀ p ∈ l.take k, p.1 ≠ x) ∧
      ((b = false ∧ o = l.take k ∧ ∀ p ∈ l.take k, p.1 ≤ x) ∨ (b = true ∧ o = ins (l.take k) (x, t) ∧ ∃ p ∈ l.take k, x < p.1))) (fun _ _ i _ => n - (intOf i).toNat)
  case atStart => exact ⟨0, _, 0, [], false, Nat.zero_le _, rfl, rfl, rfl, K0, by simp, by simp, .inl ⟨rfl, by simp, by simp⟩⟩
  case round =>
    obtain ⟨k, q, cap', o, b, hk, rfl, rfl, rfl, hP, hol, hne, hcase⟩ := hrel
    by_cases hlt : k < n
    · have hlt' : (k : Int) < (n : Int) := by omega
      obtain ⟨b', o', hA, hbB, hcell⟩ := HP.out.2 (by have := hnl.out; omega)
      cases hA
      obtain ⟨c0, c1⟩ := hcell k (by have := hnl.out; omega)
      rw [Nat.zero_add] at c0 c1
      have c0 := (hP.bel.cell (p := ⟨g, k * 2, none⟩) hbB).trans c0
      have c1 := (hP.bel.cell (p := ⟨g, k * 2 + 1, none⟩) hbB).trans c1
      have hst := Lib.hid (K1.out k hlt)
      generalize hy : pth l k = y at c0 c1 hst
      obtain ⟨y, y'⟩ := y
      obtain ⟨s0, s1⟩ := hP.box.two
      have hgl : g < wr.heap.size := Nat.lt_of_lt_of_le hbB hP.bel.size
      have hq := (hP.own.lt q rfl)
      have g0 := After.cell (by exact hgl) c0
      have g1 := After.cell (by exact hgl) c1
      have e0 := After.cell (by exact hP.box.lt) s0
      have e1 := After.cell (by exact hP.box.lt) s1
      have hy := Lib.hid hy
      have hcase := Lib.hid hcase
      have hne := Lib.hid hne
      have hPP := Lib.hid hP
      rename_i q1 q2 q3
      clear q1 q2 q3 hcell c0 c1 s0 s1 hP
      by_cases hyx : y = x
      · subst hyx
        have hhas : put l (y, t) = l := by
          have : has l y = true := has_mem.2 ⟨pth l k, by rw [pth_lt (by have := hnl.out; omega)]; exact List.getElem_mem _, by rw [hy.out]⟩
          simp [put, this]
        rw [hhas]
        go_wp2_with fail
        refine wp_region_after (by kernel_rfl) (by kernel_rfl) ?_
        repeat (first | go_big_quiet_step (fail) | quiet_step (fail))
        refine wpQuiet_nil ?_
        intro pw
        have hP := hPP.out.later pw.bel
        clear g0 g1 e0 e1
        go_wp2
        go_ret
        exact ⟨g, cap, by rw [hnl.out]; rfl, hnl.out ▸ HO.out.kept (grown_bel hP.bel none) (.inr (by intro e; cases e)), hP.bel⟩
      · have hyx' : (y == x) = false := by simp [hyx]
        have hyx := Lib.hid hyx
        rename_i q1
        clear q1
        go_wp2_with fail
        refine wp_region_after (by kernel_rfl) (by kernel_rfl) ?_
        repeat (first | go_big_quiet_step (fail) | quiet_step (fail))
        refine wpQuiet_nil ?_
        intro pw
        have d0 := g0 pw
        have d1 := g1 pw
        have d2 := e0 pw
        have d3 := e1 pw
        have hP := hPP.out.later pw.bel
        clear g0 g1 e0 e1 hPP
        generalize pw.x = w2 at d0 d1 d2 d3 hP ⊢
        have hsz := hP.bel.size
        have hbl := hP.box.lt
        have hgl2 : g < w2.heap.size := Nat.lt_of_lt_of_le hbB hsz
        have g0 := After.cell (by exact hgl2) d0
        have g1 := After.cell (by exact hgl2) d1
        have e0 := After.cell (by exact hbl) d2
        have e1 := After.cell (by exact hbl) d3
        have hPP := Lib.hid hP
        clear d0 d1 d2 d3 hP
        have hne' : ∀ p ∈ l.take (k + 1), p.1 ≠ x := by
          rw [hst.out]
          intro p hp
          rcases List.mem_append.1 hp with e | e
          · exact hne.out p e
          · simp only [List.mem_singleton] at e
            rw [e]
            exact hyx.out
        have hne' := Lib.hid hne'
        rename_i q1
        clear q1
        rcases hcase.out with ⟨rfl, ho, hall⟩ | ⟨rfl, ho, hex⟩
        · have ho := Lib.hid ho
          have hall := Lib.hid hall
          rename_i q1 q2
          clear q1 q2
          by_cases hxy : x < y
          · go_wp2_with fail
            refine wp_region_after (by kernel_rfl) (by kernel_rfl) ?_
            repeat (first | go_big_quiet_step (fail) | quiet_step (fail))
            refine wpQuiet_nil ?_
            intro pw2
            have d0 := g0 pw2
            have d1 := g1 pw2
            have d2 := e0 pw2
            have d3 := e1 pw2
            have hP := hPP.out.later pw2.bel
            clear g0 g1 e0 e1 hPP
            generalize pw2.x = w3 at d0 d1 d2 d3 hP ⊢
            have hq3 := hP.own.lt q rfl
            have hsz3 := hP.bel.size
            have hbx3 := hP.box.lt
            go_wp2_with (first | (at_builtin; refine wpList_append_lies _ rfl _ _ _ rfl (w.heap.size + 1) 136 i0 _ 2 16 Tryz.underlying40 hi0 hz0 hz1 hz2 rfl (by omega) (.slice (some ⟨gg, 0, none⟩) (o.length + 1) cap2) (o.length + 1) (flatP o ++ [.int .i64 x, .int .i64 t]) rfl (hown2.alloc _) ⟨w5.heap.size, 0, none⟩ 1 1 [.int .i64 y, .int .i64 y'] rfl rfl (World.news_of_block (cs := #[.int .i64 y, .int .i64 y']) (t := 136) (fr := (0, 0)) (heap_alloc_new w5 _)) (by simp [Value.oneCell']) (by omega) (by unfold maxLen; omega) (by omega) (by simp; omega) (w5.heap.size + 1) (by simp) ?_; intro g3 cap3 w6 hown3 hgrow3 hat3 hlt3; have hP3 := hP2.push (gg := g3) (cap2 := cap3) (a := y) (b := y') (by simpa [flatP_snoc] using hown3) (by simpa using hgrow3); clear hown3 hgrow3 hat3 hown2) | (at_builtin; refine wpList_append_lies _ rfl _ _ _ rfl (w.heap.size + 1) 136 i0 _ 2 16 Tryz.underlying40 hi0 hz0 hz1 hz2 rfl (by omega) (.slice (some ⟨q, 0, none⟩) (o.length) cap') (o.length) (flatP o) rfl (hP.own.alloc _) ⟨w3.heap.size, 0, none⟩ 1 1 [.int .i64 x, .int .i64 t] rfl rfl (World.news_of_block (cs := #[.int .i64 x, .int .i64 t]) (t := 136) (fr := (0, 0)) (heap_alloc_new w3 _)) (by simp [Value.oneCell']) (by omega) (by unfold maxLen; omega) (by omega) (by simp; omega) (w3.heap.size + 1) (by simp) ?_; intro gg cap2 w5 hown2 hgrow2 hat hlt2; have hP2 := hP.push hown2 hgrow2; have c0 := (hP2.bel.cell (p := ⟨g, k * 2, none⟩) hbB).trans ((hP.bel.cell (p := ⟨g, k * 2, none⟩) hbB).symm.trans d0); have c1 := (hP2.bel.cell (p := ⟨g, k * 2 + 1, none⟩) hbB).trans ((hP.bel.cell (p := ⟨g, k * 2 + 1, none⟩) hbB).symm.trans d1); have hsz5 := hP2.bel.size; have hbx5 := hP2.box.lt; clear hgrow2 hat))
            have hP3 := Lib.hid hP3
            rename_i q1
            clear q1 hP2 hP
            go_roundw
            case rel =>
              have hl2 : (o ++ [(x, t)] ++ [(y, y')]).length = o.length + 1 + 1 := by simp
              exact ⟨k + 1, _, _, o ++ [(x, t)] ++ [(y, y')], true, by omega, by go_num, rfl, by rw [hl2], hP3.out, by rw [hl2, ho.out, List.length_take]; have := hnl.out; omega, hne'.out, .inr ⟨rfl, by rw [hst.out, ins_here hall.out hxy, ho.out], (y, y'), by rw [hst.out]; simp, hxy⟩⟩
            case measure => simp [intOf]; omega
          · have hxy' : y ≤ x := Int.not_lt.1 hxy
            clear hxy
            go_wp2_with fail
            refine wp_region_after (by kernel_rfl) (by kernel_rfl) ?_
            repeat (first | go_big_quiet_step (fail) | quiet_step (fail))
            refine wpQuiet_nil ?_
            intro pw2
            have d0 := g0 pw2
            have d1 := g1 pw2
            have d2 := e0 pw2
            have d3 := e1 pw2
            have hP := hPP.out.later pw2.bel
            clear g0 g1 e0 e1 hPP
            generalize pw2.x = w3 at d0 d1 d2 d3 hP ⊢
            have hq3 := hP.own.lt q rfl
            have hsz3 := hP.bel.size
            have hbx3 := hP.box.lt
            go_wp2_with (at_builtin; refine wpList_append_lies _ rfl _ _ _ rfl (w.heap.size + 1) 136 i0 _ 2 16 Tryz.underlying40 hi0 hz0 hz1 hz2 rfl (by omega) (.slice (some ⟨q, 0, none⟩) (o.length) cap') (o.length) (flatP o) rfl (hP.own.alloc _) ⟨w3.heap.size, 0, none⟩ 1 1 [.int .i64 y, .int .i64 y'] rfl rfl (World.news_of_block (cs := #[.int .i64 y, .int .i64 y']) (t := 136) (fr := (0, 0)) (heap_alloc_new w3 _)) (by simp [Value.oneCell']) (by omega) (by unfold maxLen; omega) (by omega) (by simp; omega) (w3.heap.size + 1) (by simp) ?_; intro gg cap2 w5 hown2 hgrow2 hat hlt2; have hP3 := hP.push hown2 hgrow2; clear hown2 hgrow2 hat)
            have hP3 := Lib.hid hP3
            rename_i q1
            clear q1 hP
            go_roundw
            case rel =>
              exact ⟨k + 1, _, _, o ++ [(y, y')], false, by omega, by go_num, rfl, by simp, hP3.out, by rw [List.length_append, ho.out, List.length_take]; simp; omega, hne'.out, .inl ⟨rfl, by rw [hst.out, ho.out], by
                rw [hst.out]
                intro p hp
                rcases List.mem_append.1 hp with e | e
                · exact hall.out p e
                · simp only [List.mem_singleton] at e
                  rw [e]
                  exact hxy'⟩⟩
            case measure => simp [intOf]; omega
        · have ho := Lib.hid ho
          have hex := Lib.hid hex
          rename_i q1 q2
          clear q1 q2
          go_wp2_with fail
          refine wp_region_after (by kernel_rfl) (by kernel_rfl) ?_
          repeat (first | go_big_quiet_step (fail) | quiet_step (fail))
          refine wpQuiet_nil ?_
          intro pw2
          have d0 := g0 pw2
          have d1 := g1 pw2
          have d2 := e0 pw2
          have d3 := e1 pw2
          have hP := hPP.out.later pw2.bel
          clear g0 g1 e0 e1 hPP
          generalize pw2.x = w3 at d0 d1 d2 d3 hP ⊢
          have hq3 := hP.own.lt q rfl
          have hsz3 := hP.bel.size
          have hbx3 := hP.box.lt
          go_wp2_with (at_builtin; refine wpList_append_lies _ rfl _ _ _ rfl (w.heap.size + 1) 136 i0 _ 2 16 Tryz.underlying40 hi0 hz0 hz1 hz2 rfl (by omega) (.slice (some ⟨q, 0, none⟩) (o.length) cap') (o.length) (flatP o) rfl (hP.own.alloc _) ⟨w3.heap.size, 0, none⟩ 1 1 [.int .i64 y, .int .i64 y'] rfl rfl (World.news_of_block (cs := #[.int .i64 y, .int .i64 y']) (t := 136) (fr := (0, 0)) (heap_alloc_new w3 _)) (by simp [Value.oneCell']) (by omega) (by unfold maxLen; omega) (by omega) (by simp; omega) (w3.heap.size + 1) (by simp) ?_; intro gg cap2 w5 hown2 hgrow2 hat hlt2; have hP3 := hP.push hown2 hgrow2; clear hown2 hgrow2 hat)
          have hP3 := Lib.hid hP3
          rename_i q1
          clear q1 hP
          go_roundw
          case rel =>
            exact ⟨k + 1, _, _, o ++ [(y, y')], true, by omega, by go_num, rfl, by simp, hP3.out, by rw [List.length_append, ho.out, ins_len, List.length_take]; simp; omega, hne'.out, .inr ⟨rfl, by rw [hst.out, ins_snoc hex.out, ho.out], by
              obtain ⟨p, hp, hlt⟩ := hex.out
              exact ⟨p, by rw [hst.out]; simp [hp], hlt⟩⟩⟩
          case measure => simp [intOf]; omega
    · obtain rfl : k = n := by omega
      have hno : has l x = false := has_not.2 (by have := hne; rwa [← hnl.out, List.take_length] at this)
      have hpt : put l (x, t) = ins l (x, t) := by simp [put, hno]
      have hpt := Lib.hid hpt
      have hcase : (b = false ∧ o = l ∧ ∀ p ∈ l, p.1 ≤ x) ∨ (b = true ∧ o = ins l (x, t) ∧ ∃ p ∈ l, x < p.1) := by rwa [← hnl.out, List.take_length] at hcase
      rename_i q1 q2
      clear q1 q2 hno hne
      have hq3 := hP.own.lt q rfl
      have hsz3 := hP.bel.size
      have hbx3 := hP.box.lt
      obtain ⟨s0, s1⟩ := hP.box.two
      rcases hcase with ⟨rfl, ho, hall⟩ | ⟨rfl, ho, hex⟩
      · have ho := Lib.hid ho
        have hall := Lib.hid hall
        rename_i q1 q2
        clear q1 q2
        go_wp2_with (at_builtin; refine wpList_append_lies _ rfl _ _ _ rfl (w.heap.size + 1) 136 i0 _ 2 16 Tryz.underlying40 hi0 hz0 hz1 hz2 rfl (by omega) (.slice (some ⟨q, 0, none⟩) (o.length) cap') (o.length) (flatP o) rfl (hP.own.alloc _) ⟨wr.heap.size, 0, none⟩ 1 1 [.int .i64 x, .int .i64 t] rfl rfl (World.news_of_block (cs := #[.int .i64 x, .int .i64 t]) (t := 136) (fr := (0, 0)) (heap_alloc_new wr _)) (by simp [Value.oneCell']) (by omega) (by unfold maxLen; omega) (by omega) (by simp; omega) (wr.heap.size + 1) (by simp) ?_; intro gg cap2 w5 hown2 hgrow2 hat hlt2; have hP3 := hP.push hown2 hgrow2; clear hown2 hgrow2 hat)
        go_ret
        have e : put l (x, t) = o ++ [(x, t)] := by rw [hpt.out, ins_small hall.out, ho.out]
        rw [e]
        exact ⟨gg, cap2, by rw [List.length_append]; rfl, ownLow hP3.own (by omega), hP3.bel⟩
      · have ho := Lib.hid ho
        have hex := Lib.hid hex
        rename_i q1 q2
        clear q1 q2
        go_wp2
        go_ret
        have e : put l (x, t) = o := by rw [hpt.out, ho.out]
        rw [e]
        exact ⟨_, _, rfl, ownLow hP.own (by omega), hP.bel⟩


set_option maxRecDepth 100000 in
set_option maxHeartbeats 1000000 in
theorem specGoodO_is (s l c sh : Int) (A : Option Addr) (n cap : Nat) (zs : List Int) (ck ch ct cq cv : Int) (P : Option Addr) (m pcap : Nat) (ps : List (Int × Int)) (w : World) (hm : n ≤ maxLen) (hr : Row w w.heap.size A n zs) (hn : m ≤ 4194304) (h : Pairs w w.heap.size P m ps) :
    Calls Tryz.prog 220 #[.agg #[.int .i64 s, .int .i64 l, .int .i64 c, .int .i64 sh, .slice A n cap], .agg #[.int .i64 ck, .int .i64 ch, .int .i64 ct, .int .i64 cq, .int .i64 cv], .slice P m pcap] w (GivesO w.heap.size w (goodP (rB s l c sh zs ck ch ct cq cv) ps)) := by
  have E0 := bel_trans (bel_trans (bel_alloc w (.cells #[.int .i64 s, .int .i64 l, .int .i64 c, .int .i64 sh, .slice A n cap] 26)) (bel_alloc _ (.cells #[.int .i64 ck, .int .i64 ch, .int .i64 ct, .int .i64 cq, .int .i64 cv] 180))) (bel_alloc _ (.cells #[] 136))
  have DG := ((Box.new w 26 #[.int .i64 s, .int .i64 l, .int .i64 c, .int .i64 sh, .slice A n cap]).alloc (.cells #[.int .i64 ck, .int .i64 ch, .int .i64 ct, .int .i64 cq, .int .i64 cv] 180)).alloc (.cells #[] 136)
  have DC := (Box.new (w.alloc (.cells #[.int .i64 s, .int .i64 l, .int .i64 c, .int .i64 sh, .slice A n cap] 26)) 180 #[.int .i64 ck, .int .i64 ch, .int .i64 ct, .int .i64 cq, .int .i64 cv]).alloc (.cells #[] 136)
  simp only [World.size_alloc] at DC
  have O0 : (((w.alloc (.cells #[.int .i64 s, .int .i64 l, .int .i64 c, .int .i64 sh, .slice A n cap] 26)).alloc (.cells #[.int .i64 ck, .int .i64 ch, .int .i64 ct, .int .i64 cq, .int .i64 cv] 180)).alloc (.cells #[] 136)).ownsRow w.heap.size 136 2 (.slice (some ⟨w.heap.size + 1 + 1, 0, none⟩) 0 0) 0 [] := by
    have := own_new ((w.alloc (.cells #[.int .i64 s, .int .i64 l, .int .i64 c, .int .i64 sh, .slice A n cap] 26)).alloc (.cells #[.int .i64 ck, .int .i64 ch, .int .i64 ct, .int .i64 cq, .int .i64 cv] 180)) 136 2
    simp only [World.size_alloc] at this
    exact ownLow this (by omega)
  replace O0 := Lib.hid O0
  have HR := Lib.hid hr
  have HM := Lib.hid hm
  have HP := Lib.hid h
  have hl := Lib.hid h.1
  clear h hr hm
  generalize hR : rB s l c sh zs ck ch ct cq cv = R
  have HRR := Lib.hid hR
  clear hR
  go_enter Tryz.func220, Tryz.ntmps220
  go_wp2_with fail
  generalize (((w.alloc _).alloc _).alloc _ : World) = w1 at E0 DG DC O0 ⊢
  go_loopw [7, 8] (fun ov iv wr => ∃ (k q c' : Nat) (L : List (Int × Int)), k ≤ m ∧ iv = .int .i64 k ∧ ov = .slice (some ⟨q, 0, none⟩) L.length c' ∧ L = goodP R (ps.take k) ∧ wr.ownsRow w.heap.size 136 2 (.slice (some ⟨q, 0, none⟩) L.length c') L.length (flatP L) ∧ Below w.heap.size w wr ∧ Box wr w.heap.size 26 #[.int .i64 s, .int .i64 l, .int .i64 c, .int .i64 sh, .slice A n cap] ∧ Box wr (w.heap.size + 1) 180 #[.int .i64 ck, .int .i64 ch, .int .i64 ct, .int .i64 cq, .int .i64 cv]) (fun _ i _ => m - (intOf i).toNat)
  case atStart => exact ⟨0, _, 0, [], Nat.zero_le _, rfl, rfl, by simp [goodP_nil], O0.out, E0, DG, DC⟩
  case round =>
    obtain ⟨k, q, c', L, hk, rfl, rfl, hL, hp, hbel, DG, DC⟩ := hrel
    by_cases hlt : k < m
    · have hlt' : (k : Int) < (m : Int) := by omega
      obtain ⟨b, o, hA, hbB, hcell⟩ := HP.out.2 (by omega)
      subst hA
      obtain ⟨c0, c1⟩ := hcell k hlt
      replace c0 := (hbel.cell (p := ⟨b, o + k * 2, none⟩) hbB).trans c0
      replace c1 := (hbel.cell (p := ⟨b, o + k * 2 + 1, none⟩) hbB).trans c1
      have hyes := Lib.hid (goodP_yes (R := R) (ps := ps) (k := k) (by rw [hl.out]; exact hlt))
      have hno := Lib.hid (goodP_no (R := R) (ps := ps) (k := k) (by rw [hl.out]; exact hlt))
      rw [← hL] at hyes hno
      have hLl : L.length ≤ 4194304 := by
        rw [hL]
        have := goodP_le R (ps.take k)
        rw [List.length_take] at this
        omega
      generalize hy : pth ps k = y at c0 c1 hyes hno
      obtain ⟨y, y'⟩ := y
      replace hL := Lib.hid hL
      replace hy := Lib.hid hy
      have hbl : b < wr.heap.size := Nat.lt_of_lt_of_le hbB hbel.size
      have g0 := After.cell (by exact hbl) c0
      have g1 := After.cell (by exact hbl) c1
      obtain ⟨f0, f1, f2, f3, f4⟩ := fiveAfter DG
      obtain ⟨f5, f6, f7, f8, f9⟩ := fiveAfter DC
      have hrow := Lib.hid ((HR.out.below hbel (Nat.le_refl _)).more hbel.size)
      have HDG := Lib.hid DG
      have HDC := Lib.hid DC
      have HPL := Lib.hid hp
      clear hcell c0 c1 DG DC hp
      rcases hRy : R (y, y') with _ | _
      · have HY : Hid (rB s l c sh zs ck ch ct cq cv (y, y') = false) := by rw [HRR.out]; exact hRy
        replace hno := Lib.hid (hno.out hRy)
        clear hRy
        go_wp2_with fail
        refine wp_region_after (by kernel_rfl) (by kernel_rfl) ?_
        repeat (first | go_big_quiet_step ((go_at_call 237; exact after_of (specRightB_is HY.out _ n cap _ HM.out (rowAfter hrow.out _)))) | quiet_step ((go_at_call 237; exact after_of (specRightB_is HY.out _ n cap _ HM.out (rowAfter hrow.out _)))))
        refine wpQuiet_nil ?_
        intro pw
        have E2 := bel_trans hbel pw.bel
        have DG := HDG.out.later pw.bel HDG.out.lt
        have DC := HDC.out.later pw.bel HDC.out.lt
        have hp := Lib.hid (HPL.out.kept (grown_bel pw.bel none) (.inr (by intro e; cases e)))
        clear g0 g1 f0 f1 f2 f3 f4 f5 f6 f7 f8 f9
        go_wp2
        go_roundw
        case rel => exact ⟨k + 1, q, c', L, by omega, by go_num, rfl, hno.out.symm, hp.out, E2, DG, DC⟩
        case measure => simp [intOf]; omega
      · have HY : Hid (rB s l c sh zs ck ch ct cq cv (y, y') = true) := by rw [HRR.out]; exact hRy
        replace hyes := Lib.hid (hyes.out hRy)
        clear hRy
        go_wp2_with fail
        refine wp_region_after (by kernel_rfl) (by kernel_rfl) ?_
        repeat (first | go_big_quiet_step ((go_at_call 237; exact after_of (specRightB_is HY.out _ n cap _ HM.out (rowAfter hrow.out _)))) | quiet_step ((go_at_call 237; exact after_of (specRightB_is HY.out _ n cap _ HM.out (rowAfter hrow.out _)))))
        refine wpQuiet_nil ?_
        intro pw
        have E2 := bel_trans hbel pw.bel
        have DG := HDG.out.later pw.bel HDG.out.lt
        have DC := HDC.out.later pw.bel HDC.out.lt
        have hp := HPL.out.kept (grown_bel pw.bel none) (.inr (by intro e; cases e))
        have d0 := g0 pw
        have d1 := g1 pw
        clear g0 g1 f0 f1 f2 f3 f4 f5 f6 f7 f8 f9 HDG HDC HPL
        generalize pw.x = w2 at E2 DG DC hp d0 d1 ⊢
        go_wp2_with fail
        refine (putO_is w.heap.size q c' L y y' w2 hLl E2.size hp).mono ?_
        rintro e w3 ⟨g', c'', rfl, hp', hb'⟩
        replace hp' := Lib.hid hp'
        have DG' := DG.later hb' DG.lt
        have DC' := DC.later hb' DC.lt
        go_wp2
        go_roundw
        case rel => exact ⟨k + 1, g', c'', put L (y, y'), by omega, by go_num, rfl, hyes.out.symm, hp'.out, bel_trans E2 hb', DG', DC'⟩
        case measure => simp [intOf]; omega
    · obtain rfl : k = m := by omega
      rw [← hl.out, List.take_length] at hL
      replace hL := Lib.hid hL
      replace hp := Lib.hid hp
      go_wp2
      go_ret
      rw [← hL.out]
      exact ⟨q, c', rfl, hp.out, hbel⟩


end Go.Proofs.YtjdepjpjjgkmbaaGreat

/- The model's writing on a shelf: its contract. -/
namespace Go.Proofs.YtjdepjpjjgkmbaaGreat
open Go.RowKit

/-- Can it be written? -/
def wrtB (s l c sh : Int) (zs : List Int) (x ct cq v : Int) (cs : List (Int × Int)) : Bool := !decide (ct = 0 ∧ cq = 0) && proB s l c sh zs x ct cq v cs
theorem wrt_parts {s l c sh : Int} {zs : List Int} {x ct cq v : Int} {cs : List (Int × Int)} (h : wrtB s l c sh zs x ct cq v cs = true) : stB ct cq = true ∧ cs.length ≤ 20 ∧ ¬ (ct = 0 ∧ cq = 0) ∧ proB s l c sh zs x ct cq v cs = true := by
  unfold wrtB at h
  simp only [Bool.and_eq_true, Bool.not_eq_true', decide_eq_false_iff_not] at h
  obtain ⟨hz, hp⟩ := h
  have hp' := hp
  rw [proB_eq, Bool.and_eq_true, Bool.or_eq_true] at hp'
  rcases hp'.2 with hn | hc
  · rcases nil_cases ct cq v with ⟨h1, h2, _, _⟩ | ⟨h, _⟩
    · exact absurd ⟨h1, h2⟩ hz
    · rw [h] at hn; cases hn
  · refine ⟨(cer_parts hc).1, ?_, hz, hp⟩
    unfold cerB at hc
    simp only [Bool.and_eq_true, decide_eq_true_eq] at hc
    omega
theorem wrt_zero (s l c sh : Int) (zs : List Int) (x v : Int) (cs : List (Int × Int)) : wrtB s l c sh zs x 0 0 v cs = false := by simp [wrtB]

/-- What the model's writing keeps. -/
structure LW (w wr : World) (S B : Nat) (s l c sh : Int) (A : Option Addr) (n cap : Nat) (rt rq rv : Int) (P : Option Addr) (p pc : Nat) (Q : Option Addr) (q qc : Nat) (ct cq : Int) (u v : Value) (ps : List (Int × Int)) (os : List Opn) : Prop where
  bel : Below w.heap.size w wr
  G : Box wr w.heap.size 26 #[.int .i64 s, .int .i64 l, .int .i64 c, .int .i64 sh, .slice A n cap]
  D : Box wr (w.heap.size + 1) 80 #[.int .i64 rt, .int .i64 rq, .int .i64 rv, .slice P p pc, .slice Q q qc]
  T : Box wr (w.heap.size + 1 + 1) 39 #[.int .i64 ct, .int .i64 cq]
  X : Box wr (w.heap.size + 1 + 1 + 1) 80 #[.int .i64 0, .int .i64 0, .int .i64 0, .slice none 0 0, .slice none 0 0]
  Y : Box wr S 80 #[.int .i64 rt, .int .i64 rq, .int .i64 rv, u, v]
  hlo : w.heap.size + 1 + 1 + 1 < B
  hBS : B ≤ S
  R : ResP wr (w.heap.size + 1 + 1 + 1 + 1) B u ps
  V : ResQ wr B S v os
theorem LW.later {w wr w' : World} {S B : Nat} {s l c sh : Int} {A : Option Addr} {n cap : Nat} {rt rq rv : Int} {P : Option Addr} {p pc : Nat} {Q : Option Addr} {q qc : Nat} {ct cq : Int} {u v : Value} {ps : List (Int × Int)} {os : List Opn} (h : LW w wr S B s l c sh A n cap rt rq rv P p pc Q q qc ct cq u v ps os) (hb : Below wr.heap.size wr w') : LW w w' S B s l c sh A n cap rt rq rv P p pc Q q qc ct cq u v ps os :=
  ⟨bel_trans h.bel hb, h.G.later hb h.G.lt, h.D.later hb h.D.lt, h.T.later hb h.T.lt, h.X.later hb h.X.lt, h.Y.later hb h.Y.lt, h.hlo, h.hBS, h.R.later hb, h.V.later hb⟩
theorem ResQ.farHi {w : World} {lo hi : Nat} {u : Value} {D : List Opn} (h : ResQ w lo hi u D) {b : Nat} (hb : hi ≤ b) (o : Nat) (x : Value) : ResQ (w.setCell ⟨b, o, none⟩ x) lo hi u D := by
  rcases h with h | ⟨g, cap, h1, h2, h3, h4, h5, h6⟩
  · exact .inl h
  · exact .inr ⟨g, cap, h1, h2, h3, h4, h5, h6.far (by omega) o x⟩
/-- What the model's writing keeps, once stamp and value are written. -/
structure LV (w wr : World) (S B : Nat) (s l c sh : Int) (A : Option Addr) (n cap : Nat) (ct cq v : Int) (z u : Value) (os : List Opn) : Prop where
  bel : Below w.heap.size w wr
  G : Box wr w.heap.size 26 #[.int .i64 s, .int .i64 l, .int .i64 c, .int .i64 sh, .slice A n cap]
  T : Box wr (w.heap.size + 1 + 1) 39 #[.int .i64 ct, .int .i64 cq]
  X : Box wr (w.heap.size + 1 + 1 + 1) 80 #[.int .i64 0, .int .i64 0, .int .i64 0, .slice none 0 0, .slice none 0 0]
  Y : Box wr S 80 #[.int .i64 ct, .int .i64 cq, .int .i64 v, z, u]
  hlo : w.heap.size + 1 + 1 + 1 < B
  hBS : B ≤ S
  V : ResQ wr B S u os
theorem LV.later {w wr w' : World} {S B : Nat} {s l c sh : Int} {A : Option Addr} {n cap : Nat} {ct cq v : Int} {z u : Value} {os : List Opn} (h : LV w wr S B s l c sh A n cap ct cq v z u os) (hb : Below wr.heap.size wr w') : LV w w' S B s l c sh A n cap ct cq v z u os :=
  ⟨bel_trans h.bel hb, h.G.later hb h.G.lt, h.T.later hb h.T.lt, h.X.later hb h.X.lt, h.Y.later hb h.Y.lt, h.hlo, h.hBS, h.V.later hb⟩
theorem LV.drew {w wr : World} {S B : Nat} {s l c sh : Int} {A : Option Addr} {n cap : Nat} {ct cq v : Int} {z u : Value} {os : List Opn} (h : LV w wr S B s l c sh A n cap ct cq v z u os) : LV w wr.drew S B s l c sh A n cap ct cq v z u os := h.later ((Below.refl _ _).drew)
theorem LW.put {w wr : World} {S B : Nat} {s l c sh : Int} {A : Option Addr} {n cap : Nat} {rt rq rv : Int} {P : Option Addr} {p pc : Nat} {Q : Option Addr} {q qc : Nat} {ct cq : Int} {u u' : Value} {ps : List (Int × Int)} {os : List Opn} (h : LW w wr S B s l c sh A n cap rt rq rv P p pc Q q qc ct cq u u' ps os) (v : Int) :
    LV w (((wr.setCell ⟨S, 0, none⟩ (.int .i64 ct)).setCell ⟨S, 1, none⟩ (.int .i64 cq)).setCell ⟨S, 2, none⟩ (.int .i64 v)) S B s l c sh A n cap ct cq v u u' os := by
  have hlo := h.hlo
  have hBS := h.hBS
  have hw : w.heap.size ≤ S := by omega
  refine ⟨((h.bel.setCell (p := ⟨S, 0, none⟩) hw _).setCell (p := ⟨S, 1, none⟩) hw _).setCell (p := ⟨S, 2, none⟩) hw _, ?_, ?_, ?_, ((h.Y.set 0 _).set 1 _).set 2 _, hlo, hBS, ((h.V.farHi (Nat.le_refl _) 0 _).farHi (Nat.le_refl _) 1 _).farHi (Nat.le_refl _) 2 _⟩
  · exact ((h.G.far (p := ⟨S, 0, none⟩) (by show S ≠ _; omega) _).far (p := ⟨S, 1, none⟩) (by show S ≠ _; omega) _).far (p := ⟨S, 2, none⟩) (by show S ≠ _; omega) _
  · exact ((h.T.far (p := ⟨S, 0, none⟩) (by show S ≠ _; omega) _).far (p := ⟨S, 1, none⟩) (by show S ≠ _; omega) _).far (p := ⟨S, 2, none⟩) (by show S ≠ _; omega) _
  · exact ((h.X.far (p := ⟨S, 0, none⟩) (by show S ≠ _; omega) _).far (p := ⟨S, 1, none⟩) (by show S ≠ _; omega) _).far (p := ⟨S, 2, none⟩) (by show S ≠ _; omega) _
end Go.Proofs.YtjdepjpjjgkmbaaGreat

/- Written: the program's and the model's: contracts of each of them. -/
namespace Go.Proofs.YtjdepjpjjgkmbaaGreat
open Go.RowKit

theorem slc_pairs {w : World} {P : Option Addr} {p pc : Nat} {ps : List (Int × Int)} (h : Slc w (.slice P p pc) ps) : Pairs w w.heap.size P p ps := by
  rcases h with ⟨e, rfl⟩ | ⟨b, o, n, cap, e, hp⟩
  · injection e with e1 e2 _
    subst e1 e2
    exact ⟨rfl, fun h => absurd h (by omega)⟩
  · injection e with e1 e2 _
    subst e1 e2
    exact hp
theorem slcQ_quads {w : World} {P : Option Addr} {p pc : Nat} {os : List Opn} (h : SlcQ w (.slice P p pc) os) : Quads w w.heap.size P p os := by
  rcases h with ⟨e, rfl⟩ | ⟨b, o, n, cap, e, _, _, hp⟩
  · injection e with e1 e2 _
    subst e1 e2
    exact quads_nil _ _ _
  · injection e with e1 e2 _
    subst e1 e2
    exact hp

/-- What Written answers: a stamp, a value, seals, opens, a flag. -/
structure Out where
  t : Int
  q : Int
  v : Int
  cs : List (Int × Int)
  os : List Opn
  f : Bool
def outW (s l c sh : Int) (zs : List Int) (x rt rq rv : Int) (ps : List (Int × Int)) (os : List Opn) (ct cq v : Int) (cs : List (Int × Int)) : Out :=
  if regB s l c sh zs x rt rq rv ps os = false then ⟨0, 0, 0, [], [], false⟩
  else if wrtB s l c sh zs x ct cq v cs = false then ⟨rt, rq, rv, ps, os, false⟩
  else if cmpN ct cq rt rq = 1 then ⟨ct, cq, v, goodP (rB s l c sh zs 1 x ct cq v) cs, os, true⟩
  else ⟨rt, rq, rv, ps, os, true⟩
theorem reg_stamp {s l c sh : Int} {zs : List Int} {x rt rq rv : Int} {ps : List (Int × Int)} {os : List Opn} (h : regB s l c sh zs x rt rq rv ps os = true) : stB rt rq = true := by
  unfold regB at h
  rw [Bool.and_eq_true, ← lefB_spec] at h
  have := h.1
  unfold spcB at this
  simp only [Bool.and_eq_true] at this
  exact this.1.1.1
theorem cmp_pos {a b c d : Int} (h1 : stB a b = true) (h2 : stB c d = true) : 0 < cmpN a b c d ↔ cmpN a b c d = 1 := by
  rw [cmpN_yes h1 h2]
  have g1 := sgn_bd a c
  have g2 := sgn_bd b d
  unfold orN
  split <;> omega
/-- A shelf and a flag that are answered: its lists lie in blocks of their own. -/
def WrR (w : World) (o : Out) (e : Ending) (w' : World) : Prop :=
  ∃ (B : Nat) (A : Option Addr) (n c : Nat) (A' : Option Addr) (n' c' : Nat), w.heap.size ≤ B ∧ B ≤ w'.heap.size ∧ e = .returned (.tuple #[.agg #[.int .i64 o.t, .int .i64 o.q, .int .i64 o.v, .slice A n c, .slice A' n' c'], .bool o.f]) ∧ ResP w' w.heap.size B (.slice A n c) o.cs ∧ ResO w' B (.slice A' n' c') o.os ∧ Below w.heap.size w w'

set_option maxRecDepth 100000 in
set_option maxHeartbeats 1000000 in
theorem canWrite_is {s l c sh : Int} {zs : List Int} {x ct cq v : Int} {cs : List (Int × Int)} {b : Bool} (hW : wrtB s l c sh zs x ct cq v cs = b) (A : Option Addr) (n cap : Nat) (L : Option Addr) (m mc : Nat) (w : World) (hm : n ≤ maxLen) (hr : Row w w.heap.size A n zs) (hn : m ≤ 4194304) (h : Pairs w w.heap.size L m cs) :
    Calls Tryz.prog 236 #[.agg #[.int .i64 ct, .int .i64 cq, .int .i64 v, .slice L m mc], .agg #[.int .i64 s, .int .i64 l, .int .i64 c, .int .i64 sh, .slice A n cap], .int .i64 x] w fun e w' => e = .returned (.bool b) ∧ Below w.heap.size w w' := by
  have D := (Box.new w 199 #[.int .i64 ct, .int .i64 cq, .int .i64 v, .slice L m mc]).alloc (.cells #[.int .i64 s, .int .i64 l, .int .i64 c, .int .i64 sh, .slice A n cap] 26)
  have G := Box.new (w.alloc (.cells #[.int .i64 ct, .int .i64 cq, .int .i64 v, .slice L m mc] 199)) 26 #[.int .i64 s, .int .i64 l, .int .i64 c, .int .i64 sh, .slice A n cap]
  have E := bel_trans (bel_alloc w (.cells #[.int .i64 ct, .int .i64 cq, .int .i64 v, .slice L m mc] 199)) (bel_alloc _ (.cells #[.int .i64 s, .int .i64 l, .int .i64 c, .int .i64 sh, .slice A n cap] 26))
  simp only [World.size_alloc] at G
  have HR := Lib.hid ((hr.below E (Nat.le_refl _)).more E.size)
  have HP := Lib.hid (h.later E)
  have HM := Lib.hid hm
  have HW := Lib.hid hW
  clear hr hm h hW
  rcases zero_cases ct cq with ⟨rfl, rfl⟩ | ⟨hcase, hnz⟩
  · have HB : Hid (b = false) := Lib.hid (by rw [← HW.out]; exact wrt_zero _ _ _ _ _ _ _ _)
    go_enter Tryz.func236, Tryz.ntmps236
    go_wp2
    go_ret
    exact ⟨by rw [HB.out]; rfl, E⟩
  · have HPB : Hid (proB s l c sh zs x ct cq v cs = b) := Lib.hid (by rw [← HW.out]; unfold wrtB; simp [hnz])
    clear hnz
    rcases hcase with h1 | ⟨h1, h2⟩
    all_goals
      go_enter Tryz.func236, Tryz.ntmps236
      go_wp2_with fail
      generalize ((w.alloc _).alloc _ : World) = w0 at D G E HR HP ⊢
      refine (provenR_is HPB.out A n cap L m mc w0 HM.out HR.out hn HP.out).mono ?_
      rintro e w1 ⟨rfl, hb1⟩
      have E1 := bel_trans E hb1
      go_wp2
      go_ret
      exact ⟨rfl, E1⟩

end Go.Proofs.YtjdepjpjjgkmbaaGreat

/- Written: what the program answers: its contract; and the model's. -/
namespace Go.Proofs.YtjdepjpjjgkmbaaGreat
open Go.RowKit

theorem regOkB_is {s l c sh : Int} {zs : List Int} {x rt rq rv : Int} {ps : List (Int × Int)} {os : List Opn} {b : Bool} (hB : regB s l c sh zs x rt rq rv ps os = b) (A : Option Addr) (n cap : Nat) (P : Option Addr) (p pc : Nat) (Q : Option Addr) (q qc : Nat) (w : World) (hm : n ≤ maxLen) (hr : Row w w.heap.size A n zs) (hp : p ≤ 4194304) (hq : q ≤ 4194304) (h1 : Pairs w w.heap.size P p ps) (h2 : Quads w w.heap.size Q q os) :
    Calls Tryz.prog 155 #[.agg #[.int .i64 s, .int .i64 l, .int .i64 c, .int .i64 sh, .slice A n cap], .int .i64 x, .agg #[.int .i64 rt, .int .i64 rq, .int .i64 rv, .slice P p pc, .slice Q q qc]] w fun e w' => e = .returned (.bool b) ∧ Below w.heap.size w w' := hB ▸ regOk_is s l c sh A n cap zs x rt rq rv P p pc Q q qc ps os w hm hr hp hq h1 h2
/-- A shelf that reg answered is laid into the variable of the answer. -/
theorem wrr_put {w wc w' : World} {o : Out} {B R : Nat} {A : Option Addr} {n c : Nat} {A' : Option Addr} {n' c' : Nat} (E : Below w.heap.size w wc) (hR0 : w.heap.size ≤ R) (hR : R < wc.heap.size) (hB : wc.heap.size ≤ B) (hB' : B ≤ w'.heap.size) (h1 : ResP w' wc.heap.size B (.slice A n c) o.cs) (h2 : ResO w' B (.slice A' n' c') o.os) (hb : Below wc.heap.size wc w') (x0 x1 x2 x3 x4 : Value) :
    WrR w o (.returned (.tuple #[.agg #[.int .i64 o.t, .int .i64 o.q, .int .i64 o.v, .slice A n c, .slice A' n' c'], .bool o.f])) (((((w'.setCell ⟨R, 0, none⟩ x0).setCell ⟨R, 1, none⟩ x1).setCell ⟨R, 2, none⟩ x2).setCell ⟨R, 3, none⟩ x3).setCell ⟨R, 4, none⟩ x4) :=
  ⟨B, A, n, c, A', n', c', Nat.le_trans E.size hB, by simp only [size_set]; exact hB', rfl, (h1.far5 hR x0 x1 x2 x3 x4).wide E.size (Nat.le_refl _), h2.far5 (by omega) x0 x1 x2 x3 x4, bel_five (bel_trans E hb) hR0 x0 x1 x2 x3 x4⟩

/-- What Written keeps: the group, the variable of the answer, the board, what is next. -/
structure WB (w wr : World) (a b : Nat) (s l c sh : Int) (A : Option Addr) (n cap : Nat) (y n4 : Array Value) : Prop where
  bel : Below w.heap.size w wr
  G : Box wr w.heap.size 26 #[.int .i64 s, .int .i64 l, .int .i64 c, .int .i64 sh, .slice A n cap]
  X : Box wr (w.heap.size + 1 + 1 + 1) 80 #[.int .i64 0, .int .i64 0, .int .i64 0, .slice none 0 0, .slice none 0 0]
  Y : Box wr a 201 y
  N : Box wr b 199 n4
  ha : w.heap.size + 1 + 1 + 1 < a
  hab : a < b
theorem WB.later {w wr w' : World} {a b : Nat} {s l c sh : Int} {A : Option Addr} {n cap : Nat} {y n4 : Array Value} (h : WB w wr a b s l c sh A n cap y n4) (hb : Below wr.heap.size wr w') : WB w w' a b s l c sh A n cap y n4 :=
  ⟨bel_trans h.bel hb, h.G.later hb h.G.lt, h.X.later hb h.X.lt, h.Y.later hb h.Y.lt, h.N.later hb h.N.lt, h.ha, h.hab⟩

set_option maxRecDepth 100000 in
set_option maxHeartbeats 4000000 in
theorem written_is (s l c sh : Int) (A : Option Addr) (n cap : Nat) (zs : List Int) (x rt rq rv : Int) (P : Option Addr) (p pc : Nat) (Q : Option Addr) (q qc : Nat) (ct cq v : Int) (L : Option Addr) (m mc : Nat) (ps : List (Int × Int)) (os : List Opn) (cs : List (Int × Int)) (w : World) (hm : n ≤ maxLen) (hr : Row w w.heap.size A n zs) (hp : p ≤ 2000000) (hq : q ≤ 2000000) (h1 : Slc w (.slice P p pc) ps) (h2 : SlcQ w (.slice Q q qc) os) (hn : m ≤ 4194304) (h3 : Pairs w w.heap.size L m cs) :
    Calls Tryz.prog 218 #[.agg #[.int .i64 s, .int .i64 l, .int .i64 c, .int .i64 sh, .slice A n cap], .int .i64 x, .agg #[.int .i64 rt, .int .i64 rq, .int .i64 rv, .slice P p pc, .slice Q q qc], .agg #[.int .i64 ct, .int .i64 cq], .int .i64 v, .slice L m mc] w (WrR w (outW s l c sh zs x rt rq rv ps os ct cq v cs)) := by
  have G := (((Box.new w 26 #[.int .i64 s, .int .i64 l, .int .i64 c, .int .i64 sh, .slice A n cap]).alloc (.cells #[.int .i64 rt, .int .i64 rq, .int .i64 rv, .slice P p pc, .slice Q q qc] 80)).alloc (.cells #[.int .i64 ct, .int .i64 cq] 39)).alloc (.cells #[.int .i64 0, .int .i64 0, .int .i64 0, .slice none 0 0, .slice none 0 0] 80)
  have D := ((Box.new (w.alloc (.cells #[.int .i64 s, .int .i64 l, .int .i64 c, .int .i64 sh, .slice A n cap] 26)) 80 #[.int .i64 rt, .int .i64 rq, .int .i64 rv, .slice P p pc, .slice Q q qc]).alloc (.cells #[.int .i64 ct, .int .i64 cq] 39)).alloc (.cells #[.int .i64 0, .int .i64 0, .int .i64 0, .slice none 0 0, .slice none 0 0] 80)
  have T := (Box.new ((w.alloc (.cells #[.int .i64 s, .int .i64 l, .int .i64 c, .int .i64 sh, .slice A n cap] 26)).alloc (.cells #[.int .i64 rt, .int .i64 rq, .int .i64 rv, .slice P p pc, .slice Q q qc] 80)) 39 #[.int .i64 ct, .int .i64 cq]).alloc (.cells #[.int .i64 0, .int .i64 0, .int .i64 0, .slice none 0 0, .slice none 0 0] 80)
  have X := Box.new (((w.alloc (.cells #[.int .i64 s, .int .i64 l, .int .i64 c, .int .i64 sh, .slice A n cap] 26)).alloc (.cells #[.int .i64 rt, .int .i64 rq, .int .i64 rv, .slice P p pc, .slice Q q qc] 80)).alloc (.cells #[.int .i64 ct, .int .i64 cq] 39)) 80 #[.int .i64 0, .int .i64 0, .int .i64 0, .slice none 0 0, .slice none 0 0]
  have E := bel_trans (bel_trans (bel_trans (bel_alloc w (.cells #[.int .i64 s, .int .i64 l, .int .i64 c, .int .i64 sh, .slice A n cap] 26)) (bel_alloc _ (.cells #[.int .i64 rt, .int .i64 rq, .int .i64 rv, .slice P p pc, .slice Q q qc] 80))) (bel_alloc _ (.cells #[.int .i64 ct, .int .i64 cq] 39))) (bel_alloc _ (.cells #[.int .i64 0, .int .i64 0, .int .i64 0, .slice none 0 0, .slice none 0 0] 80))
  simp only [World.size_alloc] at D T X
  have HLP : Hid (ps.length = p) := Lib.hid (slc_pairs h1).1
  have HLQ : Hid (os.length = q) := Lib.hid (slcQ_quads h2).1
  have HR := Lib.hid hr
  have HM := Lib.hid hm
  have H1 := Lib.hid h1
  have H2 := Lib.hid h2
  have H3 := Lib.hid h3
  clear hr hm h1 h2 h3
  obtain ⟨O, hO⟩ : ∃ O, outW s l c sh zs x rt rq rv ps os ct cq v cs = O := ⟨_, rfl⟩
  rw [hO]
  go_enter Tryz.func218, Tryz.ntmps218
  go_wp2_with fail
  generalize ((((w.alloc _).alloc _).alloc _).alloc _ : World) = w0 at G D T X E ⊢
  rcases hrg : regB s l c sh zs x rt rq rv ps os with _ | _
  · have HO : Hid (O = ⟨0, 0, 0, [], [], false⟩) := Lib.hid (by rw [← hO]; unfold outW; rw [if_pos hrg])
    have HRG := Lib.hid hrg
    clear hrg hO
    refine (regOkB_is HRG.out A n cap P p pc Q q qc w0 HM.out ((HR.out.below E (Nat.le_refl _)).more E.size) (by omega) (by omega) (slc_pairs (H1.out.later E)) (slcQ_quads (H2.out.later E))).mono ?_
    rintro e w1 ⟨rfl, hb1⟩
    have E1 := bel_trans E hb1
    have X1 := X.later hb1 X.lt
    have hX := X.lt
    have hb1s := hb1.size
    have HP : Hid (∀ x0 x1 x2 x3 x4 : Value, WrR w O (.returned (.tuple #[.agg #[.int .i64 0, .int .i64 0, .int .i64 0, .slice none 0 0, .slice none 0 0], .bool false])) (((((w1.setCell ⟨w.heap.size + 1 + 1 + 1, 0, none⟩ x0).setCell ⟨w.heap.size + 1 + 1 + 1, 1, none⟩ x1).setCell ⟨w.heap.size + 1 + 1 + 1, 2, none⟩ x2).setCell ⟨w.heap.size + 1 + 1 + 1, 3, none⟩ x3).setCell ⟨w.heap.size + 1 + 1 + 1, 4, none⟩ x4)) := Lib.hid fun x0 x1 x2 x3 x4 => by
      rw [HO.out]
      exact ⟨w.heap.size, none, 0, 0, none, 0, 0, Nat.le_refl _, by simp only [size_set]; omega, rfl, .inl ⟨rfl, rfl⟩, .inl ⟨rfl, rfl⟩, bel_five E1 (by omega) x0 x1 x2 x3 x4⟩
    obtain ⟨x0, x1, x2, x3, x4⟩ := X1.five
    have fx := X1.frozen
    clear G D T X X1 E E1 hb1
    go_wp2
    exact bodyPost_ret (v := .tuple #[.agg #[.int .i64 0, .int .i64 0, .int .i64 0, .slice none 0 0, .slice none 0 0], .bool false]) (by simp [results, Tryz.results218, go_sem, x0, x1, x2, x3, x4]) rfl (HP.out _ _ _ _ _)
  have HRG := Lib.hid hrg
  refine (regOkB_is HRG.out A n cap P p pc Q q qc w0 HM.out ((HR.out.below E (Nat.le_refl _)).more E.size) (by omega) (by omega) (slc_pairs (H1.out.later E)) (slcQ_quads (H2.out.later E))).mono ?_
  rintro e w1 ⟨rfl, hb1⟩
  have D1 := D.later hb1 D.lt
  obtain ⟨d0, d1, d2, d3, d4⟩ := D1.five
  go_wp2_with fail
  refine (boardOf_is rt rq rv P p pc Q q qc w1).mono ?_
  rintro e w2 ⟨rfl, hb2⟩
  have hb12 := bel_trans hb1 hb2
  have hbA := bel_alloc w2 (.cells #[.int .i64 rt, .int .i64 rq, .int .i64 rv, .slice P p pc, .slice Q q qc] 201)
  have hbB := bel_alloc (w2.alloc (.cells #[.int .i64 rt, .int .i64 rq, .int .i64 rv, .slice P p pc, .slice Q q qc] 201)) (.cells #[.int .i64 ct, .int .i64 cq, .int .i64 v, .slice L m mc] 199)
  have hbAB := bel_trans hbA hbB
  have F := bel_trans hb12 hbAB
  have hX2 := (X.later hb12 X.lt).lt
  have T2 := T.later hb12 T.lt
  have hT2 := T2.lt
  obtain ⟨t0, t1⟩ := T2.two
  have G2 := G.later hb12 G.lt
  have hG2 := G2.lt
  obtain ⟨e0, e1, e2, e3, e4⟩ := G2.five
  have K : WB w ((w2.alloc (.cells #[.int .i64 rt, .int .i64 rq, .int .i64 rv, .slice P p pc, .slice Q q qc] 201)).alloc (.cells #[.int .i64 ct, .int .i64 cq, .int .i64 v, .slice L m mc] 199)) w2.heap.size (w2.heap.size + 1) s l c sh A n cap #[.int .i64 rt, .int .i64 rq, .int .i64 rv, .slice P p pc, .slice Q q qc] #[.int .i64 ct, .int .i64 cq, .int .i64 v, .slice L m mc] := by
    refine ⟨bel_trans E F, G.later F G.lt, X.later F X.lt, (Box.new w2 _ _).alloc _, ?_, hX2, by omega⟩
    have := Box.new (w2.alloc (.cells #[.int .i64 rt, .int .i64 rq, .int .i64 rv, .slice P p pc, .slice Q q qc] 201)) 199 #[.int .i64 ct, .int .i64 cq, .int .i64 v, .slice L m mc]
    simp only [World.size_alloc] at this
    exact this
  clear G D T X E hb1 hb2 hb12 hbA hbB hbAB F D1 d0 d1 d2 d3 d4 T2 G2
  go_wp2_with fail
  generalize ((w2.alloc _).alloc _ : World) = w3 at K ⊢
  generalize w2.heap.size = a at K hX2 hT2 hG2 ⊢
  clear t0 t1 e0 e1 e2 e3 e4 hT2 hG2
  rcases hwr : wrtB s l c sh zs x ct cq v cs with _ | _
  · have HO : Hid (O = ⟨rt, rq, rv, ps, os, false⟩) := Lib.hid (by rw [← hO]; unfold outW; rw [if_neg (by rw [hrg]; simp), if_pos hwr])
    have HWR := Lib.hid hwr
    clear hwr hrg hO
    refine (canWrite_is HWR.out A n cap L m mc w3 HM.out ((HR.out.below K.bel (Nat.le_refl _)).more K.bel.size) hn (H3.out.later K.bel)).mono ?_
    rintro e w4 ⟨rfl, hb4⟩
    replace K := K.later hb4
    clear hb4
    obtain ⟨y0, y1, y2, y3, y4⟩ := K.Y.five
    have hX4 := K.X.lt
    go_wp2_with fail
    refine (reg_is rt rq rv P p pc Q q qc ps os w4 (by rw [HLP.out]; omega) (by rw [HLQ.out]; omega) (H1.out.later K.bel) (H2.out.later K.bel)).mono ?_
    rintro e w5 ⟨B, u, u', hB, hB', rfl, hR1, hR2, hb5⟩
    obtain ⟨A5, c5, rfl, -, -, -, -⟩ := hR1.form
    obtain ⟨A6, c6, rfl, -, -, -, -⟩ := hR2.form
    have X5 := K.X.later hb5 K.X.lt
    obtain ⟨x0, x1, x2, x3, x4⟩ := X5.five
    have fx := X5.frozen
    have HP := Lib.hid (wrr_put (o := ⟨rt, rq, rv, ps, os, false⟩) (R := w.heap.size + 1 + 1 + 1) K.bel (by omega) hX4 hB hB' hR1 hR2 hb5)
    rw [← HO.out] at HP
    clear hR1 hR2 K y0 y1 y2 y3 y4 X5
    go_wp2
    exact bodyPost_ret (v := .tuple #[.agg #[.int .i64 rt, .int .i64 rq, .int .i64 rv, .slice A5 ps.length c5, .slice A6 os.length c6], .bool false]) (by simp [results, Tryz.results218, go_sem, x0, x1, x2, x3, x4]) rfl (by have := HP.out; rw [HO.out] at this ⊢; exact this _ _ _ _ _)
  have HWR := Lib.hid hwr
  refine (canWrite_is HWR.out A n cap L m mc w3 HM.out ((HR.out.below K.bel (Nat.le_refl _)).more K.bel.size) hn (H3.out.later K.bel)).mono ?_
  rintro e w4 ⟨rfl, hb4⟩
  replace K := K.later hb4
  clear hb4
  obtain ⟨y0, y1, y2, y3, y4⟩ := K.Y.five
  obtain ⟨n0, n1, n2, n3⟩ := K.N.four
  go_wp2_with fail
  refine (newer_any ct cq rt rq w4).mono ?_
  rintro e w5 ⟨rfl, hb5⟩
  replace K := K.later hb5
  clear hb5 y0 y1 y2 y3 y4 n0 n1 n2 n3
  rcases hcm : cmpN ct cq rt rq == 1 with _ | _
  · have HO : Hid (O = ⟨rt, rq, rv, ps, os, true⟩) := Lib.hid (by rw [← hO]; unfold outW; rw [if_neg (by rw [hrg]; simp), if_neg (by rw [hwr]; simp), if_neg (by simpa using hcm)])
    clear hwr hrg hO
    obtain ⟨y0, y1, y2, y3, y4⟩ := K.Y.five
    have hX4 := K.X.lt
    go_wp2_with fail
    refine (reg_is rt rq rv P p pc Q q qc ps os w5 (by rw [HLP.out]; omega) (by rw [HLQ.out]; omega) (H1.out.later K.bel) (H2.out.later K.bel)).mono ?_
    rintro e w6 ⟨B, u, u', hB, hB', rfl, hR1, hR2, hb5⟩
    obtain ⟨A5, c5, rfl, -, -, -, -⟩ := hR1.form
    obtain ⟨A6, c6, rfl, -, -, -, -⟩ := hR2.form
    have X5 := K.X.later hb5 K.X.lt
    obtain ⟨x0, x1, x2, x3, x4⟩ := X5.five
    have fx := X5.frozen
    have HP := Lib.hid (wrr_put (o := ⟨rt, rq, rv, ps, os, true⟩) (R := w.heap.size + 1 + 1 + 1) K.bel (by omega) hX4 hB hB' hR1 hR2 hb5)
    rw [← HO.out] at HP
    clear hR1 hR2 K y0 y1 y2 y3 y4 X5
    go_wp2
    exact bodyPost_ret (v := .tuple #[.agg #[.int .i64 rt, .int .i64 rq, .int .i64 rv, .slice A5 ps.length c5, .slice A6 os.length c6], .bool true]) (by simp [results, Tryz.results218, go_sem, x0, x1, x2, x3, x4]) rfl (by have := HP.out; rw [HO.out] at this ⊢; exact this _ _ _ _ _)
  · have hz := (wrt_parts hwr).2.2.1
    have HLS : Hid (lefS s l c sh zs x ct cq v cs = goodP (rB s l c sh zs 1 x ct cq v) cs) := Lib.hid (by unfold lefS; rw [if_neg hz])
    have HO : Hid (O = ⟨ct, cq, v, goodP (rB s l c sh zs 1 x ct cq v) cs, os, true⟩) := Lib.hid (by rw [← hO]; unfold outW; rw [if_neg (by rw [hrg]; simp), if_neg (by rw [hwr]; simp), if_pos (by simpa using hcm)])
    clear hwr hrg hO hz
    obtain ⟨n0, n1, n2, n3⟩ := K.N.four
    obtain ⟨g0, g1, g2, g3, g4⟩ := K.G.five
    go_wp2_with fail
    refine (leftSeals_is s l c sh A n cap zs x ct cq v L m mc cs w5 HM.out ((HR.out.below K.bel (Nat.le_refl _)).more K.bel.size) hn (H3.out.later K.bel)).mono ?_
    rintro e w6 ⟨u, rfl, hOw⟩
    rw [HLS.out] at hOw
    obtain ⟨J, hJ⟩ : ∃ J, goodP (rB s l c sh zs 1 x ct cq v) cs = J := ⟨_, rfl⟩
    rw [hJ] at hOw HO
    have hJl : J.length ≤ 4194304 := by
      rw [← hJ]
      have := goodP_le (rB s l c sh zs 1 x ct cq v) cs
      rw [H3.out.1] at this
      omega
    obtain ⟨Au, nu, cu, rfl⟩ := slc_form hOw.slc
    have K6 := K.later hOw.2
    have hs5 := K.N.lt
    have hRs := hOw.res (lo := w5.heap.size) (Nat.le_refl _)
    clear K hJ n0 n1 n2 n3 g0 g1 g2 g3 g4
    obtain ⟨n0, n1, n2, n3⟩ := K6.N.four
    obtain ⟨y0, y1, y2, y3, y4⟩ := K6.Y.five
    have fn := K6.N.frozen
    have fy := K6.Y.frozen
    have hab := K6.hab
    have ha := K6.ha
    have hNl := K6.N.lt
    have hX6 := K6.X.lt
    -- the board, behind what is written on it
    have Y7 := Lib.hid ((((K6.Y.far (p := ⟨a + 1, 3, none⟩) (by show a + 1 ≠ a; omega) (.slice Au nu cu)).set 0 (.int .i64 ct)).set 1 (.int .i64 cq)).set 2 (.int .i64 v) |>.set 3 (.slice Au nu cu))
    have X7 := Lib.hid (((((K6.X.far (p := ⟨a + 1, 3, none⟩) (by show a + 1 ≠ _; omega) (.slice Au nu cu)).far (p := ⟨a, 0, none⟩) (by show a ≠ _; omega) (.int .i64 ct)).far (p := ⟨a, 1, none⟩) (by show a ≠ _; omega) (.int .i64 cq)).far (p := ⟨a, 2, none⟩) (by show a ≠ _; omega) (.int .i64 v)).far (p := ⟨a, 3, none⟩) (by show a ≠ _; omega) (.slice Au nu cu))
    have E7 := Lib.hid (((((K6.bel.setCell (p := ⟨a + 1, 3, none⟩) (by show _ ≤ a + 1; omega) (.slice Au nu cu)).setCell (p := ⟨a, 0, none⟩) (by show _ ≤ a; omega) (.int .i64 ct)).setCell (p := ⟨a, 1, none⟩) (by show _ ≤ a; omega) (.int .i64 cq)).setCell (p := ⟨a, 2, none⟩) (by show _ ≤ a; omega) (.int .i64 v)).setCell (p := ⟨a, 3, none⟩) (by show _ ≤ a; omega) (.slice Au nu cu))
    have R7 := Lib.hid (((((hRs.far (b := a + 1) (by omega) 3 (.slice Au nu cu)).far (b := a) (by omega) 0 (.int .i64 ct)).far (b := a) (by omega) 1 (.int .i64 cq)).far (b := a) (by omega) 2 (.int .i64 v)).far (b := a) (by omega) 3 (.slice Au nu cu))
    clear K6 hRs hOw
    go_upto_region 10 with fail
    generalize (((((w6.setCell _ _).setCell _ _).setCell _ _).setCell _ _).setCell _ _ : World) = w7 at Y7 X7 E7 R7 ⊢
    have Y8 : Box w7 a 201 #[.int .i64 ct, .int .i64 cq, .int .i64 v, .slice Au nu cu, .slice Q q qc] := Y7.out
    have X8 := X7.out
    clear y0 y1 y2 y3 y4 n0 n1 n2 n3 fn fy Y7 X7
    obtain ⟨y0, y1, y2, y3, y4⟩ := Y8.five
    have hX8 := X8.lt
    go_wp2_with fail
    refine (reg_is ct cq v Au nu cu Q q qc J os w7 hJl (by rw [HLQ.out]; omega) R7.out.slc (H2.out.later E7.out)).mono ?_
    rintro e w8 ⟨B, u, u', hB, hB', rfl, hR1, hR2, hb5⟩
    obtain ⟨A5, c5, rfl, -, -, -, -⟩ := hR1.form
    obtain ⟨A6, c6, rfl, -, -, -, -⟩ := hR2.form
    have X5 := X8.later hb5 X8.lt
    obtain ⟨x0, x1, x2, x3, x4⟩ := X5.five
    have fx := X5.frozen
    have HP := Lib.hid (wrr_put (o := ⟨ct, cq, v, J, os, true⟩) (R := w.heap.size + 1 + 1 + 1) E7.out (by omega) hX8 hB hB' hR1 hR2 hb5)
    rw [← HO.out] at HP
    clear hR1 hR2 y0 y1 y2 y3 y4 X5 Y8 X8 E7 R7
    go_wp2
    exact bodyPost_ret (v := .tuple #[.agg #[.int .i64 ct, .int .i64 cq, .int .i64 v, .slice A5 J.length c5, .slice A6 os.length c6], .bool true]) (by simp [results, Tryz.results218, go_sem, x0, x1, x2, x3, x4]) rfl (by have := HP.out; rw [HO.out] at this ⊢; exact this _ _ _ _ _)

end Go.Proofs.YtjdepjpjjgkmbaaGreat

/- What is written again changes nothing; what is written is never older; mathematics alone; no conditions. -/
namespace Go.Proofs.YtjdepjpjjgkmbaaGreat
open Go.RowKit

theorem puts_mem7 {l : List (Int × Int)} {p : Int × Int} (h : p ∈ puts l) : p ∈ l := by
  have : p ∈ of p.1 (puts l) := mem_of.2 ⟨h, rfl⟩
  rw [puts_of] at this
  exact (mem_of.1 (List.mem_of_mem_take this)).1
theorem puts_ssrt7 {J : List (Int × Int)} (h : SSrt J) : puts J = J := by
  refine same_eq (puts_srt _).srt h.srt fun k => ?_
  rw [puts_of, List.take_of_length_le (ssrt_of h k)]
theorem goodP_twice (R : Int × Int → Bool) (ps : List (Int × Int)) : goodP R (goodP R ps) = goodP R ps := by
  have hf : (goodP R ps).filter R = goodP R ps := by
    rw [List.filter_eq_self]
    intro p hp
    have := puts_mem7 hp
    simpa using (List.mem_filter.1 this).2
  show puts ((goodP R ps).filter R) = goodP R ps
  rw [hf]
  exact puts_ssrt7 (puts_srt _)
theorem cer_left {s l c sh : Int} {zs : List Int} {ck ch ct cq cv : Int} {ps : List (Int × Int)} (h : cerB s l c sh zs ck ch ct cq cv ps = true) :
    cerB s l c sh zs ck ch ct cq cv (goodP (rB s l c sh zs ck ch ct cq cv) ps) = true := by
  simp only [cerB, Bool.and_eq_true, decide_eq_true_eq] at h ⊢
  obtain ⟨⟨hok, h20⟩, hq⟩ := h
  have hle := goodP_le (rB s l c sh zs ck ch ct cq cv) ps
  unfold cntN at hq ⊢
  rw [goodP_twice]
  exact ⟨⟨hok, by omega⟩, hq⟩
theorem cmp_self {a b : Int} (h : stB a b = true) : cmpN a b a b = 0 := by
  rcases cmp_cases a b a b with h' | ⟨_, _, h'⟩ | ⟨h', _⟩ | ⟨_, _, h'⟩
  · rw [cmpN_yes h h] at h'
    have g1 := sgn_bd a a
    have g2 := sgn_bd b b
    unfold orN at h'
    split at h' <;> omega
  · rcases h' with h' | h' <;> exact absurd rfl h'
  · exact h'
  · rcases h' with h' | h' <;> exact absurd rfl h'

/-- What is written is right, is newer or the same, and writes to itself. -/
theorem outW_again {s l c sh : Int} {zs : List Int} {x rt rq rv : Int} {ps : List (Int × Int)} {os : List Opn} {ct cq v : Int} {cs : List (Int × Int)} {O : Out} (hr : regB s l c sh zs x rt rq rv ps os = true) (hw : wrtB s l c sh zs x ct cq v cs = true) (hO : outW s l c sh zs x rt rq rv ps os ct cq v cs = O) :
    O.f = true ∧ O.os = os ∧ regB s l c sh zs x O.t O.q O.v O.cs O.os = true ∧ outW s l c sh zs x O.t O.q O.v O.cs O.os ct cq v cs = ⟨O.t, O.q, O.v, O.cs, O.os, true⟩ ∧ (cmpN O.t O.q rt rq = 0 ∨ cmpN O.t O.q rt rq = 1) ∧ (cmpN O.t O.q ct cq = 0 ∨ cmpN O.t O.q ct cq = 1) ∧ O.cs.length ≤ ps.length + cs.length := by
  have hrs := reg_stamp hr
  obtain ⟨hcs, _, hnz, hpro⟩ := wrt_parts hw
  unfold outW at hO
  rw [if_neg (by rw [hr]; simp), if_neg (by rw [hw]; simp)] at hO
  by_cases hc : cmpN ct cq rt rq = 1
  · rw [if_pos hc] at hO
    subst hO
    have hcer : cerB s l c sh zs 1 x ct cq v cs = true := by
      simp only [proB, Bool.and_eq_true, Bool.or_eq_true, decide_eq_true_eq] at hpro
      rcases hpro.2 with h | h
      · exact absurd h.1 hnz
      · exact h
    have hreg : regB s l c sh zs x ct cq v (goodP (rB s l c sh zs 1 x ct cq v) cs) os = true := by
      simp only [regB, Bool.and_eq_true] at hr ⊢
      refine ⟨?_, hr.2⟩
      simp only [lefB, Bool.and_eq_true, decide_eq_true_eq]
      refine ⟨?_, ?_⟩
      · simp only [proB, Bool.and_eq_true, Bool.or_eq_true] at hpro ⊢
        exact ⟨hpro.1, .inr (cer_left hcer)⟩
      · unfold lefS
        rw [if_neg hnz, goodP_twice]
    refine ⟨rfl, rfl, hreg, ?_, .inr hc, .inl (cmp_self hcs), ?_⟩
    · show outW s l c sh zs x ct cq v (goodP (rB s l c sh zs 1 x ct cq v) cs) os ct cq v cs = _
      unfold outW
      rw [if_neg (by rw [hreg]; simp), if_neg (by rw [hw]; simp), if_neg (by rw [cmp_self hcs]; omega)]
    · show (goodP (rB s l c sh zs 1 x ct cq v) cs).length ≤ _
      have := goodP_le (rB s l c sh zs 1 x ct cq v) cs
      omega
  · rw [if_neg hc] at hO
    subst hO
    refine ⟨rfl, rfl, hr, ?_, .inl (cmp_self hrs), ?_, by simp⟩
    · show outW s l c sh zs x rt rq rv ps os ct cq v cs = _
      unfold outW
      rw [if_neg (by rw [hr]; simp), if_neg (by rw [hw]; simp), if_neg hc]
    · show cmpN rt rq ct cq = 0 ∨ cmpN rt rq ct cq = 1
      rcases cmp_cases ct cq rt rq with h | ⟨_, h, _⟩ | ⟨h, h1, h2⟩ | ⟨h, _⟩
      · rw [cmpN_yes hcs hrs] at h
        have g1 := sgn_bd ct rt
        have g2 := sgn_bd cq rq
        unfold orN at h
        split at h <;> omega
      · exact .inr h
      · subst h1 h2
        exact .inl (cmp_self hrs)
      · exact absurd h hc
/-- What is answered is no longer than what came in. -/
theorem outW_len {s l c sh : Int} {zs : List Int} {x rt rq rv : Int} {ps : List (Int × Int)} {os : List Opn} {ct cq v : Int} {cs : List (Int × Int)} {O : Out} (hO : outW s l c sh zs x rt rq rv ps os ct cq v cs = O) : O.cs.length ≤ ps.length + cs.length ∧ O.os.length ≤ os.length := by
  subst hO
  unfold outW
  split
  · simp
  split
  · simp
  split
  · have := goodP_le (rB s l c sh zs 1 x ct cq v) cs
    show (goodP (rB s l c sh zs 1 x ct cq v) cs).length ≤ _ ∧ _
    exact ⟨by omega, Nat.le_refl _⟩
  · simp

end Go.Proofs.YtjdepjpjjgkmbaaGreat

namespace Go.Proofs.YtjdepjpjjgkmbaaGreat
open Go Go.RowKit

/-- What a record asks by its kind; what RecOk answers. -/
def kndB (s l c sh : Int) (zs : List Int) (r2 r3 r4 r5 r6 r7 : Int) (ps : List (Int × Int)) : Bool :=
  if r2 = 1 then decide (ps = []) && opnB s l c sh zs (r4, r5, r6, r7)
  else if r2 = 2 then decide (r4 = 0) && !decide (r5 = 0 ∧ r6 = 0) && lefB s l c sh zs r3 r5 r6 r7 ps
  else false
def rokB (s l c sh : Int) (zs : List Int) (r1 r2 r3 r4 r5 r6 r7 : Int) (ps : List (Int × Int)) (r8 : Int) : Bool :=
  inB r1 1 400 && shfB s l c sh zs r3 && kndB s l c sh zs r2 r3 r4 r5 r6 r7 ps && (r8 == sumN r1 r2 r3 r4 r5 r6 r7 ps)

theorem sumOfB_is {r1 r2 r3 r4 r5 r6 r7 : Int} {ps : List (Int × Int)} {z : Int} (hz : sumN r1 r2 r3 r4 r5 r6 r7 ps = z) (L : Option Addr) (m mc : Nat) (r8 : Int) (w : World) (hm : m ≤ 4194304) (hr : Pairs w w.heap.size L m ps) :
    Calls Tryz.prog 142 #[.agg #[.int .i64 r1, .int .i64 r2, .int .i64 r3, .int .i64 r4, .int .i64 r5, .int .i64 r6, .int .i64 r7, .slice L m mc, .int .i64 r8]] w fun e w' => e = .returned (.int .i64 z) ∧ Below w.heap.size w w' := hz ▸ sumOf_is r1 r2 r3 r4 r5 r6 r7 L m mc r8 ps w hm hr

theorem withinR_is {x lo hi : Int} {b : Bool} (h : inB x lo hi = b) (w : World) : Calls Tryz.prog 143 #[.int .i64 x, .int .i64 lo, .int .i64 hi] w fun e w' => e = .returned (.bool b) ∧ w = w' := h ▸ within_any x lo hi w
theorem recOpen_is (r1 r2 r3 r4 r5 r6 r7 : Int) (L : Option Addr) (m mc : Nat) (r8 : Int) (w : World) :
    Calls Tryz.prog 190 #[.agg #[.int .i64 r1, .int .i64 r2, .int .i64 r3, .int .i64 r4, .int .i64 r5, .int .i64 r6, .int .i64 r7, .slice L m mc, .int .i64 r8]] w fun e w' => e = .returned (.agg #[.int .i64 r4, .int .i64 r5, .int .i64 r6, .int .i64 r7]) ∧ Below w.heap.size w w' := by
  go_enter Tryz.func190, Tryz.ntmps190
  go_wp2
  exact bodyPost_ret (v := .agg #[.int .i64 r4, .int .i64 r5, .int .i64 r6, .int .i64 r7]) (by simp [results, Tryz.results190, go_sem]) rfl ⟨rfl, by
    repeat (first | (with_reducible exact bel_trans (bel_alloc _ _) (bel_alloc _ _)) | refine Below.setCell ?_ (by simp; try omega) _)⟩
theorem recNewest_is (r1 r2 r3 r4 r5 r6 r7 : Int) (L : Option Addr) (m mc : Nat) (r8 : Int) (w : World) :
    Calls Tryz.prog 192 #[.agg #[.int .i64 r1, .int .i64 r2, .int .i64 r3, .int .i64 r4, .int .i64 r5, .int .i64 r6, .int .i64 r7, .slice L m mc, .int .i64 r8]] w fun e w' => e = .returned (.agg #[.int .i64 r5, .int .i64 r6, .int .i64 r7, .slice L m mc]) ∧ Below w.heap.size w w' := by
  go_enter Tryz.func192, Tryz.ntmps192
  go_wp2
  exact bodyPost_ret (v := .agg #[.int .i64 r5, .int .i64 r6, .int .i64 r7, .slice L m mc]) (by simp [results, Tryz.results192, go_sem]) rfl ⟨rfl, by
    repeat (first | (with_reducible exact bel_trans (bel_alloc _ _) (bel_alloc _ _)) | refine Below.setCell ?_ (by simp; try omega) _)⟩

set_option maxRecDepth 100000 in
set_option maxHeartbeats 4000000 in
theorem kindOk_is {s l c sh : Int} {zs : List Int} {r2 r3 r4 r5 r6 r7 : Int} {ps : List (Int × Int)} {b : Bool} (hb : kndB s l c sh zs r2 r3 r4 r5 r6 r7 ps = b) (A : Option Addr) (n cap : Nat) (r1 : Int) (L : Option Addr) (m mc : Nat) (r8 : Int) (w : World) (hn : n ≤ maxLen) (hr : Row w w.heap.size A n zs) (hm : m ≤ 4194304) (hp : Pairs w w.heap.size L m ps) :
    Calls Tryz.prog 145 #[.agg #[.int .i64 r1, .int .i64 r2, .int .i64 r3, .int .i64 r4, .int .i64 r5, .int .i64 r6, .int .i64 r7, .slice L m mc, .int .i64 r8], .agg #[.int .i64 s, .int .i64 l, .int .i64 c, .int .i64 sh, .slice A n cap]] w fun e w' => e = .returned (.bool b) ∧ Below w.heap.size w w' := by
  have D := (Box.new w 46 #[.int .i64 r1, .int .i64 r2, .int .i64 r3, .int .i64 r4, .int .i64 r5, .int .i64 r6, .int .i64 r7, .slice L m mc, .int .i64 r8]).alloc (.cells #[.int .i64 s, .int .i64 l, .int .i64 c, .int .i64 sh, .slice A n cap] 26)
  have G := Box.new (w.alloc (.cells #[.int .i64 r1, .int .i64 r2, .int .i64 r3, .int .i64 r4, .int .i64 r5, .int .i64 r6, .int .i64 r7, .slice L m mc, .int .i64 r8] 46)) 26 #[.int .i64 s, .int .i64 l, .int .i64 c, .int .i64 sh, .slice A n cap]
  have E := bel_trans (bel_alloc w (.cells #[.int .i64 r1, .int .i64 r2, .int .i64 r3, .int .i64 r4, .int .i64 r5, .int .i64 r6, .int .i64 r7, .slice L m mc, .int .i64 r8] 46)) (bel_alloc _ (.cells #[.int .i64 s, .int .i64 l, .int .i64 c, .int .i64 sh, .slice A n cap] 26))
  simp only [World.size_alloc] at G
  have HR := Lib.hid ((hr.below E (Nat.le_refl _)).more E.size)
  have HP := Lib.hid (hp.later E)
  have HL := Lib.hid hp.1
  have HM := Lib.hid hn
  have HB := Lib.hid hb
  clear hr hn hp hb
  go_enter Tryz.func145, Tryz.ntmps145
  go_upto_region 1 with fail
  generalize ((w.alloc _).alloc _ : World) = w0 at D G E HR HP ⊢
  have d1 := D.cell 1
  by_cases h1 : r2 = 1
  · subst h1
    go_upto_region 3 with fail
    clear d1
    obtain ⟨f0, f1, f2, f3, f4, f5, f6, f7, f8⟩ := nineAfter D
    obtain ⟨e0, e1, e2, e3, e4⟩ := fiveAfter G
    rcases Nat.eq_zero_or_pos m with hz | hz
    · have HO : Hid (opnB s l c sh zs (r4, r5, r6, r7) = b) := Lib.hid (by
        have : ps = [] := List.eq_nil_of_length_eq_zero (HL.out.trans hz)
        rw [← HB.out]; unfold kndB; simp [this])
      subst hz
      refine wp_region_after (by kernel_rfl) (by kernel_rfl) ?_
      repeat (first
        | go_big_quiet_step (first | (go_at_call 190; exact after_of (recOpen_is _ _ _ _ _ _ _ _ _ _ _ _)) | (go_at_call 191; exact after_of (isRightB_is HO.out A n cap _ HM.out (rowAfter HR.out _))))
        | quiet_step (first | (go_at_call 190; exact after_of (recOpen_is _ _ _ _ _ _ _ _ _ _ _ _)) | (go_at_call 191; exact after_of (isRightB_is HO.out A n cap _ HM.out (rowAfter HR.out _)))))
      refine wpQuiet_nil ?_
      intro pw
      go_wp2
      go_ret
      exact ⟨rfl, bel_trans E pw.bel⟩
    · have HV : Hid (b = false) := Lib.hid (by
        have : ps ≠ [] := fun e => by have := HL.out; rw [e] at this; simp at this; omega
        rw [← HB.out]; unfold kndB; simp [this])
      have hm0 : ((m : Int) == 0) = false := by simp; omega
      refine wp_region_after (by kernel_rfl) (by kernel_rfl) ?_
      repeat (first | go_big_quiet_step (fail) | quiet_step (fail))
      refine wpQuiet_nil ?_
      intro pw
      go_wp2
      go_ret
      exact ⟨by rw [HV.out]; rfl, bel_trans E pw.bel⟩
  by_cases h2 : r2 = 2
  · subst h2
    go_upto_region 5 with fail
    clear d1
    obtain ⟨f0, f1, f2, f3, f4, f5, f6, f7, f8⟩ := nineAfter D
    obtain ⟨e0, e1, e2, e3, e4⟩ := fiveAfter G
    by_cases h4 : r4 = 0
    · subst h4
      rcases zero_cases r5 r6 with ⟨rfl, rfl⟩ | ⟨hcase, hnz⟩
      · have HV : Hid (b = false) := Lib.hid (by rw [← HB.out]; unfold kndB; simp)
        refine wp_region_after (by kernel_rfl) (by kernel_rfl) ?_
        repeat (first | go_big_quiet_step (fail) | quiet_step (fail))
        refine wpQuiet_nil ?_
        intro pw
        go_wp2
        go_ret
        exact ⟨by rw [HV.out]; rfl, bel_trans E pw.bel⟩
      · have HF : Hid (lefB s l c sh zs r3 r5 r6 r7 ps = b) := Lib.hid (by rw [← HB.out]; unfold kndB; simp [hnz])
        clear hnz
        rcases hcase with hx | ⟨hx, hy⟩
        all_goals
          refine wp_region_after (by kernel_rfl) (by kernel_rfl) ?_
          repeat (first
            | go_big_quiet_step (first | (go_at_call 192; exact after_of (recNewest_is _ _ _ _ _ _ _ _ _ _ _ _)) | (go_at_call 193; exact after_of (isLeftB_is HF.out A n cap _ m mc _ HM.out (rowAfter HR.out _) hm (pairsAfter HP.out _))))
            | quiet_step (first | (go_at_call 192; exact after_of (recNewest_is _ _ _ _ _ _ _ _ _ _ _ _)) | (go_at_call 193; exact after_of (isLeftB_is HF.out A n cap _ m mc _ HM.out (rowAfter HR.out _) hm (pairsAfter HP.out _)))))
          refine wpQuiet_nil ?_
          intro pw
          go_wp2
          go_ret
          exact ⟨rfl, bel_trans E pw.bel⟩
    · have HV : Hid (b = false) := Lib.hid (by rw [← HB.out]; unfold kndB; simp [h4])
      have h4' : (r4 == 0) = false := by simpa using h4
      refine wp_region_after (by kernel_rfl) (by kernel_rfl) ?_
      repeat (first | go_big_quiet_step (fail) | quiet_step (fail))
      refine wpQuiet_nil ?_
      intro pw
      go_wp2
      go_ret
      exact ⟨by rw [HV.out]; rfl, bel_trans E pw.bel⟩
  · have HV : Hid (b = false) := Lib.hid (by rw [← HB.out]; unfold kndB; simp [h1, h2])
    have h1' : (r2 == 1) = false := by simpa using h1
    have h2' : (r2 == 2) = false := by simpa using h2
    go_wp2
    go_ret
    exact ⟨by rw [HV.out]; rfl, E⟩

set_option maxRecDepth 100000 in
set_option maxHeartbeats 4000000 in
theorem recOk_is {s l c sh : Int} {zs : List Int} {r1 r2 r3 r4 r5 r6 r7 r8 : Int} {ps : List (Int × Int)} {b : Bool} (hb : rokB s l c sh zs r1 r2 r3 r4 r5 r6 r7 ps r8 = b) (A : Option Addr) (n cap : Nat) (L : Option Addr) (m mc : Nat) (w : World) (hn : n ≤ maxLen) (hr : Row w w.heap.size A n zs) (hm : m ≤ 4194304) (hp : Pairs w w.heap.size L m ps) :
    Calls Tryz.prog 79 #[.agg #[.int .i64 s, .int .i64 l, .int .i64 c, .int .i64 sh, .slice A n cap], .agg #[.int .i64 r1, .int .i64 r2, .int .i64 r3, .int .i64 r4, .int .i64 r5, .int .i64 r6, .int .i64 r7, .slice L m mc, .int .i64 r8]] w fun e w' => e = .returned (.bool b) ∧ Below w.heap.size w w' := by
  have G := (Box.new w 26 #[.int .i64 s, .int .i64 l, .int .i64 c, .int .i64 sh, .slice A n cap]).alloc (.cells #[.int .i64 r1, .int .i64 r2, .int .i64 r3, .int .i64 r4, .int .i64 r5, .int .i64 r6, .int .i64 r7, .slice L m mc, .int .i64 r8] 46)
  have D := Box.new (w.alloc (.cells #[.int .i64 s, .int .i64 l, .int .i64 c, .int .i64 sh, .slice A n cap] 26)) 46 #[.int .i64 r1, .int .i64 r2, .int .i64 r3, .int .i64 r4, .int .i64 r5, .int .i64 r6, .int .i64 r7, .slice L m mc, .int .i64 r8]
  have E := bel_trans (bel_alloc w (.cells #[.int .i64 s, .int .i64 l, .int .i64 c, .int .i64 sh, .slice A n cap] 26)) (bel_alloc _ (.cells #[.int .i64 r1, .int .i64 r2, .int .i64 r3, .int .i64 r4, .int .i64 r5, .int .i64 r6, .int .i64 r7, .slice L m mc, .int .i64 r8] 46))
  simp only [World.size_alloc] at D
  have HR := Lib.hid ((hr.below E (Nat.le_refl _)).more E.size)
  have HP := Lib.hid (hp.later E)
  have HM := Lib.hid hn
  have HB := Lib.hid hb
  clear hr hn hp hb
  go_enter Tryz.func79, Tryz.ntmps79
  go_upto_region 1 with fail
  generalize ((w.alloc _).alloc _ : World) = w0 at D G E HR HP ⊢
  obtain ⟨f0, f1, f2, f3, f4, f5, f6, f7, f8⟩ := nineAfter D
  obtain ⟨e0, e1, e2, e3, e4⟩ := fiveAfter G
  rcases h1 : inB r1 1 400 with _ | _
  · have HV : Hid (b = false) := Lib.hid (by rw [← HB.out]; unfold rokB; simp [h1])
    have H1 := Lib.hid h1
    clear h1
    refine wp_region_after (by kernel_rfl) (by kernel_rfl) ?_
    repeat (first | go_big_quiet_step ((go_at_call 143; exact after_same (withinR_is H1.out _))) | quiet_step ((go_at_call 143; exact after_same (withinR_is H1.out _))))
    refine wpQuiet_nil ?_
    intro pw
    go_wp2
    go_ret
    exact ⟨by rw [HV.out]; rfl, bel_trans E pw.bel⟩
  rcases h2 : shfB s l c sh zs r3 with _ | _
  · have HV : Hid (b = false) := Lib.hid (by rw [← HB.out]; unfold rokB; simp [h2])
    have H1 := Lib.hid h1
    have H2 := Lib.hid h2
    clear h1 h2
    refine wp_region_after (by kernel_rfl) (by kernel_rfl) ?_
    repeat (first | go_big_quiet_step ((first | (go_at_call 143; exact after_same (withinR_is H1.out _)) | (go_at_call 144; exact after_of (isShelfB_is H2.out A n cap _ HM.out (rowAfter HR.out _))))) | quiet_step ((first | (go_at_call 143; exact after_same (withinR_is H1.out _)) | (go_at_call 144; exact after_of (isShelfB_is H2.out A n cap _ HM.out (rowAfter HR.out _))))))
    refine wpQuiet_nil ?_
    intro pw
    go_wp2
    go_ret
    exact ⟨by rw [HV.out]; rfl, bel_trans E pw.bel⟩
  rcases h3 : kndB s l c sh zs r2 r3 r4 r5 r6 r7 ps with _ | _
  · have HV : Hid (b = false) := Lib.hid (by rw [← HB.out]; unfold rokB; simp [h3])
    have H1 := Lib.hid h1
    have H2 := Lib.hid h2
    have H3 := Lib.hid h3
    clear h1 h2 h3
    refine wp_region_after (by kernel_rfl) (by kernel_rfl) ?_
    repeat (first | go_big_quiet_step ((first | (go_at_call 143; exact after_same (withinR_is H1.out _)) | (go_at_call 144; exact after_of (isShelfB_is H2.out A n cap _ HM.out (rowAfter HR.out _))) | (go_at_call 145; exact after_of (kindOk_is H3.out A n cap _ L m mc _ _ HM.out (rowAfter HR.out _) hm (pairsAfter HP.out _))))) | quiet_step ((first | (go_at_call 143; exact after_same (withinR_is H1.out _)) | (go_at_call 144; exact after_of (isShelfB_is H2.out A n cap _ HM.out (rowAfter HR.out _))) | (go_at_call 145; exact after_of (kindOk_is H3.out A n cap _ L m mc _ _ HM.out (rowAfter HR.out _) hm (pairsAfter HP.out _))))))
    refine wpQuiet_nil ?_
    intro pw
    go_wp2
    go_ret
    exact ⟨by rw [HV.out]; rfl, bel_trans E pw.bel⟩
  obtain ⟨z, h4⟩ : ∃ z, sumN r1 r2 r3 r4 r5 r6 r7 ps = z := ⟨_, rfl⟩
  have HV : Hid (b = (r8 == z)) := Lib.hid (by rw [← HB.out]; unfold rokB; simp [h1, h2, h3, h4])
  have H1 := Lib.hid h1
  have H2 := Lib.hid h2
  have H3 := Lib.hid h3
  have H4 := Lib.hid h4
  clear h1 h2 h3 h4
  refine wp_region_after (by kernel_rfl) (by kernel_rfl) ?_
  repeat (first | go_big_quiet_step ((first | (go_at_call 143; exact after_same (withinR_is H1.out _)) | (go_at_call 144; exact after_of (isShelfB_is H2.out A n cap _ HM.out (rowAfter HR.out _))) | (go_at_call 145; exact after_of (kindOk_is H3.out A n cap _ L m mc _ _ HM.out (rowAfter HR.out _) hm (pairsAfter HP.out _))) | (go_at_call 142; exact after_of (sumOfB_is H4.out L m mc _ _ hm (pairsAfter HP.out _))))) | quiet_step ((first | (go_at_call 143; exact after_same (withinR_is H1.out _)) | (go_at_call 144; exact after_of (isShelfB_is H2.out A n cap _ HM.out (rowAfter HR.out _))) | (go_at_call 145; exact after_of (kindOk_is H3.out A n cap _ L m mc _ _ HM.out (rowAfter HR.out _) hm (pairsAfter HP.out _))) | (go_at_call 142; exact after_of (sumOfB_is H4.out L m mc _ _ hm (pairsAfter HP.out _))))))
  refine wpQuiet_nil ?_
  intro pw
  go_wp2
  go_ret
  exact ⟨by rw [HV.out]; rfl, bel_trans E pw.bel⟩

end Go.Proofs.YtjdepjpjjgkmbaaGreat
