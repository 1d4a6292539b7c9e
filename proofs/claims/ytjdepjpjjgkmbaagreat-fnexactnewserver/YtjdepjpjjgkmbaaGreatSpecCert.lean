/- The model's lists of seals: putting one in, joining two: contracts of each of them; up to some four million seals. -/
import Derived.Test.YtjdepjpjjgkmbaaGreatJoin
import Derived.Test.YtjdepjpjjgkmbaaGreatSpecSeal
import Derived.Test.YtjdepjpjjgkmbaaGreatCert
namespace Go.Proofs.YtjdepjpjjgkmbaaGreat
open Go.RowKit

theorem ins_small {l : List (Int × Int)} {s : Int × Int} (h : ∀ p ∈ l, p.1 ≤ s.1) : ins l s = l ++ [s] := by
  induction l with
  | nil => rfl
  | cons x l ih =>
    unfold ins
    rw [if_neg (Int.not_lt.2 (h x (by simp))), ih (fun p hp => h p (by simp [hp]))]
    rfl
theorem ins_snoc {l : List (Int × Int)} {s : Int × Int} (h : ∃ p ∈ l, s.1 < p.1) (y : Int × Int) : ins (l ++ [y]) s = ins l s ++ [y] := by
  induction l with
  | nil => simp at h
  | cons x l ih =>
    rw [List.cons_append]
    unfold ins
    split
    · rfl
    · rename_i hx
      obtain ⟨p, hp, hlt⟩ := h
      rcases List.mem_cons.1 hp with e | e
      · rw [e] at hlt; exact absurd hlt hx
      · rw [ih ⟨p, e, hlt⟩]; rfl
theorem ins_here {l : List (Int × Int)} {s y : Int × Int} (h : ∀ p ∈ l, p.1 ≤ s.1) (hy : s.1 < y.1) : ins (l ++ [y]) s = l ++ [s] ++ [y] := by
  induction l with
  | nil => simp [ins, hy]
  | cons x l ih =>
    rw [List.cons_append]
    unfold ins
    rw [if_neg (Int.not_lt.2 (h x (by simp))), ih (fun p hp => h p (by simp [hp]))]
    rfl

/-- A list of the call's own, and the box of the pair that is put. -/
structure PutAt (w0 wr : World) (x t : Int) (q cap' : Nat) (o : List (Int × Int)) : Prop where
  own : wr.ownsRow (w0.heap.size + 1) 136 2 (.slice (some ⟨q, 0, none⟩) o.length cap') o.length (flatP o)
  bel : Below w0.heap.size w0 wr
  box : Box wr w0.heap.size 136 #[.int .i64 x, .int .i64 t]
theorem PutAt.later {w0 wr w' : World} {x t : Int} {q cap' : Nat} {o : List (Int × Int)} (h : PutAt w0 wr x t q cap' o) (hb : Below wr.heap.size wr w') : PutAt w0 w' x t q cap' o :=
  ⟨h.own.kept (grown_bel hb none) (by simp [Value.ownBlock]), bel_trans h.bel hb, h.box.later hb h.box.lt⟩
theorem PutAt.push {w0 wr w2 : World} {x t : Int} {q cap' gg cap2 : Nat} {o : List (Int × Int)} {a b : Int} {ob : Obj} (h : PutAt w0 wr x t q cap' o)
    (hown : w2.ownsRow (w0.heap.size + 1) 136 2 (.slice (some ⟨gg, 0, none⟩) (o.length + 1) cap2) (o.length + 1) (flatP o ++ [.int .i64 a, .int .i64 b])) (hg : (wr.alloc ob).grownBy w2 (Value.ownBlock (.slice (some ⟨q, 0, none⟩) o.length cap'))) : PutAt w0 w2 x t gg cap2 (o ++ [(a, b)]) := by
  have hq := (h.own.lt q rfl).1
  have hg : (wr.alloc ob).grownBy w2 (some q) := hg
  refine ⟨?_, bel_grown (bel_trans h.bel (bel_alloc wr ob)) hg (by omega), (h.box.alloc ob).kept hg (by intro e; injection e with e; omega)⟩
  rw [flatP_snoc]
  simpa using hown

/-- What is answered: a list somewhere. -/
def Gives (w : World) (ps : List (Int × Int)) (e : Ending) (w' : World) : Prop :=
  ∃ g cap, e = .returned (.slice (some ⟨g, 0, none⟩) ps.length cap) ∧ Pairs w' w'.heap.size (some ⟨g, 0, none⟩) ps.length ps ∧ Below w.heap.size w w'

set_option maxRecDepth 100000 in
set_option maxHeartbeats 2000000 in
theorem put_is (g cap : Nat) (l : List (Int × Int)) (x t : Int) (w : World) (hn : l.length ≤ 4194304) (h : Pairs w w.heap.size (some ⟨g, 0, none⟩) l.length l) :
    Calls Tryz.prog 238 #[.slice (some ⟨g, 0, none⟩) l.length cap, .agg #[.int .i64 x, .int .i64 t]] w (Gives w (put l (x, t))) := by
  obtain ⟨i0, hi0, hz0, hz1, hz2⟩ := info_parts Tryz.infoSealI
  have K0 : PutAt w ((w.alloc (.cells #[.int .i64 x, .int .i64 t] 136)).alloc (.cells #[] 136)) x t (w.heap.size + 1) 0 [] := by
    refine ⟨⟨rfl, .inr ⟨w.heap.size + 1, 0, #[], rfl, Nat.le_refl _, ?_, Nat.le_refl _, Nat.zero_le _, rfl, rfl⟩⟩, bel_trans (bel_alloc _ _) (bel_alloc _ _), (Box.new w _ _).alloc _⟩
    have := Box.new (w.alloc (.cells #[.int .i64 x, .int .i64 t] 136)) 136 #[]
    simp only [World.size_alloc] at this
    exact this
  have HP := Lib.hid h
  obtain ⟨n, hnl⟩ : ∃ n, l.length = n := ⟨_, rfl⟩
  have K1 : ∀ k, k < n → l.take (k + 1) = l.take k ++ [pth l k] := fun k hk => by
    rw [List.take_succ_eq_append_getElem (by omega), pth_lt (by omega)]
  have K1 := Lib.hid K1
  rw [hnl] at hn ⊢
  have hnl := Lib.hid hnl
  rename_i q1 q2
  clear h q1 q2
  go_enter Tryz.func238, Tryz.ntmps238
  go_wp2_with fail
  generalize ((w.alloc _).alloc _ : World) = w1 at K0 ⊢
  go_loopw [5, 6, 7] (fun ov bv iv wr => ∃ (k q cap' : Nat) (o : List (Int × Int)) (b : Bool), k ≤ n ∧ iv = .int .i64 k ∧ bv = .bool b ∧ ov = .slice (some ⟨q, 0, none⟩) o.length cap' ∧ PutAt w wr x t q cap' o ∧ o.length ≤ k + 1 ∧ (∀ p ∈ l.take k, p.1 ≠ x) ∧
      ((b = false ∧ o = l.take k ∧ ∀ p ∈ l.take k, p.1 ≤ x) ∨ (b = true ∧ o = ins (l.take k) (x, t) ∧ ∃ p ∈ l.take k, x < p.1))) (fun _ _ i _ => n - (intOf i).toNat)
  case atStart => exact ⟨0, _, 0, [], false, Nat.zero_le _, rfl, rfl, rfl, K0, by simp, by simp, .inl ⟨rfl, by simp, by simp⟩⟩
  case round =>
    obtain ⟨k, q, cap', o, b, hk, rfl, rfl, rfl, hP, hol, hne, hcase⟩ := hrel
    by_cases hlt : k < n
    · have hlt' : (k : Int) < (n : Int) := by omega
      obtain ⟨b', o', hA, hbB, hcell⟩ := HP.out.2 (by have := hnl.out; omega)
      cases hA
      obtain ⟨c0, c1⟩ := hcell k (by have := hnl.out; omega)
      rw [Nat.zero_add] at c0 c1
      have c0 := (hP.bel.cell (p := ⟨g, k * 2, none⟩) hbB).trans c0
      have c1 := (hP.bel.cell (p := ⟨g, k * 2 + 1, none⟩) hbB).trans c1
      have hst := Lib.hid (K1.out k hlt)
      generalize hy : pth l k = y at c0 c1 hst
      obtain ⟨y, y'⟩ := y
      obtain ⟨s0, s1⟩ := hP.box.two
      have hgl : g < wr.heap.size := Nat.lt_of_lt_of_le hbB hP.bel.size
      have hq := (hP.own.lt q rfl)
      have g0 := After.cell (by exact hgl) c0
      have g1 := After.cell (by exact hgl) c1
      have e0 := After.cell (by exact hP.box.lt) s0
      have e1 := After.cell (by exact hP.box.lt) s1
      have hy := Lib.hid hy
      have hcase := Lib.hid hcase
      have hne := Lib.hid hne
      have hPP := Lib.hid hP
      rename_i q1 q2 q3
      clear q1 q2 q3 hcell c0 c1 s0 s1 hP
      by_cases hyx : y = x
      · subst hyx
        have hhas : put l (y, t) = l := by
          have : has l y = true := has_mem.2 ⟨pth l k, by rw [pth_lt (by have := hnl.out; omega)]; exact List.getElem_mem _, by rw [hy.out]⟩
          simp [put, this]
        rw [hhas]
        go_wp2_with fail
        refine wp_region_after (by kernel_rfl) (by kernel_rfl) ?_
        repeat (first | go_big_quiet_step (fail) | quiet_step (fail))
        refine wpQuiet_nil ?_
        intro pw
        have hP := hPP.out.later pw.bel
        clear g0 g1 e0 e1
        go_wp2
        go_ret
        exact ⟨g, cap, by rw [hnl.out]; rfl, HP.out.later hP.bel, hP.bel⟩
      · have hyx' : (y == x) = false := by simp [hyx]
        have hyx := Lib.hid hyx
        rename_i q1
        clear q1
        go_wp2_with fail
        refine wp_region_after (by kernel_rfl) (by kernel_rfl) ?_
        repeat (first | go_big_quiet_step (fail) | quiet_step (fail))
        refine wpQuiet_nil ?_
        intro pw
        have d0 := g0 pw
        have d1 := g1 pw
        have d2 := e0 pw
        have d3 := e1 pw
        have hP := hPP.out.later pw.bel
        clear g0 g1 e0 e1 hPP
        generalize pw.x = w2 at d0 d1 d2 d3 hP ⊢
        have hsz := hP.bel.size
        have hbl := hP.box.lt
        have hgl2 : g < w2.heap.size := Nat.lt_of_lt_of_le hbB hsz
        have g0 := After.cell (by exact hgl2) d0
        have g1 := After.cell (by exact hgl2) d1
        have e0 := After.cell (by exact hbl) d2
        have e1 := After.cell (by exact hbl) d3
        have hPP := Lib.hid hP
        clear d0 d1 d2 d3 hP
        have hne' : ∀ p ∈ l.take (k + 1), p.1 ≠ x := by
          rw [hst.out]
          intro p hp
          rcases List.mem_append.1 hp with e | e
          · exact hne.out p e
          · simp only [List.mem_singleton] at e
            rw [e]
            exact hyx.out
        have hne' := Lib.hid hne'
        rename_i q1
        clear q1
        rcases hcase.out with ⟨rfl, ho, hall⟩ | ⟨rfl, ho, hex⟩
        · have ho := Lib.hid ho
          have hall := Lib.hid hall
          rename_i q1 q2
          clear q1 q2
          by_cases hxy : x < y
          · go_wp2_with fail
            refine wp_region_after (by kernel_rfl) (by kernel_rfl) ?_
            repeat (first | go_big_quiet_step (fail) | quiet_step (fail))
            refine wpQuiet_nil ?_
            intro pw2
            have d0 := g0 pw2
            have d1 := g1 pw2
            have d2 := e0 pw2
            have d3 := e1 pw2
            have hP := hPP.out.later pw2.bel
            clear g0 g1 e0 e1 hPP
            generalize pw2.x = w3 at d0 d1 d2 d3 hP ⊢
            have hq3 := hP.own.lt q rfl
            have hsz3 := hP.bel.size
            have hbx3 := hP.box.lt
            go_wp2_with (first | (at_builtin; refine wpList_append_lies _ rfl _ _ _ rfl (w.heap.size + 1) 136 i0 _ 2 16 Tryz.underlying40 hi0 hz0 hz1 hz2 rfl (by omega) (.slice (some ⟨gg, 0, none⟩) (o.length + 1) cap2) (o.length + 1) (flatP o ++ [.int .i64 x, .int .i64 t]) rfl (hown2.alloc _) ⟨w5.heap.size, 0, none⟩ 1 1 [.int .i64 y, .int .i64 y'] rfl rfl (World.news_of_block (cs := #[.int .i64 y, .int .i64 y']) (t := 136) (fr := (0, 0)) (heap_alloc_new w5 _)) (by simp [Value.oneCell']) (by omega) (by unfold maxLen; omega) (by omega) (by simp; omega) (w5.heap.size + 1) (by simp) ?_; intro g3 cap3 w6 hown3 hgrow3 hat3 hlt3; have hP3 := hP2.push (gg := g3) (cap2 := cap3) (a := y) (b := y') (by simpa [flatP_snoc] using hown3) (by simpa using hgrow3); clear hown3 hgrow3 hat3 hown2) | (at_builtin; refine wpList_append_lies _ rfl _ _ _ rfl (w.heap.size + 1) 136 i0 _ 2 16 Tryz.underlying40 hi0 hz0 hz1 hz2 rfl (by omega) (.slice (some ⟨q, 0, none⟩) (o.length) cap') (o.length) (flatP o) rfl (hP.own.alloc _) ⟨w3.heap.size, 0, none⟩ 1 1 [.int .i64 x, .int .i64 t] rfl rfl (World.news_of_block (cs := #[.int .i64 x, .int .i64 t]) (t := 136) (fr := (0, 0)) (heap_alloc_new w3 _)) (by simp [Value.oneCell']) (by omega) (by unfold maxLen; omega) (by omega) (by simp; omega) (w3.heap.size + 1) (by simp) ?_; intro gg cap2 w5 hown2 hgrow2 hat hlt2; have hP2 := hP.push hown2 hgrow2; have c0 := (hP2.bel.cell (p := ⟨g, k * 2, none⟩) hbB).trans ((hP.bel.cell (p := ⟨g, k * 2, none⟩) hbB).symm.trans d0); have c1 := (hP2.bel.cell (p := ⟨g, k * 2 + 1, none⟩) hbB).trans ((hP.bel.cell (p := ⟨g, k * 2 + 1, none⟩) hbB).symm.trans d1); have hsz5 := hP2.bel.size; have hbx5 := hP2.box.lt; clear hgrow2 hat))
            have hP3 := Lib.hid hP3
            rename_i q1
            clear q1 hP2 hP
            go_roundw
            case rel =>
              have hl2 : (o ++ [(x, t)] ++ [(y, y')]).length = o.length + 1 + 1 := by simp
              exact ⟨k + 1, _, _, o ++ [(x, t)] ++ [(y, y')], true, by omega, by go_num, rfl, by rw [hl2], hP3.out, by rw [hl2, ho.out, List.length_take]; have := hnl.out; omega, hne'.out, .inr ⟨rfl, by rw [hst.out, ins_here hall.out hxy, ho.out], (y, y'), by rw [hst.out]; simp, hxy⟩⟩
            case measure => simp [intOf]; omega
          · have hxy' : y ≤ x := Int.not_lt.1 hxy
            clear hxy
            go_wp2_with fail
            refine wp_region_after (by kernel_rfl) (by kernel_rfl) ?_
            repeat (first | go_big_quiet_step (fail) | quiet_step (fail))
            refine wpQuiet_nil ?_
            intro pw2
            have d0 := g0 pw2
            have d1 := g1 pw2
            have d2 := e0 pw2
            have d3 := e1 pw2
            have hP := hPP.out.later pw2.bel
            clear g0 g1 e0 e1 hPP
            generalize pw2.x = w3 at d0 d1 d2 d3 hP ⊢
            have hq3 := hP.own.lt q rfl
            have hsz3 := hP.bel.size
            have hbx3 := hP.box.lt
            go_wp2_with (at_builtin; refine wpList_append_lies _ rfl _ _ _ rfl (w.heap.size + 1) 136 i0 _ 2 16 Tryz.underlying40 hi0 hz0 hz1 hz2 rfl (by omega) (.slice (some ⟨q, 0, none⟩) (o.length) cap') (o.length) (flatP o) rfl (hP.own.alloc _) ⟨w3.heap.size, 0, none⟩ 1 1 [.int .i64 y, .int .i64 y'] rfl rfl (World.news_of_block (cs := #[.int .i64 y, .int .i64 y']) (t := 136) (fr := (0, 0)) (heap_alloc_new w3 _)) (by simp [Value.oneCell']) (by omega) (by unfold maxLen; omega) (by omega) (by simp; omega) (w3.heap.size + 1) (by simp) ?_; intro gg cap2 w5 hown2 hgrow2 hat hlt2; have hP3 := hP.push hown2 hgrow2; clear hown2 hgrow2 hat)
            have hP3 := Lib.hid hP3
            rename_i q1
            clear q1 hP
            go_roundw
            case rel =>
              exact ⟨k + 1, _, _, o ++ [(y, y')], false, by omega, by go_num, rfl, by simp, hP3.out, by rw [List.length_append, ho.out, List.length_take]; simp; omega, hne'.out, .inl ⟨rfl, by rw [hst.out, ho.out], by
                rw [hst.out]
                intro p hp
                rcases List.mem_append.1 hp with e | e
                · exact hall.out p e
                · simp only [List.mem_singleton] at e
                  rw [e]
                  exact hxy'⟩⟩
            case measure => simp [intOf]; omega
        · have ho := Lib.hid ho
          have hex := Lib.hid hex
          rename_i q1 q2
          clear q1 q2
          go_wp2_with fail
          refine wp_region_after (by kernel_rfl) (by kernel_rfl) ?_
          repeat (first | go_big_quiet_step (fail) | quiet_step (fail))
          refine wpQuiet_nil ?_
          intro pw2
          have d0 := g0 pw2
          have d1 := g1 pw2
          have d2 := e0 pw2
          have d3 := e1 pw2
          have hP := hPP.out.later pw2.bel
          clear g0 g1 e0 e1 hPP
          generalize pw2.x = w3 at d0 d1 d2 d3 hP ⊢
          have hq3 := hP.own.lt q rfl
          have hsz3 := hP.bel.size
          have hbx3 := hP.box.lt
          go_wp2_with (at_builtin; refine wpList_append_lies _ rfl _ _ _ rfl (w.heap.size + 1) 136 i0 _ 2 16 Tryz.underlying40 hi0 hz0 hz1 hz2 rfl (by omega) (.slice (some ⟨q, 0, none⟩) (o.length) cap') (o.length) (flatP o) rfl (hP.own.alloc _) ⟨w3.heap.size, 0, none⟩ 1 1 [.int .i64 y, .int .i64 y'] rfl rfl (World.news_of_block (cs := #[.int .i64 y, .int .i64 y']) (t := 136) (fr := (0, 0)) (heap_alloc_new w3 _)) (by simp [Value.oneCell']) (by omega) (by unfold maxLen; omega) (by omega) (by simp; omega) (w3.heap.size + 1) (by simp) ?_; intro gg cap2 w5 hown2 hgrow2 hat hlt2; have hP3 := hP.push hown2 hgrow2; clear hown2 hgrow2 hat)
          have hP3 := Lib.hid hP3
          rename_i q1
          clear q1 hP
          go_roundw
          case rel =>
            exact ⟨k + 1, _, _, o ++ [(y, y')], true, by omega, by go_num, rfl, by simp, hP3.out, by rw [List.length_append, ho.out, ins_len, List.length_take]; simp; omega, hne'.out, .inr ⟨rfl, by rw [hst.out, ins_snoc hex.out, ho.out], by
              obtain ⟨p, hp, hlt⟩ := hex.out
              exact ⟨p, by rw [hst.out]; simp [hp], hlt⟩⟩⟩
          case measure => simp [intOf]; omega
    · obtain rfl : k = n := by omega
      have hno : has l x = false := has_not.2 (by have := hne; rwa [← hnl.out, List.take_length] at this)
      have hpt : put l (x, t) = ins l (x, t) := by simp [put, hno]
      have hpt := Lib.hid hpt
      have hcase : (b = false ∧ o = l ∧ ∀ p ∈ l, p.1 ≤ x) ∨ (b = true ∧ o = ins l (x, t) ∧ ∃ p ∈ l, x < p.1) := by rwa [← hnl.out, List.take_length] at hcase
      rename_i q1 q2
      clear q1 q2 hno hne
      have hq3 := hP.own.lt q rfl
      have hsz3 := hP.bel.size
      have hbx3 := hP.box.lt
      obtain ⟨s0, s1⟩ := hP.box.two
      rcases hcase with ⟨rfl, ho, hall⟩ | ⟨rfl, ho, hex⟩
      · have ho := Lib.hid ho
        have hall := Lib.hid hall
        rename_i q1 q2
        clear q1 q2
        go_wp2_with (at_builtin; refine wpList_append_lies _ rfl _ _ _ rfl (w.heap.size + 1) 136 i0 _ 2 16 Tryz.underlying40 hi0 hz0 hz1 hz2 rfl (by omega) (.slice (some ⟨q, 0, none⟩) (o.length) cap') (o.length) (flatP o) rfl (hP.own.alloc _) ⟨wr.heap.size, 0, none⟩ 1 1 [.int .i64 x, .int .i64 t] rfl rfl (World.news_of_block (cs := #[.int .i64 x, .int .i64 t]) (t := 136) (fr := (0, 0)) (heap_alloc_new wr _)) (by simp [Value.oneCell']) (by omega) (by unfold maxLen; omega) (by omega) (by simp; omega) (wr.heap.size + 1) (by simp) ?_; intro gg cap2 w5 hown2 hgrow2 hat hlt2; have hP3 := hP.push hown2 hgrow2; clear hown2 hgrow2 hat)
        go_ret
        have e : put l (x, t) = o ++ [(x, t)] := by rw [hpt.out, ins_small hall.out, ho.out]
        rw [e]
        exact ⟨gg, cap2, by rw [List.length_append]; rfl, own_pairs hP3.own, hP3.bel⟩
      · have ho := Lib.hid ho
        have hex := Lib.hid hex
        rename_i q1 q2
        clear q1 q2
        go_wp2
        go_ret
        have e : put l (x, t) = o := by rw [hpt.out, ho.out]
        rw [e]
        exact ⟨_, _, rfl, own_pairs hP.own, hP.bel⟩

end Go.Proofs.YtjdepjpjjgkmbaaGreat

/- The model's JoinSeals, GoodSeals and CertCount: contracts of each of them; up to some four million seals. -/
namespace Go.Proofs.YtjdepjpjjgkmbaaGreat
open Go.RowKit

theorem puts_take {ps : List (Int × Int)} {k : Nat} (h : k < ps.length) (l : List (Int × Int)) : puts (l ++ ps.take (k + 1)) = put (puts (l ++ ps.take k)) (pth ps k) := by
  rw [List.take_succ_eq_append_getElem h, ← pth_lt h, ← List.append_assoc, puts_snoc]

set_option maxRecDepth 100000 in
set_option maxHeartbeats 1000000 in
theorem specGood_is (s l c sh : Int) (A : Option Addr) (n cap : Nat) (zs : List Int) (ck ch ct cq cv : Int) (P : Option Addr) (m pcap : Nat) (ps : List (Int × Int)) (w : World) (hm : n ≤ maxLen) (hr : Row w w.heap.size A n zs) (hn : m ≤ 4194304) (h : Pairs w w.heap.size P m ps) :
    Calls Tryz.prog 220 #[.agg #[.int .i64 s, .int .i64 l, .int .i64 c, .int .i64 sh, .slice A n cap], .agg #[.int .i64 ck, .int .i64 ch, .int .i64 ct, .int .i64 cq, .int .i64 cv], .slice P m pcap] w (Gives w (goodP (rB s l c sh zs ck ch ct cq cv) ps)) := by
  have E0 := bel_trans (bel_trans (bel_alloc w (.cells #[.int .i64 s, .int .i64 l, .int .i64 c, .int .i64 sh, .slice A n cap] 26)) (bel_alloc _ (.cells #[.int .i64 ck, .int .i64 ch, .int .i64 ct, .int .i64 cq, .int .i64 cv] 180))) (bel_alloc _ (.cells #[] 136))
  have DG := ((Box.new w 26 #[.int .i64 s, .int .i64 l, .int .i64 c, .int .i64 sh, .slice A n cap]).alloc (.cells #[.int .i64 ck, .int .i64 ch, .int .i64 ct, .int .i64 cq, .int .i64 cv] 180)).alloc (.cells #[] 136)
  have DC := (Box.new (w.alloc (.cells #[.int .i64 s, .int .i64 l, .int .i64 c, .int .i64 sh, .slice A n cap] 26)) 180 #[.int .i64 ck, .int .i64 ch, .int .i64 ct, .int .i64 cq, .int .i64 cv]).alloc (.cells #[] 136)
  simp only [World.size_alloc] at DC
  have HR := Lib.hid hr
  have HM := Lib.hid hm
  have HP := Lib.hid h
  have hl := Lib.hid h.1
  clear h hr hm
  generalize hR : rB s l c sh zs ck ch ct cq cv = R
  have HRR := Lib.hid hR
  clear hR
  go_enter Tryz.func220, Tryz.ntmps220
  go_wp2_with fail
  generalize (((w.alloc _).alloc _).alloc _ : World) = w1 at E0 DG DC ⊢
  go_loopw [7, 8] (fun ov iv wr => ∃ (k q c' : Nat) (L : List (Int × Int)), k ≤ m ∧ iv = .int .i64 k ∧ ov = .slice (some ⟨q, 0, none⟩) L.length c' ∧ L = goodP R (ps.take k) ∧ Pairs wr wr.heap.size (some ⟨q, 0, none⟩) L.length L ∧ Below w.heap.size w wr ∧ Box wr w.heap.size 26 #[.int .i64 s, .int .i64 l, .int .i64 c, .int .i64 sh, .slice A n cap] ∧ Box wr (w.heap.size + 1) 180 #[.int .i64 ck, .int .i64 ch, .int .i64 ct, .int .i64 cq, .int .i64 cv]) (fun _ i _ => m - (intOf i).toNat)
  case atStart => exact ⟨0, _, 0, [], Nat.zero_le _, rfl, rfl, by simp [goodP_nil], ⟨rfl, fun h => absurd h (by simp)⟩, E0, DG, DC⟩
  case round =>
    obtain ⟨k, q, c', L, hk, rfl, rfl, hL, hp, hbel, DG, DC⟩ := hrel
    by_cases hlt : k < m
    · have hlt' : (k : Int) < (m : Int) := by omega
      obtain ⟨b, o, hA, hbB, hcell⟩ := HP.out.2 (by omega)
      subst hA
      obtain ⟨c0, c1⟩ := hcell k hlt
      replace c0 := (hbel.cell (p := ⟨b, o + k * 2, none⟩) hbB).trans c0
      replace c1 := (hbel.cell (p := ⟨b, o + k * 2 + 1, none⟩) hbB).trans c1
      have hyes := Lib.hid (goodP_yes (R := R) (ps := ps) (k := k) (by rw [hl.out]; exact hlt))
      have hno := Lib.hid (goodP_no (R := R) (ps := ps) (k := k) (by rw [hl.out]; exact hlt))
      rw [← hL] at hyes hno
      have hLl : L.length ≤ 4194304 := by
        rw [hL]
        have := goodP_le R (ps.take k)
        rw [List.length_take] at this
        omega
      generalize hy : pth ps k = y at c0 c1 hyes hno
      obtain ⟨y, y'⟩ := y
      replace hL := Lib.hid hL
      replace hy := Lib.hid hy
      have hbl : b < wr.heap.size := Nat.lt_of_lt_of_le hbB hbel.size
      have g0 := After.cell (by exact hbl) c0
      have g1 := After.cell (by exact hbl) c1
      obtain ⟨f0, f1, f2, f3, f4⟩ := fiveAfter DG
      obtain ⟨f5, f6, f7, f8, f9⟩ := fiveAfter DC
      have hrow := Lib.hid ((HR.out.below hbel (Nat.le_refl _)).more hbel.size)
      have HDG := Lib.hid DG
      have HDC := Lib.hid DC
      have HPL := Lib.hid hp
      clear hcell c0 c1 DG DC hp
      rcases hRy : R (y, y') with _ | _
      · have HY : Hid (rB s l c sh zs ck ch ct cq cv (y, y') = false) := by rw [HRR.out]; exact hRy
        replace hno := Lib.hid (hno.out hRy)
        clear hRy
        go_wp2_with fail
        refine wp_region_after (by kernel_rfl) (by kernel_rfl) ?_
        repeat (first | go_big_quiet_step ((go_at_call 237; exact after_of (specRightB_is HY.out _ n cap _ HM.out (rowAfter hrow.out _)))) | quiet_step ((go_at_call 237; exact after_of (specRightB_is HY.out _ n cap _ HM.out (rowAfter hrow.out _)))))
        refine wpQuiet_nil ?_
        intro pw
        have E2 := bel_trans hbel pw.bel
        have DG := HDG.out.later pw.bel HDG.out.lt
        have DC := HDC.out.later pw.bel HDC.out.lt
        have hp := Lib.hid (HPL.out.later pw.bel)
        clear g0 g1 f0 f1 f2 f3 f4 f5 f6 f7 f8 f9
        go_wp2
        go_roundw
        case rel => exact ⟨k + 1, q, c', L, by omega, by go_num, rfl, hno.out.symm, hp.out, E2, DG, DC⟩
        case measure => simp [intOf]; omega
      · have HY : Hid (rB s l c sh zs ck ch ct cq cv (y, y') = true) := by rw [HRR.out]; exact hRy
        replace hyes := Lib.hid (hyes.out hRy)
        clear hRy
        go_wp2_with fail
        refine wp_region_after (by kernel_rfl) (by kernel_rfl) ?_
        repeat (first | go_big_quiet_step ((go_at_call 237; exact after_of (specRightB_is HY.out _ n cap _ HM.out (rowAfter hrow.out _)))) | quiet_step ((go_at_call 237; exact after_of (specRightB_is HY.out _ n cap _ HM.out (rowAfter hrow.out _)))))
        refine wpQuiet_nil ?_
        intro pw
        have E2 := bel_trans hbel pw.bel
        have DG := HDG.out.later pw.bel HDG.out.lt
        have DC := HDC.out.later pw.bel HDC.out.lt
        have hp := HPL.out.later pw.bel
        have d0 := g0 pw
        have d1 := g1 pw
        clear g0 g1 f0 f1 f2 f3 f4 f5 f6 f7 f8 f9 HDG HDC HPL
        generalize pw.x = w2 at E2 DG DC hp d0 d1 ⊢
        go_wp2_with fail
        refine (put_is q c' L y y' w2 hLl hp).mono ?_
        rintro e w3 ⟨g', c'', rfl, hp', hb'⟩
        replace hp' := Lib.hid hp'
        have DG' := DG.later hb' DG.lt
        have DC' := DC.later hb' DC.lt
        go_wp2
        go_roundw
        case rel => exact ⟨k + 1, g', c'', put L (y, y'), by omega, by go_num, rfl, hyes.out.symm, hp'.out, bel_trans E2 hb', DG', DC'⟩
        case measure => simp [intOf]; omega
    · obtain rfl : k = m := by omega
      rw [← hl.out, List.take_length] at hL
      replace hL := Lib.hid hL
      replace hp := Lib.hid hp
      go_wp2
      go_ret
      rw [← hL.out]
      exact ⟨q, c', rfl, hp.out, hbel⟩

theorem specCount_is (s l c sh : Int) (A : Option Addr) (n cap : Nat) (zs : List Int) (ck ch ct cq cv : Int) (P : Option Addr) (m pcap : Nat) (ps : List (Int × Int)) (w : World) (hm : n ≤ maxLen) (hr : Row w w.heap.size A n zs) (hn : m ≤ 4194304) (h : Pairs w w.heap.size P m ps) :
    Calls Tryz.prog 228 #[.agg #[.int .i64 s, .int .i64 l, .int .i64 c, .int .i64 sh, .slice A n cap], .agg #[.int .i64 ck, .int .i64 ch, .int .i64 ct, .int .i64 cq, .int .i64 cv], .slice P m pcap] w fun e w' => e = .returned (.int .i64 (cntN s l c sh zs ck ch ct cq cv ps)) ∧ Below w.heap.size w w' := by
  have E0 := bel_trans (bel_alloc w (.cells #[.int .i64 s, .int .i64 l, .int .i64 c, .int .i64 sh, .slice A n cap] 26)) (bel_alloc _ (.cells #[.int .i64 ck, .int .i64 ch, .int .i64 ct, .int .i64 cq, .int .i64 cv] 180))
  have DG := (Box.new w 26 #[.int .i64 s, .int .i64 l, .int .i64 c, .int .i64 sh, .slice A n cap]).alloc (.cells #[.int .i64 ck, .int .i64 ch, .int .i64 ct, .int .i64 cq, .int .i64 cv] 180)
  have DC := Box.new (w.alloc (.cells #[.int .i64 s, .int .i64 l, .int .i64 c, .int .i64 sh, .slice A n cap] 26)) 180 #[.int .i64 ck, .int .i64 ch, .int .i64 ct, .int .i64 cq, .int .i64 cv]
  simp only [World.size_alloc] at DC
  have HR := Lib.hid hr
  have HM := Lib.hid hm
  have HP := Lib.hid h
  have hle := goodP_le (rB s l c sh zs ck ch ct cq cv) ps
  have hl := h.1
  obtain ⟨K, hK⟩ : ∃ K, K = (goodP (rB s l c sh zs ck ch ct cq cv) ps).length := ⟨_, rfl⟩
  have hKn : K ≤ 4194304 := by omega
  replace hK := Lib.hid hK
  clear h hr hm hle hl
  obtain ⟨d0, d1, d2, d3, d4, x0, x1, x2, x3, x4⟩ := ten DG DC
  go_enter Tryz.func228, Tryz.ntmps228
  go_wp2_with fail
  generalize ((w.alloc _).alloc _ : World) = w1 at E0 DG DC d0 d1 d2 d3 d4 x0 x1 x2 x3 x4 ⊢
  refine (specGood_is s l c sh A n cap zs ck ch ct cq cv P m pcap ps w1 HM.out ((HR.out.below E0 (Nat.le_refl _)).more E0.size) hn (HP.out.later E0)).mono ?_
  rintro e w2 ⟨q, c', rfl, _, hb⟩
  rw [← hK.out]
  have E2 := bel_trans E0 hb
  go_wp2
  go_ret
  exact ⟨by unfold cntN; rw [← hK.out]; rfl, E2⟩

end Go.Proofs.YtjdepjpjjgkmbaaGreat
