/- What l6Seals, l6Numbers and PackNote of the model answer: contracts of each of them; the conditions are the sizes. -/
import Derived.Test.YtgjbebfcbpfngaaDoorWire4
import Derived.Test.YtgjbebfcbpfngaaDoorSpecNote2
import Derived.Deep.RegionLaw
import Derived.Test.YtgjbebfcbpfngaaDoorWireCut
namespace Go.Proofs.YtgjbebfcbpfngaaDoor
open Go.RowKit Go.Deep

theorem Tryd.infoI6 : (Tryd.prog.info? 2).map (fun i => (i.zero, i.size, i.bytes)) = some (some (.int .i64 0), 1, 8) := by kernel_rfl

/-- The numbers zs, in a block of their own that was made behind base. -/
def IOwn (w : World) (base g cap : Nat) (zs : List Int) : Prop := w.ownsRow base 2 1 (.slice (some ⟨g, 0, none⟩) zs.length cap) zs.length (zs.map (Value.int .i64))
theorem IOwn.row {w : World} {base g cap : Nat} {zs : List Int} (h : IOwn w base g cap zs) : Row w w.heap.size (some ⟨g, 0, none⟩) zs.length zs := by
  refine ⟨rfl, fun _ => ⟨g, 0, rfl, (h.lt g rfl).2, fun i hi => ?_⟩⟩
  rw [Nat.zero_add]
  have h1 := World.ownsRow.cellAt h i (by omega)
  rw [h1, List.getElem?_map, List.getElem?_eq_getElem hi, nth_lt hi]
  rfl

/-- Numbers of one's own, in block g0 at first, in g now: nothing else that was there has turned. -/
structure ILaid (w wr : World) (base g0 g cap : Nat) (bs : List Int) : Prop where
  own : IOwn wr base g cap bs
  grw : w.grownBy wr (some g0)
  pos : g = g0 ∨ w.heap.size ≤ g
theorem ILaid.start {w : World} {base g cap : Nat} {bs : List Int} (h : IOwn w base g cap bs) : ILaid w w base g g cap bs := ⟨h, grown_refl _ _, .inl rfl⟩
theorem ILaid.trans {w w1 w2 : World} {base g g1 g2 c1 c2 : Nat} {b1 b2 : List Int} (h : ILaid w w1 base g g1 c1 b1) (k : ILaid w1 w2 base g1 g2 c2 b2) : ILaid w w2 base g g2 c2 b2 := by
  refine ⟨k.own, grown_own h.grw k.grw h.pos, ?_⟩
  rcases k.pos with e | hg
  · rw [e]; exact h.pos
  · exact .inr (Nat.le_trans h.grw.size hg)
theorem grown_undrew {a b : World} {r : Option Nat} (h : a.drew.grownBy b r) : a.grownBy b r := ⟨h.os, h.tape, h.output, h.size, h.block⟩
theorem ILaid.push {w wr w' : World} {base g0 g cap gg cap2 m : Nat} {bs xs : List Int} {o : Obj} (h : ILaid w wr base g0 g cap bs) (hm : xs.length = m)
    (ho : w'.ownsRow base 2 1 (.slice (some ⟨gg, 0, none⟩) (bs.length + m) cap2) (bs.length + m) (bs.map (Value.int .i64) ++ xs.map (Value.int .i64))) (hg : (wr.alloc o).grownBy w' (some g)) (hp : some g = some gg ∨ gg = wr.heap.size + 1) :
    ILaid w w' base g0 gg cap2 (bs ++ xs) := by
  have hg' := grown_trans (grown_bel (bel_alloc wr o) (some g)) hg
  refine ⟨?_, grown_own h.grw hg' h.pos, ?_⟩
  · unfold IOwn
    rw [List.length_append, hm, List.map_append]
    exact ho
  · rcases hp with e | e
    · injection e with e; rw [← e]; exact h.pos
    · exact .inr (by have := h.grw.size; omega)
theorem ILaid.gpos {w wr : World} {base g0 g cap : Nat} {bs : List Int} (h : ILaid w wr base g0 g cap bs) : base ≤ g ∧ g < wr.heap.size := h.own.lt g rfl
theorem Pairs.ilaid {w wr : World} {base g0 g cap : Nat} {bs : List Int} {A : Option Addr} {n : Nat} {ps : List (Int × Int)} (h : Pairs w base A n ps) (k : ILaid w wr base g0 g cap bs) (hb : base ≤ w.heap.size) (hg : base ≤ g0) : Pairs wr base A n ps :=
  h.keep fun p hp => World.cell?_of_block (k.grw.block p.block (by omega) (by intro e; injection e with e; omega))
theorem sealN_take {ps : List (Int × Int)} {k : Nat} {x y : Int} (hk : k < ps.length) (h : pth ps k = (x, y)) : (ps.length : Int) :: pairsN (ps.take (k + 1)) = ((ps.length : Int) :: pairsN (ps.take k)) ++ [x, y] := by
  rw [pth_lt hk] at h
  rw [List.take_succ_eq_append_getElem hk, h]
  simp [pairsN, List.flatMap_append]

/-- What l6Seals leaves: the numbers of the list, in memory of its own. -/
def Nums (w : World) (zs : List Int) (e : Ending) (w' : World) : Prop := ∃ (g cap : Nat) (ys : List Int), e = .returned (.slice (some ⟨g, 0, none⟩) ys.length cap) ∧ Hid (ys = zs) ∧ IOwn w' w.heap.size g cap ys ∧ Below w.heap.size w w'

set_option maxRecDepth 100000 in
set_option maxHeartbeats 2000000 in
theorem l6Seals_is (A : Option Addr) (p pc : Nat) (ps : List (Int × Int)) (w : World) (hp : Pairs w w.heap.size A p ps) (hpl : p ≤ 20) :
    Calls Tryd.prog 106 #[.slice A p pc] w (Nums w (sealN ps)) := by
  obtain ⟨i0, hi0, hz0, hz1, hz2⟩ := info_parts Tryd.infoI6
  have HL := Lib.hid hp.1
  have K0 : ILaid (w.alloc (.cells #[.int .i64 p] 2)) (w.alloc (.cells #[.int .i64 p] 2)) w.heap.size w.heap.size w.heap.size 1 [(p : Int)] :=
    ILaid.start ⟨rfl, .inr ⟨w.heap.size, 1, #[.int .i64 p], rfl, Nat.le_refl _, heap_alloc_new w _, Nat.le_refl _, by unfold maxLen; omega, rfl, rfl⟩⟩
  have E0 := bel_alloc w (.cells #[.int .i64 p] 2)
  have HP := Lib.hid (hp.below E0 (Nat.le_refl _))
  clear hp
  go_enter Tryd.func106, Tryd.ntmps106
  go_wp2_with fail
  have hs0 : w.heap.size ≤ (w.alloc (.cells #[.int .i64 p] 2)).heap.size := E0.size
  generalize (w.alloc _ : World) = w0 at K0 E0 HP hs0 ⊢
  go_loopw [3, 4] (fun bv iv wr => ∃ (k gr cr : Nat) (cs : List Int), k ≤ p ∧ iv = .int .i64 k ∧ bv = .slice (some ⟨gr, 0, none⟩) cs.length cr ∧ Hid (cs = (ps.length : Int) :: pairsN (ps.take k)) ∧ ILaid w0 wr w.heap.size w.heap.size gr cr cs) (fun _ i _ => p - (intOf i).toNat)
  case atStart => exact ⟨0, _, 1, [(p : Int)], Nat.zero_le _, rfl, rfl, Lib.hid (by rw [HL.out]; rfl), K0⟩
  case round =>
    obtain ⟨k, gr, cr, cs, hk, rfl, rfl, hcs, hK⟩ := hrel
    have hcl : cs.length ≤ 41 := by
      rw [hcs.out, List.length_cons, pairsN_len]
      have := List.length_take_le k ps
      omega
    have hsz := hK.grw.size
    by_cases hlt : k < p
    · obtain ⟨b, o, hA, hbB, hcell⟩ := (HP.out.ilaid hK hs0 (Nat.le_refl _)).2 (by omega)
      subst hA
      obtain ⟨g0, g1⟩ := hcell k hlt
      generalize hx : pth ps k = x at g0 g1
      obtain ⟨x, y⟩ := x
      have hst := Lib.hid (sealN_take (by rw [HL.out]; exact hlt) hx)
      clear hx hcell
      have hlt' : (k : Int) < (p : Int) := by omega
      have hb2 : b < wr.heap.size := by omega
      go_wp2_with fail
      go_region_law (refine step_append_lies _ (by rfl) _ _ _ (by rfl) w.heap.size 2 i0 _ 1 8 Tryd.underlying24 hi0 hz0 hz1 hz2 rfl (by omega) (.slice (some ⟨gr, 0, none⟩) cs.length cr) cs.length (cs.map (Value.int .i64)) (by rfl) (hK.own.alloc _) ⟨wr.heap.size, 0, none⟩ 2 2 [.int .i64 x, .int .i64 y] (by rfl) (by rfl) (World.news_of_block (cs := #[.int .i64 x, .int .i64 y]) (t := 2) (fr := (0, 0)) (heap_alloc_new wr _)) (by simp [Value.oneCell']) (by omega) (by unfold maxLen; omega) (by omega) (by simp; omega) (wr.heap.size + 1) (by simp) ?_; intro gg cap2 w2 hown2 hgrow2 hat hlt2)
      all_goals
        have HK := Lib.hid (hK.push (m := 2) (xs := [x, y]) rfl hown2 (grown_undrew hgrow2) hat)
        have HE : Hid (cs ++ [x, y] = (ps.length : Int) :: pairsN (ps.take (k + 1))) := Lib.hid (by rw [hst.out, hcs.out])
        clear hown2 hgrow2 hat hK hst hcs g0 g1
        go_wp2
        go_roundw
        case rel => exact ⟨k + 1, gg, cap2, _, by omega, by go_num, by simp, HE, HK.out⟩
        case measure => simp [intOf]; omega
    · have hkn : k = p := by omega
      subst hkn
      have HE : Hid (cs = sealN ps) := Lib.hid (by rw [hcs.out, List.take_of_length_le (by rw [HL.out]; exact Nat.le_refl _)]; rfl)
      go_wp2
      go_ret
      exact ⟨gr, cr, cs, rfl, HE, hK.own, bel_grown E0 hK.grw (Nat.le_refl _)⟩

theorem IOwn.news {w : World} {base g cap : Nat} {zs : List Int} (h : IOwn w base g cap zs) : ∀ j u, (zs.map (Value.int .i64))[j]? = some u → w.cell? ((⟨g, 0, none⟩ : Addr).add j) = some u := World.ownsRow.cells h rfl
theorem ints_one (zs : List Int) : ∀ u ∈ zs.map (Value.int .i64), u.oneCell' = true := by
  intro u hu
  obtain ⟨z, _, rfl⟩ := List.mem_map.1 hu
  rfl

set_option maxRecDepth 100000 in
set_option maxHeartbeats 4000000 in
theorem l6Numbers_is {N : Array Value} {k1 k2 k3 k4 k5 t1 t2 v1 o1 o2 v2 : Int} {P : Option Addr} {p pc : Nat} {Q : Option Addr} {q qc : Nat} {l1 l2 v3 : Int} (hN : N = #[.int .i64 k1, .int .i64 k2, .int .i64 k3, .int .i64 k4, .int .i64 k5, .int .i64 t1, .int .i64 t2, .int .i64 v1, .int .i64 o1, .int .i64 o2, .int .i64 v2, .slice P p pc, .slice Q q qc, .int .i64 l1, .int .i64 l2, .int .i64 v3]) (ps qs : List (Int × Int)) (w : World) (hpl : p ≤ 20) (hql : q ≤ 20) (hp : Pairs w w.heap.size P p ps) (hq : Pairs w w.heap.size Q q qs) :
    Calls Tryd.prog 81 #[.agg N] w (Nums w (numN k1 k2 k3 k4 k5 t1 t2 v1 o1 o2 v2 l1 l2 v3 ++ sealN ps ++ sealN qs)) := by
  obtain ⟨i0, hi0, hz0, hz1, hz2⟩ := info_parts Tryd.infoI6
  have B0 := Box.new w 31 N
  have E0 := bel_alloc w (.cells N 31)
  have cN := B0.cell
  obtain ⟨n0, n1, n2, n3, n4, n5, n6, n7, n8, n9, n10, n11, n12, n13, n14, n15⟩ := cellsN hN
  have HN := Lib.hid hN
  have HP := Lib.hid (hp.later E0)
  have HQ0 := Lib.hid hq
  have HLQ := Lib.hid hq.1
  clear hp hq hN
  have NS : (numN k1 k2 k3 k4 k5 t1 t2 v1 o1 o2 v2 l1 l2 v3).length = 14 := rfl
  have IO : IOwn ((w.alloc (.cells N 31)).alloc (.cells ((numN k1 k2 k3 k4 k5 t1 t2 v1 o1 o2 v2 l1 l2 v3).map (Value.int .i64)).toArray 2)) (w.heap.size + 1) (w.heap.size + 1) 14 (numN k1 k2 k3 k4 k5 t1 t2 v1 o1 o2 v2 l1 l2 v3) := by
    refine ⟨rfl, .inr ⟨w.heap.size + 1, 14, ((numN k1 k2 k3 k4 k5 t1 t2 v1 o1 o2 v2 l1 l2 v3).map (Value.int .i64)).toArray, rfl, Nat.le_refl _, ?_, Nat.le_refl _, by unfold maxLen; omega, rfl, by simp [numN]⟩⟩
    have := heap_alloc_new (w.alloc (.cells N 31)) (.cells ((numN k1 k2 k3 k4 k5 t1 t2 v1 o1 o2 v2 l1 l2 v3).map (Value.int .i64)).toArray 2)
    simpa using this
  have E1 := bel_alloc (w.alloc (.cells N 31)) (.cells ((numN k1 k2 k3 k4 k5 t1 t2 v1 o1 o2 v2 l1 l2 v3).map (Value.int .i64)).toArray 2)
  have B1 := B0.later E1 B0.lt
  have P1 := HP.out.later E1
  have E2 := bel_trans E0 E1
  have hsz : ((w.alloc (.cells N 31)).alloc (.cells ((numN k1 k2 k3 k4 k5 t1 t2 v1 o1 o2 v2 l1 l2 v3).map (Value.int .i64)).toArray 2)).heap.size = w.heap.size + 1 + 1 := by simp
  replace IO := Lib.hid IO
  replace B1 := Lib.hid B1
  replace P1 := Lib.hid P1
  replace hsz := Lib.hid hsz
  replace E2 := Lib.hid E2
  clear NS E1 HP E0
  go_enter Tryd.func81, Tryd.ntmps81
  go_wp2_with fail
  have hWW : ∃ W, W = ((w.alloc (.cells N 31)).alloc (.cells ((numN k1 k2 k3 k4 k5 t1 t2 v1 o1 o2 v2 l1 l2 v3).map (Value.int .i64)).toArray 2)) := ⟨_, rfl⟩
  obtain ⟨W, hWW⟩ := hWW
  rw [← hWW] at IO B1 P1 hsz E2
  have e2 : ((w.alloc (.cells N 31)).alloc (.cells #[.int .i64 k1, .int .i64 k2, .int .i64 k3, .int .i64 k4, .int .i64 k5, .int .i64 t1, .int .i64 t2, .int .i64 v1, .int .i64 o1, .int .i64 o2, .int .i64 v2, .int .i64 l1, .int .i64 l2, .int .i64 v3] 2)) = W := hWW.symm
  rw [e2]
  clear hWW e2 cN B0 n0 n1 n2 n3 n4 n5 n6 n7 n8 n9 n10 n13 n14 n15
  obtain ⟨ns, hns⟩ : ∃ ns, ns = numN k1 k2 k3 k4 k5 t1 t2 v1 o1 o2 v2 l1 l2 v3 := ⟨_, rfl⟩
  have hnl : Hid (ns.length = 14) := Lib.hid (by rw [hns]; rfl)
  rw [← hns] at IO ⊢
  replace hns := Lib.hid hns
  have hr1 : Hid (W.ownsRow (w.heap.size + 1) 2 1 (.slice (some ⟨w.heap.size + 1, 0, none⟩) 14 14) 14 (ns.map (Value.int .i64))) := Lib.hid (by have := IO.out; unfold IOwn at this; rw [hnl.out] at this; exact this)
  have c11 := (B1.out.cell 11).trans n11
  have c12 := (B1.out.cell 12).trans n12
  have hWs : w.heap.size + 1 + 1 ≤ W.heap.size := by rw [hsz.out]; exact Nat.le_refl _
  go_region_law (first
    | (go_simp; go_at_call 106; (with_reducible refine (l6Seals_is P p pc ps _ ?_ hpl).mono ?_); exact P1.out; rintro e w1 ⟨g1, d1, ys, rfl, hy, ho, hb⟩; have F1 := bel_drew' hb; have b1 := B1.out.later F1 B1.out.lt; have k12 := (b1.cell 12).trans n12; have rr := hr1.out.kept (grown_bel F1 none) (.inr (by intro e; cases e)); have hs1 := F1.size; have hg1 := ho.lt g1 rfl; have hyl : ys.length ≤ 41 := (by rw [hy.out, sealN_len, P1.out.1]; omega); have hnl' : 0 < ys.length := (by rw [hy.out]; simp [sealN]); have no := ho.news; have ne := ints_one ys; have nl : (ys.map (Value.int .i64)).length = ys.length * 1 := (by simp))
    | (go_simp; go_at_call 106; (with_reducible refine (l6Seals_is Q q qc qs _ ?_ hql).mono ?_); exact Q2; rintro e w3 ⟨g3, d3, xs, rfl, hx, ho3, hb3⟩; have rr := hown2.kept (grown_bel hb3 none) (.inr (by intro e; cases e)); have hs3 := hb3.size; have hxl : xs.length ≤ 41 := (by rw [hx.out, sealN_len, HLQ.out]; omega); have hnl' : 0 < xs.length := (by rw [hx.out]; simp [sealN]); have no := ho3.news; have ne := ints_one xs; have nl : (xs.map (Value.int .i64)).length = xs.length * 1 := (by simp))
    | (refine step_append_lies _ (by rfl) _ _ _ (by rfl) (w.heap.size + 1) 2 i0 _ 1 8 Tryd.underlying24 hi0 hz0 hz1 hz2 rfl (by omega) _ _ _ (by rfl) rr _ _ _ _ (by rfl) nl no ne hnl' (by unfold maxLen; omega) (by omega) (by omega) _ rfl ?_; intro gg cap2 w2 hown2 hgrow2 hat hlt2; (try (have b2 := b1.kept (r := some (w.heap.size + 1)) hgrow2 (by simp); have k12b := (b2.cell 12).trans n12; have E3 := bel_grown (g := w.heap.size + 1) (bel_trans E2.out F1) hgrow2 (by omega); have Q2 := HQ0.out.later E3; have hs2 := hgrow2.size; have hgb := hown2.lt gg rfl))))
  all_goals
    have E4 := Lib.hid (bel_grown (bel_trans E3 hb3) hgrow2 (Nat.le_trans (Nat.le_succ _) hgb.1))
    have HL : Hid ((ns ++ ys ++ xs).length = 14 + ys.length + xs.length) := Lib.hid (by rw [List.length_append, List.length_append, hnl.out])
    have HO : Hid (IOwn w2 w.heap.size gg cap2 (ns ++ ys ++ xs)) := Lib.hid (by
      unfold IOwn
      rw [HL.out, List.map_append, List.map_append]
      exact own_low hown2 (by omega))
    clear hown2 hgrow2 hat hlt2 c11 c12 k12 k12b b1 b2 E3 hb3 rr no ne nl
    go_wp2
    go_ret
    exact ⟨gg, cap2, ns ++ ys ++ xs, by rw [HL.out]; first | done | rfl | rw [Nat.add_assoc], Lib.hid (by rw [hy.out, hx.out, hns.out]), HO.out, E4.out⟩

end Go.Proofs.YtgjbebfcbpfngaaDoor

/- What PackNote of the model answers: its contract; the conditions are the sizes. -/
namespace Go.Proofs.YtgjbebfcbpfngaaDoor
open Go.RowKit Go.Deep

/-- What the loop over the numbers keeps. -/
structure SPackAt (w wr : World) (base R cR : Nat) (ys : List Int) (w0 : World) (g cap : Nat) (cs : List Int) : Prop where
  laid : Laid w0 wr base base g cap cs
  nums : IOwn wr base R cR ys
  b0 : Below w.heap.size w w0
  wb : w.heap.size ≤ base
  b1 : base < w0.heap.size
  Rb : base < R
  Rl : R < w0.heap.size
theorem SPackAt.lay {w wr w' : World} {base R cR : Nat} {ys : List Int} {w0 : World} {g cap g' cap' : Nat} {cs cs' : List Int}
    (h : SPackAt w wr base R cR ys w0 g cap cs) (k : Laid wr w' base g g' cap' cs') : SPackAt w w' base R cR ys w0 g' cap' cs' := by
  have hR : R ≠ g := by
    have := h.Rb
    have := h.Rl
    rcases h.laid.pos with e | e <;> omega
  exact ⟨h.laid.trans k, World.ownsRow.kept h.nums k.grw (.inr (by intro e; injection e with e; exact hR e)), h.b0, h.wb, h.b1, h.Rb, h.Rl⟩

theorem all_num {k1 k2 k3 k4 k5 t1 t2 v1 o1 o2 v2 l1 l2 v3 : Int} {ps qs : List (Int × Int)} (h : Fits k1 k2 k3 k4 k5 t1 t2 v1 o1 o2 v2 l1 l2 v3 ps qs) : ∀ z ∈ numN k1 k2 k3 k4 k5 t1 t2 v1 o1 o2 v2 l1 l2 v3 ++ sealN ps ++ sealN qs, Num z := by
  intro z hz
  rcases List.mem_append.1 hz with hz | hz
  · rcases List.mem_append.1 hz with hz | hz
    · exact h.num z hz
    · exact sealN_num h.pl h.ps z hz
  · exact sealN_num h.ql h.qs z hz
theorem all_len {k1 k2 k3 k4 k5 t1 t2 v1 o1 o2 v2 l1 l2 v3 : Int} {ps qs : List (Int × Int)} (h : Fits k1 k2 k3 k4 k5 t1 t2 v1 o1 o2 v2 l1 l2 v3 ps qs) : (numN k1 k2 k3 k4 k5 t1 t2 v1 o1 o2 v2 l1 l2 v3 ++ sealN ps ++ sealN qs).length ≤ 96 := by
  rw [List.length_append, List.length_append, numN_len, sealN_len, sealN_len]
  have := h.pl
  have := h.ql
  omega

set_option maxRecDepth 100000 in
set_option maxHeartbeats 8000000 in
theorem specPack_no {N : Array Value} {k1 k2 k3 k4 k5 t1 t2 v1 o1 o2 v2 : Int} {P : Option Addr} {p pc : Nat} {Q : Option Addr} {q qc : Nat} {l1 l2 v3 : Int} (hN : N = #[.int .i64 k1, .int .i64 k2, .int .i64 k3, .int .i64 k4, .int .i64 k5, .int .i64 t1, .int .i64 t2, .int .i64 v1, .int .i64 o1, .int .i64 o2, .int .i64 v2, .slice P p pc, .slice Q q qc, .int .i64 l1, .int .i64 l2, .int .i64 v3]) (s l c sh : Int) (A : Option Addr) (n cap : Nat) (zs : List Int) (ps qs : List (Int × Int)) (w : World) (hm : n ≤ maxLen) (hmp : p ≤ maxLen) (hmq : q ≤ maxLen) (hr : Row w w.heap.size A n zs) (hp : Pairs w w.heap.size P p ps) (hq : Pairs w w.heap.size Q q qs)
    (hno : ntB s l c sh zs k1 k2 k3 k4 k5 t1 t2 v1 o1 o2 v2 ps qs l1 l2 v3 = false) :
    Calls Tryd.prog 48 #[.agg #[.int .i64 s, .int .i64 l, .int .i64 c, .int .i64 sh, .slice A n cap], .agg N] w (Packs w [] false) := by
  have K0 := NGP.start w 31 26 N #[.int .i64 s, .int .i64 l, .int .i64 c, .int .i64 sh, .slice A n cap] A n zs P p ps Q q qs hr hp hq
  have L0 := Laid.fresh ((w.alloc (.cells #[.int .i64 s, .int .i64 l, .int .i64 c, .int .i64 sh, .slice A n cap] 26)).alloc (.cells N 31))
  simp only [World.size_alloc] at L0
  have K1 := K0.later (bel_alloc _ (.cells #[] 5))
  have HZ := Lib.hid (sizeN hN)
  have HN := Lib.hid hN
  have HM := Lib.hid hm
  have HMP := Lib.hid hmp
  have HMQ := Lib.hid hmq
  have HNO := Lib.hid hno
  have cN := K1.nb.cell
  obtain ⟨g0, g1, g2, g3, g4⟩ := K1.gb.five
  clear hr hm hmp hmq hp hq hN hno K0
  go_enter Tryd.func48, Tryd.ntmps48
  go_wp2_with (refine wpList_load_box 31 _ rfl (w.heap.size + 1) rfl 31 N K1.nb _ Tryd.underlying31 rfl HZ.out (by simp [Region.wanted, yielded]) ?_)
  generalize (((w.alloc _).alloc _).alloc _ : World) = w0 at K1 L0 cN g0 g1 g2 g3 g4 ⊢
  refine (specNoteN_is HN.out s l c sh A n cap zs ps qs w0 HM.out HMP.out HMQ.out K1.row K1.prs K1.qrs).mono ?_
  rintro e w1 ⟨rfl, hb⟩
  rw [HNO.out]
  have K2 := K1.later hb
  have L1 := Lib.hid (L0.own.kept (grown_bel hb none) (.inr (by intro e; cases e)))
  clear hb K1 L0 cN g0 g1 g2 g3 g4
  have E := Lib.hid (K2.bel)
  clear K2
  go_wp2
  go_ret2
  exact ⟨w.heap.size + 1 + 1, 0, [], rfl, Lib.hid rfl, own_low L1.out (by omega), E.out⟩

set_option maxRecDepth 100000 in
set_option maxHeartbeats 8000000 in
theorem specPack_yes {N : Array Value} {k1 k2 k3 k4 k5 t1 t2 v1 o1 o2 v2 : Int} {P : Option Addr} {p pc : Nat} {Q : Option Addr} {q qc : Nat} {l1 l2 v3 : Int} (hN : N = #[.int .i64 k1, .int .i64 k2, .int .i64 k3, .int .i64 k4, .int .i64 k5, .int .i64 t1, .int .i64 t2, .int .i64 v1, .int .i64 o1, .int .i64 o2, .int .i64 v2, .slice P p pc, .slice Q q qc, .int .i64 l1, .int .i64 l2, .int .i64 v3]) (s l c sh : Int) (A : Option Addr) (n cap : Nat) (zs : List Int) (ps qs : List (Int × Int)) (w : World) (hm : n ≤ maxLen) (hmp : p ≤ maxLen) (hmq : q ≤ maxLen) (hr : Row w w.heap.size A n zs) (hp : Pairs w w.heap.size P p ps) (hq : Pairs w w.heap.size Q q qs)
    (hyes : ntB s l c sh zs k1 k2 k3 k4 k5 t1 t2 v1 o1 o2 v2 ps qs l1 l2 v3 = true) :
    Calls Tryd.prog 48 #[.agg #[.int .i64 s, .int .i64 l, .int .i64 c, .int .i64 sh, .slice A n cap], .agg N] w (Packs w (packN (numN k1 k2 k3 k4 k5 t1 t2 v1 o1 o2 v2 l1 l2 v3) ps qs) true) := by
  have K0 := NGP.start w 31 26 N #[.int .i64 s, .int .i64 l, .int .i64 c, .int .i64 sh, .slice A n cap] A n zs P p ps Q q qs hr hp hq
  have L0 := Laid.fresh ((w.alloc (.cells #[.int .i64 s, .int .i64 l, .int .i64 c, .int .i64 sh, .slice A n cap] 26)).alloc (.cells N 31))
  simp only [World.size_alloc] at L0
  have K1 := K0.later (bel_alloc _ (.cells #[] 5))
  have HF := Lib.hid (nt_fits hyes)
  have HZ := Lib.hid (sizeN hN)
  have HN := Lib.hid hN
  have HM := Lib.hid hm
  have HMP := Lib.hid hmp
  have HMQ := Lib.hid hmq
  have HY := Lib.hid hyes
  have hp20 : p ≤ 20 := by rw [← hp.1]; exact HF.out.pl
  have hq20 : q ≤ 20 := by rw [← hq.1]; exact HF.out.ql
  have cN := K1.nb.cell
  obtain ⟨g0, g1, g2, g3, g4⟩ := K1.gb.five
  clear hr hm hmp hmq hp hq hN hyes K0
  go_enter Tryd.func48, Tryd.ntmps48
  go_wp2_with (refine wpList_load_box 31 _ rfl (w.heap.size + 1) rfl 31 N K1.nb _ Tryd.underlying31 rfl HZ.out (by simp [Region.wanted, yielded]) ?_)
  generalize (((w.alloc _).alloc _).alloc _ : World) = w0 at K1 L0 cN g0 g1 g2 g3 g4 ⊢
  refine (specNoteN_is HN.out s l c sh A n cap zs ps qs w0 HM.out HMP.out HMQ.out K1.row K1.prs K1.qrs).mono ?_
  rintro e w1 ⟨rfl, hb⟩
  rw [HY.out]
  have K2 := K1.later hb
  have L1 := L0.own.kept (grown_bel hb none) (.inr (by intro e; cases e))
  clear hb K1 L0 cN g0 g1 g2 g3 g4
  have cN := K2.nb.cell
  go_wp2_with (refine wpList_load_box 31 _ rfl (w.heap.size + 1) rfl 31 N K2.nb _ Tryd.underlying31 rfl HZ.out (by simp [Region.wanted, yielded]) ?_)
  refine (l6Numbers_is HN.out ps qs w1 hp20 hq20 K2.prs K2.qrs).mono ?_
  rintro e w2 ⟨R, cR, ys, rfl, hys, hio, hb⟩
  have L2 := L1.kept (grown_bel hb none) (.inr (by intro e; cases e))
  have hL1 := (L1.lt _ rfl).2
  have hR := hio.lt R rfl
  have hR1 : w1.heap.size ≤ R := hR.1
  have hR2 : R < w2.heap.size := hR.2
  have hLL : w.heap.size + 1 + 1 < w1.heap.size := hL1
  have PA : SPackAt w w2 (w.heap.size + 1 + 1) R cR ys w2 (w.heap.size + 1 + 1) 0 [] :=
    ⟨Laid.start L2, own_low hio (by omega), bel_trans K2.bel hb, by omega, by omega, by omega, hR2⟩
  have hyl : ys.length ≤ 96 := by rw [hys.out]; exact all_len HF.out
  have hyn : Hid (∀ z ∈ ys, Num z) := Lib.hid (by rw [hys.out]; exact all_num HF.out)
  clear L1 L2 hio hb K2 cN hR hL1
  go_wp2_with fail
  go_loopw [6, 8] (fun bv iv wr => ∃ (k gr cr : Nat) (cs : List Int), k ≤ ys.length ∧ iv = .int .i64 k ∧ bv = .slice (some ⟨gr, 0, none⟩) cs.length cr ∧ Hid (cs = layAll (ys.take k)) ∧ SPackAt w wr (w.heap.size + 1 + 1) R cR ys w2 gr cr cs) (fun _ i _ => ys.length - (intOf i).toNat)
  case atStart => exact ⟨0, _, 0, [], Nat.zero_le _, rfl, rfl, Lib.hid rfl, PA⟩
  case round =>
    obtain ⟨k, gr, cr, cs, hk, rfl, rfl, hcs, hK⟩ := hrel
    clear PA
    have hcl : cs.length ≤ 500 := by rw [hcs.out]; exact take_len hyn.out (by omega) k
    have hsz := hK.laid.grw.size
    have hb1 := hK.b1
    by_cases hlt : k < ys.length
    · obtain ⟨b, o, hA, hbB, hcell⟩ := hK.nums.row.2 (by omega)
      cases hA
      have c0 := hcell k hlt
      rw [Nat.zero_add] at c0
      have hnum := Lib.hid (nth_num (ns := ys) (k := k) hyn.out hlt)
      have hst := Lib.hid (take_lay (ns := ys) (k := k) hlt)
      generalize nth ys k = x at c0 hnum hst
      clear hcell
      have hlt' : (k : Int) < (ys.length : Int) := by omega
      go_wp2_with fail
      refine (l6Put_is (w.heap.size + 1 + 1) gr cr cs.length cs x wr hnum.out rfl (by omega) (by omega) hK.laid.own).mono ?_
      rintro e w4 ⟨g4, c4, cs4, rfl, hc4, K4⟩
      have KC := Lib.hid (hK.lay K4)
      have HE4 : Hid (cs4 = layAll (ys.take (k + 1))) := Lib.hid (by rw [hc4.out, hcs.out, hst.out])
      clear K4 hK c0 hc4 hst
      go_wp2
      go_roundw
      case rel => exact ⟨k + 1, g4, c4, cs4, by omega, by go_num, rfl, HE4, KC.out⟩
      case measure => simp [intOf]; omega
    · have hkn : k = ys.length := by omega
      have HE : Hid (cs = packN (numN k1 k2 k3 k4 k5 t1 t2 v1 o1 o2 v2 l1 l2 v3) ps qs) := Lib.hid (by rw [hcs.out, List.take_of_length_le (by omega), hys.out, packN, layAll_app, layAll_app, List.append_assoc])
      have HD := Lib.hid hK
      have hlt' : ¬ (k : Int) < (ys.length : Int) := by omega
      clear hcs hcl hK hkn
      go_wp2
      go_ret2
      exact ⟨gr, cr, cs, rfl, HE, own_low HD.out.laid.own HD.out.wb, HD.out.laid.bel HD.out.b0 HD.out.wb⟩

theorem specPackNote_is {N : Array Value} {k1 k2 k3 k4 k5 t1 t2 v1 o1 o2 v2 : Int} {P : Option Addr} {p pc : Nat} {Q : Option Addr} {q qc : Nat} {l1 l2 v3 : Int} (hN : N = #[.int .i64 k1, .int .i64 k2, .int .i64 k3, .int .i64 k4, .int .i64 k5, .int .i64 t1, .int .i64 t2, .int .i64 v1, .int .i64 o1, .int .i64 o2, .int .i64 v2, .slice P p pc, .slice Q q qc, .int .i64 l1, .int .i64 l2, .int .i64 v3]) (s l c sh : Int) (A : Option Addr) (n cap : Nat) (zs : List Int) (ps qs : List (Int × Int)) (w : World) (hm : n ≤ maxLen) (hmp : p ≤ maxLen) (hmq : q ≤ maxLen) (hr : Row w w.heap.size A n zs) (hp : Pairs w w.heap.size P p ps) (hq : Pairs w w.heap.size Q q qs) :
    Calls Tryd.prog 48 #[.agg #[.int .i64 s, .int .i64 l, .int .i64 c, .int .i64 sh, .slice A n cap], .agg N] w (Packs w (packL s l c sh zs k1 k2 k3 k4 k5 t1 t2 v1 o1 o2 v2 ps qs l1 l2 v3) (ntB s l c sh zs k1 k2 k3 k4 k5 t1 t2 v1 o1 o2 v2 ps qs l1 l2 v3)) := by
  unfold packL
  rcases h : ntB s l c sh zs k1 k2 k3 k4 k5 t1 t2 v1 o1 o2 v2 ps qs l1 l2 v3 with _ | _
  · rw [if_neg (by simp)]
    exact specPack_no hN s l c sh A n cap zs ps qs w hm hmp hmq hr hp hq h
  · rw [if_pos rfl]
    exact specPack_yes hN s l c sh A n cap zs ps qs w hm hmp hmq hr hp hq h

end Go.Proofs.YtgjbebfcbpfngaaDoor

/- What is packed is read again; no conditions but that the note can be sent. -/
namespace Go.Proofs.YtgjbebfcbpfngaaDoor

theorem pack_reads {s l c sh : Int} {zs : List Int} {k1 k2 k3 k4 k5 t1 t2 v1 o1 o2 v2 : Int} {ps qs : List (Int × Int)} {l1 l2 v3 : Int} (h : ntB s l c sh zs k1 k2 k3 k4 k5 t1 t2 v1 o1 o2 v2 ps qs l1 l2 v3 = true) {bs : List Int} (hb : bs = packN (numN k1 k2 k3 k4 k5 t1 t2 v1 o1 o2 v2 l1 l2 v3) ps qs) :
    rdNote bs = (numN k1 k2 k3 k4 k5 t1 t2 v1 o1 o2 v2 l1 l2 v3, ps, qs, some []) ∧ okR s l c sh zs bs = true ∧ Bys bs ∧ 0 < bs.length ∧ okR s l c sh zs (bs.take (bs.length - 1)) = false := by
  have F := nt_fits h
  have hB : Bys bs := by
    subst hb
    intro z hz
    simp only [packN, List.mem_append] at hz
    rcases hz with hz | hz | hz <;> exact layAll_bytes _ z hz
  have hr : rdNote bs = (numN k1 k2 k3 k4 k5 t1 t2 v1 o1 o2 v2 l1 l2 v3, ps, qs, some []) := by
    subst hb
    exact rd_lay rfl F.num F.pl F.ql F.ps F.qs
  have hl : 0 < bs.length := by
    subst hb
    have := lay_pos k1
    simp only [packN, numN, layAll_cons, List.length_append]
    omega
  refine ⟨hr, ?_, hB, hl, okR_cut hB (by rw [hr]) hl⟩
  unfold okR
  rw [hr]
  simpa [endB, ntX, numN, nth] using h

end Go.Proofs.YtgjbebfcbpfngaaDoor
