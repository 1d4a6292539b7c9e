/- What l6Read of the model answers: its contract. -/
import Derived.Test.YtgjbebfcbpfngaaDoorWire9
import Derived.Test.YtgjbebfcbpfngaaDoorSpecWire2
import Derived.Test.YtgjbebfcbpfngaaDoorDrawSpec
namespace Go.Proofs.YtgjbebfcbpfngaaDoor
open Go.RowKit Go.Deep

/-- What l6Read leaves: all the numbers, or a place where there is none. -/
def AllNums (w : World) (bs : List Int) (e : Ending) (w' : World) : Prop :=
  Below w.heap.size w w' ∧ ∃ (g cap : Nat) (l : List Int),
    ((e = .returned (.tuple #[.slice (some ⟨g, 0, none⟩) l.length cap, .bool true]) ∧ IOwn w' w.heap.size g cap l ∧ bs = layAll l ∧ ∀ z ∈ l, Num z) ∨
     (e = .returned (.tuple #[.slice (some ⟨g, 0, none⟩) 0 0, .bool false]) ∧ ∃ r, bs = layAll l ++ r ∧ r ≠ [] ∧ num r = none ∧ ∀ z ∈ l, Num z))
theorem ILaid.push1 {w wr w' : World} {base g0 g cap gg cap2 : Nat} {bs : List Int} {x : Int} {o : Obj} (h : ILaid w wr base g0 g cap bs)
    (ho : w'.ownsRow base 2 1 (.slice (some ⟨gg, 0, none⟩) (bs.length + 1) cap2) (bs.length + 1) (bs.map (Value.int .i64) ++ [.int .i64 x])) (hg : (wr.alloc o).grownBy w' (some g)) (hp : some g = some gg ∨ gg = wr.heap.size + 1) :
    ILaid w w' base g0 gg cap2 (bs ++ [x]) := h.push (m := 1) (xs := [x]) rfl ho hg hp
theorem layAll_snoc (l : List Int) (x : Int) : layAll (l ++ [x]) = layAll l ++ lay x := by rw [layAll_app, layAll_one]

set_option maxRecDepth 100000 in
set_option maxHeartbeats 4000000 in
theorem l6Read_is (A : Option Addr) (n cap : Nat) (bs : List Int) (w : World) (hr : BRow w w.heap.size A n bs) (hB : Bys bs) (hn : n ≤ 1000) :
    Calls Tryd.prog 54 #[.slice A n cap] w (AllNums w bs) := by
  obtain ⟨i0, hi0, hz0, hz1, hz2⟩ := info_parts Tryd.infoI6
  have HL := Lib.hid hr.1
  have HB := Lib.hid hB
  have K0 : ILaid (w.alloc (.cells #[] 2)) (w.alloc (.cells #[] 2)) w.heap.size w.heap.size w.heap.size 0 [] :=
    ILaid.start ⟨rfl, .inr ⟨w.heap.size, 0, #[], rfl, Nat.le_refl _, heap_alloc_new w _, Nat.le_refl _, Nat.zero_le _, rfl, rfl⟩⟩
  have E0 := bel_alloc w (.cells #[] 2)
  have HR := Lib.hid (hr.below E0 (Nat.le_refl _))
  have hs0 : w.heap.size ≤ (w.alloc (.cells #[] 2)).heap.size := E0.size
  clear hr hB
  go_enter Tryd.func54, Tryd.ntmps54
  go_wp2_with fail
  generalize (w.alloc _ : World) = w0 at K0 E0 HR hs0 ⊢
  go_loopw [4, 5] (fun ov iv wr => ∃ (i gr cr : Nat) (l : List Int), i ≤ n ∧ iv = .int .i64 i ∧ ov = .slice (some ⟨gr, 0, none⟩) l.length cr ∧ l.length ≤ i ∧ Hid (layAll l ++ bs.drop i = bs) ∧ Hid (∀ z ∈ l, Num z) ∧ ILaid w0 wr w.heap.size w.heap.size gr cr l) (fun _ i _ => n - (intOf i).toNat)
  case atStart => exact ⟨0, _, 0, [], Nat.zero_le _, rfl, rfl, Nat.le_refl _, Lib.hid (by simp [layAll]), Lib.hid (by simp), K0⟩
  case round =>
    obtain ⟨i, gr, cr, l, hi, rfl, rfl, hll, hlay, hnum, hK⟩ := hrel
    have hsz := hK.grw.size
    by_cases hlt : i < n
    · have hlt' : (i : Int) < (n : Int) := by omega
      obtain ⟨b, o, hA, hbB, hcell⟩ := HR.out.2 (by omega)
      subst hA
      have HC : Hid (∀ j, j < n → wr.cell? ⟨b, o + j, none⟩ = some (.int .u8 (nth bs j))) := Lib.hid (fun j hj => (World.cell?_of_block (w := w0) (w' := wr) (a := ⟨b, o + j, none⟩) (hK.grw.block b (by omega) (by intro e; injection e with e; omega))).trans (hcell j hj))
      have hrl : Hid ((bs.drop i).length = n - i) := Lib.hid (by rw [List.length_drop, HL.out])
      have hnt : Hid (∀ j, nth (bs.drop i) j = nth bs (i + j)) := Lib.hid (fun j => by simp [nth, List.getElem?_drop])
      clear hcell
      go_wp2_with fail
      go_loopw [6, 7, 8] (fun nv uv kv wr' => ∃ (k : Nat) (N U : Int), i + k ≤ n ∧ k ≤ 5 ∧ nv = .int .i64 N ∧ uv = .int .i64 U ∧ kv = .int .i64 k ∧ 0 ≤ N ∧ N < U ∧ U = 128 ^ k ∧ Hid (RdAt (bs.drop i) k N U) ∧ wr = wr') (fun _ _ k _ => 5 - (intOf k).toNat)
      case atStart => exact ⟨0, 0, 1, by omega, by omega, rfl, rfl, rfl, by omega, by omega, rfl, Lib.hid (RdAt.start _), rfl⟩
      case round =>
        obtain ⟨k, N, U, hk, hk5, rfl, rfl, rfl, hN0, hNU, hU, hrd, rfl⟩ := hrel
        by_cases hin : i + k < n ∧ k < 5
        · obtain ⟨hik, hkk⟩ := hin
          have hUb : 1 ≤ U ∧ U ≤ 268435456 := by
            obtain rfl | rfl | rfl | rfl | rfl : k = 0 ∨ k = 1 ∨ k = 2 ∨ k = 3 ∨ k = 4 := by omega
            all_goals (subst hU; decide)
          obtain ⟨hU1, hU2⟩ := hUb
          have hik' : (i : Int) + (k : Int) < (n : Int) := by omega
          have hkk' : (k : Int) < 5 := by omega
          have c0 := HC.out (i + k) hik
          have hz := HB.out (nth bs (i + k)) (by rw [nth_lt (by rw [HL.out]; exact hik)]; exact List.getElem_mem _)
          have hzz := hnt.out k
          generalize nth bs (i + k) = z at c0 hz hzz
          obtain ⟨hz0', hz1'⟩ := hz
          have hkr : Hid (k < (bs.drop i).length) := Lib.hid (by rw [hrl.out]; omega)
          replace hzz := Lib.hid hzz
          replace hU := Lib.hid hU
          have hqq0 : 0 ≤ z % 128 * U := Int.mul_nonneg (by omega) (by omega)
          have hqq1 : z % 128 * U ≤ 127 * U := Int.mul_le_mul_of_nonneg_right (by omega) (by omega)
          have hE := Lib.hid (bel_grown E0 hK.grw (Nat.le_refl _))
          have hne : Hid (bs.drop i ≠ []) := Lib.hid (by intro e; have := hrl.out; rw [e] at this; simp at this; omega)
          by_cases h128 : z < 128
          · have hm : z % 128 = z := by omega
            rw [hm] at hqq0 hqq1
            by_cases hbad : 0 < k ∧ z = 0
            · obtain ⟨hk0, rfl⟩ := hbad
              have hk0' : (0 : Int) < (k : Int) := by omega
              have hik2 : ¬ (n : Int) ≤ (i : Int) + (k : Int) := by omega
              have hk5' : ((k : Int) == 5) = false := by simp; omega
              have hno := Lib.hid (hrd.out.short hkr.out hkk hzz.out hk0)
              clear hm
              go_wp2
              go_ret2
              exact ⟨bel_trans hE.out (bel_alloc _ _), wr.heap.size, 0, l, .inr ⟨rfl, bs.drop i, hlay.out.symm, hne.out, hno.out, hnum.out⟩⟩
            · have hsm := hrd.out.last hkr.out hkk hzz.out (fun e => hbad ⟨e.2, e.1⟩) h128
              have hbk := num_back (HB.out.drop i) hsm
              obtain ⟨hx, hj, hdr, hjl, _⟩ := hbk
              have hlay2 : Hid (layAll (l ++ [N + z * U]) ++ bs.drop (i + k + 1) = bs) := Lib.hid (by
                rw [layAll_snoc, List.append_assoc]
                have e : bs.drop (i + k + 1) = (bs.drop i).drop (k + 1) := by rw [List.drop_drop, Nat.add_assoc]
                rw [e, ← hdr]
                exact hlay.out)
              have hnum2 : Hid (∀ z' ∈ l ++ [N + z * U], Num z') := Lib.hid (by
                intro z' hz'
                rcases List.mem_append.1 hz' with h | h
                · exact hnum.out z' h
                · rw [List.mem_singleton.1 h]; exact hx)
              clear hsm hx hj hdr hjl
              have hik2 : ¬ (n : Int) ≤ (i : Int) + (k : Int) := by omega
              have hk5' : ((k : Int) == 5) = false := by simp; omega
              have hcase : (¬ 0 < k) ∨ (0 < k ∧ (z == 0) = false) := by
                rcases Nat.eq_zero_or_pos k with h | h
                · exact .inl (by omega)
                · exact .inr ⟨h, by simp; intro e; exact hbad ⟨h, e⟩⟩
              rcases hcase with hk0 | ⟨hk0, hz00⟩
              · have hk0' : ¬ (0 : Int) < (k : Int) := by omega
                go_wp2_with (at_builtin; refine wpList_append_lies _ rfl _ _ _ rfl w.heap.size 2 i0 _ 1 8 Tryd.underlying24 hi0 hz0 hz1 hz2 rfl (by omega) (.slice (some ⟨gr, 0, none⟩) l.length cr) l.length (l.map (Value.int .i64)) rfl (hK.own.alloc _) ⟨wr.heap.size, 0, none⟩ 1 1 [.int .i64 (N + z * U)] rfl rfl (World.news_of_block (cs := #[.int .i64 (N + z * U)]) (t := 2) (fr := (0, 0)) (heap_alloc_new wr _)) (by simp [Value.oneCell']) (by omega) (by unfold maxLen; omega) (by omega) (by simp; omega) (wr.heap.size + 1) (by simp) ?_; intro gg cap2 w2 hown2 hgrow2 hat hlt2)
                have HK := Lib.hid (hK.push1 hown2 hgrow2 hat)
                clear hown2 hgrow2 hat hK hm
                go_roundw
                case rel => exact ⟨i + k + 1, gg, cap2, _, by omega, by go_num, by simp, by simp; omega, hlay2, hnum2, HK.out⟩
                case measure => simp [intOf]; omega
              · have hk0' : (0 : Int) < (k : Int) := by omega
                go_wp2_with (at_builtin; refine wpList_append_lies _ rfl _ _ _ rfl w.heap.size 2 i0 _ 1 8 Tryd.underlying24 hi0 hz0 hz1 hz2 rfl (by omega) (.slice (some ⟨gr, 0, none⟩) l.length cr) l.length (l.map (Value.int .i64)) rfl (hK.own.alloc _) ⟨wr.heap.size, 0, none⟩ 1 1 [.int .i64 (N + z * U)] rfl rfl (World.news_of_block (cs := #[.int .i64 (N + z * U)]) (t := 2) (fr := (0, 0)) (heap_alloc_new wr _)) (by simp [Value.oneCell']) (by omega) (by unfold maxLen; omega) (by omega) (by simp; omega) (wr.heap.size + 1) (by simp) ?_; intro gg cap2 w2 hown2 hgrow2 hat hlt2)
                have HK := Lib.hid (hK.push1 hown2 hgrow2 hat)
                clear hown2 hgrow2 hat hK hm
                go_roundw
                case rel => exact ⟨i + k + 1, gg, cap2, _, by omega, by go_num, by simp, by simp; omega, hlay2, hnum2, HK.out⟩
                case measure => simp [intOf]; omega
          · have hm : z % 128 = z - 128 := by omega
            rw [hm] at hqq0 hqq1
            have hst := Lib.hid (hrd.out.step hkr.out hkk hzz.out h128)
            go_wp2
            go_roundw
            case rel => exact ⟨k + 1, N + (z - 128) * U, U * 128, by omega, by omega, rfl, rfl, by go_num, by omega, by omega, by rw [hU.out, Int.pow_succ], hst, trivial⟩
            case measure => simp [intOf]; omega
        · have hE := Lib.hid (bel_grown E0 hK.grw (Nat.le_refl _))
          have hne : Hid (bs.drop i ≠ []) := Lib.hid (by intro e; have := hrl.out; rw [e] at this; simp at this; omega)
          replace hU := Lib.hid hU
          by_cases hik : i + k < n
          · obtain rfl : k = 5 := by omega
            have hno := Lib.hid hrd.out.none5
            have hik' : (i : Int) + 5 < (n : Int) := by omega
            have hik2 : ¬ (n : Int) ≤ (i : Int) + 5 := by omega
            go_wp2
            go_ret2
            exact ⟨bel_trans hE.out (bel_alloc _ _), wr.heap.size, 0, l, .inr ⟨rfl, bs.drop i, hlay.out.symm, hne.out, hno.out, hnum.out⟩⟩
          · have hno := Lib.hid (hrd.out.noneEnd (by rw [hrl.out]; omega))
            have hik' : ¬ (i : Int) + (k : Int) < (n : Int) := by omega
            have hik2 : (n : Int) ≤ (i : Int) + (k : Int) := by omega
            go_wp2
            go_ret2
            exact ⟨bel_trans hE.out (bel_alloc _ _), wr.heap.size, 0, l, .inr ⟨rfl, bs.drop i, hlay.out.symm, hne.out, hno.out, hnum.out⟩⟩
    · obtain rfl : i = n := by omega
      have hlt' : ¬ (i : Int) < (i : Int) := by omega
      have hE := Lib.hid (bel_grown E0 hK.grw (Nat.le_refl _))
      have hbs : Hid (bs = layAll l) := Lib.hid (by
        have := hlay.out
        rw [List.drop_eq_nil_of_le (by rw [HL.out]; exact Nat.le_refl _), List.append_nil] at this
        exact this.symm)
      replace hK := Lib.hid hK
      go_wp2
      go_ret2
      exact ⟨hE.out, gr, cr, l, .inl ⟨rfl, hK.out.own, hbs.out, hnum.out⟩⟩

end Go.Proofs.YtgjbebfcbpfngaaDoor

/- What l6ReadSeals of the model answers: its contract. -/
namespace Go.Proofs.YtgjbebfcbpfngaaDoor
open Go.RowKit Go.Deep

theorem Tryd.infoSealI6 : (Tryd.prog.info? 94).map (fun i => (i.zero, i.size, i.bytes)) = some (some (.agg #[.int .i64 0, .int .i64 0]), 2, 16) := by kernel_rfl
/-- What l6ReadSeals leaves where there are seals. -/
def SealsRead (w : World) (ps : List (Int × Int)) (at' : Nat) (e : Ending) (w' : World) : Prop :=
  ∃ (g cap : Nat), e = .returned (.tuple #[.slice (some ⟨g, 0, none⟩) ps.length cap, .int .i64 at']) ∧ w'.ownsRow w.heap.size 94 2 (.slice (some ⟨g, 0, none⟩) ps.length cap) ps.length (flatP ps) ∧ Below w.heap.size w w'
/-- What it leaves where there are none. -/
def SealsNone (w : World) (e : Ending) (w' : World) : Prop :=
  ∃ g, e = .returned (.tuple #[.slice (some ⟨g, 0, none⟩) 0 0, .int .i64 (-1)]) ∧ w.heap.size ≤ g ∧ g < w'.heap.size ∧ Below w.heap.size w w'

set_option maxRecDepth 100000 in
set_option maxHeartbeats 4000000 in
theorem readSeals_no (A : Option Addr) (n cap : Nat) (l : List Int) (p : Int) (w : World) (hr : Row w w.heap.size A n l) (hn : n ≤ 1000) (hp0 : -1 ≤ p) (hp1 : p ≤ 2000) (hz : ∀ z ∈ l, Num z)
    (hno : p < 0 ∨ (n : Int) ≤ p ∨ (0 ≤ p ∧ p < n ∧ (20 < nth l p.toNat ∨ (n : Int) - p - 1 < 2 * nth l p.toNat))) :
    Calls Tryd.prog 55 #[.slice A n cap, .int .i64 p] w (SealsNone w) := by
  have E0 := Lib.hid (bel_alloc w (.cells #[] 94))
  by_cases h1 : p < 0
  · clear hno
    go_enter Tryd.func55, Tryd.ntmps55
    go_wp2
    go_ret2
    exact ⟨w.heap.size, rfl, Nat.le_refl _, by simp, E0.out⟩
  by_cases h2 : (n : Int) ≤ p
  · clear hno
    go_enter Tryd.func55, Tryd.ntmps55
    go_wp2
    go_ret2
    exact ⟨w.heap.size, rfl, Nat.le_refl _, by simp, E0.out⟩
  obtain ⟨q, rfl⟩ : ∃ q : Nat, p = (q : Int) := ⟨p.toNat, by omega⟩
  have hq : q < n := by omega
  obtain ⟨b, o, hA, hbB, hcell⟩ := hr.2 (by omega)
  subst hA
  have c0 := (World.cell?_alloc_lt w (.cells #[] 94) ⟨b, o + q, none⟩ hbB).trans (hcell q hq)
  have hnum := hz (nth l q) (by rw [nth_lt (by rw [hr.1]; exact hq)]; exact List.getElem_mem _)
  have hno' : 20 < nth l q ∨ (n : Int) - q - 1 < 2 * nth l q := by
    rcases hno with h | h | ⟨_, _, h⟩
    · omega
    · omega
    · simpa using h
  clear hno hcell hr hz
  obtain ⟨hx0, hx1⟩ := hnum
  generalize nth l q = x at c0 hx0 hx1 hno'
  have hqi : (q : Int) < (n : Int) := by omega
  by_cases h3 : 20 < x
  · clear hno'
    go_enter Tryd.func55, Tryd.ntmps55
    go_wp2
    go_ret2
    exact ⟨w.heap.size, rfl, Nat.le_refl _, by simp, E0.out⟩
  · have h4 : (n : Int) - q - 1 < 2 * x := by omega
    clear hno'
    go_enter Tryd.func55, Tryd.ntmps55
    go_wp2
    go_ret2
    exact ⟨w.heap.size, rfl, Nat.le_refl _, by simp, E0.out⟩

/-- Pairs of one's own, put one behind the other. -/
structure PLaid (w wr : World) (base g0 g cap : Nat) (ps : List (Int × Int)) : Prop where
  own : wr.ownsRow base 94 2 (.slice (some ⟨g, 0, none⟩) ps.length cap) ps.length (flatP ps)
  grw : w.grownBy wr (some g0)
  pos : g = g0 ∨ w.heap.size ≤ g
theorem PLaid.push {w wr w' : World} {base g0 g cap gg cap2 : Nat} {ps : List (Int × Int)} {x y : Int} {o : Obj} (h : PLaid w wr base g0 g cap ps)
    (ho : w'.ownsRow base 94 2 (.slice (some ⟨gg, 0, none⟩) (ps.length + 1) cap2) (ps.length + 1) (flatP ps ++ [.int .i64 x, .int .i64 y])) (hg : (wr.alloc o).grownBy w' (some g)) (hp : some g = some gg ∨ gg = wr.heap.size + 1) :
    PLaid w w' base g0 gg cap2 (ps ++ [(x, y)]) := by
  have hg' := grown_trans (grown_bel (bel_alloc wr o) (some g)) hg
  refine ⟨?_, grown_own h.grw hg' h.pos, ?_⟩
  · have e : flatP (ps ++ [(x, y)]) = flatP ps ++ [.int .i64 x, .int .i64 y] := by simp [flatP]
    rw [e, List.length_append]
    exact ho
  · rcases hp with e | e
    · injection e with e; rw [← e]; exact h.pos
    · exact .inr (by have := h.grw.size; omega)

theorem seal_nth {l : List Int} {q m i : Nat} (hm : q + 1 + 2 * m ≤ l.length) (hi : i < m) : pth (pairUp ((l.drop (q + 1)).take (2 * m))) i = (nth l (q + 1 + 2 * i), nth l (q + 2 + 2 * i)) := by
  have hl : ((l.drop (q + 1)).take (2 * m)).length = 2 * m := by rw [List.length_take, List.length_drop]; omega
  rw [pairUp_nth m _ hl i hi]
  have e : ∀ j, j < 2 * m → nth ((l.drop (q + 1)).take (2 * m)) j = nth l (q + 1 + j) := fun j hj => by simp [nth, hj, List.getElem?_drop]
  rw [e _ (by omega), e _ (by omega)]
  congr 2 <;> omega

set_option maxRecDepth 100000 in
set_option maxHeartbeats 4000000 in
theorem readSeals_yes (A : Option Addr) (n cap q m : Nat) (l : List Int) (w : World) (hr : Row w w.heap.size A n l) (hn : n ≤ 1000) (hq : q < n) (hm : nth l q = (m : Int)) (hm20 : m ≤ 20) (hmn : q + 1 + 2 * m ≤ n) :
    Calls Tryd.prog 55 #[.slice A n cap, .int .i64 q] w (SealsRead w (pairUp ((l.drop (q + 1)).take (2 * m))) (q + 1 + 2 * m)) := by
  obtain ⟨i0, hi0, hz0, hz1, hz2⟩ := info_parts Tryd.infoSealI6
  have hLl := hr.1
  obtain ⟨ps, hps⟩ : ∃ ps, ps = pairUp ((l.drop (q + 1)).take (2 * m)) := ⟨_, rfl⟩
  have hpl : ps.length = m := by rw [hps]; exact (pairs_pairUp m _ (by rw [List.length_take, List.length_drop]; omega)).2
  have hpn : Hid (∀ i, i < m → pth ps i = (nth l (q + 1 + 2 * i), nth l (q + 2 + 2 * i))) := Lib.hid (fun i hi => by rw [hps]; exact seal_nth (by omega) hi)
  have htk : Hid (∀ i, i < m → ps.take (i + 1) = ps.take i ++ [pth ps i]) := Lib.hid (fun i hi => by rw [List.take_succ_eq_append_getElem (by omega), pth_lt (by omega)])
  rw [← hps]
  replace hps := Lib.hid hps
  obtain ⟨b, o, hA, hbB, hcell⟩ := hr.2 (by omega)
  subst hA
  have E0 := bel_alloc w (.cells #[] 94)
  have hc := Lib.hid (fun j (hj : j < n) => (World.cell?_alloc_lt w (.cells #[] 94) ⟨b, o + j, none⟩ hbB).trans (hcell j hj))
  have c0 := hc.out q hq
  rw [hm] at c0
  have K0 : PLaid (w.alloc (.cells #[] 94)) (w.alloc (.cells #[] 94)) w.heap.size w.heap.size w.heap.size 0 [] :=
    ⟨⟨rfl, .inr ⟨w.heap.size, 0, #[], rfl, Nat.le_refl _, heap_alloc_new w _, Nat.le_refl _, Nat.zero_le _, rfl, rfl⟩⟩, grown_refl _ _, .inl rfl⟩
  have hpl' := Lib.hid hpl
  clear hcell hr hm hLl hpl
  have hqn : ¬ (n : Int) ≤ (q : Int) := by omega
  have hm1 : ¬ (20 : Int) < (m : Int) := by omega
  have hm2 : ¬ ((n : Int) - q - 1 < 2 * m) := by omega
  have hs0 : w.heap.size ≤ (w.alloc (.cells #[] 94)).heap.size := E0.size
  go_enter Tryd.func55, Tryd.ntmps55
  go_wp2_with fail
  generalize (w.alloc _ : World) = w0 at K0 E0 hc c0 hs0 ⊢
  have HC0 := Lib.hid c0
  clear c0
  obtain ⟨a1, ha1⟩ : ∃ a1 : Nat, a1 = q + 1 := ⟨_, rfl⟩
  obtain ⟨a2, ha2⟩ : ∃ a2 : Nat, a2 = q + 2 := ⟨_, rfl⟩
  have hwa1 : IntKind.i64.wrap ((q : Int) + 1) = (a1 : Int) := by rw [IntKind.wrap_i64]; omega
  have hwa2 : IntKind.i64.wrap ((q : Int) + 2) = (a2 : Int) := by rw [IntKind.wrap_i64]; omega
  replace ha1 := Lib.hid ha1
  replace ha2 := Lib.hid ha2
  go_loopw [6, 7] (fun ov iv wr => ∃ (i gr cr : Nat) (cs : List (Int × Int)), i ≤ m ∧ iv = .int .i64 i ∧ ov = .slice (some ⟨gr, 0, none⟩) cs.length cr ∧ Hid (cs = ps.take i) ∧ PLaid w0 wr w.heap.size w.heap.size gr cr cs) (fun _ i _ => m - (intOf i).toNat)
  case atStart => exact ⟨0, _, 0, [], Nat.zero_le _, rfl, rfl, Lib.hid rfl, K0⟩
  case round =>
    obtain ⟨i, gr, cr, cs, hi, rfl, rfl, hcs, hK⟩ := hrel
    have hsz := hK.grw.size
    have hkc := Lib.hid (fun j (hj : j < n) => (World.cell?_of_block (w := w0) (w' := wr) (a := ⟨b, o + j, none⟩) (hK.grw.block b (by omega) (by intro e; injection e with e; omega))).trans (hc.out j hj))
    have c0 : wr.cell? ⟨b, o + q, none⟩ = some (.int .i64 m) := (World.cell?_of_block (w := w0) (w' := wr) (a := ⟨b, o + q, none⟩) (hK.grw.block b (by omega) (by intro e; injection e with e; omega))).trans HC0.out
    have hcl : cs.length ≤ 20 := by rw [hcs.out, List.length_take, hpl'.out]; omega
    have hbl : b < wr.heap.size := by omega
    by_cases hlt : i < m
    · have hlt' : (i : Int) < (m : Int) := by omega
      obtain ⟨i2, hi2⟩ : ∃ i2 : Nat, i2 = 2 * i := ⟨_, rfl⟩
      obtain ⟨p1, hp1⟩ : ∃ p1 : Nat, p1 = q + 1 + 2 * i := ⟨_, rfl⟩
      obtain ⟨p2, hp2⟩ : ∃ p2 : Nat, p2 = q + 2 + 2 * i := ⟨_, rfl⟩
      have hwi : IntKind.i64.wrap (2 * (i : Int)) = (i2 : Int) := by rw [IntKind.wrap_i64]; omega
      have hwp1 : IntKind.i64.wrap ((a1 : Int) + (i2 : Int)) = (p1 : Int) := by rw [IntKind.wrap_i64]; have := ha1.out; omega
      have hwp2 : IntKind.i64.wrap ((a2 : Int) + (i2 : Int)) = (p2 : Int) := by rw [IntKind.wrap_i64]; have := ha2.out; omega
      have g1 := hkc.out p1 (by omega)
      have g2 := hkc.out p2 (by omega)
      have hpp := hpn.out i hlt
      rw [← hp1, ← hp2] at hpp
      have hst : Hid (ps.take (i + 1) = ps.take i ++ [(nth l p1, nth l p2)]) := Lib.hid (by rw [htk.out i hlt, hpp])
      generalize nth l p1 = x at g1 hst
      generalize nth l p2 = y at g2 hst
      have hp1n : p1 < n := by omega
      have hp2n : p2 < n := by omega
      replace hp1 := Lib.hid hp1
      replace hp2 := Lib.hid hp2
      replace hi2 := Lib.hid hi2
      clear hpp
      go_wp2_with fail
      go_region_law (refine step_append_lies _ (by rfl) _ _ _ (by rfl) w.heap.size 94 i0 _ 2 16 Tryd.underlying29 hi0 hz0 hz1 hz2 rfl (by omega) (.slice (some ⟨gr, 0, none⟩) cs.length cr) cs.length (flatP cs) (by rfl) (hK.own.alloc _) ⟨wr.heap.size, 0, none⟩ 1 1 [.int .i64 x, .int .i64 y] (by rfl) (by rfl) (World.news_of_block (cs := #[.int .i64 x, .int .i64 y]) (t := 94) (fr := (0, 0)) (heap_alloc_new wr _)) (by simp [Value.oneCell']) (by omega) (by unfold maxLen; omega) (by omega) (by simp; omega) (wr.heap.size + 1) (by simp) ?_; intro gg cap2 w2 hown2 hgrow2 hat hlt2)
      all_goals
        have HK := Lib.hid (hK.push hown2 (grown_undrew hgrow2) hat)
        have HE : Hid (cs ++ [(x, y)] = ps.take (i + 1)) := Lib.hid (by rw [hst.out, hcs.out])
        clear hown2 hgrow2 hat hK hst hcs g1 g2 c0 hwi hwp1 hwp2
        go_wp2
        go_roundw
        case rel => exact ⟨i + 1, gg, cap2, _, by omega, by go_num, by simp, HE, HK.out⟩
        case measure => simp [intOf]; omega
    · obtain rfl : i = m := by omega
      have hlt' : ¬ (i : Int) < (i : Int) := by omega
      have HE : Hid (cs = ps) := Lib.hid (by rw [hcs.out, List.take_of_length_le (by rw [hpl'.out]; exact Nat.le_refl _)])
      have HB := Lib.hid (bel_grown E0 hK.grw (Nat.le_refl _))
      have HO := Lib.hid hK.own
      obtain ⟨i2, hi2⟩ : ∃ i2 : Nat, i2 = 2 * i := ⟨_, rfl⟩
      obtain ⟨p1, hp1⟩ : ∃ p1 : Nat, p1 = q + 1 + 2 * i := ⟨_, rfl⟩
      have hwi : IntKind.i64.wrap (2 * (i : Int)) = (i2 : Int) := by rw [IntKind.wrap_i64]; omega
      have hwp1 : IntKind.i64.wrap ((a1 : Int) + (i2 : Int)) = (p1 : Int) := by rw [IntKind.wrap_i64]; have := ha1.out; omega
      rw [← hp1]
      replace hp1 := Lib.hid hp1
      replace hi2 := Lib.hid hi2
      clear hK
      go_wp2_with fail
      go_quiet (fail)
      go_wp2
      go_ret2
      obtain rfl : cs = ps := HE.out
      exact ⟨gr, cr, by first | rfl | (rw [← hp1.out]; rfl) | (rw [hp1.out]; rfl), HO.out, bel_drewN HB.out _⟩

end Go.Proofs.YtgjbebfcbpfngaaDoor
