/- The library's CompactFunc over a slice of pairs: of those with one first number side by side the first stays. -/
import Derived.Test.YtghdnokjgmmgiaaGreatSortSym
import Derived.Lib.SliceRun
import Derived.Laws.IdiomCopy
namespace Go.Proofs.YtghdnokjgmmgiaaGreat
open Go.RowKit

theorem eqWho_any (a b c d : Int) (w : World) :
    Calls Tryz.prog 117 #[.agg #[.int .i64 a, .int .i64 b], .agg #[.int .i64 c, .int .i64 d]] w fun e w' => e = .returned (.bool (a == c)) ∧ Below w.heap.size w w' := by
  have hb := bel_trans (bel_alloc w (.cells #[.int .i64 a, .int .i64 b] 94)) (bel_alloc _ (.cells #[.int .i64 c, .int .i64 d] 94))
  have D := ((Box.new w 94 #[.int .i64 a, .int .i64 b]).alloc (.cells #[.int .i64 c, .int .i64 d] 94)).two
  have X := (Box.new (w.alloc (.cells #[.int .i64 a, .int .i64 b] 94)) 94 #[.int .i64 c, .int .i64 d]).two
  simp only [World.size_alloc] at X
  obtain ⟨d0, _⟩ := D
  obtain ⟨x0, _⟩ := X
  go_enter Tryz.func117, Tryz.ntmps117
  go_wp2
  go_ret
  exact ⟨rfl, hb⟩
theorem eqWho_is {a c : Int} {t : Bool} (h : (a == c) = t) (b d : Int) (w : World) :
    Calls Tryz.prog 117 #[.agg #[.int .i64 a, .int .i64 b], .agg #[.int .i64 c, .int .i64 d]] w fun e w' => e = .returned (.bool t) ∧ Below w.heap.size w w' := by
  rw [← h]
  exact eqWho_any a b c d w

theorem Tryz.zeroSeal : ∀ w, (zeroValue 94).run Tryz.prog w = .ok (.agg #[.int .i64 0, .int .i64 0]) w := by
  intro w
  obtain ⟨i, hi, hzz⟩ := Option.map_eq_some_iff.1 (show (Tryz.prog.info? 94).map (fun i => (i.zero, i.size, i.bytes)) = some (some (.agg #[.int .i64 0, .int .i64 0]), 2, 16) by kernel_rfl)
  simp only [Prod.mk.injEq] at hzz
  simp [zeroValue, typeInfo, hi, hzz.1]

/-- Pairs are cleared: the cells ahead of them stay. -/
theorem clear_pairs (w : World) (ty : TypeId) (g i m c : Nat) (d : List (Int × Int)) (hm : 0 < m) (hd : i + m ≤ d.length) (H : Held w g d) :
    ∃ vs : List Value, (Builtin.clear_ #[29] ty #[.slice (some ⟨g, i * 2, none⟩) m c]).run Tryz.prog w = .ok (.tuple #[]) (w.setCells g (i * 2) vs) := by
  have hz : (Value.agg #[.int .i64 0, .int .i64 0]).cells = #[.int .i64 0, .int .i64 0] := by rfl
  have hall : ∀ v ∈ (Builtin.zeroCells #[.int .i64 0, .int .i64 0] m).toList, v.oneCell' = true := by
    intro v hv
    simp only [Builtin.zeroCells, Array.toList_map, List.mem_map] at hv
    obtain ⟨j, _, rfl⟩ := hv
    have hj : j % 2 = 0 ∨ j % 2 = 1 := by omega
    rcases hj with hj | hj <;> simp [hj, Value.oneCell']
  have hlen : (Builtin.zeroCells #[.int .i64 0, .int .i64 0] m).toList.length = m * 2 := by simp [Builtin.zeroCells]
  have hst := run_storeCells_cells (P := Tryz.prog) g (i * 2) (Builtin.zeroCells #[.int .i64 0, .int .i64 0] m).toList 0 w (fun j hj => by
    rw [hlen] at hj
    have h2 : j % 2 = 0 ∨ j % 2 = 1 := by omega
    rcases h2 with h2 | h2
    · rw [show i * 2 + 0 + j = (i + j / 2) * 2 by omega, H.at0 _ (by omega)]; rfl
    · rw [show i * 2 + 0 + j = (i + j / 2) * 2 + 1 by omega, H.at1 _ (by omega)]; rfl) (fun j _ => H.fr _) hall
  simp only [Nat.add_zero] at hst
  refine ⟨(Builtin.zeroCells #[.int .i64 0, .int .i64 0] m).toList, ?_⟩
  obtain ⟨k, rfl⟩ : ∃ k, m = k + 1 := ⟨m - 1, by omega⟩
  simp [Builtin.clear_, run_underlying Tryz.underlying29, hz, hst]
theorem size_setCells (w : World) (g o : Nat) (vs : List Value) : (w.setCells g o vs).heap.size = w.heap.size := by
  induction vs generalizing w o with
  | nil => rfl
  | cons v vs ih => rw [World.setCells, ih, size_set]
theorem Held.cut {w : World} {g i : Nat} {d c : List (Int × Int)} (H : Held w g d) (hi : d.take i = c) (hl : c.length = i) (vs : List Value) : Held (w.setCells g (i * 2) vs) g c := by
  subst hi
  rw [List.length_take] at hl
  refine ⟨by rw [size_setCells]; exact H.lt, fun o => by rw [World.frozen?_setCells]; exact H.fr o, fun k hk => ?_, fun k hk => ?_⟩
  · rw [List.length_take] at hk
    rw [World.cell?_setCells_out g vs _ _ _ (fun _ _ => .inl (by simp; omega)), H.at0 k (by omega), pth_take (by omega)]
  · rw [List.length_take] at hk
    rw [World.cell?_setCells_out g vs _ _ _ (fun _ _ => .inl (by simp; omega)), H.at1 k (by omega), pth_take (by omega)]
theorem grown_setCells {a b : World} {g : Nat} (h : a.grownBy b (some g)) (o : Nat) (vs : List Value) : a.grownBy (b.setCells g o vs) (some g) := by
  induction vs generalizing b o with
  | nil => exact h
  | cons v vs ih => rw [World.setCells]; exact ih (grown_set h _ _) _
theorem Held.take {w : World} {g : Nat} {d : List (Int × Int)} (H : Held w g d) (i : Nat) : Held w g (d.take i) := by
  refine ⟨H.lt, H.fr, fun k hk => ?_, fun k hk => ?_⟩
  · rw [List.length_take] at hk
    rw [H.at0 k (by omega), pth_take (by omega)]
  · rw [List.length_take] at hk
    rw [H.at1 k (by omega), pth_take (by omega)]

/-- What is left in the slice. -/
def Kept (w : World) (g cap : Nat) (C : List (Int × Int)) (e : Ending) (w' : World) : Prop :=
  e = .returned (.slice (some ⟨g, 0, none⟩) C.length cap) ∧ Held w' g C ∧ w.grownBy w' (some g)
/-- As far as the place j: i are kept, at the front. -/
def CompAt (S d : List (Int × Int)) (i j : Nat) : Prop :=
  d.length = S.length ∧ (cmpct (S.take j)).length = i ∧ d.take i = cmpct (S.take j) ∧ i < j ∧ ∀ q, j ≤ q + 1 → pth d q = pth S q
theorem CompAt.skip {S d : List (Int × Int)} {i j : Nat} (h : CompAt S d i j) (h0 : 0 < j) (hj : j < S.length) (he : (pth S j).1 = (pth S (j - 1)).1) : CompAt S d i (j + 1) := by
  obtain ⟨h1, h2, h3, h4, h5⟩ := h
  have := cmpct_take h0 hj
  rw [if_pos he, List.append_nil] at this
  exact ⟨h1, by rw [this]; exact h2, by rw [this]; exact h3, by omega, fun q hq => h5 q (by omega)⟩
theorem CompAt.keep {S d : List (Int × Int)} {i j : Nat} (h : CompAt S d i j) (h0 : 0 < j) (hj : j < S.length) (he : (pth S j).1 ≠ (pth S (j - 1)).1) : CompAt S (d.set i (pth S j)) (i + 1) (j + 1) := by
  obtain ⟨h1, h2, h3, h4, h5⟩ := h
  have := cmpct_take h0 hj
  rw [if_neg he] at this
  refine ⟨by simpa using h1, by rw [this]; simp [h2], ?_, by omega, fun q hq => ?_⟩
  · rw [this, ← h3, List.take_succ_eq_append_getElem (by simp; omega)]
    simp [List.take_set_of_le]
  · rw [← h5 q (by omega)]
    simp [pth, show ¬ i = q by omega]

set_option maxRecDepth 100000 in
set_option maxHeartbeats 1000000 in
theorem compact_is (g n cap : Nat) (S : List (Int × Int)) (w : World) (hn : n ≤ 4194304) (hnc : n ≤ cap) (hcm : cap ≤ maxLen) (hl : S.length = n) (H : Held w g S) :
    Calls Tryz.prog 116 #[.slice (some ⟨g, 0, none⟩) n cap, (.func (Fn.func 117) #[] #[])] w (Kept w g cap (cmpct S)) := by
  unfold maxLen at hcm
  have HH := Lib.hid H
  have hl := Lib.hid hl
  rename_i q
  clear H q
  by_cases hn2 : n < 2
  · have hn2' : (n : Int) < 2 := by omega
    go_enter Tryz.func116, Tryz.ntmps116
    go_wp2
    go_ret
    have e : cmpct S = S := by
      match S, hl.out with
      | [], _ => rfl
      | [x], _ => rfl
      | x :: y :: S, h => simp only [List.length_cons] at h; omega
    rw [e]
    exact ⟨by rw [hl.out]; rfl, HH.out, grown_refl _ _⟩
  · have hn2' : ¬ (n : Int) < 2 := by omega
    go_enter Tryz.func116, Tryz.ntmps116
    go_wp2_with fail
    go_loopw [5] (fun iv wr => ∃ i : Nat, iv = .int .i64 i ∧ 0 < i ∧ i ≤ n ∧ cmpct (S.take i) = S.take i ∧ Below w.heap.size w wr) (fun i _ => n - (intOf i).toNat)
    case atStart =>
      refine ⟨1, rfl, by omega, by omega, ?_, Below.refl _ _⟩
      match S with
      | [] => rfl
      | x :: S => simp [cmpct, cfrom]
    case round =>
      obtain ⟨i, rfl, hi0, hin, hcmp, hbel⟩ := hrel
      have hcmp := Lib.hid hcmp
      rename_i q
      clear q
      by_cases hlt : i < n
      · have hlt' : (i : Int) < (n : Int) := by omega
        obtain ⟨p, hp, hp'⟩ : ∃ p : Nat, (i : Int) - 1 = (p : Int) ∧ p + 1 = i := ⟨i - 1, by omega, by omega⟩
        have hpn : (p : Int) < (n : Int) := by omega
        have hh := HH.out.later hbel
        have c0 := hh.at0 i (by rw [hl.out]; exact hlt)
        have c1 := hh.at1 i (by rw [hl.out]; exact hlt)
        have c2 := hh.at0 p (by rw [hl.out]; omega)
        have c3 := hh.at1 p (by rw [hl.out]; omega)
        have g0 := After.cell (by exact hh.lt) c0
        have g1 := After.cell (by exact hh.lt) c1
        have g2 := After.cell (by exact hh.lt) c2
        have g3 := After.cell (by exact hh.lt) c3
        have hstep := Lib.hid (cmpct_take hi0 (by rw [hl.out]; exact hlt : i < S.length))
        have hp' := Lib.hid hp'
        rename_i q
        clear q c0 c1 c2 c3 hh
        rw [show i - 1 = p by have := hp'.out; omega] at hstep
        generalize hu : pth S i = u at g0 g1 hstep
        generalize hv : pth S p = v at g2 g3 hstep
        have hu := Lib.hid hu
        have hv := Lib.hid hv
        rename_i q1 q2
        clear q1 q2
        obtain ⟨u, u'⟩ := u
        obtain ⟨v, v'⟩ := v
        by_cases huv : u = v
        · subst huv
          have hs : (u == u) = true := by simp
          have K0 : CompAt S S i (i + 1) := by
            have e1 := hstep.out
            rw [if_pos rfl, List.append_nil, hcmp.out] at e1
            exact ⟨rfl, by rw [e1, List.length_take, hl.out]; omega, e1.symm, by omega, fun q _ => rfl⟩
          have K0 := Lib.hid K0
          rename_i q
          clear q
          go_wp2_with fail
          refine wp_region_after (by kernel_rfl) (by kernel_rfl) ?_
          repeat (first | go_big_quiet_step ((go_at_call 117; exact after_of (eqWho_is hs u' v' _))) | quiet_step ((go_at_call 117; exact after_of (eqWho_is hs u' v' _))))
          refine wpQuiet_nil ?_
          intro pw
          have E := bel_trans hbel pw.bel
          clear g0 g1 g2 g3
          go_wp2_with fail
          go_loopw [5, 7] (fun iv kv wr => ∃ (i' k : Nat) (d : List (Int × Int)), iv = .int .i64 i' ∧ kv = .int .i64 k ∧ 0 < k ∧ i + k ≤ n ∧ CompAt S d i' (i + k) ∧ Held wr g d ∧ w.grownBy wr (some g)) (fun _ k _ => n - (intOf k).toNat)
          case atStart => exact ⟨i, 1, S, rfl, rfl, by omega, by omega, K0.out, HH.out.later E, grown_bel E _⟩
          case round =>
            obtain ⟨i', k, d, rfl, rfl, hk0, hkn, hK, hh, hg⟩ := hrel
            have hK4 := hK.2.2.2.1
            have hK1 := hK.1
            by_cases hlt2 : i + k < n
            · have hlt2' : (k : Int) < ((n - i : Nat) : Int) := by omega
              obtain ⟨r, hr, hr'⟩ : ∃ r : Nat, (k : Int) - 1 = (r : Int) ∧ r + 1 = k := ⟨k - 1, by omega, by omega⟩
              have hrn : (r : Int) < ((n - i : Nat) : Int) := by omega
              have c0 := hh.at0 (i + k) (by rw [hK1, hl.out]; exact hlt2)
              have c1 := hh.at1 (i + k) (by rw [hK1, hl.out]; exact hlt2)
              have c2 := hh.at0 (i + r) (by rw [hK1, hl.out]; omega)
              have c3 := hh.at1 (i + r) (by rw [hK1, hl.out]; omega)
              have c4 := hh.at0 i' (by rw [hK1, hl.out]; omega)
              have c5 := hh.at1 i' (by rw [hK1, hl.out]; omega)
              rw [hK.2.2.2.2 (i + k) (by omega)] at c0 c1
              rw [hK.2.2.2.2 (i + r) (by omega)] at c2 c3
              have hskip := Lib.hid (hK.skip (by omega) (by rw [hl.out]; exact hlt2))
              have hkeep := Lib.hid (hK.keep (by omega) (by rw [hl.out]; exact hlt2))
              rw [show i + k - 1 = i + r by omega] at hskip hkeep
              generalize hx : pth S (i + k) = x at c0 c1 hskip hkeep
              generalize hy : pth S (i + r) = y at c2 c3 hskip hkeep
              have HS := Lib.hid (fun (W : World) (h : Held W g d) => h.put i' x)
              have hx := Lib.hid hx
              have hy := Lib.hid hy
              have hK1 := Lib.hid hK1
              have hr' := Lib.hid hr'
              rw [show (i + k) * 2 = i * 2 + k * 2 by omega] at c0 c1
              rw [show (i + r) * 2 = i * 2 + r * 2 by omega] at c2 c3
              have g0 := After.cell (by exact hh.lt) c0
              have g1 := After.cell (by exact hh.lt) c1
              have g2 := After.cell (by exact hh.lt) c2
              have g3 := After.cell (by exact hh.lt) c3
              have g4 := After.cell (by exact hh.lt) c4
              have g5 := After.cell (by exact hh.lt) c5
              have hin' : (i' : Int) < (n : Int) := by omega
              have hk8 : (k : Int) ≤ 4194304 := by omega
              rename_i q1 q2 q3 q4
              clear q1 q2 q3 q4 c0 c1 c2 c3 c4 c5 hK
              have hh := Lib.hid hh
              rename_i q1
              clear q1
              obtain ⟨x, x'⟩ := x
              obtain ⟨y, y'⟩ := y
              by_cases hxy : x = y
              · have K1 := Lib.hid (hskip.out hxy)
                subst hxy
                have hs : (x == x) = true := by simp
                go_wp2_with fail
                refine wp_region_after (by kernel_rfl) (by kernel_rfl) ?_
                repeat (first | go_big_quiet_step ((go_at_call 117; exact after_of (eqWho_is hs x' y' _))) | quiet_step ((go_at_call 117; exact after_of (eqWho_is hs x' y' _))))
                refine wpQuiet_nil ?_
                intro pw
                have hh3 := hh.out.later pw.bel
                have hg3 := grown_trans hg (grown_bel pw.bel (some g))
                clear g0 g1 g2 g3 g4 g5
                go_wp2
                go_roundw
                case rel => exact ⟨i', k + 1, d, rfl, by go_num, by omega, by omega, K1.out, hh3, hg3⟩
                case measure => simp [intOf]; omega
              · have K1 := Lib.hid (hkeep.out hxy)
                have hs : (x == y) = false := by simp [hxy]
                have hxy := Lib.hid hxy
                rename_i q1
                clear q1
                go_wp2_with fail
                refine wp_region_after (by kernel_rfl) (by kernel_rfl) ?_
                repeat (first | go_big_quiet_step ((go_at_call 117; exact after_of (eqWho_is hs x' y' _))) | quiet_step ((go_at_call 117; exact after_of (eqWho_is hs x' y' _))))
                refine wpQuiet_nil ?_
                intro pw
                have hh3 := hh.out.later pw.bel
                have hg3 := grown_trans hg (grown_bel pw.bel (some g))
                have d0 := g0 pw
                have d1 := g1 pw
                have d4 := g4 pw
                have d5 := g5 pw
                have fr := hh3.fr
                have HP := Lib.hid (hh3.put i' (x, x'))
                clear g0 g1 g2 g3 g4 g5 hh3
                go_wp2
                go_roundw
                case rel => exact ⟨i' + 1, k + 1, d.set i' (x, x'), by go_num, by go_num, by omega, by omega, K1.out, HP.out, grown_set (grown_set hg3 _ _) _ _⟩
                case measure => simp [intOf]; omega
            · have hend : i + k = n := by omega
              have hK' : (cmpct S).length = i' ∧ d.take i' = cmpct S := by
                have h2 := hK.2.1
                have h3 := hK.2.2.1
                rw [hend, ← hl.out, List.take_length] at h2 h3
                exact ⟨h2, h3⟩
              have hend := Lib.hid hend
              obtain ⟨vs, hvs⟩ := clear_pairs wr 0 g i' (n - i') (cap - i') d (by omega) (by rw [hK1, hl.out]; omega) hh
              have hcl : ∀ ty, (Builtin.clear_ #[29] ty #[.slice (some ⟨g, i' * 2, none⟩) (n - i') (cap - i')]).run Tryz.prog wr = .ok (.tuple #[]) (wr.setCells g (i' * 2) vs) := fun ty => hvs
              have hlt2' : ¬ (k : Int) < ((n - i : Nat) : Int) := by omega
              have hK3 := Lib.hid hK'
              have hh := Lib.hid hh
              rename_i q1 q2
              clear q1 q2 hK hK' hvs hK1
              go_wp2
              go_ret
              rw [show i' = (cmpct S).length from hK3.out.1.symm]
              exact ⟨rfl, by rw [hK3.out.1]; exact hh.out.cut hK3.out.2 hK3.out.1 vs, grown_setCells hg _ vs⟩
        · have hs : (u == v) = false := by simp [huv]
          have K1 : cmpct (S.take (i + 1)) = S.take (i + 1) := by
            have e1 := hstep.out
            rw [if_neg huv, hcmp.out] at e1
            rw [e1, List.take_succ_eq_append_getElem (by rw [hl.out]; exact hlt), ← pth_lt (by rw [hl.out]; exact hlt), hu.out]
          have K1 := Lib.hid K1
          have huv := Lib.hid huv
          rename_i q1 q2
          clear q1 q2
          go_wp2_with fail
          refine wp_region_after (by kernel_rfl) (by kernel_rfl) ?_
          repeat (first | go_big_quiet_step ((go_at_call 117; exact after_of (eqWho_is hs u' v' _))) | quiet_step ((go_at_call 117; exact after_of (eqWho_is hs u' v' _))))
          refine wpQuiet_nil ?_
          intro pw
          have E := bel_trans hbel pw.bel
          clear g0 g1 g2 g3
          go_wp2
          go_roundw
          case rel => exact ⟨i + 1, by go_num, by omega, by omega, K1.out, E⟩
          case measure => simp [intOf]; omega
      · obtain rfl : i = n := by omega
        go_wp2
        go_ret
        have e := hcmp.out
        rw [← hl.out, List.take_length] at e
        rw [e]
        exact ⟨by rw [hl.out]; rfl, HH.out.later hbel, grown_bel hbel _⟩

end Go.Proofs.YtghdnokjgmmgiaaGreat
