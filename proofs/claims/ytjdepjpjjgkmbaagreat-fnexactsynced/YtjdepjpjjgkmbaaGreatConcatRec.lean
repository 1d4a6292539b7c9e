/- The library's Grow and Concat over lists of records: two of them, one behind the other; conditions: the sizes. -/
import Derived.Test.YtjdepjpjjgkmbaaGreatRecList
import Derived.Lib.AppendZerosOnto
import Derived.Laws.AppendOwnNone
namespace Go.Proofs.YtjdepjpjjgkmbaaGreat
open Go Go.RowKit

theorem Tryz.infoRecI : (Tryz.prog.info? 46).map (fun i => (i.zero, i.size, i.bytes)) = some (some (.agg #[.int .i64 0, .int .i64 0, .int .i64 0, .int .i64 0, .int .i64 0, .int .i64 0, .int .i64 0, .slice none 0 0, .int .i64 0]), 9, 88) := by kernel_rfl
set_option maxRecDepth 100000 in
set_option maxHeartbeats 1000000 in
theorem growRec_is (n : Nat) (w : World) (hn : n ≤ 4194304) :
    Calls Tryz.prog 179 #[.slice none 0 0, .int .i64 n] w fun e w' => ∃ v, e = .returned v ∧ w'.ownsRow w.heap.size 46 9 v 0 [] ∧ Below w.heap.size w w' := by
  obtain ⟨i0, hi0, hz0, hz1, hz2⟩ := info_parts Tryz.infoRecI
  rcases Nat.eq_zero_or_pos n with rfl | hpos
  · go_enter Tryz.func179, Tryz.ntmps179
    go_wp2
    go_ret
    exact ⟨_, rfl, World.ownsRow_nil w _ _ _, Below.refl _ _⟩
  · have hrz : ∀ ty, (Builtin.append_ #[27, 3] ty #[.slice none 0 0, .int .i64 (n : Int)]).run Tryz.prog w =
        .ok (.slice (some ⟨w.heap.size, 0, none⟩) n (grownCap w n 0 46)) (w.drew.alloc (.cells (#[] ++ Builtin.zeroCells (Value.agg #[.int .i64 0, .int .i64 0, .int .i64 0, .int .i64 0, .int .i64 0, .int .i64 0, .int .i64 0, .slice none 0 0, .int .i64 0]).cells n ++ Builtin.zeroCells (Value.agg #[.int .i64 0, .int .i64 0, .int .i64 0, .int .i64 0, .int .i64 0, .int .i64 0, .int .i64 0, .slice none 0 0, .int .i64 0]).cells (grownCap w n 0 46 - n)) 46)) := fun ty => by
      have h := Lib.run_append_grow_zeros w 27 3 ty 46 i0 _ .i64 .i64 Tryz.underlying27 Tryz.underlying3 hi0 hz0 none 0 0 [] (run_firstCells_none w.drew i0.size 0 0 0) n (by omega) (by omega) (by omega) (by omega)
        (by rw [hz2]; omega) (by rw [Nat.zero_add]; exact growslice_fits hpos (by rw [hz2]; omega))
      simpa using h
    have hGn := grownCap_ge w n 0 46
    have hGm := grownCap_le_maxLen w n 0 46 (by unfold maxLen; omega)
    generalize grownCap w n 0 46 = G at hrz hGn hGm
    have hG := Lib.hid hGm
    unfold maxLen at hGm
    have hp : (0 : Int) < (n : Int) := by omega
    go_enter Tryz.func179, Tryz.ntmps179
    go_wp2_with (at_builtin; refine Lib.wpList_append_run _ rfl _ _ _ _ rfl _ _ rfl rfl _ _ (hrz _) ?_)
    go_ret
    refine ⟨_, rfl, ?_, ((Below.refl _ _).drew).alloc (Nat.le_refl _) _⟩
    exact World.ownsRow_made w.drew _ G (Nat.le_refl _) hG.out (by simp [size_zeroCells]; show n * 9 + (G - n) * 9 = G * 9; omega)

set_option maxRecDepth 100000 in
set_option maxHeartbeats 1000000 in
theorem concatRec_is (q : Nat) (v v' : Value) (n n' : Nat) (xs xs' : List Value) (w : World) (hn : n + n' ≤ 2097152) (Q : Box w q 27 #[v, v']) (h : Src w v n 9 xs) (h' : Src w v' n' 9 xs') :
    Calls Tryz.prog 132 #[.slice (some ⟨q, 0, none⟩) 2 2] w fun e w' => ∃ u, e = .returned u ∧ w'.ownsRow w.heap.size 46 9 u (n + n') (xs ++ xs') ∧ Below w.heap.size w w' := by
  obtain ⟨i0, hi0, hz0, hz1, hz2⟩ := info_parts Tryz.infoRecI
  have hq := Q.lt
  obtain ⟨A, cap, hv⟩ : ∃ (A : Option Addr) (cap : Nat), v = .slice A n cap := by
    rcases h with ⟨rfl, rfl, _⟩ | ⟨ad, c, rfl, _⟩ <;> exact ⟨_, _, rfl⟩
  obtain ⟨A', cap', hv'⟩ : ∃ (A : Option Addr) (cap : Nat), v' = .slice A n' cap := by
    rcases h' with ⟨rfl, rfl, _⟩ | ⟨ad, c, rfl, _⟩ <;> exact ⟨_, _, rfl⟩
  subst hv hv'
  have HQ := Lib.hid Q
  have HS := Lib.hid h
  have HS' := Lib.hid h'
  clear Q h h'
  obtain ⟨s, hs, hs'⟩ : ∃ s : Nat, (n : Int) + (n' : Int) = (s : Int) ∧ n + n' = s := ⟨n + n', by omega, rfl⟩
  have hs' := Lib.hid hs'
  rename_i q1
  clear q1
  go_enter Tryz.func132, Tryz.ntmps132
  go_wp2_with fail
  go_loopw [3, 11] (fun sv iv wr => wr = w ∧ ((sv = .int .i64 0 ∧ iv = .int .i64 0) ∨ (sv = .int .i64 n ∧ iv = .int .i64 1) ∨ (sv = .int .i64 s ∧ iv = .int .i64 2))) (fun _ i _ => 2 - (intOf i).toNat)
  case atStart => exact ⟨rfl, .inl ⟨rfl, rfl⟩⟩
  case round =>
    obtain ⟨rfl, ⟨rfl, rfl⟩ | ⟨rfl, rfl⟩ | ⟨rfl, rfl⟩⟩ := hrel
    · obtain ⟨c0, c1⟩ := HQ.out.two
      go_wp2
      go_roundw
      case rel => exact ⟨trivial, .inr (.inl ⟨by go_num, rfl⟩)⟩
      case measure => simp [intOf]
    · obtain ⟨c0, c1⟩ := HQ.out.two
      go_wp2
      go_roundw
      case rel => exact ⟨trivial, .inr (.inr ⟨rfl, rfl⟩)⟩
      case measure => simp [intOf]
    · go_wp2_with fail
      refine (growRec_is s _ (by have := hs'.out; omega)).mono ?_
      rintro e w1 ⟨u, rfl, hown, hb⟩
      have hown1 := Lib.hid hown
      clear hown
      obtain ⟨w0, rfl⟩ : ∃ w0, w0 = wr := ⟨_, rfl⟩
      go_wp2_with fail
      go_loopw [6, 27] (fun uv iv wr => Below w0.heap.size w0 wr ∧ ((iv = .int .i64 0 ∧ wr.ownsRow w0.heap.size 46 9 uv 0 []) ∨ (iv = .int .i64 1 ∧ wr.ownsRow w0.heap.size 46 9 uv n xs) ∨ (iv = .int .i64 2 ∧ wr.ownsRow w0.heap.size 46 9 uv s (xs ++ xs')))) (fun _ i _ => 2 - (intOf i).toNat)
      case atStart => exact ⟨hb, .inl ⟨rfl, hown1.out⟩⟩
      case round =>
        obtain ⟨hbel, ⟨rfl, hown⟩ | ⟨rfl, hown⟩ | ⟨rfl, hown⟩⟩ := hrel
        · have hc := (HQ.out.later hbel HQ.out.lt |>.two)
          rcases HS.out with ⟨hv, hps, hxs⟩ | ⟨ad, c, hv, hl, hnews, hone⟩
          · injection hv with e1 e2 e3
            subst e1 e2 e3
            have hxs := Lib.hid hxs
            rename_i q1
            clear q1 hps
            go_wp2_with (at_builtin; refine wpList_append_own_none rfl _ _ _ rfl w0.heap.size 46 i0 9 Tryz.underlying27 hi0 u6 0 [] rfl hown rfl ?_)
            go_roundw
            case rel => exact ⟨hbel, .inr (.inl ⟨rfl, by rw [hxs.out]; exact hown⟩)⟩
            case measure => simp [intOf]
          · injection hv with e1 e2 e3
            subst e1 e3
            have hbs := hbel.size
            have hoL := Lib.hid hown
            have hN : ∀ j x, xs[j]? = some x → wr.cell? (ad.add j) = some x := fun j x hx => by
              have := hnews j x hx
              exact (hbel.cell (p := ad.add j) (block_lt_of_cell this)).trans this
            have HN := Lib.hid hN
            have HO := Lib.hid hone
            have HLn := Lib.hid hl
            clear hN hone hl hnews
            go_wp2_with (at_builtin; refine wpList_append_own _ rfl _ _ _ rfl w0.heap.size 46 i0 _ 9 88 Tryz.underlying27 hi0 hz0 hz1 hz2 rfl (by omega) u6 0 [] rfl hown ad n cap xs rfl HLn.out HN.out HO.out (by unfold maxLen; omega) (by omega) hbs ?_; intro u1 w2 hown2 hgrow2 _)
            have E2 := hbel.grown hgrow2 hbs (fun k hk => (hoL.out.lt k hk).1)
            have hown3 := Lib.hid hown2
            clear hown2
            go_roundw
            case rel => exact ⟨E2, .inr (.inl ⟨rfl, by simpa using hown3.out⟩)⟩
            case measure => simp [intOf]
        · have hc := (HQ.out.later hbel HQ.out.lt |>.two)
          rcases HS'.out with ⟨hv, hps, hxs⟩ | ⟨ad, c, hv, hl, hnews, hone⟩
          · injection hv with e1 e2 e3
            subst e1 e2 e3
            have hxs := Lib.hid hxs
            rename_i q1
            clear q1 hps
            go_wp2_with (at_builtin; refine wpList_append_own_none rfl _ _ _ rfl w0.heap.size 46 i0 9 Tryz.underlying27 hi0 u6 n xs rfl hown rfl ?_)
            go_roundw
            case rel => exact ⟨hbel, .inr (.inr ⟨rfl, by rw [hxs.out, List.append_nil, ← hs'.out]; exact hown⟩)⟩
            case measure => simp [intOf]
          · injection hv with e1 e2 e3
            subst e1 e3
            have hbs := hbel.size
            have hoL := Lib.hid hown
            have hN : ∀ j x, xs'[j]? = some x → wr.cell? (ad.add j) = some x := fun j x hx => by
              have := hnews j x hx
              exact (hbel.cell (p := ad.add j) (block_lt_of_cell this)).trans this
            have HN := Lib.hid hN
            have HO := Lib.hid hone
            have HLn := Lib.hid hl
            clear hN hone hl hnews
            go_wp2_with (at_builtin; refine wpList_append_own _ rfl _ _ _ rfl w0.heap.size 46 i0 _ 9 88 Tryz.underlying27 hi0 hz0 hz1 hz2 rfl (by omega) u6 n xs rfl hown ad n' cap' xs' rfl HLn.out HN.out HO.out (by unfold maxLen; omega) (by omega) hbs ?_; intro u1 w2 hown2 hgrow2 _)
            have E2 := hbel.grown hgrow2 hbs (fun k hk => (hoL.out.lt k hk).1)
            have hown3 := Lib.hid hown2
            clear hown2
            go_roundw
            case rel => exact ⟨E2, .inr (.inr ⟨rfl, by rw [← hs'.out]; exact hown3.out⟩)⟩
            case measure => simp [intOf]
        · have hown2 := Lib.hid hown
          clear hown
          go_wp2
          go_ret
          exact ⟨_, rfl, by rw [hs'.out]; exact hown2.out, hbel⟩
end Go.Proofs.YtjdepjpjjgkmbaaGreat
