/- Copies of lists in memory of their own (the library's Clone, Grow and Concat), and a shelf as a board and back: contracts of each of them. -/
import Derived.Test.YtjdepjpjjgkmbaaGreatReg1
import Derived.Test.YtjdepjpjjgkmbaaGreatCopiesReg
import Derived.Test.YtjdepjpjjgkmbaaGreatJoin
import Derived.Lib.SliceRun
namespace Go.Proofs.YtjdepjpjjgkmbaaGreat
open Go.RowKit

/-- A slice of opens: nil, or somewhere. -/
def SlcQ (w : World) (v : Value) (os : List Opn) : Prop :=
  (v = .slice none 0 0 ∧ os = []) ∨ ∃ b o n cap, v = .slice (some ⟨b, o, none⟩) n cap ∧ n ≤ cap ∧ cap ≤ maxLen ∧ Quads w w.heap.size (some ⟨b, o, none⟩) n os
theorem SlcQ.later {w w' : World} {v : Value} {os : List Opn} (h : SlcQ w v os) (hb : Below w.heap.size w w') : SlcQ w' v os := by
  rcases h with h | ⟨b, o, n, cap, rfl, h1, h2, hp⟩
  · exact .inl h
  · exact .inr ⟨b, o, n, cap, rfl, h1, h2, hp.later hb⟩
/-- A list of opens of the call's own: nil, or a new block from its beginning. -/
def OwnQ (w : World) (v : Value) (os : List Opn) (w' : World) : Prop :=
  ((v = .slice none 0 0 ∧ os = []) ∨ ∃ g cap, w.heap.size ≤ g ∧ v = .slice (some ⟨g, 0, none⟩) os.length cap ∧ os.length ≤ cap ∧ cap ≤ maxLen ∧ HeldQ w' g os) ∧ Below w.heap.size w w'
theorem OwnQ.later {w w1 w' : World} {v : Value} {os : List Opn} (h : OwnQ w v os w1) (hb : Below w1.heap.size w1 w') : OwnQ w v os w' := by
  refine ⟨?_, bel_trans h.2 hb⟩
  rcases h.1 with h | ⟨g, cap, hg, rfl, h1, h2, hh⟩
  · exact .inl h
  · exact .inr ⟨g, cap, hg, rfl, h1, h2, hh.later hb⟩
theorem OwnQ.slc {w w' : World} {v : Value} {os : List Opn} (h : OwnQ w v os w') : SlcQ w' v os := by
  rcases h.1 with h | ⟨g, cap, _, rfl, h1, h2, hh⟩
  · exact .inl h
  · exact .inr ⟨g, 0, _, cap, rfl, h1, h2, hh.quads⟩
theorem ownQ_of {w w' : World} {t : TypeId} {u : Value} {os : List Opn} (h : w'.ownsRow w.heap.size t 4 u os.length (flatO os)) (hb : Below w.heap.size w w') : OwnQ w u os w' := by
  refine ⟨?_, hb⟩
  have h0 := h
  rcases h.2 with ⟨rfl, hz⟩ | ⟨g, cap, cur, rfl, hbg, hg, hnc, hcm, _, _⟩
  · exact .inl ⟨rfl, List.length_eq_zero_iff.1 hz⟩
  · exact .inr ⟨g, cap, hbg, rfl, hnc, hcm, own_heldQ h0⟩
theorem own_of {w w' : World} {t : TypeId} {u : Value} {ps : List (Int × Int)} (h : w'.ownsRow w.heap.size t 2 u ps.length (flatP ps)) (hb : Below w.heap.size w w') : Own w u ps w' := by
  refine ⟨?_, hb⟩
  have h0 := h
  rcases h.2 with ⟨rfl, hz⟩ | ⟨g, cap, cur, rfl, hbg, hg, hnc, hcm, _, _⟩
  · exact .inl ⟨rfl, List.length_eq_zero_iff.1 hz⟩
  · exact .inr ⟨g, cap, hbg, rfl, hnc, hcm, own_held h0⟩
theorem own_new (w : World) (t : TypeId) (z : Nat) : (w.alloc (.cells #[] t)).ownsRow w.heap.size t z (.slice (some ⟨w.heap.size, 0, none⟩) 0 0) 0 [] :=
  ⟨by simp, .inr ⟨w.heap.size, 0, #[], rfl, Nat.le_refl _, Box.new w t #[], Nat.le_refl _, Nat.zero_le _, by simp, by simp⟩⟩

set_option maxRecDepth 100000 in
set_option maxHeartbeats 1000000 in
theorem cloneSeals_is (v : Value) (ps : List (Int × Int)) (w : World) (hn : ps.length ≤ 4194304) (h : Slc w v ps) :
    Calls Tryz.prog 129 #[v] w fun e w' => ∃ u, e = .returned u ∧ Own w u ps w' := by
  obtain ⟨i0, hi0, hz0, hz1, hz2⟩ := info_parts Tryz.infoSealI
  have qT : ∀ (w : World) (a : Option Addr) (n c n' c' : Nat), (binOp .eql 40 (.slice a n c) (.slice none n' c')).run Tryz.prog w = .ok (.bool a.isNone) w := fun w a n c n' c' => Lib.run_eql_slice_nil w _ _ a n c n' c' Tryz.underlying40
  rcases h with ⟨rfl, rfl⟩ | ⟨b, o, n, cap, rfl, hp⟩
  · go_enter Tryz.func129, Tryz.ntmps129
    go_wp2
    go_ret
    exact ⟨_, rfl, .inl ⟨rfl, rfl⟩, Below.refl _ _⟩
  · have hl := Lib.hid hp.1
    have hb0 := bel_alloc w (.cells #[] 136)
    have HP := Lib.hid (hp.later hb0)
    have hn' : n ≤ 4194304 := by rw [← hp.1]; exact hn
    have hown := own_new w 136 2
    have HO := Lib.hid hown
    have hbs := hb0.size
    clear hp
    go_enter Tryz.func129, Tryz.ntmps129
    go_wp2_with (at_builtin; refine wpList_append_own _ rfl _ _ _ rfl w.heap.size 136 i0 _ 2 16 Tryz.underlying40 hi0 hz0 hz1 hz2 rfl (by omega) (.slice (some ⟨w.heap.size, 0, none⟩) 0 0) 0 [] rfl hown ⟨b, o, none⟩ n cap (flatP ps) rfl (by rw [flatP_len, hl.out]) (pairs_news HP.out) (flatP_one ps) (by unfold maxLen; omega) (by omega) hbs ?_; intro u1 w2 hown2 hgrow2 _; have E2 := hb0.grown hgrow2 hbs (fun k hk => (HO.out.lt k hk).1); have HOW := Lib.hid hown2; clear hown2)
    go_ret
    refine ⟨_, rfl, own_of (t := 136) ?_ E2⟩
    have := HOW.out
    rw [Nat.zero_add, List.nil_append] at this
    rw [hl.out]
    exact this

set_option maxRecDepth 100000 in
set_option maxHeartbeats 1000000 in
theorem cloneOpens_is (v : Value) (ps : List Opn) (w : World) (hn : ps.length ≤ 4194304) (h : SlcQ w v ps) :
    Calls Tryz.prog 202 #[v] w fun e w' => ∃ u, e = .returned u ∧ OwnQ w u ps w' := by
  obtain ⟨i0, hi0, hz0, hz1, hz2⟩ := info_parts Tryz.infoOpen
  have qT : ∀ (w : World) (a : Option Addr) (n c n' c' : Nat), (binOp .eql 78 (.slice a n c) (.slice none n' c')).run Tryz.prog w = .ok (.bool a.isNone) w := fun w a n c n' c' => Lib.run_eql_slice_nil w _ _ a n c n' c' Tryz.underlying78
  rcases h with ⟨rfl, rfl⟩ | ⟨b, o, n, cap, rfl, _, _, hp⟩
  · go_enter Tryz.func202, Tryz.ntmps202
    go_wp2
    go_ret
    exact ⟨_, rfl, .inl ⟨rfl, rfl⟩, Below.refl _ _⟩
  · have hl := Lib.hid hp.1
    have hb0 := bel_alloc w (.cells #[] 97)
    have HP := Lib.hid (hp.later hb0)
    have hn' : n ≤ 4194304 := by rw [← hp.1]; exact hn
    have hown := own_new w 97 4
    have HO := Lib.hid hown
    have hbs := hb0.size
    clear hp
    go_enter Tryz.func202, Tryz.ntmps202
    go_wp2_with (at_builtin; refine wpList_append_own _ rfl _ _ _ rfl w.heap.size 97 i0 _ 4 32 Tryz.underlying78 hi0 hz0 hz1 hz2 rfl (by omega) (.slice (some ⟨w.heap.size, 0, none⟩) 0 0) 0 [] rfl hown ⟨b, o, none⟩ n cap (flatO ps) rfl (by rw [flatO_len, hl.out]) (quads_news HP.out) (flatO_one ps) (by unfold maxLen; omega) (by omega) hbs ?_; intro u1 w2 hown2 hgrow2 _; have E2 := hb0.grown hgrow2 hbs (fun k hk => (HO.out.lt k hk).1); have HOW := Lib.hid hown2; clear hown2)
    go_ret
    refine ⟨_, rfl, ownQ_of (t := 97) ?_ E2⟩
    have := HOW.out
    rw [Nat.zero_add, List.nil_append] at this
    rw [hl.out]
    exact this

set_option maxRecDepth 100000 in
set_option maxHeartbeats 1000000 in
/-- Room for n opens, none of them there yet. -/
theorem growOpens_is (n : Nat) (w : World) (hn : n ≤ 4194304) :
    Calls Tryz.prog 203 #[.slice none 0 0, .int .i64 n] w fun e w' => ∃ v, e = .returned v ∧ w'.ownsRow w.heap.size 97 4 v 0 [] ∧ Below w.heap.size w w' := by
  obtain ⟨i0, hi0, hz0, hz1, hz2⟩ := info_parts Tryz.infoOpen
  rcases Nat.eq_zero_or_pos n with rfl | hpos
  · go_enter Tryz.func203, Tryz.ntmps203
    go_wp2
    go_ret
    exact ⟨_, rfl, World.ownsRow_nil w _ _ _, Below.refl _ _⟩
  · have hrz : ∀ ty, (Builtin.append_ #[78, 3] ty #[.slice none 0 0, .int .i64 (n : Int)]).run Tryz.prog w =
        .ok (.slice (some ⟨w.heap.size, 0, none⟩) n (grownCap w n 0 97)) (w.drew.alloc (.cells (#[] ++ Builtin.zeroCells (Value.agg #[.int .i64 0, .int .i64 0, .int .i64 0, .int .i64 0]).cells n ++ Builtin.zeroCells (Value.agg #[.int .i64 0, .int .i64 0, .int .i64 0, .int .i64 0]).cells (grownCap w n 0 97 - n)) 97)) := fun ty => by
      have h := Lib.run_append_grow_zeros w 78 3 ty 97 i0 _ .i64 .i64 Tryz.underlying78 Tryz.underlying3 hi0 hz0 none 0 0 [] (run_firstCells_none w.drew i0.size 0 0 0) n (by omega) (by omega) (by omega) (by omega)
        (by rw [hz2]; omega) (by rw [Nat.zero_add]; exact growslice_fits hpos (by rw [hz2]; omega))
      simpa using h
    have hGn := grownCap_ge w n 0 97
    have hGm := grownCap_le_maxLen w n 0 97 (by unfold maxLen; omega)
    generalize grownCap w n 0 97 = G at hrz hGn hGm
    have hG := Lib.hid hGm
    unfold maxLen at hGm
    have hp : (0 : Int) < (n : Int) := by omega
    go_enter Tryz.func203, Tryz.ntmps203
    go_wp2_with (at_builtin; refine Lib.wpList_append_run _ rfl _ _ _ _ rfl _ _ rfl rfl _ _ (hrz _) ?_)
    go_ret
    refine ⟨_, rfl, ?_, ((Below.refl _ _).drew).alloc (Nat.le_refl _) _⟩
    exact World.ownsRow_made w.drew _ G (Nat.le_refl _) hG.out (by simp [size_zeroCells]; show n * 4 + (G - n) * 4 = G * 4; omega)

theorem SlcQ.form {w : World} {v : Value} {os : List Opn} (h : SlcQ w v os) : ∃ (A : Option Addr) (n cap : Nat), v = .slice A n cap ∧ os.length = n := by
  rcases h with ⟨rfl, rfl⟩ | ⟨b, o, n, cap, rfl, _, _, hp⟩
  · exact ⟨_, _, _, rfl, rfl⟩
  · exact ⟨_, _, _, rfl, hp.1⟩

set_option maxRecDepth 100000 in
set_option maxHeartbeats 4000000 in
theorem concatOpens_is (q : Nat) (v0 v1 v2 : Value) (o0 o1 o2 : List Opn) (w : World) (hn : o0.length + o1.length + o2.length ≤ 4194304) (Q : Box w q 78 #[v0, v1, v2]) (h0 : SlcQ w v0 o0) (h1 : SlcQ w v1 o1) (h2 : SlcQ w v2 o2) :
    Calls Tryz.prog 158 #[.slice (some ⟨q, 0, none⟩) 3 3] w fun e w' => ∃ u, e = .returned u ∧ OwnQ w u (o0 ++ o1 ++ o2) w' := by
  obtain ⟨i0, hi0, hz0, hz1, hz2⟩ := info_parts Tryz.infoOpen
  have hq := Q.lt
  obtain ⟨A0, n0, c0, hv0, hp0⟩ := h0.form
  obtain ⟨A1, n1, c1, hv1, hp1⟩ := h1.form
  obtain ⟨A2, n2, c2, hv2, hp2⟩ := h2.form
  subst hv0 hv1 hv2
  rw [hp0, hp1, hp2] at hn
  have HQ := Lib.hid Q
  have HS0 := Lib.hid h0
  have HS1 := Lib.hid h1
  have HS2 := Lib.hid h2
  replace hp0 := Lib.hid hp0
  replace hp1 := Lib.hid hp1
  replace hp2 := Lib.hid hp2
  clear Q h0 h1 h2
  obtain ⟨s, hs, hs'⟩ : ∃ s : Nat, (n0 : Int) + (n1 : Int) = (s : Int) ∧ n0 + n1 = s := ⟨n0 + n1, by omega, rfl⟩
  obtain ⟨t, ht, ht'⟩ : ∃ t : Nat, (s : Int) + (n2 : Int) = (t : Int) ∧ s + n2 = t := ⟨s + n2, by omega, rfl⟩
  have hsn : s + n2 ≤ 4194304 := by omega
  replace hs' := Lib.hid hs'
  replace ht' := Lib.hid ht'
  go_enter Tryz.func158, Tryz.ntmps158
  go_wp2_with fail
  go_loopw [3, 11] (fun sv iv wr => wr = w ∧ ((sv = .int .i64 0 ∧ iv = .int .i64 0) ∨ (sv = .int .i64 n0 ∧ iv = .int .i64 1) ∨ (sv = .int .i64 s ∧ iv = .int .i64 2) ∨ (sv = .int .i64 t ∧ iv = .int .i64 3))) (fun _ i _ => 3 - (intOf i).toNat)
  case atStart => exact ⟨rfl, .inl ⟨rfl, rfl⟩⟩
  case round =>
    obtain ⟨rfl, ⟨rfl, rfl⟩ | ⟨rfl, rfl⟩ | ⟨rfl, rfl⟩ | ⟨rfl, rfl⟩⟩ := hrel
    · obtain ⟨d0, d1, d2⟩ := HQ.out.three
      go_wp2
      go_roundw
      case rel => exact ⟨trivial, .inr (.inl ⟨by go_num, rfl⟩)⟩
      case measure => simp [intOf]
    · obtain ⟨d0, d1, d2⟩ := HQ.out.three
      go_wp2
      go_roundw
      case rel => exact ⟨trivial, .inr (.inr (.inl ⟨rfl, rfl⟩))⟩
      case measure => simp [intOf]
    · obtain ⟨d0, d1, d2⟩ := HQ.out.three
      go_wp2
      go_roundw
      case rel => exact ⟨trivial, .inr (.inr (.inr ⟨rfl, rfl⟩))⟩
      case measure => simp [intOf]
    · go_wp2_with fail
      refine (growOpens_is t _ (by have := ht'.out; omega)).mono ?_
      rintro e w1 ⟨u, rfl, hown, hb⟩
      have hown1 := Lib.hid hown
      clear hown
      obtain ⟨w0, rfl⟩ : ∃ w0, w0 = wr := ⟨_, rfl⟩
      go_wp2_with fail
      go_loopw [6, 27] (fun uv iv wr => Below w0.heap.size w0 wr ∧ ((iv = .int .i64 0 ∧ wr.ownsRow w0.heap.size 97 4 uv 0 []) ∨ (iv = .int .i64 1 ∧ wr.ownsRow w0.heap.size 97 4 uv n0 (flatO o0)) ∨ (iv = .int .i64 2 ∧ wr.ownsRow w0.heap.size 97 4 uv s (flatO (o0 ++ o1))) ∨ (iv = .int .i64 3 ∧ wr.ownsRow w0.heap.size 97 4 uv t (flatO (o0 ++ o1 ++ o2))))) (fun _ i _ => 3 - (intOf i).toNat)
      case atStart => exact ⟨hb, .inl ⟨rfl, hown1.out⟩⟩
      case round =>
        obtain ⟨hbel, ⟨rfl, hown⟩ | ⟨rfl, hown⟩ | ⟨rfl, hown⟩ | ⟨rfl, hown⟩⟩ := hrel
        · have hc := (HQ.out.later hbel HQ.out.lt |>.three)
          rcases HS0.out with ⟨hv, hps⟩ | ⟨b, o, m, cc, hv, hcl, hcm, hp⟩
          · injection hv with e1 e2 e3
            subst e1 e2 e3
            replace hps := Lib.hid hps
            go_wp2_with (at_builtin; refine wpList_append_own_none rfl _ _ _ rfl w0.heap.size 97 i0 4 Tryz.underlying78 hi0 u6 0 ([]) rfl hown rfl ?_)
            go_roundw
            case rel => exact ⟨hbel, .inr (.inl ⟨rfl, by rw [hps.out]; exact hown⟩)⟩
            case measure => simp [intOf]
          · injection hv with e1 e2 e3
            subst e1 e2 e3
            replace hp := Lib.hid (hp.later hbel)
            replace hcm := Lib.hid hcm
            have hbs := hbel.size
            have hoL := Lib.hid hown
            go_wp2_with (at_builtin; refine wpList_append_own _ rfl _ _ _ rfl w0.heap.size 97 i0 _ 4 32 Tryz.underlying78 hi0 hz0 hz1 hz2 rfl (by omega) u6 0 ([]) rfl hown ⟨b, o, none⟩ n0 c0 (flatO o0) rfl (by rw [flatO_len, hp0.out]) (quads_news hp.out) (flatO_one o0) (by unfold maxLen; omega) (by omega) hbs ?_; intro u1 w2 hown2 hgrow2 _)
            have E2 := hbel.grown hgrow2 hbs (fun k hk => (hoL.out.lt k hk).1)
            have hown3 := Lib.hid hown2
            clear hown2
            go_roundw
            case rel => exact ⟨E2, .inr (.inl ⟨rfl, by simpa using hown3.out⟩)⟩
            case measure => simp [intOf]
        · have hc := (HQ.out.later hbel HQ.out.lt |>.three)
          rcases HS1.out with ⟨hv, hps⟩ | ⟨b, o, m, cc, hv, hcl, hcm, hp⟩
          · injection hv with e1 e2 e3
            subst e1 e2 e3
            replace hps := Lib.hid hps
            go_wp2_with (at_builtin; refine wpList_append_own_none rfl _ _ _ rfl w0.heap.size 97 i0 4 Tryz.underlying78 hi0 u6 n0 (flatO o0) rfl hown rfl ?_)
            go_roundw
            case rel => exact ⟨hbel, .inr (.inr (.inl ⟨rfl, by rw [hps.out, List.append_nil, ← hs'.out]; exact hown⟩))⟩
            case measure => simp [intOf]
          · injection hv with e1 e2 e3
            subst e1 e2 e3
            replace hp := Lib.hid (hp.later hbel)
            replace hcm := Lib.hid hcm
            have hbs := hbel.size
            have hoL := Lib.hid hown
            go_wp2_with (at_builtin; refine wpList_append_own _ rfl _ _ _ rfl w0.heap.size 97 i0 _ 4 32 Tryz.underlying78 hi0 hz0 hz1 hz2 rfl (by omega) u6 n0 (flatO o0) rfl hown ⟨b, o, none⟩ n1 c1 (flatO o1) rfl (by rw [flatO_len, hp1.out]) (quads_news hp.out) (flatO_one o1) (by unfold maxLen; omega) (by omega) hbs ?_; intro u1 w2 hown2 hgrow2 _)
            have E2 := hbel.grown hgrow2 hbs (fun k hk => (hoL.out.lt k hk).1)
            have hown3 := Lib.hid hown2
            clear hown2
            go_roundw
            case rel => exact ⟨E2, .inr (.inr (.inl ⟨rfl, by rw [flatO_app, ← hs'.out]; exact hown3.out⟩))⟩
            case measure => simp [intOf]
        · have hc := (HQ.out.later hbel HQ.out.lt |>.three)
          rcases HS2.out with ⟨hv, hps⟩ | ⟨b, o, m, cc, hv, hcl, hcm, hp⟩
          · injection hv with e1 e2 e3
            subst e1 e2 e3
            replace hps := Lib.hid hps
            go_wp2_with (at_builtin; refine wpList_append_own_none rfl _ _ _ rfl w0.heap.size 97 i0 4 Tryz.underlying78 hi0 u6 s (flatO (o0 ++ o1)) rfl hown rfl ?_)
            go_roundw
            case rel => exact ⟨hbel, .inr (.inr (.inr ⟨rfl, by rw [hps.out, List.append_nil, ← ht'.out]; exact hown⟩))⟩
            case measure => simp [intOf]
          · injection hv with e1 e2 e3
            subst e1 e2 e3
            replace hp := Lib.hid (hp.later hbel)
            replace hcm := Lib.hid hcm
            have hbs := hbel.size
            have hoL := Lib.hid hown
            go_wp2_with (at_builtin; refine wpList_append_own _ rfl _ _ _ rfl w0.heap.size 97 i0 _ 4 32 Tryz.underlying78 hi0 hz0 hz1 hz2 rfl (by omega) u6 s (flatO (o0 ++ o1)) rfl hown ⟨b, o, none⟩ n2 c2 (flatO o2) rfl (by rw [flatO_len, hp2.out]) (quads_news hp.out) (flatO_one o2) (by unfold maxLen; omega) (by omega) hbs ?_; intro u1 w2 hown2 hgrow2 _)
            have E2 := hbel.grown hgrow2 hbs (fun k hk => (hoL.out.lt k hk).1)
            have hown3 := Lib.hid hown2
            clear hown2
            go_roundw
            case rel => exact ⟨E2, .inr (.inr (.inr ⟨rfl, by rw [flatO_app (o0 ++ o1), ← ht'.out]; exact hown3.out⟩))⟩
            case measure => simp [intOf]
        · have hown2 := Lib.hid hown
          clear hown
          go_wp2
          go_ret
          refine ⟨_, rfl, ownQ_of (t := 97) ?_ hbel⟩
          have e : (o0 ++ o1 ++ o2).length = t := by rw [List.length_append, List.length_append, hp0.out, hp1.out, hp2.out, hs'.out, ht'.out]
          rw [e]
          exact hown2.out

end Go.Proofs.YtjdepjpjjgkmbaaGreat

/- A shelf as a board and back, an open put to its place: contracts of the program's functions. -/
namespace Go.Proofs.YtjdepjpjjgkmbaaGreat
open Go.RowKit

/-- A list of seals in a block of its own from lo to hi, or nil. -/
def ResP (wr : World) (lo hi : Nat) (u : Value) (D : List (Int × Int)) : Prop :=
  (u = .slice none 0 0 ∧ D = []) ∨ ∃ g cap, lo ≤ g ∧ g < hi ∧ u = .slice (some ⟨g, 0, none⟩) D.length cap ∧ D.length ≤ cap ∧ cap ≤ maxLen ∧ Held wr g D
/-- A list of opens in a block of its own from lo on, or nil. -/
def ResO (wr : World) (lo : Nat) (v : Value) (D : List Opn) : Prop :=
  (v = .slice none 0 0 ∧ D = []) ∨ ∃ g cap, lo ≤ g ∧ v = .slice (some ⟨g, 0, none⟩) D.length cap ∧ D.length ≤ cap ∧ cap ≤ maxLen ∧ HeldQ wr g D
theorem ResP.later {wr w' : World} {lo hi : Nat} {u : Value} {D : List (Int × Int)} (h : ResP wr lo hi u D) (hb : Below wr.heap.size wr w') : ResP w' lo hi u D := by
  rcases h with h | ⟨g, cap, h1, h2, h3, h4, h5, h6⟩
  · exact .inl h
  · exact .inr ⟨g, cap, h1, h2, h3, h4, h5, h6.later hb⟩
theorem ResO.later {wr w' : World} {lo : Nat} {v : Value} {D : List Opn} (h : ResO wr lo v D) (hb : Below wr.heap.size wr w') : ResO w' lo v D := by
  rcases h with h | ⟨g, cap, h1, h3, h4, h5, h6⟩
  · exact .inl h
  · exact .inr ⟨g, cap, h1, h3, h4, h5, h6.later hb⟩
theorem ResP.far {w : World} {lo hi : Nat} {u : Value} {D : List (Int × Int)} (h : ResP w lo hi u D) {b : Nat} (hb : b < lo) (o : Nat) (x : Value) : ResP (w.setCell ⟨b, o, none⟩ x) lo hi u D := by
  rcases h with h | ⟨g, cap, h1, h2, h3, h4, h5, h6⟩
  · exact .inl h
  · exact .inr ⟨g, cap, h1, h2, h3, h4, h5, HeldK.far h6 (by omega) o x⟩
theorem ResO.far {w : World} {lo : Nat} {v : Value} {D : List Opn} (h : ResO w lo v D) {b : Nat} (hb : b < lo) (o : Nat) (x : Value) : ResO (w.setCell ⟨b, o, none⟩ x) lo v D := by
  rcases h with h | ⟨g, cap, h1, h3, h4, h5, h6⟩
  · exact .inl h
  · exact .inr ⟨g, cap, h1, h3, h4, h5, h6.far (by omega) o x⟩
theorem ResP.form {wr : World} {lo hi : Nat} {u : Value} {D : List (Int × Int)} (h : ResP wr lo hi u D) : ∃ (A : Option Addr) (cap : Nat), u = .slice A D.length cap ∧ D.length ≤ cap ∧ cap ≤ maxLen ∧ Pairs wr wr.heap.size A D.length D ∧ Slc wr u D := by
  rcases h with ⟨rfl, rfl⟩ | ⟨g, cap, h1, h2, rfl, h4, h5, h6⟩
  · exact ⟨none, 0, rfl, Nat.le_refl _, Nat.zero_le _, ⟨rfl, fun h => absurd h (by simp)⟩, .inl ⟨rfl, rfl⟩⟩
  · exact ⟨_, cap, rfl, h4, h5, h6.pairs, .inr ⟨g, 0, _, cap, rfl, h6.pairs⟩⟩
theorem ResO.form {wr : World} {lo : Nat} {v : Value} {D : List Opn} (h : ResO wr lo v D) : ∃ (A : Option Addr) (cap : Nat), v = .slice A D.length cap ∧ D.length ≤ cap ∧ cap ≤ maxLen ∧ Quads wr wr.heap.size A D.length D ∧ SlcQ wr v D := by
  rcases h with ⟨rfl, rfl⟩ | ⟨g, cap, h1, rfl, h4, h5, h6⟩
  · exact ⟨none, 0, rfl, Nat.le_refl _, Nat.zero_le _, quads_nil _ _ _, .inl ⟨rfl, rfl⟩⟩
  · exact ⟨_, cap, rfl, h4, h5, h6.quads, .inr ⟨g, 0, _, cap, rfl, h4, h5, h6.quads⟩⟩
theorem Own.res {w w' : World} {u : Value} {ps : List (Int × Int)} {lo : Nat} (h : Own w u ps w') (hl : lo ≤ w.heap.size) : ResP w' lo w'.heap.size u ps := by
  rcases h.1 with h | ⟨g, cap, h1, rfl, h3, h4, hh⟩
  · exact .inl h
  · exact .inr ⟨g, cap, by omega, hh.lt, rfl, h3, h4, hh⟩
theorem OwnQ.res {w w' : World} {v : Value} {os : List Opn} {lo : Nat} (h : OwnQ w v os w') (hl : lo ≤ w.heap.size) : ResO w' lo v os := by
  rcases h.1 with h | ⟨g, cap, h1, rfl, h3, h4, hh⟩
  · exact .inl h
  · exact .inr ⟨g, cap, by omega, rfl, h3, h4, hh⟩
theorem ResP.slc {wr : World} {lo hi : Nat} {u : Value} {D : List (Int × Int)} (h : ResP wr lo hi u D) : Slc wr u D := by
  obtain ⟨_, _, _, _, _, _, hs⟩ := h.form
  exact hs
theorem ResO.slc {wr : World} {lo : Nat} {v : Value} {D : List Opn} (h : ResO wr lo v D) : SlcQ wr v D := by
  obtain ⟨_, _, _, _, _, _, hs⟩ := h.form
  exact hs

theorem ResP.wide {wr : World} {lo lo' hi hi' : Nat} {u : Value} {D : List (Int × Int)} (h : ResP wr lo hi u D) (h1 : lo' ≤ lo) (h2 : hi ≤ hi') : ResP wr lo' hi' u D := by
  rcases h with h | ⟨g, cap, a, b, c⟩
  · exact .inl h
  · exact .inr ⟨g, cap, by omega, by omega, c⟩
theorem ResO.wide {wr : World} {lo lo' : Nat} {v : Value} {D : List Opn} (h : ResO wr lo v D) (h1 : lo' ≤ lo) : ResO wr lo' v D := by
  rcases h with h | ⟨g, cap, a, c⟩
  · exact .inl h
  · exact .inr ⟨g, cap, by omega, c⟩
theorem ResP.far5 {w : World} {lo hi : Nat} {u : Value} {D : List (Int × Int)} (h : ResP w lo hi u D) {b : Nat} (hb : b < lo) (x0 x1 x2 x3 x4 : Value) : ResP (((((w.setCell ⟨b, 0, none⟩ x0).setCell ⟨b, 1, none⟩ x1).setCell ⟨b, 2, none⟩ x2).setCell ⟨b, 3, none⟩ x3).setCell ⟨b, 4, none⟩ x4) lo hi u D :=
  ((((h.far hb 0 x0).far hb 1 x1).far hb 2 x2).far hb 3 x3).far hb 4 x4
theorem ResO.far5 {w : World} {lo : Nat} {u : Value} {D : List Opn} (h : ResO w lo u D) {b : Nat} (hb : b < lo) (x0 x1 x2 x3 x4 : Value) : ResO (((((w.setCell ⟨b, 0, none⟩ x0).setCell ⟨b, 1, none⟩ x1).setCell ⟨b, 2, none⟩ x2).setCell ⟨b, 3, none⟩ x3).setCell ⟨b, 4, none⟩ x4) lo u D :=
  ((((h.far hb 0 x0).far hb 1 x1).far hb 2 x2).far hb 3 x3).far hb 4 x4
theorem bel_five {w0 w : World} {b : Nat} (h : Below w0.heap.size w0 w) (hb : w0.heap.size ≤ b) (x0 x1 x2 x3 x4 : Value) : Below w0.heap.size w0 (((((w.setCell ⟨b, 0, none⟩ x0).setCell ⟨b, 1, none⟩ x1).setCell ⟨b, 2, none⟩ x2).setCell ⟨b, 3, none⟩ x3).setCell ⟨b, 4, none⟩ x4) :=
  ((((h.setCell hb x0).setCell hb x1).setCell hb x2).setCell hb x3).setCell hb x4
theorem slc_form {w : World} {v : Value} {ps : List (Int × Int)} (h : Slc w v ps) : ∃ (A : Option Addr) (n cap : Nat), v = .slice A n cap := by
  rcases h with ⟨rfl, _⟩ | ⟨b, o, n, cap, rfl, _⟩ <;> exact ⟨_, _, _, rfl⟩
theorem slcQ_form {w : World} {v : Value} {os : List Opn} (h : SlcQ w v os) : ∃ (A : Option Addr) (n cap : Nat), v = .slice A n cap := by
  rcases h with ⟨rfl, _⟩ | ⟨b, o, n, cap, rfl, _⟩ <;> exact ⟨_, _, _, rfl⟩
theorem tenF {w : World} {g g' : Nat} {t t' : TypeId} {v0 v1 v2 v3 v4 u0 u1 u2 u3 u4 : Value} (h : Box w g t #[v0, v1, v2, v3, v4]) (h' : Box w g' t' #[u0, u1, u2, u3, u4]) :
    w.cell? ⟨g, 0, none⟩ = some v0 ∧ w.cell? ⟨g, 1, none⟩ = some v1 ∧ w.cell? ⟨g, 2, none⟩ = some v2 ∧ w.cell? ⟨g, 3, none⟩ = some v3 ∧ w.cell? ⟨g, 4, none⟩ = some v4 ∧
    w.cell? ⟨g', 0, none⟩ = some u0 ∧ w.cell? ⟨g', 1, none⟩ = some u1 ∧ w.cell? ⟨g', 2, none⟩ = some u2 ∧ w.cell? ⟨g', 3, none⟩ = some u3 ∧ w.cell? ⟨g', 4, none⟩ = some u4 ∧
    w.frozen? ⟨g', 0, none⟩ = false ∧ w.frozen? ⟨g', 1, none⟩ = false ∧ w.frozen? ⟨g', 2, none⟩ = false ∧ w.frozen? ⟨g', 3, none⟩ = false ∧ w.frozen? ⟨g', 4, none⟩ = false :=
  ⟨h.cell 0, h.cell 1, h.cell 2, h.cell 3, h.cell 4, h'.cell 0, h'.cell 1, h'.cell 2, h'.cell 3, h'.cell 4, h'.frozen 0, h'.frozen 1, h'.frozen 2, h'.frozen 3, h'.frozen 4⟩
/-- A shelf that is answered: its lists lie in blocks of their own. -/
def RegR (w : World) (rt rq rv : Int) (ps : List (Int × Int)) (os : List Opn) (e : Ending) (w' : World) : Prop :=
  ∃ (B : Nat) (u v : Value), w.heap.size ≤ B ∧ B ≤ w'.heap.size ∧ e = .returned (.agg #[.int .i64 rt, .int .i64 rq, .int .i64 rv, u, v]) ∧ ResP w' w.heap.size B u ps ∧ ResO w' B v os ∧ Below w.heap.size w w'

theorem boardOf_is (rt rq rv : Int) (P : Option Addr) (p pc : Nat) (Q : Option Addr) (q qc : Nat) (w : World) :
    Calls Tryz.prog 156 #[.agg #[.int .i64 rt, .int .i64 rq, .int .i64 rv, .slice P p pc, .slice Q q qc]] w fun e w' => e = .returned (.agg #[.int .i64 rt, .int .i64 rq, .int .i64 rv, .slice P p pc, .slice Q q qc]) ∧ Below w.heap.size w w' := by
  go_enter Tryz.func156, Tryz.ntmps156
  go_wp2
  exact bodyPost_ret (v := .agg #[.int .i64 rt, .int .i64 rq, .int .i64 rv, .slice P p pc, .slice Q q qc]) (by simp [results, Tryz.results156, go_sem]) rfl ⟨rfl, by
    first
    | exact bel_trans (bel_alloc _ _) (bel_alloc _ _)
    | (repeat (first | (with_reducible exact bel_trans (bel_alloc _ _) (bel_alloc _ _)) | refine Below.setCell ?_ (by simp; try omega) _))⟩

set_option maxRecDepth 100000 in
set_option maxHeartbeats 2000000 in
theorem reg_is (rt rq rv : Int) (P : Option Addr) (p pc : Nat) (Q : Option Addr) (q qc : Nat) (ps : List (Int × Int)) (os : List Opn) (w : World) (hp : ps.length ≤ 4194304) (hq : os.length ≤ 4194304) (h1 : Slc w (.slice P p pc) ps) (h2 : SlcQ w (.slice Q q qc) os) :
    Calls Tryz.prog 157 #[.agg #[.int .i64 rt, .int .i64 rq, .int .i64 rv, .slice P p pc, .slice Q q qc]] w (RegR w rt rq rv ps os) := by
  have D := (Box.new w 201 #[.int .i64 rt, .int .i64 rq, .int .i64 rv, .slice P p pc, .slice Q q qc]).alloc (.cells #[.int .i64 0, .int .i64 0, .int .i64 0, .slice none 0 0, .slice none 0 0] 80)
  have X := Box.new (w.alloc (.cells #[.int .i64 rt, .int .i64 rq, .int .i64 rv, .slice P p pc, .slice Q q qc] 201)) 80 #[.int .i64 0, .int .i64 0, .int .i64 0, .slice none 0 0, .slice none 0 0]
  have hb0 := bel_trans (bel_alloc w (.cells #[.int .i64 rt, .int .i64 rq, .int .i64 rv, .slice P p pc, .slice Q q qc] 201)) (bel_alloc _ (.cells #[.int .i64 0, .int .i64 0, .int .i64 0, .slice none 0 0, .slice none 0 0] 80))
  simp only [World.size_alloc] at X
  have H1 := h1.later hb0
  have H2 := Lib.hid (h2.later hb0)
  clear h1 h2
  go_enter Tryz.func157, Tryz.ntmps157
  go_wp2_with fail
  generalize ((w.alloc _).alloc _ : World) = w0 at hb0 D X H1 H2 ⊢
  obtain ⟨d0, d1, d2, d3, d4⟩ := D.five
  have hXl := X.lt
  have hnn : w.heap.size + 1 ≠ w.heap.size := by omega
  go_region_held3 (fun w' => w'.cell? ⟨w.heap.size, 0, none⟩ = some (.int .i64 rt) ∧ w'.cell? ⟨w.heap.size, 1, none⟩ = some (.int .i64 rq) ∧ w'.cell? ⟨w.heap.size, 2, none⟩ = some (.int .i64 rv) ∧ w'.cell? ⟨w.heap.size, 3, none⟩ = some (.slice P p pc) ∧ w'.cell? ⟨w.heap.size, 4, none⟩ = some (.slice Q q qc))
    (first | (with_reducible exact K2) | (with_reducible exact K1) | go_keep)
    (first
      | (go_at_call 129; refine (cloneSeals_is _ ps _ hp ?_).mono ?_; exact H1; rintro e w1 ⟨u, rfl, hO1⟩; obtain ⟨A1, m1, c1, rfl⟩ := slc_form hO1.slc; have F1 := bel_drew' hO1.2; have K1 := (D.later F1 D.lt).five)
      | (go_at_call 202; refine (cloneOpens_is _ os _ hq (H2.out.later F1)).mono ?_; rintro e w2 ⟨v, rfl, hO2⟩; obtain ⟨A2, m2, c2, rfl⟩ := slcQ_form hO2.slc; have F2 := bel_trans F1 hO2.2; have K2 := (D.later F2 D.lt).five; have X2 := X.later F2 X.lt; obtain ⟨y0, y1, y2, y3, y4⟩ := X2.five; have fy := X2.frozen))
  have R1 := ((hO1.res (lo := w0.heap.size) (Nat.le_refl _)).later hO2.2).far5 (b := w.heap.size + 1) hXl (.int .i64 rt) (.int .i64 rq) (.int .i64 rv) (.slice A1 m1 c1) (.slice A2 m2 c2)
  have R2 := (hO2.res (lo := w1.heap.size) (Nat.le_refl _)).far5 (b := w.heap.size + 1) (Nat.lt_of_lt_of_le hXl F1.size) (.int .i64 rt) (.int .i64 rq) (.int .i64 rv) (.slice A1 m1 c1) (.slice A2 m2 c2)
  have E2 := bel_five (bel_trans hb0 F2) (b := w.heap.size + 1) (by omega) (.int .i64 rt) (.int .i64 rq) (.int .i64 rv) (.slice A1 m1 c1) (.slice A2 m2 c2)
  have hB1 : w.heap.size ≤ w1.heap.size := Nat.le_trans hb0.size F1.size
  have hB2 : w1.heap.size ≤ w2.heap.size := hO2.2.size
  replace R1 := Lib.hid R1
  replace R2 := Lib.hid R2
  replace E2 := Lib.hid E2
  clear K1 K2 hO1 hO2 F1 F2
  go_wp2
  exact bodyPost_ret (v := .agg #[.int .i64 rt, .int .i64 rq, .int .i64 rv, .slice A1 m1 c1, .slice A2 m2 c2]) (by simp [results, Tryz.results157, go_sem, y0, y1, y2, y3, y4]) rfl ⟨w1.heap.size, _, _, hB1, by simp only [size_set]; exact hB2, rfl, R1.out.wide hb0.size (Nat.le_refl _), R2.out, E2.out⟩


theorem place_put {os : List Opn} {o : Opn} {w w' : World} {e : Ending} (h : Place o.1 os w e w') : Below w.heap.size w w' ∧ ∃ i j : Nat, i ≤ os.length ∧ j ≤ os.length ∧ e = .returned (.tuple #[.int .i64 (i : Int), .int .i64 (j : Int)]) ∧ withO os o = putO os i j o := by
  obtain ⟨hb, ⟨i, hi, rfl⟩ | ⟨hn, rfl⟩⟩ := h
  · exact ⟨hb, i, i + 1, by have := hi.1; omega, hi.1, by rw [show ((i + 1 : Nat) : Int) = (i : Int) + 1 by omega], withO_first hi⟩
  · exact ⟨hb, _, _, behN_le _ _, behN_le _ _, rfl, withO_none hn⟩

theorem slcQ_take {w : World} {bb oo q qc i : Nat} {os : List Opn} (h : Quads w w.heap.size (some ⟨bb, oo, none⟩) q os) (hi : i ≤ q) (hc : q ≤ qc) (hm : qc ≤ maxLen) : SlcQ w (.slice (some ⟨bb, oo, none⟩) i qc) (os.take i) :=
  .inr ⟨bb, oo, i, qc, rfl, by omega, hm, h.take hi⟩
theorem slcQ_one {w : World} {g : Nat} {t : TypeId} {a b c d : Int} (h : Box w g t #[.int .i64 a, .int .i64 b, .int .i64 c, .int .i64 d]) : SlcQ w (.slice (some ⟨g, 0, none⟩) 1 1) [(a, b, c, d)] :=
  .inr ⟨g, 0, 1, 1, rfl, Nat.le_refl _, by unfold maxLen; omega, rfl, fun _ => ⟨g, 0, rfl, h.lt, fun i hi => by
    obtain rfl : i = 0 := by omega
    exact ⟨h.cell 0, h.cell 1, h.cell 2, h.cell 3⟩⟩⟩
theorem slcQ_drop {w : World} {bb oo q qc j : Nat} {os : List Opn} (h : Quads w w.heap.size (some ⟨bb, oo, none⟩) q os) (hj : j ≤ q) (hc : q ≤ qc) (hm : qc ≤ maxLen) : SlcQ w (.slice (if qc = j then some ⟨bb, oo, none⟩ else some ⟨bb, oo + j * 4, none⟩) (q - j) (qc - j)) (os.drop j) := by
  by_cases e : qc = j
  · rw [if_pos e]
    have e0 : q - j = 0 := by omega
    have e1 : os.drop j = [] := List.drop_of_length_le (by have := h.1; omega)
    rw [e0, e1]
    exact .inr ⟨bb, oo, 0, qc - j, rfl, by omega, by omega, quads_nil _ _ _⟩
  · rw [if_neg e]
    exact .inr ⟨bb, oo + j * 4, q - j, qc - j, rfl, by omega, by omega, h.drop hj⟩

/-- What WithOpen keeps, behind its list put together. -/
def WithAt (w wr : World) (S : Nat) (rt rq rv : Int) (P : Option Addr) (p pc : Nat) (os : List Opn) : Prop :=
  ∃ (A4 : Option Addr) (m4 c4 : Nat), Box wr (w.heap.size + 1 + 1) 80 #[.int .i64 0, .int .i64 0, .int .i64 0, .slice none 0 0, .slice none 0 0] ∧ Box wr S 201 #[.int .i64 rt, .int .i64 rq, .int .i64 rv, .slice P p pc, .slice A4 m4 c4] ∧ SlcQ wr (.slice A4 m4 c4) os ∧ Below w.heap.size w wr
theorem with_mk {w wr : World} {S : Nat} {rt rq rv : Int} {P : Option Addr} {p pc : Nat} {Q : Value} {A4 : Option Addr} {m4 c4 lo : Nat} {os : List Opn} (hX : Box wr (w.heap.size + 1 + 1) 80 #[.int .i64 0, .int .i64 0, .int .i64 0, .slice none 0 0, .slice none 0 0]) (hY : Box wr S 201 #[.int .i64 rt, .int .i64 rq, .int .i64 rv, .slice P p pc, Q]) (hb : Below w.heap.size w wr) (hS : w.heap.size + 1 + 1 < S) (hO : ResO wr lo (.slice A4 m4 c4) os) (hlo : S < lo) :
    WithAt w (wr.setCell ⟨S, 4, none⟩ (.slice A4 m4 c4)) S rt rq rv P p pc os :=
  ⟨A4, m4, c4, hX.far (p := ⟨S, 4, none⟩) (by show S ≠ _; omega) _, hY.set 4 _, (hO.far hlo 4 _).slc, hb.setCell (p := ⟨S, 4, none⟩) (by show _ ≤ S; omega) _⟩


set_option maxRecDepth 100000 in
/-- WithOpen's last step, of which the walk speaks twice. -/
theorem regr_put {w wc w' : World} {rt rq rv : Int} {ps : List (Int × Int)} {os : List Opn} {B R : Nat} {u v : Value} (E : Below w.heap.size w wc) (hR0 : w.heap.size ≤ R) (hR : R < wc.heap.size) (hB : wc.heap.size ≤ B) (hB' : B ≤ w'.heap.size) (h1 : ResP w' wc.heap.size B u ps) (h2 : ResO w' B v os) (hb : Below wc.heap.size wc w') (x0 x1 x2 x3 x4 : Value) :
    RegR w rt rq rv ps os (.returned (.agg #[.int .i64 rt, .int .i64 rq, .int .i64 rv, u, v])) (((((w'.setCell ⟨R, 0, none⟩ x0).setCell ⟨R, 1, none⟩ x1).setCell ⟨R, 2, none⟩ x2).setCell ⟨R, 3, none⟩ x3).setCell ⟨R, 4, none⟩ x4) :=
  ⟨B, u, v, Nat.le_trans E.size hB, by simp only [size_set]; exact hB', rfl, (h1.far5 hR x0 x1 x2 x3 x4).wide E.size (Nat.le_refl _), h2.far5 (by omega) x0 x1 x2 x3 x4, bel_five (bel_trans E hb) hR0 x0 x1 x2 x3 x4⟩

set_option maxRecDepth 100000 in
set_option maxHeartbeats 2000000 in
theorem withOpen_is (rt rq rv : Int) (P : Option Addr) (p pc : Nat) (Q : Option Addr) (q qc : Nat) (a b c d : Int) (ps : List (Int × Int)) (os : List Opn) (w : World) (hp : ps.length ≤ 2000000) (hq : os.length ≤ 2000000) (h1 : Slc w (.slice P p pc) ps) (h2 : SlcQ w (.slice Q q qc) os) :
    Calls Tryz.prog 102 #[.agg #[.int .i64 rt, .int .i64 rq, .int .i64 rv, .slice P p pc, .slice Q q qc], .agg #[.int .i64 a, .int .i64 b, .int .i64 c, .int .i64 d]] w (RegR w rt rq rv ps (withO os (a, b, c, d))) := by
  have D := ((Box.new w 80 #[.int .i64 rt, .int .i64 rq, .int .i64 rv, .slice P p pc, .slice Q q qc]).alloc (.cells #[.int .i64 a, .int .i64 b, .int .i64 c, .int .i64 d] 97)).alloc (.cells #[.int .i64 0, .int .i64 0, .int .i64 0, .slice none 0 0, .slice none 0 0] 80)
  have O := (Box.new (w.alloc (.cells #[.int .i64 rt, .int .i64 rq, .int .i64 rv, .slice P p pc, .slice Q q qc] 80)) 97 #[.int .i64 a, .int .i64 b, .int .i64 c, .int .i64 d]).alloc (.cells #[.int .i64 0, .int .i64 0, .int .i64 0, .slice none 0 0, .slice none 0 0] 80)
  have X := Box.new ((w.alloc (.cells #[.int .i64 rt, .int .i64 rq, .int .i64 rv, .slice P p pc, .slice Q q qc] 80)).alloc (.cells #[.int .i64 a, .int .i64 b, .int .i64 c, .int .i64 d] 97)) 80 #[.int .i64 0, .int .i64 0, .int .i64 0, .slice none 0 0, .slice none 0 0]
  have hb0 := bel_trans (bel_trans (bel_alloc w (.cells #[.int .i64 rt, .int .i64 rq, .int .i64 rv, .slice P p pc, .slice Q q qc] 80)) (bel_alloc _ (.cells #[.int .i64 a, .int .i64 b, .int .i64 c, .int .i64 d] 97))) (bel_alloc _ (.cells #[.int .i64 0, .int .i64 0, .int .i64 0, .slice none 0 0, .slice none 0 0] 80))
  simp only [World.size_alloc] at X O
  have H1w := Lib.hid h1
  have H2 := Lib.hid (h2.later hb0)
  clear h1 h2
  go_enter Tryz.func102, Tryz.ntmps102
  go_wp2_with fail
  generalize (((w.alloc _).alloc _).alloc _ : World) = w0 at hb0 D O X H2 ⊢
  refine (boardOf_is rt rq rv P p pc Q q qc w0).mono ?_
  rintro e w1 ⟨rfl, hb1⟩
  have O1 := O.later hb1 O.lt
  have X1 := X.later hb1 X.lt
  have E1 := bel_trans hb0 hb1
  have H21 := Lib.hid (H2.out.later hb1)
  clear D O X hb0 hb1 H2
  have Y := Box.new w1 201 #[.int .i64 rt, .int .i64 rq, .int .i64 rv, .slice P p pc, .slice Q q qc]
  have hb2 := bel_alloc w1 (.cells #[.int .i64 rt, .int .i64 rq, .int .i64 rv, .slice P p pc, .slice Q q qc] 201)
  obtain ⟨o0, o1, o2, o3⟩ := O1.four
  have hO1 := O1.lt
  have hX1 := X1.lt
  go_wp2_with fail
  have O2 := O1.later hb2 O1.lt
  have X2 := X1.later hb2 X1.lt
  have E2 := bel_trans E1 hb2
  have H22 := Lib.hid (H21.out.later hb2)
  generalize (w1.alloc _ : World) = w2 at Y hb2 O2 X2 E2 H22 ⊢
  generalize w1.heap.size = S at Y hO1 hX1 ⊢
  clear O1 X1 E1 H21 hb2 o0 o1 o2 o3
  have HQ22 : Hid (∃ A n c, Quads w2 w2.heap.size A n os ∧ Value.slice Q q qc = .slice A n c) := by
    rcases H22.out with ⟨hv, rfl⟩ | ⟨bb, oo, n, cap, hv, _, _, hq⟩
    · exact ⟨none, 0, 0, quads_nil _ _ _, hv⟩
    · exact ⟨_, n, cap, hq, hv⟩
  obtain ⟨A', n', c', hQ, hv⟩ := HQ22.out
  injection hv with e1 e2 e3
  subst e1 e2 e3
  have hql := Lib.hid hQ.1
  have hq' : q ≤ 2000000 := by rw [← hQ.1]; exact hq
  refine (placeOf_is Q q qc os a w2 (by omega) hQ).mono ?_
  intro e w3 hpl
  obtain ⟨hb3, i, j, hi, hj, rfl, hwO⟩ := place_put (o := (a, b, c, d)) hpl
  rw [hwO]
  have O3 := O2.later hb3 O2.lt
  have X3 := X2.later hb3 X2.lt
  have Y3 := Y.later hb3 Y.lt
  have E3 := bel_trans E2 hb3
  have H23 := H22.out.later hb3
  rw [hql.out] at hi hj
  replace hwO := Lib.hid hwO
  clear O2 X2 Y E2 H22 HQ22 hQ hpl hb3
  obtain ⟨o0, o1, o2, o3⟩ := O3.four
  obtain ⟨y0, y1, y2, y3, y4⟩ := Y3.five
  rcases H23 with ⟨hv, hos⟩ | ⟨bb, oo, n, cap, hv, hnc, hcm, hQ⟩
  · injection hv with e1 e2 e3
    subst e1 e2 e3
    obtain rfl : i = 0 := by omega
    obtain rfl : j = 0 := by omega
    subst hos
    have hb4 := bel_trans (bel_alloc w3 (.cells #[.int .i64 a, .int .i64 b, .int .i64 c, .int .i64 d] 97)) (bel_alloc _ (.cells #[.slice none 0 0, .slice (some ⟨w3.heap.size, 0, none⟩) 1 1, .slice none 0 0] 78))
    have BQ := Box.new (w3.alloc (.cells #[.int .i64 a, .int .i64 b, .int .i64 c, .int .i64 d] 97)) 78 #[.slice none 0 0, .slice (some ⟨w3.heap.size, 0, none⟩) 1 1, .slice none 0 0]
    have BO := (Box.new w3 97 #[.int .i64 a, .int .i64 b, .int .i64 c, .int .i64 d]).alloc (.cells #[.slice none 0 0, .slice (some ⟨w3.heap.size, 0, none⟩) 1 1, .slice none 0 0] 78)
    simp only [World.size_alloc] at BQ
    have T1 := slcQ_one BO
    replace T1 := Lib.hid T1
    replace BQ := Lib.hid BQ
    have hS3 := Y3.lt
    have hO3 := O3.lt
    have hX3 := X3.lt
    have fy := Y3.frozen
    have hnl : ([] : List Opn).length + [(a, b, c, d)].length + ([] : List Opn).length ≤ 4194304 := by simp
    clear BO
    go_upto_region 3 with fail
    go_cut [29] (fun _ wr => WithAt w wr S rt rq rv P p pc (putO [] 0 0 (a, b, c, d)))
    case first =>
      go_region_law (first
        | (go_simp; go_at_call 158; refine (concatOpens_is (w3.heap.size + 1) (.slice none 0 0) (.slice (some ⟨w3.heap.size, 0, none⟩) 1 1) (.slice none 0 0) [] [(a, b, c, d)] [] _ hnl ?_ ?_ ?_ ?_).mono ?_; exact BQ.out; exact .inl ⟨rfl, rfl⟩; exact T1.out; exact .inl ⟨rfl, rfl⟩; rintro e w4 ⟨u, rfl, hO4⟩; obtain ⟨A4, m4, c4, rfl⟩ := slcQ_form hO4.slc; have F4 := bel_trans hb4 (bel_drew' hO4.2); have Y4 := Y3.later F4 Y3.lt; have z4 := Y4.cell 4; have fz := Y4.frozen))
      all_goals
        have HW := Lib.hid (with_mk (os := putO [] 0 0 (a, b, c, d)) (X3.later F4 X3.lt) Y4 (bel_trans E3 F4) (by omega) (hO4.res (lo := w3.heap.size) (by simp; omega)) hS3)
        clear z4 fz Y4 F4 hO4
        go_wp2_with fail
        go_meet
        exact HW.out
    case rest =>
    obtain ⟨A4, m4, c4, X4, Y4, hS4, E4⟩ := hcut
    have HS4 := Lib.hid hS4
    clear hS4 BQ T1 hb4 hnl o0 o1 o2 o3 y0 y1 y2 y3 y4 fy O3 X3 Y3 E3
    obtain ⟨y0, y1, y2, y3, y4⟩ := Y4.five
    have hlen : (putO [] 0 0 (a, b, c, d)).length ≤ 4194304 := by rw [putO_len (by simp) (by simp)]; simp
    replace hlen := Lib.hid hlen
    have hX4 := X4.lt
    go_wp2_with fail
    refine (reg_is rt rq rv P p pc A4 m4 c4 ps _ wc (by omega) hlen.out (H1w.out.later E4) HS4.out).mono ?_
    rintro e w5 ⟨B, u, v, hB, hB', rfl, hR1, hR2, hb5⟩
    obtain ⟨A5, c5, rfl, _, _, _, _⟩ := hR1.form
    obtain ⟨A6, c6, rfl, _, _, _, _⟩ := hR2.form
    have X5 := X4.later hb5 X4.lt
    obtain ⟨x0, x1, x2, x3, x4⟩ := X5.five
    have fx := X5.frozen
    have HP := Lib.hid (regr_put (rt := rt) (rq := rq) (rv := rv) (R := w.heap.size + 1 + 1) E4 (by omega) hX4 hB hB' hR1 hR2 hb5)
    rw [← hwO.out] at HP hR2 ⊢
    clear hR1 hR2 y0 y1 y2 y3 y4
    go_wp2
    exact bodyPost_ret (v := .agg #[.int .i64 rt, .int .i64 rq, .int .i64 rv, .slice A5 ps.length c5, .slice A6 (withO [] (a, b, c, d)).length c6]) (by simp [results, Tryz.results102, go_sem, x0, x1, x2, x3, x4]) rfl (HP.out _ _ _ _ _)

  · injection hv with e1 e2 e3
    subst e1 e2 e3
    unfold maxLen at hcm
    have hi0 : (0 : Int) ≤ (i : Int) := by omega
    have hi1 : (i : Int) ≤ (qc : Int) := by omega
    have hj0 : (0 : Int) ≤ (j : Int) := by omega
    have hj1 : (j : Int) ≤ (q : Int) := by omega
    have hj2 : (q : Int) ≤ (qc : Int) := by omega
    obtain ⟨Z, hZ⟩ : ∃ Z : Option Addr, (if qc = j then some ⟨bb, oo, none⟩ else some ⟨bb, oo + j * 4, none⟩) = Z := ⟨_, rfl⟩
    have hb4 := bel_trans (bel_alloc w3 (.cells #[.int .i64 a, .int .i64 b, .int .i64 c, .int .i64 d] 97)) (bel_alloc _ (.cells #[.slice (some ⟨bb, oo, none⟩) i qc, .slice (some ⟨w3.heap.size, 0, none⟩) 1 1, .slice Z (q - j) (qc - j)] 78))
    have BQ := Box.new (w3.alloc (.cells #[.int .i64 a, .int .i64 b, .int .i64 c, .int .i64 d] 97)) 78 #[.slice (some ⟨bb, oo, none⟩) i qc, .slice (some ⟨w3.heap.size, 0, none⟩) 1 1, .slice Z (q - j) (qc - j)]
    have BO := (Box.new w3 97 #[.int .i64 a, .int .i64 b, .int .i64 c, .int .i64 d]).alloc (.cells #[.slice (some ⟨bb, oo, none⟩) i qc, .slice (some ⟨w3.heap.size, 0, none⟩) 1 1, .slice Z (q - j) (qc - j)] 78)
    simp only [World.size_alloc] at BQ
    have T0 := slcQ_take (hQ.later hb4) hi hnc (show qc ≤ maxLen by unfold maxLen; omega)
    have T1 := slcQ_one BO
    have T2 := slcQ_drop (hQ.later hb4) hj hnc (show qc ≤ maxLen by unfold maxLen; omega)
    have hnl : (os.take i).length + [(a, b, c, d)].length + (os.drop j).length ≤ 4194304 := by rw [List.length_take, List.length_drop, List.length_singleton, hql.out]; omega
    rw [hZ] at T2
    replace T0 := Lib.hid T0
    replace T1 := Lib.hid T1
    replace T2 := Lib.hid T2
    replace BQ := Lib.hid BQ
    have hS3 := Y3.lt
    have hO3 := O3.lt
    have hX3 := X3.lt
    have fy := Y3.frozen
    clear hQ BO
    go_upto_region 3 with fail
    go_cut [29] (fun _ wr => WithAt w wr S rt rq rv P p pc (putO os i j (a, b, c, d)))
    case first =>
      go_region_law (first
        | (go_simp; go_at_call 158; refine (concatOpens_is (w3.heap.size + 1) (.slice (some ⟨bb, oo, none⟩) i qc) (.slice (some ⟨w3.heap.size, 0, none⟩) 1 1) (.slice Z (q - j) (qc - j)) (os.take i) [(a, b, c, d)] (os.drop j) _ hnl ?_ ?_ ?_ ?_).mono ?_; exact BQ.out; exact T0.out; exact T1.out; exact T2.out; rintro e w4 ⟨u, rfl, hO4⟩; obtain ⟨A4, m4, c4, rfl⟩ := slcQ_form hO4.slc; have F4 := bel_trans hb4 (bel_drew' hO4.2); have Y4 := Y3.later F4 Y3.lt; have z4 := Y4.cell 4; have fz := Y4.frozen))
      all_goals
        have HW := Lib.hid (with_mk (os := putO os i j (a, b, c, d)) (X3.later F4 X3.lt) Y4 (bel_trans E3 F4) (by omega) (hO4.res (lo := w3.heap.size) (by simp; omega)) hS3)
        clear z4 fz Y4 F4 hO4
        go_wp2_with fail
        go_meet
        exact HW.out
    case rest =>
    obtain ⟨A4, m4, c4, X4, Y4, hS4, E4⟩ := hcut
    have HS4 := Lib.hid hS4
    clear hS4 BQ T0 T1 T2 hb4 hnl hZ o0 o1 o2 o3 y0 y1 y2 y3 y4 fy O3 X3 Y3 E3
    obtain ⟨y0, y1, y2, y3, y4⟩ := Y4.five
    have hlen : (putO os i j (a, b, c, d)).length ≤ 4194304 := by rw [putO_len (by rw [hql.out]; exact hi) (by rw [hql.out]; exact hj), hql.out]; omega
    replace hlen := Lib.hid hlen
    have hX4 := X4.lt
    go_wp2_with fail
    refine (reg_is rt rq rv P p pc A4 m4 c4 ps _ wc (by omega) hlen.out (H1w.out.later E4) HS4.out).mono ?_
    rintro e w5 ⟨B, u, v, hB, hB', rfl, hR1, hR2, hb5⟩
    obtain ⟨A5, c5, rfl, _, _, _, _⟩ := hR1.form
    obtain ⟨A6, c6, rfl, _, _, _, _⟩ := hR2.form
    have X5 := X4.later hb5 X4.lt
    obtain ⟨x0, x1, x2, x3, x4⟩ := X5.five
    have fx := X5.frozen
    have HP := Lib.hid (regr_put (rt := rt) (rq := rq) (rv := rv) (R := w.heap.size + 1 + 1) E4 (by omega) hX4 hB hB' hR1 hR2 hb5)
    rw [← hwO.out] at HP hR2 ⊢
    clear hR1 hR2 y0 y1 y2 y3 y4
    go_wp2
    exact bodyPost_ret (v := .agg #[.int .i64 rt, .int .i64 rq, .int .i64 rv, .slice A5 ps.length c5, .slice A6 (withO os (a, b, c, d)).length c6]) (by simp [results, Tryz.results102, go_sem, x0, x1, x2, x3, x4]) rfl (HP.out _ _ _ _ _)

end Go.Proofs.YtjdepjpjjgkmbaaGreat
