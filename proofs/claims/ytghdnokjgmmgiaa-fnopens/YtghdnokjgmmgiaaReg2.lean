/- Copies of lists in memory of their own (the library's Clone, Grow and Concat), and a shelf as a board and back: contracts of each of them. -/
import Derived.Test.YtghdnokjgmmgiaaReg1
import Derived.Test.YtghdnokjgmmgiaaCopiesReg
import Derived.Test.YtghdnokjgmmgiaaJoin
import Derived.Lib.SliceRun
namespace Go.Proofs.Ytghdnokjgmmgiaa
open Go.RowKit

/-- A slice of opens: nil, or somewhere. -/
def SlcQ (w : World) (v : Value) (os : List Opn) : Prop :=
  (v = .slice none 0 0 ∧ os = []) ∨ ∃ b o n cap, v = .slice (some ⟨b, o, none⟩) n cap ∧ n ≤ cap ∧ cap ≤ maxLen ∧ Quads w w.heap.size (some ⟨b, o, none⟩) n os
theorem SlcQ.later {w w' : World} {v : Value} {os : List Opn} (h : SlcQ w v os) (hb : Below w.heap.size w w') : SlcQ w' v os := by
  rcases h with h | ⟨b, o, n, cap, rfl, h1, h2, hp⟩
  · exact .inl h
  · exact .inr ⟨b, o, n, cap, rfl, h1, h2, hp.later hb⟩
/-- A list of opens of the call's own: nil, or a new block from its beginning. -/
def OwnQ (w : World) (v : Value) (os : List Opn) (w' : World) : Prop :=
  ((v = .slice none 0 0 ∧ os = []) ∨ ∃ g cap, w.heap.size ≤ g ∧ v = .slice (some ⟨g, 0, none⟩) os.length cap ∧ os.length ≤ cap ∧ cap ≤ maxLen ∧ HeldQ w' g os) ∧ Below w.heap.size w w'
theorem OwnQ.later {w w1 w' : World} {v : Value} {os : List Opn} (h : OwnQ w v os w1) (hb : Below w1.heap.size w1 w') : OwnQ w v os w' := by
  refine ⟨?_, bel_trans h.2 hb⟩
  rcases h.1 with h | ⟨g, cap, hg, rfl, h1, h2, hh⟩
  · exact .inl h
  · exact .inr ⟨g, cap, hg, rfl, h1, h2, hh.later hb⟩
theorem OwnQ.slc {w w' : World} {v : Value} {os : List Opn} (h : OwnQ w v os w') : SlcQ w' v os := by
  rcases h.1 with h | ⟨g, cap, _, rfl, h1, h2, hh⟩
  · exact .inl h
  · exact .inr ⟨g, 0, _, cap, rfl, h1, h2, hh.quads⟩
theorem ownQ_of {w w' : World} {t : TypeId} {u : Value} {os : List Opn} (h : w'.ownsRow w.heap.size t 4 u os.length (flatO os)) (hb : Below w.heap.size w w') : OwnQ w u os w' := by
  refine ⟨?_, hb⟩
  have h0 := h
  rcases h.2 with ⟨rfl, hz⟩ | ⟨g, cap, cur, rfl, hbg, hg, hnc, hcm, _, _⟩
  · exact .inl ⟨rfl, List.length_eq_zero_iff.1 hz⟩
  · exact .inr ⟨g, cap, hbg, rfl, hnc, hcm, own_heldQ h0⟩
theorem own_of {w w' : World} {t : TypeId} {u : Value} {ps : List (Int × Int)} (h : w'.ownsRow w.heap.size t 2 u ps.length (flatP ps)) (hb : Below w.heap.size w w') : Own w u ps w' := by
  refine ⟨?_, hb⟩
  have h0 := h
  rcases h.2 with ⟨rfl, hz⟩ | ⟨g, cap, cur, rfl, hbg, hg, hnc, hcm, _, _⟩
  · exact .inl ⟨rfl, List.length_eq_zero_iff.1 hz⟩
  · exact .inr ⟨g, cap, hbg, rfl, hnc, hcm, own_held h0⟩
theorem own_new (w : World) (t : TypeId) (z : Nat) : (w.alloc (.cells #[] t)).ownsRow w.heap.size t z (.slice (some ⟨w.heap.size, 0, none⟩) 0 0) 0 [] :=
  ⟨by simp, .inr ⟨w.heap.size, 0, #[], rfl, Nat.le_refl _, Box.new w t #[], Nat.le_refl _, Nat.zero_le _, by simp, by simp⟩⟩

set_option maxRecDepth 100000 in
set_option maxHeartbeats 1000000 in
theorem cloneSeals_is (v : Value) (ps : List (Int × Int)) (w : World) (hn : ps.length ≤ 4194304) (h : Slc w v ps) :
    Calls Try.prog 62 #[v] w fun e w' => ∃ u, e = .returned u ∧ Own w u ps w' := by
  obtain ⟨i0, hi0, hz0, hz1, hz2⟩ := info_parts Try.infoSealI
  have qT : ∀ (w : World) (a : Option Addr) (n c n' c' : Nat), (binOp .eql 26 (.slice a n c) (.slice none n' c')).run Try.prog w = .ok (.bool a.isNone) w := fun w a n c n' c' => Lib.run_eql_slice_nil w _ _ a n c n' c' Try.underlying26
  rcases h with ⟨rfl, rfl⟩ | ⟨b, o, n, cap, rfl, hp⟩
  · go_enter Try.func62, Try.ntmps62
    go_wp2
    go_ret
    exact ⟨_, rfl, .inl ⟨rfl, rfl⟩, Below.refl _ _⟩
  · have hl := Lib.hid hp.1
    have hb0 := bel_alloc w (.cells #[] 100)
    have HP := Lib.hid (hp.later hb0)
    have hn' : n ≤ 4194304 := by rw [← hp.1]; exact hn
    have hown := own_new w 100 2
    have HO := Lib.hid hown
    have hbs := hb0.size
    clear hp
    go_enter Try.func62, Try.ntmps62
    go_wp2_with (at_builtin; refine wpList_append_own _ rfl _ _ _ rfl w.heap.size 100 i0 _ 2 16 Try.underlying26 hi0 hz0 hz1 hz2 rfl (by omega) (.slice (some ⟨w.heap.size, 0, none⟩) 0 0) 0 [] rfl hown ⟨b, o, none⟩ n cap (flatP ps) rfl (by rw [flatP_len, hl.out]) (pairs_news HP.out) (flatP_one ps) (by unfold maxLen; omega) (by omega) hbs ?_; intro u1 w2 hown2 hgrow2 _; have E2 := hb0.grown hgrow2 hbs (fun k hk => (HO.out.lt k hk).1); have HOW := Lib.hid hown2; clear hown2)
    go_ret
    refine ⟨_, rfl, own_of (t := 100) ?_ E2⟩
    have := HOW.out
    rw [Nat.zero_add, List.nil_append] at this
    rw [hl.out]
    exact this

set_option maxRecDepth 100000 in
set_option maxHeartbeats 1000000 in
theorem cloneOpens_is (v : Value) (ps : List Opn) (w : World) (hn : ps.length ≤ 4194304) (h : SlcQ w v ps) :
    Calls Try.prog 63 #[v] w fun e w' => ∃ u, e = .returned u ∧ OwnQ w u ps w' := by
  obtain ⟨i0, hi0, hz0, hz1, hz2⟩ := info_parts Try.infoOpen
  have qT : ∀ (w : World) (a : Option Addr) (n c n' c' : Nat), (binOp .eql 27 (.slice a n c) (.slice none n' c')).run Try.prog w = .ok (.bool a.isNone) w := fun w a n c n' c' => Lib.run_eql_slice_nil w _ _ a n c n' c' Try.underlying27
  rcases h with ⟨rfl, rfl⟩ | ⟨b, o, n, cap, rfl, _, _, hp⟩
  · go_enter Try.func63, Try.ntmps63
    go_wp2
    go_ret
    exact ⟨_, rfl, .inl ⟨rfl, rfl⟩, Below.refl _ _⟩
  · have hl := Lib.hid hp.1
    have hb0 := bel_alloc w (.cells #[] 31)
    have HP := Lib.hid (hp.later hb0)
    have hn' : n ≤ 4194304 := by rw [← hp.1]; exact hn
    have hown := own_new w 31 4
    have HO := Lib.hid hown
    have hbs := hb0.size
    clear hp
    go_enter Try.func63, Try.ntmps63
    go_wp2_with (at_builtin; refine wpList_append_own _ rfl _ _ _ rfl w.heap.size 31 i0 _ 4 32 Try.underlying27 hi0 hz0 hz1 hz2 rfl (by omega) (.slice (some ⟨w.heap.size, 0, none⟩) 0 0) 0 [] rfl hown ⟨b, o, none⟩ n cap (flatO ps) rfl (by rw [flatO_len, hl.out]) (quads_news HP.out) (flatO_one ps) (by unfold maxLen; omega) (by omega) hbs ?_; intro u1 w2 hown2 hgrow2 _; have E2 := hb0.grown hgrow2 hbs (fun k hk => (HO.out.lt k hk).1); have HOW := Lib.hid hown2; clear hown2)
    go_ret
    refine ⟨_, rfl, ownQ_of (t := 31) ?_ E2⟩
    have := HOW.out
    rw [Nat.zero_add, List.nil_append] at this
    rw [hl.out]
    exact this

set_option maxRecDepth 100000 in
set_option maxHeartbeats 1000000 in
/-- Room for n opens, none of them there yet. -/
theorem growOpens_is (n : Nat) (w : World) (hn : n ≤ 4194304) :
    Calls Try.prog 61 #[.slice none 0 0, .int .i64 n] w fun e w' => ∃ v, e = .returned v ∧ w'.ownsRow w.heap.size 31 4 v 0 [] ∧ Below w.heap.size w w' := by
  obtain ⟨i0, hi0, hz0, hz1, hz2⟩ := info_parts Try.infoOpen
  rcases Nat.eq_zero_or_pos n with rfl | hpos
  · go_enter Try.func61, Try.ntmps61
    go_wp2
    go_ret
    exact ⟨_, rfl, World.ownsRow_nil w _ _ _, Below.refl _ _⟩
  · have hrz : ∀ ty, (Builtin.append_ #[27, 3] ty #[.slice none 0 0, .int .i64 (n : Int)]).run Try.prog w =
        .ok (.slice (some ⟨w.heap.size, 0, none⟩) n (grownCap w n 0 31)) (w.drew.alloc (.cells (#[] ++ Builtin.zeroCells (Value.agg #[.int .i64 0, .int .i64 0, .int .i64 0, .int .i64 0]).cells n ++ Builtin.zeroCells (Value.agg #[.int .i64 0, .int .i64 0, .int .i64 0, .int .i64 0]).cells (grownCap w n 0 31 - n)) 31)) := fun ty => by
      have h := Lib.run_append_grow_zeros w 27 3 ty 31 i0 _ .i64 .i64 Try.underlying27 Try.underlying3 hi0 hz0 none 0 0 [] (run_firstCells_none w.drew i0.size 0 0 0) n (by omega) (by omega) (by omega) (by omega)
        (by rw [hz2]; omega) (by rw [Nat.zero_add]; exact growslice_fits hpos (by rw [hz2]; omega))
      simpa using h
    have hGn := grownCap_ge w n 0 31
    have hGm := grownCap_le_maxLen w n 0 31 (by unfold maxLen; omega)
    generalize grownCap w n 0 31 = G at hrz hGn hGm
    have hG := Lib.hid hGm
    unfold maxLen at hGm
    have hp : (0 : Int) < (n : Int) := by omega
    go_enter Try.func61, Try.ntmps61
    go_wp2_with (at_builtin; refine Lib.wpList_append_run _ rfl _ _ _ _ rfl _ _ rfl rfl _ _ (hrz _) ?_)
    go_ret
    refine ⟨_, rfl, ?_, ((Below.refl _ _).drew).alloc (Nat.le_refl _) _⟩
    exact World.ownsRow_made w.drew _ G (Nat.le_refl _) hG.out (by simp [size_zeroCells]; show n * 4 + (G - n) * 4 = G * 4; omega)

theorem SlcQ.form {w : World} {v : Value} {os : List Opn} (h : SlcQ w v os) : ∃ (A : Option Addr) (n cap : Nat), v = .slice A n cap ∧ os.length = n := by
  rcases h with ⟨rfl, rfl⟩ | ⟨b, o, n, cap, rfl, _, _, hp⟩
  · exact ⟨_, _, _, rfl, rfl⟩
  · exact ⟨_, _, _, rfl, hp.1⟩

set_option maxRecDepth 100000 in
set_option maxHeartbeats 4000000 in
theorem concatOpens_is (q : Nat) (v0 v1 v2 : Value) (o0 o1 o2 : List Opn) (w : World) (hn : o0.length + o1.length + o2.length ≤ 4194304) (Q : Box w q 27 #[v0, v1, v2]) (h0 : SlcQ w v0 o0) (h1 : SlcQ w v1 o1) (h2 : SlcQ w v2 o2) :
    Calls Try.prog 32 #[.slice (some ⟨q, 0, none⟩) 3 3] w fun e w' => ∃ u, e = .returned u ∧ OwnQ w u (o0 ++ o1 ++ o2) w' := by
  obtain ⟨i0, hi0, hz0, hz1, hz2⟩ := info_parts Try.infoOpen
  have hq := Q.lt
  obtain ⟨A0, n0, c0, hv0, hp0⟩ := h0.form
  obtain ⟨A1, n1, c1, hv1, hp1⟩ := h1.form
  obtain ⟨A2, n2, c2, hv2, hp2⟩ := h2.form
  subst hv0 hv1 hv2
  rw [hp0, hp1, hp2] at hn
  have HQ := Lib.hid Q
  have HS0 := Lib.hid h0
  have HS1 := Lib.hid h1
  have HS2 := Lib.hid h2
  replace hp0 := Lib.hid hp0
  replace hp1 := Lib.hid hp1
  replace hp2 := Lib.hid hp2
  clear Q h0 h1 h2
  obtain ⟨s, hs, hs'⟩ : ∃ s : Nat, (n0 : Int) + (n1 : Int) = (s : Int) ∧ n0 + n1 = s := ⟨n0 + n1, by omega, rfl⟩
  obtain ⟨t, ht, ht'⟩ : ∃ t : Nat, (s : Int) + (n2 : Int) = (t : Int) ∧ s + n2 = t := ⟨s + n2, by omega, rfl⟩
  have hsn : s + n2 ≤ 4194304 := by omega
  replace hs' := Lib.hid hs'
  replace ht' := Lib.hid ht'
  go_enter Try.func32, Try.ntmps32
  go_wp2_with fail
  go_loopw [3, 11] (fun sv iv wr => wr = w ∧ ((sv = .int .i64 0 ∧ iv = .int .i64 0) ∨ (sv = .int .i64 n0 ∧ iv = .int .i64 1) ∨ (sv = .int .i64 s ∧ iv = .int .i64 2) ∨ (sv = .int .i64 t ∧ iv = .int .i64 3))) (fun _ i _ => 3 - (intOf i).toNat)
  case atStart => exact ⟨rfl, .inl ⟨rfl, rfl⟩⟩
  case round =>
    obtain ⟨rfl, ⟨rfl, rfl⟩ | ⟨rfl, rfl⟩ | ⟨rfl, rfl⟩ | ⟨rfl, rfl⟩⟩ := hrel
    · obtain ⟨d0, d1, d2⟩ := HQ.out.three
      go_wp2
      go_roundw
      case rel => exact ⟨trivial, .inr (.inl ⟨by go_num, rfl⟩)⟩
      case measure => simp [intOf]
    · obtain ⟨d0, d1, d2⟩ := HQ.out.three
      go_wp2
      go_roundw
      case rel => exact ⟨trivial, .inr (.inr (.inl ⟨rfl, rfl⟩))⟩
      case measure => simp [intOf]
    · obtain ⟨d0, d1, d2⟩ := HQ.out.three
      go_wp2
      go_roundw
      case rel => exact ⟨trivial, .inr (.inr (.inr ⟨rfl, rfl⟩))⟩
      case measure => simp [intOf]
    · go_wp2_with fail
      refine (growOpens_is t _ (by have := ht'.out; omega)).mono ?_
      rintro e w1 ⟨u, rfl, hown, hb⟩
      have hown1 := Lib.hid hown
      clear hown
      obtain ⟨w0, rfl⟩ : ∃ w0, w0 = wr := ⟨_, rfl⟩
      go_wp2_with fail
      go_loopw [6, 27] (fun uv iv wr => Below w0.heap.size w0 wr ∧ ((iv = .int .i64 0 ∧ wr.ownsRow w0.heap.size 31 4 uv 0 []) ∨ (iv = .int .i64 1 ∧ wr.ownsRow w0.heap.size 31 4 uv n0 (flatO o0)) ∨ (iv = .int .i64 2 ∧ wr.ownsRow w0.heap.size 31 4 uv s (flatO (o0 ++ o1))) ∨ (iv = .int .i64 3 ∧ wr.ownsRow w0.heap.size 31 4 uv t (flatO (o0 ++ o1 ++ o2))))) (fun _ i _ => 3 - (intOf i).toNat)
      case atStart => exact ⟨hb, .inl ⟨rfl, hown1.out⟩⟩
      case round =>
        obtain ⟨hbel, ⟨rfl, hown⟩ | ⟨rfl, hown⟩ | ⟨rfl, hown⟩ | ⟨rfl, hown⟩⟩ := hrel
        · have hc := (HQ.out.later hbel HQ.out.lt |>.three)
          rcases HS0.out with ⟨hv, hps⟩ | ⟨b, o, m, cc, hv, hcl, hcm, hp⟩
          · injection hv with e1 e2 e3
            subst e1 e2 e3
            replace hps := Lib.hid hps
            go_wp2_with (at_builtin; refine wpList_append_own_none rfl _ _ _ rfl w0.heap.size 31 i0 4 Try.underlying27 hi0 u6 0 ([]) rfl hown rfl ?_)
            go_roundw
            case rel => exact ⟨hbel, .inr (.inl ⟨rfl, by rw [hps.out]; exact hown⟩)⟩
            case measure => simp [intOf]
          · injection hv with e1 e2 e3
            subst e1 e2 e3
            replace hp := Lib.hid (hp.later hbel)
            replace hcm := Lib.hid hcm
            have hbs := hbel.size
            have hoL := Lib.hid hown
            go_wp2_with (at_builtin; refine wpList_append_own _ rfl _ _ _ rfl w0.heap.size 31 i0 _ 4 32 Try.underlying27 hi0 hz0 hz1 hz2 rfl (by omega) u6 0 ([]) rfl hown ⟨b, o, none⟩ n0 c0 (flatO o0) rfl (by rw [flatO_len, hp0.out]) (quads_news hp.out) (flatO_one o0) (by unfold maxLen; omega) (by omega) hbs ?_; intro u1 w2 hown2 hgrow2 _)
            have E2 := hbel.grown hgrow2 hbs (fun k hk => (hoL.out.lt k hk).1)
            have hown3 := Lib.hid hown2
            clear hown2
            go_roundw
            case rel => exact ⟨E2, .inr (.inl ⟨rfl, by simpa using hown3.out⟩)⟩
            case measure => simp [intOf]
        · have hc := (HQ.out.later hbel HQ.out.lt |>.three)
          rcases HS1.out with ⟨hv, hps⟩ | ⟨b, o, m, cc, hv, hcl, hcm, hp⟩
          · injection hv with e1 e2 e3
            subst e1 e2 e3
            replace hps := Lib.hid hps
            go_wp2_with (at_builtin; refine wpList_append_own_none rfl _ _ _ rfl w0.heap.size 31 i0 4 Try.underlying27 hi0 u6 n0 (flatO o0) rfl hown rfl ?_)
            go_roundw
            case rel => exact ⟨hbel, .inr (.inr (.inl ⟨rfl, by rw [hps.out, List.append_nil, ← hs'.out]; exact hown⟩))⟩
            case measure => simp [intOf]
          · injection hv with e1 e2 e3
            subst e1 e2 e3
            replace hp := Lib.hid (hp.later hbel)
            replace hcm := Lib.hid hcm
            have hbs := hbel.size
            have hoL := Lib.hid hown
            go_wp2_with (at_builtin; refine wpList_append_own _ rfl _ _ _ rfl w0.heap.size 31 i0 _ 4 32 Try.underlying27 hi0 hz0 hz1 hz2 rfl (by omega) u6 n0 (flatO o0) rfl hown ⟨b, o, none⟩ n1 c1 (flatO o1) rfl (by rw [flatO_len, hp1.out]) (quads_news hp.out) (flatO_one o1) (by unfold maxLen; omega) (by omega) hbs ?_; intro u1 w2 hown2 hgrow2 _)
            have E2 := hbel.grown hgrow2 hbs (fun k hk => (hoL.out.lt k hk).1)
            have hown3 := Lib.hid hown2
            clear hown2
            go_roundw
            case rel => exact ⟨E2, .inr (.inr (.inl ⟨rfl, by rw [flatO_app, ← hs'.out]; exact hown3.out⟩))⟩
            case measure => simp [intOf]
        · have hc := (HQ.out.later hbel HQ.out.lt |>.three)
          rcases HS2.out with ⟨hv, hps⟩ | ⟨b, o, m, cc, hv, hcl, hcm, hp⟩
          · injection hv with e1 e2 e3
            subst e1 e2 e3
            replace hps := Lib.hid hps
            go_wp2_with (at_builtin; refine wpList_append_own_none rfl _ _ _ rfl w0.heap.size 31 i0 4 Try.underlying27 hi0 u6 s (flatO (o0 ++ o1)) rfl hown rfl ?_)
            go_roundw
            case rel => exact ⟨hbel, .inr (.inr (.inr ⟨rfl, by rw [hps.out, List.append_nil, ← ht'.out]; exact hown⟩))⟩
            case measure => simp [intOf]
          · injection hv with e1 e2 e3
            subst e1 e2 e3
            replace hp := Lib.hid (hp.later hbel)
            replace hcm := Lib.hid hcm
            have hbs := hbel.size
            have hoL := Lib.hid hown
            go_wp2_with (at_builtin; refine wpList_append_own _ rfl _ _ _ rfl w0.heap.size 31 i0 _ 4 32 Try.underlying27 hi0 hz0 hz1 hz2 rfl (by omega) u6 s (flatO (o0 ++ o1)) rfl hown ⟨b, o, none⟩ n2 c2 (flatO o2) rfl (by rw [flatO_len, hp2.out]) (quads_news hp.out) (flatO_one o2) (by unfold maxLen; omega) (by omega) hbs ?_; intro u1 w2 hown2 hgrow2 _)
            have E2 := hbel.grown hgrow2 hbs (fun k hk => (hoL.out.lt k hk).1)
            have hown3 := Lib.hid hown2
            clear hown2
            go_roundw
            case rel => exact ⟨E2, .inr (.inr (.inr ⟨rfl, by rw [flatO_app (o0 ++ o1), ← ht'.out]; exact hown3.out⟩))⟩
            case measure => simp [intOf]
        · have hown2 := Lib.hid hown
          clear hown
          go_wp2
          go_ret
          refine ⟨_, rfl, ownQ_of (t := 31) ?_ hbel⟩
          have e : (o0 ++ o1 ++ o2).length = t := by rw [List.length_append, List.length_append, hp0.out, hp1.out, hp2.out, hs'.out, ht'.out]
          rw [e]
          exact hown2.out

end Go.Proofs.Ytghdnokjgmmgiaa
