/- The library's Grow and Concat over slices of pairs: two of them, one behind the other, in memory of their own. -/
import Derived.Test.YtjdepjpjjgkmbaaGreatSortSym
import Derived.Test.YtjdepjpjjgkmbaaGreatDrawSpec
import Derived.Lib.AppendZerosOnto
import Derived.Laws.AppendOwnNone
import Derived.Test.YtjdepjpjjgkmbaaGreatSortStable
import Derived.Test.YtjdepjpjjgkmbaaGreatSpecStamp
namespace Go.Proofs.YtjdepjpjjgkmbaaGreat
open Go.RowKit

set_option maxRecDepth 100000 in
set_option maxHeartbeats 1000000 in
/-- Room for n pairs, none of them there yet. -/
theorem grow_is (n : Nat) (w : World) (hn : n ≤ 4194304) :
    Calls Tryz.prog 255 #[.slice none 0 0, .int .i64 n] w fun e w' => ∃ v, e = .returned v ∧ w'.ownsRow w.heap.size 136 2 v 0 [] ∧ Below w.heap.size w w' := by
  obtain ⟨i0, hi0, hz0, hz1, hz2⟩ := info_parts Tryz.infoSealI
  rcases Nat.eq_zero_or_pos n with rfl | hpos
  · go_enter Tryz.func255, Tryz.ntmps255
    go_wp2
    go_ret
    exact ⟨_, rfl, World.ownsRow_nil w _ _ _, Below.refl _ _⟩
  · have hrz : ∀ ty, (Builtin.append_ #[40, 3] ty #[.slice none 0 0, .int .i64 (n : Int)]).run Tryz.prog w =
        .ok (.slice (some ⟨w.heap.size, 0, none⟩) n (grownCap w n 0 136)) (w.drew.alloc (.cells (#[] ++ Builtin.zeroCells (Value.agg #[.int .i64 0, .int .i64 0]).cells n ++ Builtin.zeroCells (Value.agg #[.int .i64 0, .int .i64 0]).cells (grownCap w n 0 136 - n)) 136)) := fun ty => by
      have h := Lib.run_append_grow_zeros w 40 3 ty 136 i0 _ .i64 .i64 Tryz.underlying40 Tryz.underlying3 hi0 hz0 none 0 0 [] (run_firstCells_none w.drew i0.size 0 0 0) n (by omega) (by omega) (by omega) (by omega)
        (by rw [hz2]; omega) (by rw [Nat.zero_add]; exact growslice_fits hpos (by rw [hz2]; omega))
      simpa using h
    have hGn := grownCap_ge w n 0 136
    have hGm := grownCap_le_maxLen w n 0 136 (by unfold maxLen; omega)
    generalize grownCap w n 0 136 = G at hrz hGn hGm
    have hG := Lib.hid hGm
    unfold maxLen at hGm
    have hp : (0 : Int) < (n : Int) := by omega
    go_enter Tryz.func255, Tryz.ntmps255
    go_wp2_with (at_builtin; refine Lib.wpList_append_run _ rfl _ _ _ _ rfl _ _ rfl rfl _ _ (hrz _) ?_)
    go_ret
    refine ⟨_, rfl, ?_, ((Below.refl _ _).drew).alloc (Nat.le_refl _) _⟩
    exact World.ownsRow_made w.drew _ G (Nat.le_refl _) hG.out (by simp [size_zeroCells]; show n * 2 + (G - n) * 2 = G * 2; omega)

/-- A slice of pairs: nil, or somewhere. -/
def Slc (w : World) (v : Value) (ps : List (Int × Int)) : Prop :=
  (v = .slice none 0 0 ∧ ps = []) ∨ ∃ b o n cap, v = .slice (some ⟨b, o, none⟩) n cap ∧ Pairs w w.heap.size (some ⟨b, o, none⟩) n ps
theorem Slc.later {w w' : World} {v : Value} {ps : List (Int × Int)} (h : Slc w v ps) (hb : Below w.heap.size w w') : Slc w' v ps := by
  rcases h with h | ⟨b, o, n, cap, rfl, hp⟩
  · exact .inl h
  · exact .inr ⟨b, o, n, cap, rfl, hp.later hb⟩

set_option maxRecDepth 100000 in
set_option maxHeartbeats 1000000 in
theorem concat_is (q : Nat) (v v' : Value) (ps ps' : List (Int × Int)) (w : World) (hn : ps.length + ps'.length ≤ 4194304) (Q : Box w q 40 #[v, v']) (h : Slc w v ps) (h' : Slc w v' ps') :
    Calls Tryz.prog 248 #[.slice (some ⟨q, 0, none⟩) 2 2] w fun e w' => ∃ u, e = .returned u ∧ w'.ownsRow w.heap.size 136 2 u (ps.length + ps'.length) (flatP (ps ++ ps')) ∧ Below w.heap.size w w' := by
  obtain ⟨i0, hi0, hz0, hz1, hz2⟩ := info_parts Tryz.infoSealI
  have hq := Q.lt
  obtain ⟨A, n, cap, hv, hpn⟩ : ∃ (A : Option Addr) (n cap : Nat), v = .slice A n cap ∧ ps.length = n := by
    rcases h with ⟨rfl, rfl⟩ | ⟨b, o, n, cap, rfl, hp⟩
    · exact ⟨_, _, _, rfl, rfl⟩
    · exact ⟨_, _, _, rfl, hp.1⟩
  obtain ⟨A', n', cap', hv', hpn'⟩ : ∃ (A : Option Addr) (n cap : Nat), v' = .slice A n cap ∧ ps'.length = n := by
    rcases h' with ⟨rfl, rfl⟩ | ⟨b, o, n, cap, rfl, hp⟩
    · exact ⟨_, _, _, rfl, rfl⟩
    · exact ⟨_, _, _, rfl, hp.1⟩
  subst hv hv'
  rw [hpn, hpn'] at hn ⊢
  have HQ := Lib.hid Q
  have HS := Lib.hid h
  have HS' := Lib.hid h'
  have hpn := Lib.hid hpn
  have hpn' := Lib.hid hpn'
  rename_i q1 q2
  clear Q h h' q1 q2
  obtain ⟨s, hs, hs'⟩ : ∃ s : Nat, (n : Int) + (n' : Int) = (s : Int) ∧ n + n' = s := ⟨n + n', by omega, rfl⟩
  have hs' := Lib.hid hs'
  rename_i q1
  clear q1
  go_enter Tryz.func248, Tryz.ntmps248
  go_wp2_with fail
  go_loopw [3, 11] (fun sv iv wr => wr = w ∧ ((sv = .int .i64 0 ∧ iv = .int .i64 0) ∨ (sv = .int .i64 n ∧ iv = .int .i64 1) ∨ (sv = .int .i64 s ∧ iv = .int .i64 2))) (fun _ i _ => 2 - (intOf i).toNat)
  case atStart => exact ⟨rfl, .inl ⟨rfl, rfl⟩⟩
  case round =>
    obtain ⟨rfl, ⟨rfl, rfl⟩ | ⟨rfl, rfl⟩ | ⟨rfl, rfl⟩⟩ := hrel
    · obtain ⟨c0, c1⟩ := HQ.out.two
      go_wp2
      go_roundw
      case rel => exact ⟨trivial, .inr (.inl ⟨by go_num, rfl⟩)⟩
      case measure => simp [intOf]
    · obtain ⟨c0, c1⟩ := HQ.out.two
      go_wp2
      go_roundw
      case rel => exact ⟨trivial, .inr (.inr ⟨rfl, rfl⟩)⟩
      case measure => simp [intOf]
    · go_wp2_with fail
      refine (grow_is s _ (by have := hs'.out; omega)).mono ?_
      rintro e w1 ⟨u, rfl, hown, hb⟩
      have hown1 := Lib.hid hown
      clear hown
      obtain ⟨w0, rfl⟩ : ∃ w0, w0 = wr := ⟨_, rfl⟩
      go_wp2_with fail
      go_loopw [6, 27] (fun uv iv wr => Below w0.heap.size w0 wr ∧ ((iv = .int .i64 0 ∧ wr.ownsRow w0.heap.size 136 2 uv 0 []) ∨ (iv = .int .i64 1 ∧ wr.ownsRow w0.heap.size 136 2 uv n (flatP ps)) ∨ (iv = .int .i64 2 ∧ wr.ownsRow w0.heap.size 136 2 uv s (flatP (ps ++ ps'))))) (fun _ i _ => 2 - (intOf i).toNat)
      case atStart => exact ⟨hb, .inl ⟨rfl, hown1.out⟩⟩
      case round =>
        obtain ⟨hbel, ⟨rfl, hown⟩ | ⟨rfl, hown⟩ | ⟨rfl, hown⟩⟩ := hrel
        · have hc := (HQ.out.later hbel HQ.out.lt |>.two)
          rcases HS.out with ⟨hv, hps⟩ | ⟨b, o, m, c, hv, hp⟩
          · injection hv with e1 e2 e3
            subst e1 e2 e3
            have hps := Lib.hid hps
            rename_i q1
            clear q1
            go_wp2_with (at_builtin; refine wpList_append_own_none rfl _ _ _ rfl w0.heap.size 136 i0 2 Tryz.underlying40 hi0 u6 0 [] rfl hown rfl ?_)
            go_roundw
            case rel => exact ⟨hbel, .inr (.inl ⟨rfl, by rw [hps.out]; exact hown⟩)⟩
            case measure => simp [intOf]
          · injection hv with e1 e2 e3
            subst e1 e2 e3
            have hp := Lib.hid (hp.later hbel)
            rename_i q1
            clear q1
            have hbs := hbel.size
            have hoL := Lib.hid hown
            go_wp2_with (at_builtin; refine wpList_append_own _ rfl _ _ _ rfl w0.heap.size 136 i0 _ 2 16 Tryz.underlying40 hi0 hz0 hz1 hz2 rfl (by omega) u6 0 [] rfl hown ⟨b, o, none⟩ n cap (flatP ps) rfl (by rw [flatP_len, hpn.out]) (pairs_news hp.out) (flatP_one ps) (by unfold maxLen; omega) (by omega) hbs ?_; intro u1 w2 hown2 hgrow2 _)
            have E2 := hbel.grown hgrow2 hbs (fun k hk => (hoL.out.lt k hk).1)
            have hown3 := Lib.hid hown2
            clear hown2
            go_roundw
            case rel => exact ⟨E2, .inr (.inl ⟨rfl, by simpa using hown3.out⟩)⟩
            case measure => simp [intOf]
        · have hc := (HQ.out.later hbel HQ.out.lt |>.two)
          rcases HS'.out with ⟨hv, hps⟩ | ⟨b, o, m, c, hv, hp⟩
          · injection hv with e1 e2 e3
            subst e1 e2 e3
            have hps := Lib.hid hps
            rename_i q1
            clear q1
            go_wp2_with (at_builtin; refine wpList_append_own_none rfl _ _ _ rfl w0.heap.size 136 i0 2 Tryz.underlying40 hi0 u6 n (flatP ps) rfl hown rfl ?_)
            go_roundw
            case rel => exact ⟨hbel, .inr (.inr ⟨rfl, by rw [hps.out, List.append_nil, ← hs'.out]; exact hown⟩)⟩
            case measure => simp [intOf]
          · injection hv with e1 e2 e3
            subst e1 e2 e3
            have hp := Lib.hid (hp.later hbel)
            rename_i q1
            clear q1
            have hbs := hbel.size
            have hoL := Lib.hid hown
            go_wp2_with (at_builtin; refine wpList_append_own _ rfl _ _ _ rfl w0.heap.size 136 i0 _ 2 16 Tryz.underlying40 hi0 hz0 hz1 hz2 rfl (by omega) u6 n (flatP ps) rfl hown ⟨b, o, none⟩ n' cap' (flatP ps') rfl (by rw [flatP_len, hpn'.out]) (pairs_news hp.out) (flatP_one ps') (by unfold maxLen; omega) (by omega) hbs ?_; intro u1 w2 hown2 hgrow2 _)
            have E2 := hbel.grown hgrow2 hbs (fun k hk => (hoL.out.lt k hk).1)
            have hown3 := Lib.hid hown2
            clear hown2
            go_roundw
            case rel => exact ⟨E2, .inr (.inr ⟨rfl, by rw [flatP_app, ← hs'.out]; exact hown3.out⟩)⟩
            case measure => simp [intOf]
        · have hown2 := Lib.hid hown
          clear hown
          go_wp2
          go_ret
          exact ⟨_, rfl, by rw [hs'.out]; exact hown2.out, hbel⟩

end Go.Proofs.YtjdepjpjjgkmbaaGreat

/- JoinSeals: what it answers is what its model puts together, in memory of its own; up to some four million seals. -/
namespace Go.Proofs.YtjdepjpjjgkmbaaGreat
open Go.RowKit

set_option maxRecDepth 100000 in
theorem insSort_nil (w : World) : Calls Tryz.prog 257 #[.slice none 0 0, .int .i64 0, .int .i64 0, (.func (Fn.func 250) #[] #[])] w fun e w' => e = .returned (.tuple #[]) ∧ w = w' := by
  go_enter Tryz.func257, Tryz.ntmps257
  go_wp2_with fail
  go_loopw [8] (fun i wr => i = .int .i64 1 ∧ w = wr) (fun i _ => 0)
  case atStart => exact ⟨rfl, rfl⟩
  case round =>
    obtain ⟨rfl, rfl⟩ := hrel
    go_wp2
    go_end0
    exact ⟨rfl, rfl⟩
set_option maxRecDepth 100000 in
theorem stable_nil (w : World) : Calls Tryz.prog 256 #[.slice none 0 0, .int .i64 0, (.func (Fn.func 250) #[] #[])] w fun e w' => e = .returned (.tuple #[]) ∧ w = w' := by
  go_enter Tryz.func256, Tryz.ntmps256
  go_wp2_with fail
  go_loopw [7, 8] (fun a b wr => a = .int .i64 0 ∧ b = .int .i64 20 ∧ w = wr) (fun _ _ _ => 0)
  case atStart => exact ⟨rfl, rfl, rfl⟩
  case round =>
    obtain ⟨rfl, rfl, rfl⟩ := hrel
    go_wp2_with fail
    refine (insSort_nil w).mono ?_
    rintro e w1 ⟨rfl, rfl⟩
    go_wp2_with fail
    go_loopw [6] (fun k wr => k = .int .i64 20 ∧ w = wr) (fun _ _ => 0)
    case atStart => exact ⟨rfl, rfl⟩
    case round =>
      obtain ⟨rfl, rfl⟩ := hrel
      go_wp2
      go_end0
      exact ⟨rfl, rfl⟩
theorem sortStable_nil (w : World) : Calls Tryz.prog 249 #[.slice none 0 0, (.func (Fn.func 250) #[] #[])] w fun e w' => e = .returned (.tuple #[]) ∧ w = w' := by
  go_enter Tryz.func249, Tryz.ntmps249
  go_wp2_with fail
  refine (stable_nil w).mono ?_
  rintro e w1 ⟨rfl, rfl⟩
  go_wp2
  go_end0
  exact ⟨rfl, rfl⟩
theorem compact_nil (w : World) : Calls Tryz.prog 251 #[.slice none 0 0, (.func (Fn.func 252) #[] #[])] w fun e w' => e = .returned (.slice none 0 0) ∧ w = w' := by
  go_enter Tryz.func251, Tryz.ntmps251
  go_wp2
  go_ret
  exact ⟨rfl, rfl⟩
theorem sortStable_is (g n cap : Nat) (L : List (Int × Int)) (w : World) (hn : n ≤ 4194304) (hl : L.length = n) (H : Held w g L) :
    Calls Tryz.prog 249 #[.slice (some ⟨g, 0, none⟩) n cap, (.func (Fn.func 250) #[] #[])] w (Stable w g L) := by
  go_enter Tryz.func249, Tryz.ntmps249
  go_wp2_with fail
  refine (stable_is g n cap L w hn hl H).mono ?_
  rintro e w1 ⟨S, h1, h2, h3, rfl, h4, h5⟩
  go_wp2
  go_end0
  exact ⟨S, h1, h2, h3, rfl, h4, h5⟩

theorem own_held {w : World} {base : Nat} {e : TypeId} {q cap : Nat} {ps : List (Int × Int)} (h : w.ownsRow base e 2 (.slice (some ⟨q, 0, none⟩) ps.length cap) ps.length (flatP ps)) : Held w q ps := by
  refine ⟨(h.lt q rfl).2, fun o => ?_, fun i hi => ?_, fun i hi => ?_⟩
  · rcases h.2 with ⟨h', _⟩ | ⟨g', cap', cur, h', _, hg, _⟩
    · simp at h'
    · simp only [Value.slice.injEq, Option.some.injEq, Addr.mk.injEq, and_true, true_and] at h'
      obtain ⟨rfl, rfl⟩ := h'
      simp [World.frozen?, hg]
  · rw [h.cellAt (i * 2) (by omega)]; exact (flatP_at hi).1
  · rw [h.cellAt (i * 2 + 1) (by omega)]; exact (flatP_at hi).2

/-- A list of pairs of the call's own: nil, or a new block from its beginning. -/
def Own (w : World) (v : Value) (ps : List (Int × Int)) (w' : World) : Prop :=
  ((v = .slice none 0 0 ∧ ps = []) ∨ ∃ g cap, w.heap.size ≤ g ∧ v = .slice (some ⟨g, 0, none⟩) ps.length cap ∧ ps.length ≤ cap ∧ cap ≤ maxLen ∧ Held w' g ps) ∧ Below w.heap.size w w'
theorem Own.slc {w w' : World} {v : Value} {ps : List (Int × Int)} (h : Own w v ps w') : Slc w' v ps := by
  rcases h.1 with h | ⟨g, cap, _, rfl, _, _, hh⟩
  · exact .inl h
  · exact .inr ⟨g, 0, _, cap, rfl, hh.pairs⟩
theorem Own.later {w w1 w' : World} {v : Value} {ps : List (Int × Int)} (h : Own w v ps w1) (hb : Below w1.heap.size w1 w') : Own w v ps w' := by
  refine ⟨?_, bel_trans h.2 hb⟩
  rcases h.1 with h | ⟨g, cap, hg, rfl, h1, h2, hh⟩
  · exact .inl h
  · exact .inr ⟨g, cap, hg, rfl, h1, h2, hh.later hb⟩

set_option maxRecDepth 100000 in
set_option maxHeartbeats 1000000 in
theorem join_is (v v' : Value) (ps ps' : List (Int × Int)) (w : World) (hn : ps.length + ps'.length ≤ 4194304) (h : Slc w v ps) (h' : Slc w v' ps') :
    Calls Tryz.prog 245 #[v, v'] w fun e w' => ∃ u, e = .returned u ∧ Own w u (puts (ps ++ ps')) w' := by
  have hb := bel_alloc w (.cells #[v, v'] 40)
  have Q := Box.new w 40 #[v, v']
  have H := Lib.hid (h.later hb)
  have H' := Lib.hid (h'.later hb)
  have hall : ∃ L, L = ps ++ ps' := ⟨_, rfl⟩
  obtain ⟨L, hL⟩ := hall
  rw [← hL]
  have hLl : ps.length + ps'.length = L.length := by rw [hL, List.length_append]
  have hL := Lib.hid hL
  have hLl := Lib.hid hLl
  obtain ⟨A, n, cap, rfl⟩ : ∃ A n cap, v = .slice A n cap := by
    rcases h with ⟨rfl, _⟩ | ⟨b, o, n, cap, rfl, _⟩ <;> exact ⟨_, _, _, rfl⟩
  obtain ⟨A', n', cap', rfl⟩ : ∃ A n cap, v' = .slice A n cap := by
    rcases h' with ⟨rfl, _⟩ | ⟨b, o, n, cap, rfl, _⟩ <;> exact ⟨_, _, _, rfl⟩
  rename_i q1 q2
  clear h h' q1 q2
  go_enter Tryz.func245, Tryz.ntmps245
  go_wp2_with fail
  generalize (w.alloc _ : World) = w0 at hb Q H H' ⊢
  refine (concat_is _ _ _ ps ps' w0 hn Q H.out H'.out).mono ?_
  rintro e w1 ⟨u, rfl, hown, hb1⟩
  rw [hLl.out, ← hL.out] at hown
  have E1 := bel_trans hb hb1
  have hw0 := hb.size
  rcases hown.2 with ⟨rfl, hz⟩ | ⟨g, cap, cur, rfl, hbg, hg, hnc, hcm, _, _⟩
  · have hLn : L = [] := List.length_eq_zero_iff.1 hz
    have hLn := Lib.hid hLn
    rename_i q1
    clear q1 hz hown Q
    go_wp2_with fail
    refine (sortStable_nil w1).mono ?_
    rintro e w2 ⟨rfl, rfl⟩
    go_wp2_with fail
    refine (compact_nil w1).mono ?_
    rintro e w2 ⟨rfl, rfl⟩
    go_wp2
    go_ret
    exact ⟨_, rfl, .inl ⟨rfl, by rw [hLn.out]; rfl⟩, E1⟩
  · have hh := own_held hown
    have hcm := Lib.hid hcm
    have hn' : L.length ≤ 4194304 := by rw [← hLl.out]; exact hn
    have hgg : w.heap.size ≤ g := Nat.le_trans hw0 hbg
    rename_i q1
    clear q1 hg hown Q
    go_wp2_with fail
    refine (sortStable_is g L.length cap L w1 hn' rfl hh).mono ?_
    rintro e w2 ⟨S, hs1, hs2, hs3, rfl, hh2, hg2⟩
    have hs1 := Lib.hid hs1
    have hcp := Lib.hid (cmpct_puts hs2 hs3)
    have hle := cmpct_len_le S
    rename_i q1
    clear q1
    go_wp2_with fail
    refine (compact_is g L.length cap S w2 hn' hnc hcm.out hs1.out hh2).mono ?_
    rintro e w3 ⟨rfl, hh3, hg3⟩
    go_wp2
    go_ret
    refine ⟨_, rfl, .inr ⟨g, cap, hgg, ?_, ?_, hcm.out, ?_⟩, bel_grown (bel_grown E1 hg2 hgg) hg3 hgg⟩
    · rw [← hcp.out]; rfl
    · rw [← hcp.out]; have := hs1.out; omega
    · rw [← hcp.out]; exact hh3

end Go.Proofs.YtjdepjpjjgkmbaaGreat
