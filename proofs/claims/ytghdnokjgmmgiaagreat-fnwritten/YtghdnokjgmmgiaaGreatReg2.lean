/- Copies of lists in memory of their own (the library's Clone, Grow and Concat), and a shelf as a board and back: contracts of each of them. -/
import Derived.Test.YtghdnokjgmmgiaaGreatReg1
import Derived.Test.YtghdnokjgmmgiaaGreatCopiesReg
import Derived.Test.YtghdnokjgmmgiaaGreatJoin
import Derived.Lib.SliceRun
namespace Go.Proofs.YtghdnokjgmmgiaaGreat
open Go.RowKit

/-- A slice of opens: nil, or somewhere. -/
def SlcQ (w : World) (v : Value) (os : List Opn) : Prop :=
  (v = .slice none 0 0 ∧ os = []) ∨ ∃ b o n cap, v = .slice (some ⟨b, o, none⟩) n cap ∧ n ≤ cap ∧ cap ≤ maxLen ∧ Quads w w.heap.size (some ⟨b, o, none⟩) n os
theorem SlcQ.later {w w' : World} {v : Value} {os : List Opn} (h : SlcQ w v os) (hb : Below w.heap.size w w') : SlcQ w' v os := by
  rcases h with h | ⟨b, o, n, cap, rfl, h1, h2, hp⟩
  · exact .inl h
  · exact .inr ⟨b, o, n, cap, rfl, h1, h2, hp.later hb⟩
/-- A list of opens of the call's own: nil, or a new block from its beginning. -/
def OwnQ (w : World) (v : Value) (os : List Opn) (w' : World) : Prop :=
  ((v = .slice none 0 0 ∧ os = []) ∨ ∃ g cap, w.heap.size ≤ g ∧ v = .slice (some ⟨g, 0, none⟩) os.length cap ∧ os.length ≤ cap ∧ cap ≤ maxLen ∧ HeldQ w' g os) ∧ Below w.heap.size w w'
theorem OwnQ.later {w w1 w' : World} {v : Value} {os : List Opn} (h : OwnQ w v os w1) (hb : Below w1.heap.size w1 w') : OwnQ w v os w' := by
  refine ⟨?_, bel_trans h.2 hb⟩
  rcases h.1 with h | ⟨g, cap, hg, rfl, h1, h2, hh⟩
  · exact .inl h
  · exact .inr ⟨g, cap, hg, rfl, h1, h2, hh.later hb⟩
theorem OwnQ.slc {w w' : World} {v : Value} {os : List Opn} (h : OwnQ w v os w') : SlcQ w' v os := by
  rcases h.1 with h | ⟨g, cap, _, rfl, h1, h2, hh⟩
  · exact .inl h
  · exact .inr ⟨g, 0, _, cap, rfl, h1, h2, hh.quads⟩
theorem ownQ_of {w w' : World} {t : TypeId} {u : Value} {os : List Opn} (h : w'.ownsRow w.heap.size t 4 u os.length (flatO os)) (hb : Below w.heap.size w w') : OwnQ w u os w' := by
  refine ⟨?_, hb⟩
  have h0 := h
  rcases h.2 with ⟨rfl, hz⟩ | ⟨g, cap, cur, rfl, hbg, hg, hnc, hcm, _, _⟩
  · exact .inl ⟨rfl, List.length_eq_zero_iff.1 hz⟩
  · exact .inr ⟨g, cap, hbg, rfl, hnc, hcm, own_heldQ h0⟩
theorem own_of {w w' : World} {t : TypeId} {u : Value} {ps : List (Int × Int)} (h : w'.ownsRow w.heap.size t 2 u ps.length (flatP ps)) (hb : Below w.heap.size w w') : Own w u ps w' := by
  refine ⟨?_, hb⟩
  have h0 := h
  rcases h.2 with ⟨rfl, hz⟩ | ⟨g, cap, cur, rfl, hbg, hg, hnc, hcm, _, _⟩
  · exact .inl ⟨rfl, List.length_eq_zero_iff.1 hz⟩
  · exact .inr ⟨g, cap, hbg, rfl, hnc, hcm, own_held h0⟩
theorem own_new (w : World) (t : TypeId) (z : Nat) : (w.alloc (.cells #[] t)).ownsRow w.heap.size t z (.slice (some ⟨w.heap.size, 0, none⟩) 0 0) 0 [] :=
  ⟨by simp, .inr ⟨w.heap.size, 0, #[], rfl, Nat.le_refl _, Box.new w t #[], Nat.le_refl _, Nat.zero_le _, by simp, by simp⟩⟩

set_option maxRecDepth 100000 in
set_option maxHeartbeats 1000000 in
theorem cloneSeals_is (v : Value) (ps : List (Int × Int)) (w : World) (hn : ps.length ≤ 4194304) (h : Slc w v ps) :
    Calls Tryz.prog 75 #[v] w fun e w' => ∃ u, e = .returned u ∧ Own w u ps w' := by
  obtain ⟨i0, hi0, hz0, hz1, hz2⟩ := info_parts Tryz.infoSealI
  have qT : ∀ (w : World) (a : Option Addr) (n c n' c' : Nat), (binOp .eql 29 (.slice a n c) (.slice none n' c')).run Tryz.prog w = .ok (.bool a.isNone) w := fun w a n c n' c' => Lib.run_eql_slice_nil w _ _ a n c n' c' Tryz.underlying29
  rcases h with ⟨rfl, rfl⟩ | ⟨b, o, n, cap, rfl, hp⟩
  · go_enter Tryz.func75, Tryz.ntmps75
    go_wp2
    go_ret
    exact ⟨_, rfl, .inl ⟨rfl, rfl⟩, Below.refl _ _⟩
  · have hl := Lib.hid hp.1
    have hb0 := bel_alloc w (.cells #[] 94)
    have HP := Lib.hid (hp.later hb0)
    have hn' : n ≤ 4194304 := by rw [← hp.1]; exact hn
    have hown := own_new w 94 2
    have HO := Lib.hid hown
    have hbs := hb0.size
    clear hp
    go_enter Tryz.func75, Tryz.ntmps75
    go_wp2_with (at_builtin; refine wpList_append_own _ rfl _ _ _ rfl w.heap.size 94 i0 _ 2 16 Tryz.underlying29 hi0 hz0 hz1 hz2 rfl (by omega) (.slice (some ⟨w.heap.size, 0, none⟩) 0 0) 0 [] rfl hown ⟨b, o, none⟩ n cap (flatP ps) rfl (by rw [flatP_len, hl.out]) (pairs_news HP.out) (flatP_one ps) (by unfold maxLen; omega) (by omega) hbs ?_; intro u1 w2 hown2 hgrow2 _; have E2 := hb0.grown hgrow2 hbs (fun k hk => (HO.out.lt k hk).1); have HOW := Lib.hid hown2; clear hown2)
    go_ret
    refine ⟨_, rfl, own_of (t := 94) ?_ E2⟩
    have := HOW.out
    rw [Nat.zero_add, List.nil_append] at this
    rw [hl.out]
    exact this

set_option maxRecDepth 100000 in
set_option maxHeartbeats 1000000 in
theorem cloneOpens_is (v : Value) (ps : List Opn) (w : World) (hn : ps.length ≤ 4194304) (h : SlcQ w v ps) :
    Calls Tryz.prog 76 #[v] w fun e w' => ∃ u, e = .returned u ∧ OwnQ w u ps w' := by
  obtain ⟨i0, hi0, hz0, hz1, hz2⟩ := info_parts Tryz.infoOpen
  have qT : ∀ (w : World) (a : Option Addr) (n c n' c' : Nat), (binOp .eql 30 (.slice a n c) (.slice none n' c')).run Tryz.prog w = .ok (.bool a.isNone) w := fun w a n c n' c' => Lib.run_eql_slice_nil w _ _ a n c n' c' Tryz.underlying30
  rcases h with ⟨rfl, rfl⟩ | ⟨b, o, n, cap, rfl, _, _, hp⟩
  · go_enter Tryz.func76, Tryz.ntmps76
    go_wp2
    go_ret
    exact ⟨_, rfl, .inl ⟨rfl, rfl⟩, Below.refl _ _⟩
  · have hl := Lib.hid hp.1
    have hb0 := bel_alloc w (.cells #[] 82)
    have HP := Lib.hid (hp.later hb0)
    have hn' : n ≤ 4194304 := by rw [← hp.1]; exact hn
    have hown := own_new w 82 4
    have HO := Lib.hid hown
    have hbs := hb0.size
    clear hp
    go_enter Tryz.func76, Tryz.ntmps76
    go_wp2_with (at_builtin; refine wpList_append_own _ rfl _ _ _ rfl w.heap.size 82 i0 _ 4 32 Tryz.underlying30 hi0 hz0 hz1 hz2 rfl (by omega) (.slice (some ⟨w.heap.size, 0, none⟩) 0 0) 0 [] rfl hown ⟨b, o, none⟩ n cap (flatO ps) rfl (by rw [flatO_len, hl.out]) (quads_news HP.out) (flatO_one ps) (by unfold maxLen; omega) (by omega) hbs ?_; intro u1 w2 hown2 hgrow2 _; have E2 := hb0.grown hgrow2 hbs (fun k hk => (HO.out.lt k hk).1); have HOW := Lib.hid hown2; clear hown2)
    go_ret
    refine ⟨_, rfl, ownQ_of (t := 82) ?_ E2⟩
    have := HOW.out
    rw [Nat.zero_add, List.nil_append] at this
    rw [hl.out]
    exact this

theorem SlcQ.form {w : World} {v : Value} {os : List Opn} (h : SlcQ w v os) : ∃ (A : Option Addr) (n cap : Nat), v = .slice A n cap ∧ os.length = n := by
  rcases h with ⟨rfl, rfl⟩ | ⟨b, o, n, cap, rfl, _, _, hp⟩
  · exact ⟨_, _, _, rfl, rfl⟩
  · exact ⟨_, _, _, rfl, hp.1⟩

end Go.Proofs.YtghdnokjgmmgiaaGreat
