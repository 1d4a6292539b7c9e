/- Copies of lists in memory of their own (the library's Clone, Grow and Concat), and a shelf as a board and back: contracts of each of them. -/
import Derived.Test.YthpccmckjmmicaaReg1
import Derived.Test.YthpccmckjmmicaaCopiesReg
import Derived.Test.YthpccmckjmmicaaJoin
import Derived.Lib.SliceRun
namespace Go.Proofs.Ythpccmckjmmicaa
open Go.RowKit

/-- A slice of opens: nil, or somewhere. -/
def SlcQ (w : World) (v : Value) (os : List Opn) : Prop :=
  (v = .slice none 0 0 ∧ os = []) ∨ ∃ b o n cap, v = .slice (some ⟨b, o, none⟩) n cap ∧ n ≤ cap ∧ cap ≤ maxLen ∧ Quads w w.heap.size (some ⟨b, o, none⟩) n os
theorem SlcQ.later {w w' : World} {v : Value} {os : List Opn} (h : SlcQ w v os) (hb : Below w.heap.size w w') : SlcQ w' v os := by
  rcases h with h | ⟨b, o, n, cap, rfl, h1, h2, hp⟩
  · exact .inl h
  · exact .inr ⟨b, o, n, cap, rfl, h1, h2, hp.later hb⟩
/-- A list of opens of the call's own: nil, or a new block from its beginning. -/
def OwnQ (w : World) (v : Value) (os : List Opn) (w' : World) : Prop :=
  ((v = .slice none 0 0 ∧ os = []) ∨ ∃ g cap, w.heap.size ≤ g ∧ v = .slice (some ⟨g, 0, none⟩) os.length cap ∧ os.length ≤ cap ∧ cap ≤ maxLen ∧ HeldQ w' g os) ∧ Below w.heap.size w w'
theorem OwnQ.later {w w1 w' : World} {v : Value} {os : List Opn} (h : OwnQ w v os w1) (hb : Below w1.heap.size w1 w') : OwnQ w v os w' := by
  refine ⟨?_, bel_trans h.2 hb⟩
  rcases h.1 with h | ⟨g, cap, hg, rfl, h1, h2, hh⟩
  · exact .inl h
  · exact .inr ⟨g, cap, hg, rfl, h1, h2, hh.later hb⟩
theorem OwnQ.slc {w w' : World} {v : Value} {os : List Opn} (h : OwnQ w v os w') : SlcQ w' v os := by
  rcases h.1 with h | ⟨g, cap, _, rfl, h1, h2, hh⟩
  · exact .inl h
  · exact .inr ⟨g, 0, _, cap, rfl, h1, h2, hh.quads⟩
theorem ownQ_of {w w' : World} {t : TypeId} {u : Value} {os : List Opn} (h : w'.ownsRow w.heap.size t 4 u os.length (flatO os)) (hb : Below w.heap.size w w') : OwnQ w u os w' := by
  refine ⟨?_, hb⟩
  have h0 := h
  rcases h.2 with ⟨rfl, hz⟩ | ⟨g, cap, cur, rfl, hbg, hg, hnc, hcm, _, _⟩
  · exact .inl ⟨rfl, List.length_eq_zero_iff.1 hz⟩
  · exact .inr ⟨g, cap, hbg, rfl, hnc, hcm, own_heldQ h0⟩
theorem own_of {w w' : World} {t : TypeId} {u : Value} {ps : List (Int × Int)} (h : w'.ownsRow w.heap.size t 2 u ps.length (flatP ps)) (hb : Below w.heap.size w w') : Own w u ps w' := by
  refine ⟨?_, hb⟩
  have h0 := h
  rcases h.2 with ⟨rfl, hz⟩ | ⟨g, cap, cur, rfl, hbg, hg, hnc, hcm, _, _⟩
  · exact .inl ⟨rfl, List.length_eq_zero_iff.1 hz⟩
  · exact .inr ⟨g, cap, hbg, rfl, hnc, hcm, own_held h0⟩
theorem own_new (w : World) (t : TypeId) (z : Nat) : (w.alloc (.cells #[] t)).ownsRow w.heap.size t z (.slice (some ⟨w.heap.size, 0, none⟩) 0 0) 0 [] :=
  ⟨by simp, .inr ⟨w.heap.size, 0, #[], rfl, Nat.le_refl _, Box.new w t #[], Nat.le_refl _, Nat.zero_le _, by simp, by simp⟩⟩

set_option maxRecDepth 100000 in
set_option maxHeartbeats 1000000 in
theorem cloneSeals_is (v : Value) (ps : List (Int × Int)) (w : World) (hn : ps.length ≤ 4194304) (h : Slc w v ps) :
    Calls Try.prog 46 #[v] w fun e w' => ∃ u, e = .returned u ∧ Own w u ps w' := by
  obtain ⟨i0, hi0, hz0, hz1, hz2⟩ := info_parts Try.infoSealI
  have qT : ∀ (w : World) (a : Option Addr) (n c n' c' : Nat), (binOp .eql 29 (.slice a n c) (.slice none n' c')).run Try.prog w = .ok (.bool a.isNone) w := fun w a n c n' c' => Lib.run_eql_slice_nil w _ _ a n c n' c' Try.underlying29
  rcases h with ⟨rfl, rfl⟩ | ⟨b, o, n, cap, rfl, hp⟩
  · go_enter Try.func46, Try.ntmps46
    go_wp2
    go_ret
    exact ⟨_, rfl, .inl ⟨rfl, rfl⟩, Below.refl _ _⟩
  · have hl := Lib.hid hp.1
    have hb0 := bel_alloc w (.cells #[] 75)
    have HP := Lib.hid (hp.later hb0)
    have hn' : n ≤ 4194304 := by rw [← hp.1]; exact hn
    have hown := own_new w 75 2
    have HO := Lib.hid hown
    have hbs := hb0.size
    clear hp
    go_enter Try.func46, Try.ntmps46
    go_wp2_with (at_builtin; refine wpList_append_own _ rfl _ _ _ rfl w.heap.size 75 i0 _ 2 16 Try.underlying29 hi0 hz0 hz1 hz2 rfl (by omega) (.slice (some ⟨w.heap.size, 0, none⟩) 0 0) 0 [] rfl hown ⟨b, o, none⟩ n cap (flatP ps) rfl (by rw [flatP_len, hl.out]) (pairs_news HP.out) (flatP_one ps) (by unfold maxLen; omega) (by omega) hbs ?_; intro u1 w2 hown2 hgrow2 _; have E2 := hb0.grown hgrow2 hbs (fun k hk => (HO.out.lt k hk).1); have HOW := Lib.hid hown2; clear hown2)
    go_ret
    refine ⟨_, rfl, own_of (t := 75) ?_ E2⟩
    have := HOW.out
    rw [Nat.zero_add, List.nil_append] at this
    rw [hl.out]
    exact this

theorem SlcQ.form {w : World} {v : Value} {os : List Opn} (h : SlcQ w v os) : ∃ (A : Option Addr) (n cap : Nat), v = .slice A n cap ∧ os.length = n := by
  rcases h with ⟨rfl, rfl⟩ | ⟨b, o, n, cap, rfl, _, _, hp⟩
  · exact ⟨_, _, _, rfl, rfl⟩
  · exact ⟨_, _, _, rfl, hp.1⟩

end Go.Proofs.Ythpccmckjmmicaa

/- A shelf as a board and back, an open put to its place: contracts of the program's functions. -/
namespace Go.Proofs.Ythpccmckjmmicaa
open Go.RowKit

/-- A list of seals in a block of its own from lo to hi, or nil. -/
def ResP (wr : World) (lo hi : Nat) (u : Value) (D : List (Int × Int)) : Prop :=
  (u = .slice none 0 0 ∧ D = []) ∨ ∃ g cap, lo ≤ g ∧ g < hi ∧ u = .slice (some ⟨g, 0, none⟩) D.length cap ∧ D.length ≤ cap ∧ cap ≤ maxLen ∧ Held wr g D
/-- A list of opens in a block of its own from lo on, or nil. -/
def ResO (wr : World) (lo : Nat) (v : Value) (D : List Opn) : Prop :=
  (v = .slice none 0 0 ∧ D = []) ∨ ∃ g cap, lo ≤ g ∧ v = .slice (some ⟨g, 0, none⟩) D.length cap ∧ D.length ≤ cap ∧ cap ≤ maxLen ∧ HeldQ wr g D
theorem ResP.later {wr w' : World} {lo hi : Nat} {u : Value} {D : List (Int × Int)} (h : ResP wr lo hi u D) (hb : Below wr.heap.size wr w') : ResP w' lo hi u D := by
  rcases h with h | ⟨g, cap, h1, h2, h3, h4, h5, h6⟩
  · exact .inl h
  · exact .inr ⟨g, cap, h1, h2, h3, h4, h5, h6.later hb⟩
theorem ResO.later {wr w' : World} {lo : Nat} {v : Value} {D : List Opn} (h : ResO wr lo v D) (hb : Below wr.heap.size wr w') : ResO w' lo v D := by
  rcases h with h | ⟨g, cap, h1, h3, h4, h5, h6⟩
  · exact .inl h
  · exact .inr ⟨g, cap, h1, h3, h4, h5, h6.later hb⟩
theorem ResP.far {w : World} {lo hi : Nat} {u : Value} {D : List (Int × Int)} (h : ResP w lo hi u D) {b : Nat} (hb : b < lo) (o : Nat) (x : Value) : ResP (w.setCell ⟨b, o, none⟩ x) lo hi u D := by
  rcases h with h | ⟨g, cap, h1, h2, h3, h4, h5, h6⟩
  · exact .inl h
  · exact .inr ⟨g, cap, h1, h2, h3, h4, h5, HeldK.far h6 (by omega) o x⟩
theorem ResO.far {w : World} {lo : Nat} {v : Value} {D : List Opn} (h : ResO w lo v D) {b : Nat} (hb : b < lo) (o : Nat) (x : Value) : ResO (w.setCell ⟨b, o, none⟩ x) lo v D := by
  rcases h with h | ⟨g, cap, h1, h3, h4, h5, h6⟩
  · exact .inl h
  · exact .inr ⟨g, cap, h1, h3, h4, h5, h6.far (by omega) o x⟩
theorem ResP.form {wr : World} {lo hi : Nat} {u : Value} {D : List (Int × Int)} (h : ResP wr lo hi u D) : ∃ (A : Option Addr) (cap : Nat), u = .slice A D.length cap ∧ D.length ≤ cap ∧ cap ≤ maxLen ∧ Pairs wr wr.heap.size A D.length D ∧ Slc wr u D := by
  rcases h with ⟨rfl, rfl⟩ | ⟨g, cap, h1, h2, rfl, h4, h5, h6⟩
  · exact ⟨none, 0, rfl, Nat.le_refl _, Nat.zero_le _, ⟨rfl, fun h => absurd h (by simp)⟩, .inl ⟨rfl, rfl⟩⟩
  · exact ⟨_, cap, rfl, h4, h5, h6.pairs, .inr ⟨g, 0, _, cap, rfl, h6.pairs⟩⟩
theorem ResO.form {wr : World} {lo : Nat} {v : Value} {D : List Opn} (h : ResO wr lo v D) : ∃ (A : Option Addr) (cap : Nat), v = .slice A D.length cap ∧ D.length ≤ cap ∧ cap ≤ maxLen ∧ Quads wr wr.heap.size A D.length D ∧ SlcQ wr v D := by
  rcases h with ⟨rfl, rfl⟩ | ⟨g, cap, h1, rfl, h4, h5, h6⟩
  · exact ⟨none, 0, rfl, Nat.le_refl _, Nat.zero_le _, quads_nil _ _ _, .inl ⟨rfl, rfl⟩⟩
  · exact ⟨_, cap, rfl, h4, h5, h6.quads, .inr ⟨g, 0, _, cap, rfl, h4, h5, h6.quads⟩⟩
theorem Own.res {w w' : World} {u : Value} {ps : List (Int × Int)} {lo : Nat} (h : Own w u ps w') (hl : lo ≤ w.heap.size) : ResP w' lo w'.heap.size u ps := by
  rcases h.1 with h | ⟨g, cap, h1, rfl, h3, h4, hh⟩
  · exact .inl h
  · exact .inr ⟨g, cap, by omega, hh.lt, rfl, h3, h4, hh⟩
theorem OwnQ.res {w w' : World} {v : Value} {os : List Opn} {lo : Nat} (h : OwnQ w v os w') (hl : lo ≤ w.heap.size) : ResO w' lo v os := by
  rcases h.1 with h | ⟨g, cap, h1, rfl, h3, h4, hh⟩
  · exact .inl h
  · exact .inr ⟨g, cap, by omega, rfl, h3, h4, hh⟩
theorem ResP.slc {wr : World} {lo hi : Nat} {u : Value} {D : List (Int × Int)} (h : ResP wr lo hi u D) : Slc wr u D := by
  obtain ⟨_, _, _, _, _, _, hs⟩ := h.form
  exact hs
theorem ResO.slc {wr : World} {lo : Nat} {v : Value} {D : List Opn} (h : ResO wr lo v D) : SlcQ wr v D := by
  obtain ⟨_, _, _, _, _, _, hs⟩ := h.form
  exact hs

theorem ResP.wide {wr : World} {lo lo' hi hi' : Nat} {u : Value} {D : List (Int × Int)} (h : ResP wr lo hi u D) (h1 : lo' ≤ lo) (h2 : hi ≤ hi') : ResP wr lo' hi' u D := by
  rcases h with h | ⟨g, cap, a, b, c⟩
  · exact .inl h
  · exact .inr ⟨g, cap, by omega, by omega, c⟩
theorem ResO.wide {wr : World} {lo lo' : Nat} {v : Value} {D : List Opn} (h : ResO wr lo v D) (h1 : lo' ≤ lo) : ResO wr lo' v D := by
  rcases h with h | ⟨g, cap, a, c⟩
  · exact .inl h
  · exact .inr ⟨g, cap, by omega, c⟩
theorem ResP.far5 {w : World} {lo hi : Nat} {u : Value} {D : List (Int × Int)} (h : ResP w lo hi u D) {b : Nat} (hb : b < lo) (x0 x1 x2 x3 x4 : Value) : ResP (((((w.setCell ⟨b, 0, none⟩ x0).setCell ⟨b, 1, none⟩ x1).setCell ⟨b, 2, none⟩ x2).setCell ⟨b, 3, none⟩ x3).setCell ⟨b, 4, none⟩ x4) lo hi u D :=
  ((((h.far hb 0 x0).far hb 1 x1).far hb 2 x2).far hb 3 x3).far hb 4 x4
theorem ResO.far5 {w : World} {lo : Nat} {u : Value} {D : List Opn} (h : ResO w lo u D) {b : Nat} (hb : b < lo) (x0 x1 x2 x3 x4 : Value) : ResO (((((w.setCell ⟨b, 0, none⟩ x0).setCell ⟨b, 1, none⟩ x1).setCell ⟨b, 2, none⟩ x2).setCell ⟨b, 3, none⟩ x3).setCell ⟨b, 4, none⟩ x4) lo u D :=
  ((((h.far hb 0 x0).far hb 1 x1).far hb 2 x2).far hb 3 x3).far hb 4 x4
theorem bel_five {w0 w : World} {b : Nat} (h : Below w0.heap.size w0 w) (hb : w0.heap.size ≤ b) (x0 x1 x2 x3 x4 : Value) : Below w0.heap.size w0 (((((w.setCell ⟨b, 0, none⟩ x0).setCell ⟨b, 1, none⟩ x1).setCell ⟨b, 2, none⟩ x2).setCell ⟨b, 3, none⟩ x3).setCell ⟨b, 4, none⟩ x4) :=
  ((((h.setCell hb x0).setCell hb x1).setCell hb x2).setCell hb x3).setCell hb x4
theorem slc_form {w : World} {v : Value} {ps : List (Int × Int)} (h : Slc w v ps) : ∃ (A : Option Addr) (n cap : Nat), v = .slice A n cap := by
  rcases h with ⟨rfl, _⟩ | ⟨b, o, n, cap, rfl, _⟩ <;> exact ⟨_, _, _, rfl⟩
theorem slcQ_form {w : World} {v : Value} {os : List Opn} (h : SlcQ w v os) : ∃ (A : Option Addr) (n cap : Nat), v = .slice A n cap := by
  rcases h with ⟨rfl, _⟩ | ⟨b, o, n, cap, rfl, _⟩ <;> exact ⟨_, _, _, rfl⟩
theorem tenF {w : World} {g g' : Nat} {t t' : TypeId} {v0 v1 v2 v3 v4 u0 u1 u2 u3 u4 : Value} (h : Box w g t #[v0, v1, v2, v3, v4]) (h' : Box w g' t' #[u0, u1, u2, u3, u4]) :
    w.cell? ⟨g, 0, none⟩ = some v0 ∧ w.cell? ⟨g, 1, none⟩ = some v1 ∧ w.cell? ⟨g, 2, none⟩ = some v2 ∧ w.cell? ⟨g, 3, none⟩ = some v3 ∧ w.cell? ⟨g, 4, none⟩ = some v4 ∧
    w.cell? ⟨g', 0, none⟩ = some u0 ∧ w.cell? ⟨g', 1, none⟩ = some u1 ∧ w.cell? ⟨g', 2, none⟩ = some u2 ∧ w.cell? ⟨g', 3, none⟩ = some u3 ∧ w.cell? ⟨g', 4, none⟩ = some u4 ∧
    w.frozen? ⟨g', 0, none⟩ = false ∧ w.frozen? ⟨g', 1, none⟩ = false ∧ w.frozen? ⟨g', 2, none⟩ = false ∧ w.frozen? ⟨g', 3, none⟩ = false ∧ w.frozen? ⟨g', 4, none⟩ = false :=
  ⟨h.cell 0, h.cell 1, h.cell 2, h.cell 3, h.cell 4, h'.cell 0, h'.cell 1, h'.cell 2, h'.cell 3, h'.cell 4, h'.frozen 0, h'.frozen 1, h'.frozen 2, h'.frozen 3, h'.frozen 4⟩
/-- A shelf that is answered: its lists lie in blocks of their own. -/
def RegR (w : World) (rt rq rv : Int) (ps : List (Int × Int)) (os : List Opn) (e : Ending) (w' : World) : Prop :=
  ∃ (B : Nat) (u v : Value), w.heap.size ≤ B ∧ B ≤ w'.heap.size ∧ e = .returned (.agg #[.int .i64 rt, .int .i64 rq, .int .i64 rv, u, v]) ∧ ResP w' w.heap.size B u ps ∧ ResO w' B v os ∧ Below w.heap.size w w'

theorem place_put {os : List Opn} {o : Opn} {w w' : World} {e : Ending} (h : Place o.1 os w e w') : Below w.heap.size w w' ∧ ∃ i j : Nat, i ≤ os.length ∧ j ≤ os.length ∧ e = .returned (.tuple #[.int .i64 (i : Int), .int .i64 (j : Int)]) ∧ withO os o = putO os i j o := by
  obtain ⟨hb, ⟨i, hi, rfl⟩ | ⟨hn, rfl⟩⟩ := h
  · exact ⟨hb, i, i + 1, by have := hi.1; omega, hi.1, by rw [show ((i + 1 : Nat) : Int) = (i : Int) + 1 by omega], withO_first hi⟩
  · exact ⟨hb, _, _, behN_le _ _, behN_le _ _, rfl, withO_none hn⟩

theorem slcQ_take {w : World} {bb oo q qc i : Nat} {os : List Opn} (h : Quads w w.heap.size (some ⟨bb, oo, none⟩) q os) (hi : i ≤ q) (hc : q ≤ qc) (hm : qc ≤ maxLen) : SlcQ w (.slice (some ⟨bb, oo, none⟩) i qc) (os.take i) :=
  .inr ⟨bb, oo, i, qc, rfl, by omega, hm, h.take hi⟩
theorem slcQ_one {w : World} {g : Nat} {t : TypeId} {a b c d : Int} (h : Box w g t #[.int .i64 a, .int .i64 b, .int .i64 c, .int .i64 d]) : SlcQ w (.slice (some ⟨g, 0, none⟩) 1 1) [(a, b, c, d)] :=
  .inr ⟨g, 0, 1, 1, rfl, Nat.le_refl _, by unfold maxLen; omega, rfl, fun _ => ⟨g, 0, rfl, h.lt, fun i hi => by
    obtain rfl : i = 0 := by omega
    exact ⟨h.cell 0, h.cell 1, h.cell 2, h.cell 3⟩⟩⟩
theorem slcQ_drop {w : World} {bb oo q qc j : Nat} {os : List Opn} (h : Quads w w.heap.size (some ⟨bb, oo, none⟩) q os) (hj : j ≤ q) (hc : q ≤ qc) (hm : qc ≤ maxLen) : SlcQ w (.slice (if qc = j then some ⟨bb, oo, none⟩ else some ⟨bb, oo + j * 4, none⟩) (q - j) (qc - j)) (os.drop j) := by
  by_cases e : qc = j
  · rw [if_pos e]
    have e0 : q - j = 0 := by omega
    have e1 : os.drop j = [] := List.drop_of_length_le (by have := h.1; omega)
    rw [e0, e1]
    exact .inr ⟨bb, oo, 0, qc - j, rfl, by omega, by omega, quads_nil _ _ _⟩
  · rw [if_neg e]
    exact .inr ⟨bb, oo + j * 4, q - j, qc - j, rfl, by omega, by omega, h.drop hj⟩

set_option maxRecDepth 100000 in
/-- WithOpen's last step, of which the walk speaks twice. -/
theorem regr_put {w wc w' : World} {rt rq rv : Int} {ps : List (Int × Int)} {os : List Opn} {B R : Nat} {u v : Value} (E : Below w.heap.size w wc) (hR0 : w.heap.size ≤ R) (hR : R < wc.heap.size) (hB : wc.heap.size ≤ B) (hB' : B ≤ w'.heap.size) (h1 : ResP w' wc.heap.size B u ps) (h2 : ResO w' B v os) (hb : Below wc.heap.size wc w') (x0 x1 x2 x3 x4 : Value) :
    RegR w rt rq rv ps os (.returned (.agg #[.int .i64 rt, .int .i64 rq, .int .i64 rv, u, v])) (((((w'.setCell ⟨R, 0, none⟩ x0).setCell ⟨R, 1, none⟩ x1).setCell ⟨R, 2, none⟩ x2).setCell ⟨R, 3, none⟩ x3).setCell ⟨R, 4, none⟩ x4) :=
  ⟨B, u, v, Nat.le_trans E.size hB, by simp only [size_set]; exact hB', rfl, (h1.far5 hR x0 x1 x2 x3 x4).wide E.size (Nat.le_refl _), h2.far5 (by omega) x0 x1 x2 x3 x4, bel_five (bel_trans E hb) hR0 x0 x1 x2 x3 x4⟩

end Go.Proofs.Ythpccmckjmmicaa
