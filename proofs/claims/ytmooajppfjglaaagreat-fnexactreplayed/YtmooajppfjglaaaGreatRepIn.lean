/- What the program's Replayed carries from round to round: shelves that abide whatever a loop over a function does to its own blocks; how long they can get; no conditions. -/
import Derived.Test.YtmooajppfjglaaaGreatIter9
import Derived.Test.YtmooajppfjglaaaGreatRegsBlock
namespace Go.Proofs.YtmooajppfjglaaaGreat
open Go Go.RowKit Go.Shelf

/-- Whatever was cells lies as it lay. -/
structure CellsK (w w' : World) : Prop where
  size : w.heap.size ≤ w'.heap.size
  block : ∀ (i : Nat) (o : Obj), w.heap[i]? = some o → o.isCells = true → w'.heap[i]? = some o
theorem CellsK.same {w w' : World} (h : CellsK w w') {a : Addr} {v : Value} (hc : w.cell? a = some v) : w'.heap[a.block]? = w.heap[a.block]? := by
  unfold World.cell? at hc
  rcases ho : w.heap[a.block]? with _ | o
  · rw [ho] at hc; cases hc
  · rw [ho] at hc
    cases o with
    | cells c e f => exact h.block _ _ ho rfl
    | _ => simp at hc
theorem CellsK.cell {w w' : World} (h : CellsK w w') {a : Addr} {v : Value} (hc : w.cell? a = some v) : w'.cell? a = some v := (World.cell?_of_block (h.same hc)).trans hc
theorem CellsK.box {w w' : World} (h : CellsK w w') {g : Nat} {t : TypeId} {cs : Array Value} (hx : Box w g t cs) : Box w' g t cs := h.block g _ hx rfl
theorem CellsK.held {w w' : World} (h : CellsK w w') {g : Nat} {d : List (Int × Int)} (hx : Held w g d) (hd : 0 < d.length) : Held w' g d := by
  have hs := h.same (hx.at0 0 hd)
  exact ⟨Nat.lt_of_lt_of_le hx.lt h.size, fun o => (World.frozen?_of_block (a := ⟨g, o, none⟩) hs).trans (hx.fr o), fun i hi => (World.cell?_of_block (a := ⟨g, i * 2, none⟩) hs).trans (hx.at0 i hi), fun i hi => (World.cell?_of_block (a := ⟨g, i * 2 + 1, none⟩) hs).trans (hx.at1 i hi)⟩
theorem CellsK.heldQ {w w' : World} (h : CellsK w w') {g : Nat} {d : List Opn} (hx : HeldQ w g d) (hd : 0 < d.length) : HeldQ w' g d := by
  have hs := h.same (hx.cs 0 hd).1
  exact hx.keep (Nat.lt_of_lt_of_le hx.lt h.size) (fun o => World.frozen?_of_block (a := ⟨g, o, none⟩) hs) (fun o => World.cell?_of_block (a := ⟨g, o, none⟩) hs)
theorem cellsK_own {w w' : World} {row : Option Nat} (hg : w.grownBy w' row) (hr : ∀ r, row = some r → ∃ o : Obj, w.heap[r]? = some o ∧ o.isCells = false) : CellsK w w' :=
  ⟨hg.size, fun i o hi hc => (hg.block i (Array.getElem?_eq_some_iff.1 hi).1 (fun e => by
    obtain ⟨o', ho, hc'⟩ := hr i e.symm
    rw [hi] at ho
    injection ho with ho
    subst ho
    rw [hc] at hc'
    cases hc')).trans hi⟩

/-- A list in a block of its own, or an empty one. -/
def ResE (w : World) (lo hi : Nat) (u : Value) (D : List (Int × Int)) : Prop :=
  (u = .slice none 0 0 ∧ D = []) ∨ ∃ g cap, lo ≤ g ∧ g < hi ∧ u = .slice (some ⟨g, 0, none⟩) D.length cap ∧ D.length ≤ cap ∧ cap ≤ maxLen ∧ (0 < D.length → Held w g D)
def ResEQ (w : World) (lo hi : Nat) (u : Value) (D : List Opn) : Prop :=
  (u = .slice none 0 0 ∧ D = []) ∨ ∃ g cap, lo ≤ g ∧ g < hi ∧ u = .slice (some ⟨g, 0, none⟩) D.length cap ∧ D.length ≤ cap ∧ cap ≤ maxLen ∧ (0 < D.length → HeldQ w g D)
theorem ResE.turn {T : Nat → Prop} {w w' : World} {lo hi : Nat} {v : Value} {ps : List (Int × Int)} (h : ResE w lo hi v ps) (ht : Turns T w w') (hd : ∀ b, Iv lo hi b → ¬ T b) : ResE w' lo hi v ps := by
  rcases h with h | ⟨g, cap, h0, h0', h1, h2, h3, h4⟩
  · exact .inl h
  · exact .inr ⟨g, cap, h0, h0', h1, h2, h3, fun hp => (h4 hp).turn ht (hd g ⟨h0, h0'⟩)⟩
theorem ResEQ.turn {T : Nat → Prop} {w w' : World} {lo hi : Nat} {v : Value} {ps : List Opn} (h : ResEQ w lo hi v ps) (ht : Turns T w w') (hd : ∀ b, Iv lo hi b → ¬ T b) : ResEQ w' lo hi v ps := by
  rcases h with h | ⟨g, cap, h0, h0', h1, h2, h3, h4⟩
  · exact .inl h
  · exact .inr ⟨g, cap, h0, h0', h1, h2, h3, fun hp => (h4 hp).turn ht (hd g ⟨h0, h0'⟩)⟩
theorem ResE.cells {w w' : World} {lo hi : Nat} {v : Value} {ps : List (Int × Int)} (h : ResE w lo hi v ps) (hk : CellsK w w') : ResE w' lo hi v ps := by
  rcases h with h | ⟨g, cap, h0, h0', h1, h2, h3, h4⟩
  · exact .inl h
  · exact .inr ⟨g, cap, h0, h0', h1, h2, h3, fun hp => hk.held (h4 hp) hp⟩
theorem ResEQ.cells {w w' : World} {lo hi : Nat} {v : Value} {ps : List Opn} (h : ResEQ w lo hi v ps) (hk : CellsK w w') : ResEQ w' lo hi v ps := by
  rcases h with h | ⟨g, cap, h0, h0', h1, h2, h3, h4⟩
  · exact .inl h
  · exact .inr ⟨g, cap, h0, h0', h1, h2, h3, fun hp => hk.heldQ (h4 hp) hp⟩
theorem ResE.slc {w : World} {lo hi : Nat} {A : Option Addr} {n c : Nat} {ps : List (Int × Int)} (h : ResE w lo hi (.slice A n c) ps) : Slc w (.slice A n c) ps ∧ ps.length = n := by
  rcases h with ⟨h, rfl⟩ | ⟨g, cap, h0, h0', h1, h2, h3, h4⟩
  · injection h with h1 h2 h3
    exact ⟨.inl ⟨by rw [h1, h2, h3], rfl⟩, h2.symm⟩
  · injection h1 with e1 e2 e3
    subst e1 e2 e3
    refine ⟨.inr ⟨g, 0, _, _, rfl, ?_⟩, rfl⟩
    by_cases hp : 0 < ps.length
    · exact (h4 hp).pairs
    · exact ⟨rfl, fun h => absurd h hp⟩
theorem ResEQ.slc {w : World} {lo hi : Nat} {A : Option Addr} {n c : Nat} {ps : List Opn} (h : ResEQ w lo hi (.slice A n c) ps) : SlcQ w (.slice A n c) ps ∧ ps.length = n := by
  rcases h with ⟨h, rfl⟩ | ⟨g, cap, h0, h0', h1, h2, h3, h4⟩
  · injection h with h1 h2 h3
    exact ⟨.inl ⟨by rw [h1, h2, h3], rfl⟩, h2.symm⟩
  · injection h1 with e1 e2 e3
    subst e1 e2 e3
    refine ⟨.inr ⟨g, 0, _, _, rfl, h2, h3, ?_⟩, rfl⟩
    by_cases hp : 0 < ps.length
    · exact (h4 hp).quads
    · exact ⟨rfl, fun h => absurd h hp⟩
/-- A shelf of one's own, but for empty lists. -/
def LieE (d : RegD) (w : World) (F : Nat → Prop) (v : Value) : Prop := ∃ (A : Option Addr) (n c : Nat) (A' : Option Addr) (n' c' lo B hi : Nat), v = .agg #[.int .i64 d.t, .int .i64 d.q, .int .i64 d.v, .slice A n c, .slice A' n' c'] ∧ ResE w lo B (.slice A n c) d.ps ∧ ResEQ w B hi (.slice A' n' c') d.os ∧ lo ≤ B ∧ B ≤ hi ∧ hi ≤ w.heap.size ∧ ∀ b, Iv lo hi b → F b
theorem keepsLE (d : RegD) : Keeps (LieE d) :=
  ⟨fun ⟨A, n, c, A', n', c', lo, B, hi, e, h1, h2, o1, o2, o3, hF⟩ ht hd => ⟨A, n, c, A', n', c', lo, B, hi, e, h1.turn ht (fun b hb => hd b (hF b (iv_sub (Nat.le_refl _) o2 b hb))), h2.turn ht (fun b hb => hd b (hF b (iv_sub o1 (Nat.le_refl _) b hb))), o1, o2, Nat.le_trans o3 ht.size, hF⟩,
   fun ⟨A, n, c, A', n', c', lo, B, hi, e, h1, h2, o1, o2, o3, hF⟩ hs => ⟨A, n, c, A', n', c', lo, B, hi, e, h1, h2, o1, o2, o3, fun b hb => hs b (hF b hb)⟩⟩
theorem LieE.cells {d : RegD} {w w' : World} {F : Nat → Prop} {v : Value} (h : LieE d w F v) (hk : CellsK w w') : LieE d w' F v := by
  obtain ⟨A, n, c, A', n', c', lo, B, hi, e, h1, h2, o1, o2, o3, hF⟩ := h
  exact ⟨A, n, c, A', n', c', lo, B, hi, e, h1.cells hk, h2.cells hk, o1, o2, Nat.le_trans o3 hk.size, hF⟩
theorem LieR.lieE {d : RegD} {w : World} {F : Nat → Prop} {v : Value} (h : LieR d w F v) : LieE d w F v := by
  obtain ⟨A, n, c, A', n', c', lo, B, hi, e, h1, h2, o1, o2, o3, hF⟩ := h
  refine ⟨A, n, c, A', n', c', lo, B, hi, e, ?_, ?_, o1, o2, o3, hF⟩
  · rcases h1 with h | ⟨g, cap, h0, h0', h1, h2, h3, h4⟩
    · exact .inl h
    · exact .inr ⟨g, cap, h0, h0', h1, h2, h3, fun _ => h4⟩
  · rcases h2 with h | ⟨g, cap, h0, h0', h1, h2, h3, h4⟩
    · exact .inl h
    · exact .inr ⟨g, cap, h0, h0', h1, h2, h3, fun _ => h4⟩
theorem zeroE (w : World) : LieE ⟨0, 0, 0, [], []⟩ w (fun _ => False) (.agg #[.int .i64 0, .int .i64 0, .int .i64 0, .slice none 0 0, .slice none 0 0]) := (zeroL w).lieE
theorem LieE.slc {d : RegD} {w : World} {F : Nat → Prop} {u v : Value} (h : LieE d w F (.agg #[.int .i64 d.t, .int .i64 d.q, .int .i64 d.v, u, v])) : ∃ (A : Option Addr) (n c : Nat) (A' : Option Addr) (n' c' : Nat), u = .slice A n c ∧ v = .slice A' n' c' ∧ Slc w (.slice A n c) d.ps ∧ SlcQ w (.slice A' n' c') d.os ∧ d.ps.length = n ∧ d.os.length = n' := by
  obtain ⟨A, n, c, A', n', c', lo, B, hi, e, h1, h2, -⟩ := h
  injection e with e
  injection e with e
  simp only [List.cons.injEq, and_true, true_and] at e
  exact ⟨A, n, c, A', n', c', e.1, e.2, h1.slc.1, h2.slc.1, h1.slc.2, h2.slc.2⟩
theorem RegsOwn.cells {w w' : World} {G lo : Nat} {rs : List RegD} (h : RegsOwn LieE w G lo rs) (hk : CellsK w w') : RegsOwn LieE w' G lo rs := by
  obtain ⟨hg, Fs, hR, hF⟩ := h
  refine ⟨hg, Fs, ⟨?_, hR.apart, hR.two⟩, fun i hi b hb => ⟨(hF i hi b hb).1, Nat.lt_of_lt_of_le (hF i hi b hb).2 hk.size⟩⟩
  obtain ⟨cs, hb, hs, hc⟩ := hR.blk
  refine ⟨cs, hk.box hb, hs, fun i hi => ?_⟩
  obtain ⟨u, v, c0, c1, c2, c3, c4, hL⟩ := hc i hi
  exact ⟨u, v, c0, c1, c2, c3, c4, hL.cells hk⟩

/-- The shelves behind these rounds, in whatever order they came. -/
def shI (g : GrpD) (ds : List RecD) (pre : List (Fin ds.length)) : List RegD := pre.foldl (fun rs k => stepR g rs ds[k.val]) (List.replicate g.sh.toNat zeroR)
theorem shI_snoc (g : GrpD) (ds : List RecD) (pre : List (Fin ds.length)) (x : Fin ds.length) : shI g ds (pre ++ [x]) = stepR g (shI g ds pre) ds[x.val] := by
  unfold shI
  rw [List.foldl_append, List.foldl_cons, List.foldl_nil]
theorem shI_len (g : GrpD) (ds : List RecD) (pre : List (Fin ds.length)) : (shI g ds pre).length = g.sh.toNat := by
  have key : ∀ (pre : List (Fin ds.length)) (rs : List RegD), (pre.foldl (fun rs k => stepR g rs ds[k.val]) rs).length = rs.length := by
    intro pre
    induction pre with
    | nil => intro rs; rfl
    | cons d pre ih => intro rs; rw [List.foldl_cons, ih, stepR_len]
  unfold shI
  rw [key, List.length_replicate]
theorem shI_all (g : GrpD) (ds : List RecD) : shI g ds (List.finRange ds.length) = shelves g ds := by
  have key : ∀ k, k ≤ ds.length → shI g ds (firsts ds.length k) = shelves g (ds.take k) := by
    intro k
    induction k with
    | zero => intro _; rfl
    | succ k ih => intro hk; rw [firsts_snoc _ _ (by omega), shI_snoc, ih (by omega), shelves_snoc g ds (by omega)]
  have h := key ds.length (Nat.le_refl _)
  rw [firsts_all, List.take_length] at h
  exact h
theorem onto_len2 (g : GrpD) (d : RecD) (r : RegD) {M n : Nat} (h1 : r.ps.length ≤ M) (h2 : d.ps.length ≤ M) (h3 : r.os.length ≤ n) : (ontoD g d r).ps.length ≤ M ∧ (ontoD g d r).os.length ≤ n + 1 := by
  unfold ontoD
  split
  · have := withO_len r.os (d.r4, d.r5, d.r6, d.r7)
    show r.ps.length ≤ M ∧ (withO r.os (d.r4, d.r5, d.r6, d.r7)).length ≤ n + 1
    omega
  · unfold outW
    simp only
    split
    · simp
    split
    · exact ⟨h1, show r.os.length ≤ n + 1 by omega⟩
    split
    · have := goodP_le (rB g.s g.l g.c g.sh g.zs 1 d.r3 d.r5 d.r6 d.r7) d.ps
      show (goodP (rB g.s g.l g.c g.sh g.zs 1 d.r3 d.r5 d.r6 d.r7) d.ps).length ≤ M ∧ r.os.length ≤ n + 1
      omega
    · exact ⟨h1, show r.os.length ≤ n + 1 by omega⟩
theorem regOf_step (g : GrpD) (rs : List RegD) (d : RecD) (i : Nat) : regOf (stepR g rs d) i = regOf rs i ∨ regOf (stepR g rs d) i = ontoD g d (regOf rs i) := by
  unfold stepR
  by_cases hi : d.r3.toNat = i
  · subst hi
    by_cases hl : d.r3.toNat < rs.length
    · exact .inr (by simp [regOf, hl])
    · exact .inl (by rw [List.set_eq_of_length_le (by omega)])
  · exact .inl (by simp [regOf, hi])
theorem shI_sz (g : GrpD) (ds : List RecD) {M : Nat} (hM : ∀ k (h : k < ds.length), (ds[k]).ps.length ≤ M) (pre : List (Fin ds.length)) (i : Nat) : (regOf (shI g ds pre) i).ps.length ≤ M ∧ (regOf (shI g ds pre) i).os.length ≤ pre.length := by
  have key : ∀ (pre : List (Fin ds.length)) (rs : List RegD) (n : Nat), (∀ i, (regOf rs i).ps.length ≤ M ∧ (regOf rs i).os.length ≤ n) → ∀ i, (regOf (pre.foldl (fun rs k => stepR g rs ds[k.val]) rs) i).ps.length ≤ M ∧ (regOf (pre.foldl (fun rs k => stepR g rs ds[k.val]) rs) i).os.length ≤ n + pre.length := by
    intro pre
    induction pre with
    | nil => intro rs n h i; exact h i
    | cons k pre ih =>
      intro rs n h i
      have := ih (stepR g rs ds[k.val]) (n + 1) (fun i => by
        rcases regOf_step g rs ds[k.val] i with e | e
        · rw [e]; have := h i; omega
        · rw [e]; exact onto_len2 g _ _ (h i).1 (hM k.val k.isLt) (h i).2) i
      rw [List.foldl_cons, List.length_cons]
      omega
  have := key pre (List.replicate g.sh.toNat zeroR) 0 (fun i => by
    have h : regOf (List.replicate g.sh.toNat zeroR) i = zeroR := by
      unfold regOf
      simp only [List.getD_eq_getElem?_getD, List.getElem?_replicate]
      split <;> rfl
    rw [h]
    exact ⟨Nat.zero_le _, Nat.le_refl _⟩) i
  rw [Nat.zero_add] at this
  exact this
end Go.Proofs.YtmooajppfjglaaaGreat
