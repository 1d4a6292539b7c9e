/- Variables kept whole as boxes: loads of them in drawn regions, a step where one of two operations may come up, worlds in which only some blocks turned; no conditions. -/
import Derived.Test.YtjdepjpjjgkmbaaGreatSink
import Derived.Test.YtjdepjpjjgkmbaaGreatNoteShape
namespace Go.Proofs.YtjdepjpjjgkmbaaGreat
open Go Go.RowKit

section
variable {P : Program} {ops : Array Oper} {Q : Exit → Act → World → Prop} {md : Region.Mode} {S : World → Prop} {z : Nat}

theorem run_load_box {o : Oper} {a : Act} {w : World} (ty : TypeId) (x : Operand) (ho : o.op = .load ty x) (g : Nat) (hx : a.eval x = .pointer (some ⟨g, 0, none⟩)) (t : TypeId) (cs : Array Value) (hg : Box w g t cs) (d : TypeDesc)
    (hu : P.underlying ty = some d) (hd : (match d with | .struct _ | .array _ _ => true | _ => false) = true) (hi : (P.info? ty).map (·.size) = some cs.size) :
    (execOp a.eval o).run P w = .ok (.value (.agg cs)) w := by
  unfold execOp
  simp only [ho, hx, Instr.loadAt, Instr.sureAddr, Sem.run_bind, Sem.run_pure, Result.andThen_ok, run_loadVar_row w g t ty cs (0, 0) d hg hu hd hi]

/-- A load of a whole variable yields its cells wherever its box stands. -/
theorem yields_box {o : Oper} {a : Act} (ty : TypeId) (x : Operand) (ho : o.op = .load ty x) (g : Nat) (hx : a.eval x = .pointer (some ⟨g, 0, none⟩)) (t : TypeId) (cs : Array Value) (hS : ∀ w, S w → Box w g t cs) (d : TypeDesc)
    (hu : P.underlying ty = some d) (hd : (match d with | .struct _ | .array _ _ => true | _ => false) = true) (hi : (P.info? ty).map (·.size) = some cs.size)
    (hw : Region.wanted o (yielded ops a.tmps) = true) : YieldsIf P ops S o (.agg cs) a :=
  .inl ⟨hw, fun w h => run_load_box ty x ho g hx t cs (hS w h) d hu hd hi⟩

/-- Take number i first, where S holds behind every operation: number z is none of the region's. -/
theorem wpAnyE_firstS {i : Nat} {oi : Oper} {v : Value} (hi : ops[i]? = some oi) (hsel : ∀ (j : Nat) (o : Oper) cs b, ops[j]? = some o → o.op ≠ .select cs b)
    (hQ : ∀ c a w, Q (.panic c) (a.put oi.dst v) w → Q (.panic c) a w) (hz : ops[z]? = none) :
    ∀ (fuel : Nat) (listed : Array Bool) (a : Act) (w : World),
      (∀ j oj, ops[j]? = some oj → j ≠ i → listed.getD j true = false → (∀ e ∈ oj.after, Region.binds md e = true → e.on ≠ i) → oi.apart ops oj = true) →
      i ∈ Region.ready md ops listed → YieldsIf P ops S oi v a → listed.getD z false = false → S w →
      wpAnyE P md ops Q S z fuel (listed.setIfInBounds i true) (a.put oi.dst v) w → wpAnyE P md ops Q S z (fuel + 1) listed a w := by
  have hiz : i ≠ z := fun e => by rw [e, hz] at hi; cases hi
  intro fuel
  induction fuel with
  | zero =>
    intro listed a w _ hr hy _ hS H
    refine ⟨fun h => (by rw [h] at hr; cases hr), fun j hj => ?_⟩
    by_cases hji : j = i
    · subst hji; exact hy.wpOp hi hS ⟨fun _ _ => hS, H⟩
    · have := ready_mono hj hji
      rw [H.1] at this
      cases this
  | succ fuel ih =>
    intro listed a w hfree hr hy hl hS H
    refine ⟨fun h => (by rw [h] at hr; cases hr), fun j hj => ?_⟩
    by_cases hji : j = i
    · subst hji; exact hy.wpOp hi hS ⟨fun _ _ => hS, H⟩
    · have h1 := H.2 j (ready_mono hj hji)
      obtain ⟨hjun, oj, hoj, hall⟩ := mem_ready.1 hj
      have hjz : j ≠ z := fun e => by rw [e, hz] at hoj; cases hoj
      have hun := (mem_ready.1 hr).1
      have hnot : ∀ e ∈ oj.after, Region.binds md e = true → e.on ≠ i := fun e he hb heq => by
        have h1 := hall e he hb
        rw [heq, getD_both hun] at h1
        cases h1
      have hzset : (listed.setIfInBounds i true).getD z false = false := by rw [getD_set_ne false hiz]; exact hl
      have h2 := wpOp_putIf hoj (hfree j oj hoj hji hjun hnot) (fun cs b => hsel i oi cs b hi) (fun cs b => hsel j oj cs b hoj) hQ hy h1
      have hfree' : ∀ k ok, ops[k]? = some ok → k ≠ i → (listed.setIfInBounds j true).getD k true = false →
          (∀ e ∈ ok.after, Region.binds md e = true → e.on ≠ i) → oi.apart ops ok = true := fun k ok hk hki hun hno => by
        refine hfree k ok hk hki ?_ hno
        by_cases hjk : j = k
        · subst hjk; exact hjun
        · rw [getD_set_ne true hjk] at hun; exact hun
      refine wpOp_mono (fun a' w' h3 => ⟨fun hjz' _ => h3.2.1 hjz' hzset, ih (listed.setIfInBounds j true) a' w' hfree' (ready_mono hr (Ne.symm hji)) h3.1 (by rw [getD_set_ne false hjz]; exact hl) (h3.2.1 hjz hzset) ?_⟩) h2
      rw [Array.setIfInBounds_comm _ _ hji]
      exact h3.2.2
theorem wpAnyE_takeS {i : Nat} {oi : Oper} {v : Value} {fuel : Nat} {listed : Array Bool} {a : Act} {w : World} (hi : ops[i]? = some oi)
    (hs : Region.noSelect ops = true) (hf : Region.free md ops listed i = true) (hr : (Region.ready md ops listed).contains i = true)
    (hQ : ∀ c a w, Q (.panic c) (a.put oi.dst v) w → Q (.panic c) a w) (hz : (ops[z]?.isNone && !listed.getD z false) = true) (hy : YieldsIf P ops S oi v a) (hS : S w)
    (h : wpAnyE P md ops Q S z fuel (listed.setIfInBounds i true) (a.put oi.dst v) w) : wpAnyE P md ops Q S z (fuel + 1) listed a w := by
  simp only [Bool.and_eq_true, Bool.not_eq_true', Option.isNone_iff_eq_none] at hz
  exact wpAnyE_firstS hi (Region.noSelect_spec hs) hQ hz.1 fuel listed a w (Region.free_spec hi hf) (by simpa using hr) hy hz.2 hS h
/-- Number i alone can come up, and it is the last one. -/
theorem wpAnyE_end {i : Nat} {o : Oper} {fuel : Nat} {listed : Array Bool} {a : Act} {w : World} (hr : Region.ready md ops listed = [i]) (ho : ops[i]? = some o) (hend : Region.ready md ops (listed.setIfInBounds i true) = [])
    (h : ∀ K' : Act → World → Prop, Shut (∀ a w, S w → Q .normal a w → K' a w) → if Region.wanted o (yielded ops a.tmps) = true then Oper.wp P o a w K' Q else K' (a.put o.dst undef) w) : wpAnyE P md ops Q S z (fuel + 1) listed a w := by
  refine ⟨fun h0 => (by rw [hr] at h0; cases h0), fun j hj => ?_⟩
  rw [hr] at hj
  have e : j = i := by simpa using hj
  subst e
  refine wpOp_step ho (fun K' hK => h K' (fun a w hS hW => hK a w ⟨fun _ _ => hS, ?_⟩))
  cases fuel with
  | zero => exact ⟨hend, hW⟩
  | succ f => exact ⟨fun _ => hW, by rw [hend]; simp⟩

/-- One of two can come up. -/
theorem wpAnyE_two {i j : Nat} {oi oj : Oper} {fuel : Nat} {listed : Array Bool} {a : Act} {w : World} (hr : Region.ready md ops listed = [i, j]) (hoi : ops[i]? = some oi) (hoj : ops[j]? = some oj)
    (hi : ∀ K' : Act → World → Prop, Shut (∀ a w, S w → (S w → wpAnyE P md ops Q S z fuel (listed.setIfInBounds i true) a w) → K' a w) → if Region.wanted oi (yielded ops a.tmps) = true then Oper.wp P oi a w K' Q else K' (a.put oi.dst undef) w)
    (hj : ∀ K' : Act → World → Prop, Shut (∀ a w, S w → (S w → wpAnyE P md ops Q S z fuel (listed.setIfInBounds j true) a w) → K' a w) → if Region.wanted oj (yielded ops a.tmps) = true then Oper.wp P oj a w K' Q else K' (a.put oj.dst undef) w) :
    wpAnyE P md ops Q S z (fuel + 1) listed a w := by
  refine ⟨fun h0 => (by rw [hr] at h0; cases h0), fun k hk => ?_⟩
  rw [hr] at hk
  have e : k = i ∨ k = j := by simpa using hk
  rcases e with rfl | rfl
  · exact wpOp_step hoi (fun K' hK => hi K' (fun a w hS hW => hK a w ⟨fun _ _ => hS, hW hS⟩))
  · exact wpOp_step hoj (fun K' hK => hj K' (fun a w hS hW => hK a w ⟨fun _ _ => hS, hW hS⟩))
end

/-- Only these blocks may have turned. -/
structure Turns (T : Nat → Prop) (w w' : World) : Prop where
  os : w'.os = w.os
  tape : w'.tape = w.tape
  output : w'.output = w.output
  size : w.heap.size ≤ w'.heap.size
  block : ∀ i, i < w.heap.size → ¬ T i → w'.heap[i]? = w.heap[i]?
theorem Turns.of_below {T : Nat → Prop} {a b : World} (h : Below a.heap.size a b) : Turns T a b := ⟨h.os, h.tape, h.output, h.size, fun i hi _ => h.block i hi⟩
theorem Turns.of_grown {g : Nat} {a b : World} (h : a.grownBy b (some g)) : Turns (· = g) a b := ⟨h.os, h.tape, h.output, h.size, fun i hi hb => h.block i hi (by intro e; injection e with e; exact hb e)⟩
theorem Turns.trans {T : Nat → Prop} {a b c : World} (h : Turns T a b) (k : Turns T b c) : Turns T a c :=
  ⟨k.os.trans h.os, k.tape.trans h.tape, k.output.trans h.output, Nat.le_trans h.size k.size, fun i hi hb => (k.block i (Nat.lt_of_lt_of_le hi h.size) hb).trans (h.block i hi hb)⟩
theorem Turns.sub {T T' : Nat → Prop} {a b : World} (h : Turns T a b) (hs : ∀ i, i < a.heap.size → T i → T' i) : Turns T' a b := ⟨h.os, h.tape, h.output, h.size, fun i hi hb => h.block i hi (fun ht => hb (hs i hi ht))⟩
theorem Turns.below {T : Nat → Prop} {w a b : World} (h : Turns T a b) (hb : Below w.heap.size w a) (hT : ∀ i, T i → w.heap.size ≤ i) : Below w.heap.size w b :=
  ⟨h.os.trans hb.os, h.tape.trans hb.tape, h.output.trans hb.output, Nat.le_trans hb.size h.size, fun i hi => (h.block i (Nat.lt_of_lt_of_le hi hb.size) (fun ht => by have := hT i ht; omega)).trans (hb.block i hi)⟩
theorem Turns.cell {T : Nat → Prop} {a b : World} (h : Turns T a b) {g : Nat} (hg : g < a.heap.size) (hb : ¬ T g) (o : Nat) : b.cell? ⟨g, o, none⟩ = a.cell? ⟨g, o, none⟩ := World.cell?_of_block (h.block g hg hb)
theorem Turns.frozen {T : Nat → Prop} {a b : World} (h : Turns T a b) {g : Nat} (hg : g < a.heap.size) (hb : ¬ T g) (o : Nat) : b.frozen? ⟨g, o, none⟩ = a.frozen? ⟨g, o, none⟩ := World.frozen?_of_block (h.block g hg hb)
theorem Box.turn {T : Nat → Prop} {a b : World} {g : Nat} {t : TypeId} {cs : Array Value} (hx : Box a g t cs) (h : Turns T a b) (hb : ¬ T g) : Box b g t cs := (h.block g hx.lt hb).trans hx
theorem turns_setRow (w : World) (g : Nat) (cs : Array Value) : Turns (· = g) w (w.setRow g cs) :=
  ⟨rfl, rfl, rfl, by rw [size_setRow]; exact Nat.le_refl _, fun i _ hne => heap_setRow w g cs i hne⟩

/-- The blocks from lo up to hi. -/
def Iv (lo hi : Nat) : Nat → Prop := fun b => lo ≤ b ∧ b < hi
theorem iv_far {lo hi a b : Nat} (h : hi ≤ a ∨ b ≤ lo) : ∀ x, Iv lo hi x → ¬ Iv a b x := fun x h1 h2 => by unfold Iv at h1 h2; omega
theorem iv_one {lo hi g : Nat} (h : g < lo ∨ hi ≤ g) : ∀ x, Iv lo hi x → ¬ x = g := fun x h1 h2 => by unfold Iv at h1; omega
theorem iv_not {lo hi g : Nat} (h : g < lo ∨ hi ≤ g) : ¬ Iv lo hi g := fun h1 => by unfold Iv at h1; omega
theorem iv_sub {lo hi a b : Nat} (h1 : a ≤ lo) (h2 : hi ≤ b) : ∀ x, Iv lo hi x → Iv a b x := fun x h => by unfold Iv at h ⊢; omega

/-- A datum that is kept where none of its blocks turned: P w F v says that v reads as it in w, through blocks of F alone. -/
structure Keeps (P : World → (Nat → Prop) → Value → Prop) : Prop where
  turn : ∀ {T : Nat → Prop} {w w' : World} {F : Nat → Prop} {v : Value}, P w F v → Turns T w w' → (∀ b, F b → ¬ T b) → P w' F v
  sub : ∀ {w : World} {F F' : Nat → Prop} {v : Value}, P w F v → (∀ b, F b → F' b) → P w F' v
theorem Keeps.later {P : World → (Nat → Prop) → Value → Prop} (k : Keeps P) {w w' : World} {F : Nat → Prop} {v : Value} (h : P w F v) (hb : Below w.heap.size w w') : P w' F v := k.turn (T := fun _ => False) h (Turns.of_below hb) (fun _ _ h => h)

/-- The variable at g has these cells, which read as a datum through blocks of F, g not among them. -/
structure VarOf (P : World → (Nat → Prop) → Value → Prop) (t : TypeId) (wr : World) (F : Nat → Prop) (g : Nat) (C : Array Value) : Prop where
  box : Box wr g t C
  far : ¬ F g
  dat : P wr F (.agg C)
theorem VarOf.turn {P : World → (Nat → Prop) → Value → Prop} (k : Keeps P) {t : TypeId} {wr w' : World} {F T : Nat → Prop} {g : Nat} {C : Array Value} (h : VarOf P t wr F g C) (ht : Turns T wr w') (hg : ¬ T g) (hF : ∀ b, F b → ¬ T b) : VarOf P t w' F g C :=
  ⟨h.box.turn ht hg, h.far, k.turn h.dat ht hF⟩
theorem VarOf.later {P : World → (Nat → Prop) → Value → Prop} (k : Keeps P) {t : TypeId} {wr w' : World} {F : Nat → Prop} {g : Nat} {C : Array Value} (h : VarOf P t wr F g C) (hb : Below wr.heap.size wr w') : VarOf P t w' F g C :=
  ⟨h.box.later hb h.box.lt, h.far, k.later h.dat hb⟩
theorem VarOf.new {P : World → (Nat → Prop) → Value → Prop} (k : Keeps P) (t : TypeId) {w : World} {F : Nat → Prop} {C : Array Value} (h : P w F (.agg C)) (hF : ∀ b, F b → b < w.heap.size) : VarOf P t (w.alloc (.cells C t)) F w.heap.size C :=
  ⟨Box.new w t C, fun hf => absurd (hF _ hf) (Nat.lt_irrefl _), k.later h (bel_alloc w _)⟩
/-- A variable that was made ahead is written whole. -/
theorem VarOf.put {P : World → (Nat → Prop) → Value → Prop} (k : Keeps P) {t : TypeId} {w : World} {F : Nat → Prop} {g : Nat} {Z C : Array Value} (hz : Box w g t Z) (h : P w F (.agg C)) (hF : ¬ F g) : VarOf P t (w.setRow g C) F g C :=
  ⟨hz.setRow C, hF, k.turn h (turns_setRow w g C) (fun _ hb e => hF (e ▸ hb))⟩
theorem lt_of_cell {w : World} {b o : Nat} {u : Value} (h : w.cell? ⟨b, o, none⟩ = some u) : b < w.heap.size := by
  rcases Nat.lt_or_ge b w.heap.size with hlt | hge
  · exact hlt
  · simp [World.cell?, Array.getElem?_eq_none hge] at h

end Go.Proofs.YtjdepjpjjgkmbaaGreat
