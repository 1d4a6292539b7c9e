/- The library's stable sort over a slice of pairs, fifth part: merging two ranges in order. -/
import Derived.Deep.RegionHeld3
import Derived.StillTail
import Derived.Below
import Derived.Lib.Hide
import Derived.Laws.World
import Derived.Laws.Rows
import Derived.Laws.OwnMore
import Derived.Deep.Draws
import Derived.Deep.OwnRows
import Derived.Deep.QuietTactic
import Derived.BigQuiet
import Derived.Laws.AppendOwn
import Derived.Laws.BitsAllLaws
import Derived.Laws.BitsLemmas
import Derived.Test.YtjdepjpjjgkmbaaGreatChecked
import Derived.WalkKit
import Derived.OwnWalk
import Derived.Outline
import Derived.Deep.DeepCutAuto
import Derived.Laws.EntriesVeiled
import Derived.IntWalk
import Derived.Deep.CutBlock
import Derived.Laws.Tables
import Derived.Laws.MakeOwn
import Derived.BigRegion
import Derived.Deep.AppendLies
import Derived.Laws.Pointers
import Derived.Deep.RegionLaw
import Derived.RegionTactic

/- A region that draws its order and whose last store waits for all the others: what it loads may be taken first, though the store writes the loaded cells; no conditions. -/
namespace Go.Proofs.YtjdepjpjjgkmbaaGreat
open Go

section
variable {P : Program} {ops : Array Oper} {Q : Exit → Act → World → Prop} {md : Region.Mode} {S T : World → Prop} {z : Nat}

/-- Whatever order is picked from here on, and S holds behind every operation till number z has come up. -/
def wpAnyE (P : Program) (md : Region.Mode) (ops : Array Oper) (Q : Exit → Act → World → Prop) (S : World → Prop) (z : Nat) : Nat → Array Bool → Act → World → Prop
  | 0, listed, a, w => Region.ready md ops listed = [] ∧ Q .normal a w
  | fuel + 1, listed, a, w =>
    (Region.ready md ops listed = [] → Q .normal a w) ∧
    ∀ i ∈ Region.ready md ops listed, wpOp P ops Q i (fun a' w' => (i ≠ z → listed.getD z false = false → S w') ∧ wpAnyE P md ops Q S z fuel (listed.setIfInBounds i true) a' w') a w

theorem wpAny_of_sink : ∀ (fuel : Nat) (listed : Array Bool) (a : Act) (w : World), wpAnyE P md ops Q S z fuel listed a w → wpAny P md ops Q fuel listed a w
  | 0, _, _, _, h => h
  | fuel + 1, _, _, _, h => ⟨h.1, fun i hi => wpOp_mono (fun a' w' h' => wpAny_of_sink fuel _ a' w' h'.2) (h.2 i hi)⟩

/-- May it be taken first: it yields in every world, or z waits for it and it yields where S holds. -/
def FirstAt (md : Region.Mode) (ops : Array Oper) (S T : World → Prop) (z i : Nat) (listed : Array Bool) : Prop :=
  (∀ w, T w) ∨ ((∀ w, S w → T w) ∧ Region.waitsFor md ops z i = true ∧ listed.getD z false = false)

theorem wpAnyE_first {i : Nat} {oi : Oper} {v : Value} (hi : ops[i]? = some oi) (hsel : ∀ (j : Nat) (o : Oper) cs b, ops[j]? = some o → o.op ≠ .select cs b)
    (hQ : ∀ c a w, Q (.panic c) (a.put oi.dst v) w → Q (.panic c) a w) (hiz : i ≠ z) :
    ∀ (fuel : Nat) (listed : Array Bool) (a : Act) (w : World),
      (∀ j oj, ops[j]? = some oj → j ≠ i → listed.getD j true = false → (∀ e ∈ oj.after, Region.binds md e = true → e.on ≠ i) → oi.apart ops oj = true) →
      i ∈ Region.ready md ops listed → YieldsIf P ops T oi v a → FirstAt md ops S T z i listed → (listed.getD z false = false → S w) →
      wpAnyE P md ops Q S z fuel (listed.setIfInBounds i true) (a.put oi.dst v) w → wpAnyE P md ops Q S z (fuel + 1) listed a w := by
  intro fuel
  induction fuel with
  | zero =>
    intro listed a w _ hr hy hF hS H
    have hT : T w := by
      rcases hF with h | ⟨h, _, hl⟩
      · exact h w
      · exact h w (hS hl)
    refine ⟨fun h => (by rw [h] at hr; cases hr), fun j hj => ?_⟩
    by_cases hji : j = i
    · subst hji; exact hy.wpOp hi hT ⟨fun _ h => hS h, H⟩
    · have := ready_mono hj hji
      rw [H.1] at this
      cases this
  | succ fuel ih =>
    intro listed a w hfree hr hy hF hS H
    have hT : T w := by
      rcases hF with h | ⟨h, _, hl⟩
      · exact h w
      · exact h w (hS hl)
    refine ⟨fun h => (by rw [h] at hr; cases hr), fun j hj => ?_⟩
    by_cases hji : j = i
    · subst hji; exact hy.wpOp hi hT ⟨fun _ h => hS h, H⟩
    · have h1 := H.2 j (ready_mono hj hji)
      obtain ⟨hjun, oj, hoj, hall⟩ := mem_ready.1 hj
      have hun := (mem_ready.1 hr).1
      have hnot : ∀ e ∈ oj.after, Region.binds md e = true → e.on ≠ i := fun e he hb heq => by
        have h1 := hall e he hb
        rw [heq, getD_both hun] at h1
        cases h1
      have hzset : (listed.setIfInBounds i true).getD z false = listed.getD z false := getD_set_ne false hiz
      have h2 := wpOp_putIf hoj (hfree j oj hoj hji hjun hnot) (fun cs b => hsel i oi cs b hi) (fun cs b => hsel j oj cs b hoj) hQ hy h1
      have hfree' : ∀ k ok, ops[k]? = some ok → k ≠ i → (listed.setIfInBounds j true).getD k true = false →
          (∀ e ∈ ok.after, Region.binds md e = true → e.on ≠ i) → oi.apart ops ok = true := fun k ok hk hki hun hno => by
        refine hfree k ok hk hki ?_ hno
        by_cases hjk : j = k
        · subst hjk; exact hjun
        · rw [getD_set_ne true hjk] at hun; exact hun
      have hF' : FirstAt md ops S T z i (listed.setIfInBounds j true) := by
        rcases hF with h | ⟨h, hw, hl⟩
        · exact .inl h
        · refine .inr ⟨h, hw, ?_⟩
          by_cases hjz : j = z
          · subst hjz
            obtain ⟨o', ho', e, he, hb, hon⟩ := Region.waitsFor_spec hw
            have : o' = oj := Option.some.inj (ho'.symm.trans hoj)
            subst this
            exact absurd hon (hnot e he hb)
          · rw [getD_set_ne false hjz]; exact hl
      refine wpOp_mono (fun a' w' h3 => ⟨fun hjz hlz => h3.2.1 hjz (hzset.trans hlz), ih (listed.setIfInBounds j true) a' w' hfree' (ready_mono hr (Ne.symm hji)) h3.1 hF' (fun hz' => ?_) ?_⟩) h2
      · by_cases hjz : j = z
        · subst hjz
          have hs : j < listed.size := by
            rcases Nat.lt_or_ge j listed.size with h | h
            · exact h
            · simp [Array.getElem?_eq_none h] at hjun
          simp [hs] at hz'
        · rw [getD_set_ne false hjz] at hz'
          exact h3.2.1 hjz (hzset.trans hz')
      · rw [Array.setIfInBounds_comm _ _ hji]
        exact h3.2.2

/-- Take number i first, where S holds. -/
theorem wpAnyE_take {i : Nat} {oi : Oper} {v : Value} {fuel : Nat} {listed : Array Bool} {a : Act} {w : World} (hi : ops[i]? = some oi)
    (hs : Region.noSelect ops = true) (hf : Region.free md ops listed i = true) (hr : (Region.ready md ops listed).contains i = true)
    (hQ : ∀ c a w, Q (.panic c) (a.put oi.dst v) w → Q (.panic c) a w) (hz : (Region.waitsFor md ops z i && !listed.getD z false && !(i == z)) = true) (hy : YieldsIf P ops S oi v a) (hS : S w)
    (h : wpAnyE P md ops Q S z fuel (listed.setIfInBounds i true) (a.put oi.dst v) w) : wpAnyE P md ops Q S z (fuel + 1) listed a w := by
  simp only [Bool.and_eq_true, Bool.not_eq_true', beq_eq_false_iff_ne] at hz
  exact wpAnyE_first hi (Region.noSelect_spec hs) hQ hz.2 fuel listed a w (Region.free_spec hi hf) (by simpa using hr) hy (.inr ⟨fun _ h => h, hz.1.1, hz.1.2⟩) (fun _ => hS) h
/-- Take number i first, which yields in whatever world. -/
theorem wpAnyE_pure {i : Nat} {oi : Oper} {v : Value} {fuel : Nat} {listed : Array Bool} {a : Act} {w : World} (hi : ops[i]? = some oi)
    (hs : Region.noSelect ops = true) (hf : Region.free md ops listed i = true) (hr : (Region.ready md ops listed).contains i = true)
    (hQ : ∀ c a w, Q (.panic c) (a.put oi.dst v) w → Q (.panic c) a w) (hz : (i == z) = false) (hy : YieldsIf P ops (fun _ => True) oi v a) (hS : S w)
    (h : wpAnyE P md ops Q S z fuel (listed.setIfInBounds i true) (a.put oi.dst v) w) : wpAnyE P md ops Q S z (fuel + 1) listed a w :=
  wpAnyE_first hi (Region.noSelect_spec hs) hQ (by simpa using hz) fuel listed a w (Region.free_spec hi hf) (by simpa using hr) hy (.inl fun _ => trivial) (fun _ => hS) h
/-- Number i alone can come up, and is not the last: S is to be shown anew. -/
theorem wpAnyE_one {i : Nat} {o : Oper} {fuel : Nat} {listed : Array Bool} {a : Act} {w : World} (hr : Region.ready md ops listed = [i]) (ho : ops[i]? = some o)
    (h : ∀ K' : Act → World → Prop, Shut (∀ a w, S w → (S w → wpAnyE P md ops Q S z fuel (listed.setIfInBounds i true) a w) → K' a w) → if Region.wanted o (yielded ops a.tmps) = true then Oper.wp P o a w K' Q else K' (a.put o.dst undef) w) : wpAnyE P md ops Q S z (fuel + 1) listed a w := by
  refine ⟨fun h0 => (by rw [hr] at h0; cases h0), fun j hj => ?_⟩
  rw [hr] at hj
  have e : j = i := by simpa using hj
  subst e
  exact wpOp_step ho (fun K' hK => h K' (fun a w hS hW => hK a w ⟨fun _ _ => hS, hW hS⟩))
/-- The last one. -/
theorem wpAnyE_last {o : Oper} {fuel : Nat} {listed : Array Bool} {a : Act} {w : World} (hr : Region.ready md ops listed = [z]) (ho : ops[z]? = some o) (hend : Region.ready md ops (listed.setIfInBounds z true) = [])
    (h : ∀ K' : Act → World → Prop, Shut (∀ a w, Q .normal a w → K' a w) → if Region.wanted o (yielded ops a.tmps) = true then Oper.wp P o a w K' Q else K' (a.put o.dst undef) w) : wpAnyE P md ops Q S z (fuel + 1) listed a w := by
  refine ⟨fun h0 => (by rw [hr] at h0; cases h0), fun j hj => ?_⟩
  rw [hr] at hj
  have e : j = z := by simpa using hj
  subst e
  refine wpOp_step ho (fun K' hK => h K' (fun a w hW => hK a w ⟨fun h => absurd rfl h, ?_⟩))
  cases fuel with
  | zero => exact ⟨hend, hW⟩
  | succ f => exact ⟨fun _ => hW, by rw [hend]; simp⟩
theorem wp_region_sink {id : Nat} {a : Act} {w : World} (z : Nat) (S : World → Prop) (hm : P.follows .mixedOrders = true) (hS : S w.drew)
    (h : S w.drew → wpAnyE P .any ops Q S z ops.size (Array.replicate ops.size false) a w.drew) : (Code.region id ops true).wp P Q a w :=
  wp_region_any hm (wpAny_of_sink _ _ _ _ (h hS))
end

end Go.Proofs.YtjdepjpjjgkmbaaGreat

/- Words of these proofs: worlds that come after one another, boxes, rows of int64, and what the functions of chapter 1 compute; no conditions. -/
namespace Go.Proofs.YtjdepjpjjgkmbaaGreat
open Go.RowKit

/-- Is x from lo to hi? -/
def inB (x lo hi : Int) : Bool := decide (lo ≤ x) && decide (x ≤ hi)
theorem inB_true {x lo hi : Int} : inB x lo hi = true ↔ lo ≤ x ∧ x ≤ hi := by simp [inB]
theorem inB_false {x lo hi : Int} : inB x lo hi = false ↔ ¬ (lo ≤ x ∧ x ≤ hi) := by rw [← inB_true]; simp

/-- Each key from 1 to a million. -/
def keysB (zs : List Int) : Bool := zs.all fun z => inB z 1 1000000

/-- A group that is right. -/
def okB (s l c sh : Int) (zs : List Int) : Bool :=
  inB s 1 10 && inB c 1 6 && inB sh 1 4 && inB l 0 ((s - 1) / 3) && decide ((zs.length : Int) = s + c) && keysB zs

/-- The number at place i (0 past the end). -/
def nth (zs : List Int) (i : Nat) : Int := zs.getD i 0
theorem nth_lt {zs : List Int} {i : Nat} (h : i < zs.length) : nth zs i = zs[i] := by simp [nth, h]

/-- The slice of n int64 at A holds the numbers zs, in blocks below B. -/
def Row (w : World) (B : Nat) (A : Option Addr) (n : Nat) (zs : List Int) : Prop :=
  zs.length = n ∧ (0 < n → ∃ b o, A = some ⟨b, o, none⟩ ∧ b < B ∧ ∀ i, i < n → w.cell? ⟨b, o + i, none⟩ = some (.int .i64 (nth zs i)))

theorem Row.keep {w w' : World} {B : Nat} {A : Option Addr} {n : Nat} {zs : List Int} (h : Row w B A n zs)
    (hk : ∀ p : Addr, p.block < B → w'.cell? p = w.cell? p) : Row w' B A n zs := by
  refine ⟨h.1, fun hn => ?_⟩
  obtain ⟨b, o, hA, hb, hc⟩ := h.2 hn
  exact ⟨b, o, hA, hb, fun i hi => by rw [hk ⟨b, o + i, none⟩ hb]; exact hc i hi⟩

theorem Row.below {w w' : World} {B C : Nat} {A : Option Addr} {n : Nat} {zs : List Int} (h : Row w B A n zs) (hb : Below C w w') (hBC : B ≤ C) : Row w' B A n zs :=
  h.keep fun _ hp => hb.cell (Nat.lt_of_lt_of_le hp hBC)

theorem Row.more {w : World} {B C : Nat} {A : Option Addr} {n : Nat} {zs : List Int} (h : Row w B A n zs) (hBC : B ≤ C) : Row w C A n zs := by
  refine ⟨h.1, fun hn => ?_⟩
  obtain ⟨b, o, hA, hb, hc⟩ := h.2 hn
  exact ⟨b, o, hA, by omega, hc⟩

theorem bcell {W w1 : World} {B : Nat} (hb : Below B W w1) : (∀ b o, b < B → w1.cell? ⟨b, o, none⟩ = W.cell? ⟨b, o, none⟩) ∧ (∀ b o, b < B → w1.frozen? ⟨b, o, none⟩ = W.frozen? ⟨b, o, none⟩) :=
  ⟨fun b o h => hb.cell (p := ⟨b, o, none⟩) h, fun b o h => hb.frozen (p := ⟨b, o, none⟩) h⟩

theorem bel_trans {a b c : World} (h : Below a.heap.size a b) (k : Below b.heap.size b c) : Below a.heap.size a c := h.trans (k.mono h.size)
theorem bel_alloc (w : World) (o : Obj) : Below w.heap.size w (w.alloc o) := (Below.refl _ _).alloc (Nat.le_refl _) _
theorem bel_drew' {a b : World} (h : Below a.drew.heap.size a.drew b) : Below a.heap.size a b := ⟨h.os, h.tape, h.output, h.size, h.block⟩


/-- Block g is just these cells, none frozen. -/
def Box (w : World) (g : Nat) (t : TypeId) (cs : Array Value) : Prop := w.heap[g]? = some (.cells cs t)
theorem Box.new (w : World) (t : TypeId) (cs : Array Value) : Box (w.alloc (.cells cs t)) w.heap.size t cs := heap_alloc_new w _
theorem Box.lt {w : World} {g : Nat} {t : TypeId} {cs : Array Value} (h : Box w g t cs) : g < w.heap.size := by
  rcases Nat.lt_or_ge g w.heap.size with hlt | hge
  · exact hlt
  · unfold Box at h; rw [Array.getElem?_eq_none hge] at h; cases h
theorem Box.cell {w : World} {g : Nat} {t : TypeId} {cs : Array Value} (h : Box w g t cs) (i : Nat) : w.cell? ⟨g, i, none⟩ = cs[i]? := cell_of_row w g i cs t (0, 0) h
theorem Box.frozen {w : World} {g : Nat} {t : TypeId} {cs : Array Value} (h : Box w g t cs) (i : Nat) : w.frozen? ⟨g, i, none⟩ = false := by
  unfold Box at h
  simp [World.frozen?, h]
theorem Box.later {w w' : World} {B g : Nat} {t : TypeId} {cs : Array Value} (h : Box w g t cs) (hb : Below B w w') (hg : g < B) : Box w' g t cs := (hb.block g hg).trans h
theorem Box.alloc {w : World} {g : Nat} {t : TypeId} {cs : Array Value} (h : Box w g t cs) (o : Obj) : Box (w.alloc o) g t cs := h.later (bel_alloc w o) h.lt

theorem size_set (w : World) (p : Addr) (u : Value) : (w.setCell p u).heap.size = w.heap.size := by simp [World.setCell]
theorem Row.set {w : World} {g o n : Nat} {zs : List Int} (h : Row w w.heap.size (some ⟨g, o, none⟩) n zs) {p : Addr} (hp : p.block ≠ g) (u : Value) :
    Row (w.setCell p u) (w.setCell p u).heap.size (some ⟨g, o, none⟩) n zs := by
  refine ⟨h.1, fun hn => ?_⟩
  obtain ⟨b, o', hA, hb, hc⟩ := h.2 hn
  cases hA
  exact ⟨_, _, rfl, by rw [size_set]; exact hb, fun i hi => by rw [World.cell?_setCell_other _ _ _ _ (fun e => hp (by rw [e]))]; exact hc i hi⟩


theorem Box.five {w : World} {g : Nat} {t : TypeId} {v0 v1 v2 v3 v4 : Value} (h : Box w g t #[v0, v1, v2, v3, v4]) :
    w.cell? ⟨g, 0, none⟩ = some v0 ∧ w.cell? ⟨g, 1, none⟩ = some v1 ∧ w.cell? ⟨g, 2, none⟩ = some v2 ∧ w.cell? ⟨g, 3, none⟩ = some v3 ∧ w.cell? ⟨g, 4, none⟩ = some v4 :=
  ⟨h.cell 0, h.cell 1, h.cell 2, h.cell 3, h.cell 4⟩

theorem ten {w : World} {g g' : Nat} {t t' : TypeId} {v0 v1 v2 v3 v4 u0 u1 u2 u3 u4 : Value} (h : Box w g t #[v0, v1, v2, v3, v4]) (h' : Box w g' t' #[u0, u1, u2, u3, u4]) :
    w.cell? ⟨g, 0, none⟩ = some v0 ∧ w.cell? ⟨g, 1, none⟩ = some v1 ∧ w.cell? ⟨g, 2, none⟩ = some v2 ∧ w.cell? ⟨g, 3, none⟩ = some v3 ∧ w.cell? ⟨g, 4, none⟩ = some v4 ∧
    w.cell? ⟨g', 0, none⟩ = some u0 ∧ w.cell? ⟨g', 1, none⟩ = some u1 ∧ w.cell? ⟨g', 2, none⟩ = some u2 ∧ w.cell? ⟨g', 3, none⟩ = some u3 ∧ w.cell? ⟨g', 4, none⟩ = some u4 :=
  ⟨h.cell 0, h.cell 1, h.cell 2, h.cell 3, h.cell 4, h'.cell 0, h'.cell 1, h'.cell 2, h'.cell 3, h'.cell 4⟩


theorem bel_drewN {a b : World} (h : Below a.heap.size a b) (n : Nat) : Below a.heap.size a (b.drewN n) := ⟨h.os, h.tape, h.output, h.size, h.block⟩


theorem keysB_false {zs : List Int} {k : Nat} (hk : k < zs.length) (h : inB (nth zs k) 1 1000000 = false) : keysB zs = false := by
  unfold keysB
  rw [List.all_eq_false]
  refine ⟨zs[k], List.getElem_mem hk, ?_⟩
  rw [nth_lt hk] at h
  simp [h]
theorem keysB_true {zs : List Int} (h : ∀ j, j < zs.length → inB (nth zs j) 1 1000000 = true) : keysB zs = true := by
  unfold keysB
  rw [List.all_eq_true]
  intro x hx
  obtain ⟨j, hj, rfl⟩ := List.getElem_of_mem hx
  have := h j hj
  rwa [nth_lt hj] at this

/-- What QuorumOf answers. -/
def quoN (s l c sh : Int) (zs : List Int) : Int := if okB s l c sh zs then (s + l) / 2 + 1 else -1
/-- What IsServer answers. -/
def srvB (s l c sh : Int) (zs : List Int) (x : Int) : Bool := okB s l c sh zs && inB x 0 (s - 1)
/-- What IsClient answers. -/
def cliB (s l c sh : Int) (zs : List Int) (x : Int) : Bool := okB s l c sh zs && inB x s (s + c - 1)

theorem okB_parts {s l c sh : Int} {zs : List Int} (h : okB s l c sh zs = true) : 1 ≤ s ∧ s ≤ 10 ∧ 1 ≤ c ∧ c ≤ 6 ∧ 0 ≤ l ∧ l ≤ (s - 1) / 3 := by
  simp only [okB, Bool.and_eq_true] at h
  obtain ⟨⟨⟨⟨⟨h1, h2⟩, _⟩, h4⟩, _⟩, _⟩ := h
  have a := inB_true.1 h1
  have b := inB_true.1 h2
  have d := inB_true.1 h4
  exact ⟨a.1, a.2, b.1, b.2, d.1, d.2⟩

end Go.Proofs.YtjdepjpjjgkmbaaGreat

/- One walk serves a region that draws its order, where its operations read old memory only and its calls answer plain values and make memory of their own; no conditions. -/
namespace Go.Proofs.YtjdepjpjjgkmbaaGreat
open Go.RowKit

/-- A world that has come after w: old memory is as it was. -/
structure After (w : World) where
  x : World
  bel : Below w.heap.size w x
instance afterSome (w : World) : Nonempty (After w) := ⟨⟨w, Below.refl _ _⟩⟩

theorem wp_region_after {P : Program} {id : Nat} {Q : Exit → Act → World → Prop} {a : Act} {w : World} {l : List Oper} (hm : P.follows .mixedOrders = true) (hB : Region.lexB .any l.toArray = true)
    (h : wpQuiet P l.toArray (fun w' => ∃ p : After w, w' = p.x) (fun a' => ∀ p : After w, Q .normal a' p.x) l a) : (Code.region id l.toArray true).wp P Q a w :=
  wp_region_quiet (C := fun w' => ∃ p : After w, w' = p.x) hm hB ⟨⟨w.drew, (Below.refl _ _).drew⟩, rfl⟩ (by
    have e : (fun a' => ∀ p : After w, Q .normal a' p.x) = (fun a' => ∀ w', (∃ p : After w, w' = p.x) → Q .normal a' w') := by
      funext a'
      exact propext ⟨fun h w' ⟨p, hp⟩ => hp ▸ h p, fun h p => h _ ⟨p, rfl⟩⟩
    rw [e] at h
    simpa using h)

theorem After.cell {w : World} {a : Addr} {v : Value} (hb : a.block < w.heap.size) (h : w.cell? a = some v) : ∀ p : After w, p.x.cell? a = some v := fun p => by
  rw [p.bel.cell (hb)]; exact h

/-- A callee that makes memory of its own, met in such a world. -/
theorem after_of {P : Program} {f : FuncId} {args : Array Value} {w : World} {p : After w} {v : Value}
    (h : Calls P f args p.x fun e w' => e = .returned v ∧ Below p.x.heap.size p.x w') : Calls P f args p.x fun e w'' => e = .returned v ∧ ∃ q : After w, w'' = q.x :=
  h.mono fun _ w' ⟨he, hb⟩ => ⟨he, ⟨w', p.bel.trans (hb.mono p.bel.size)⟩, rfl⟩
theorem after_same {P : Program} {f : FuncId} {args : Array Value} {w : World} {p : After w} {v : Value}
    (h : Calls P f args p.x fun e w' => e = .returned v ∧ p.x = w') : Calls P f args p.x fun e w'' => e = .returned v ∧ ∃ q : After w, w'' = q.x :=
  h.mono fun _ _ ⟨he, hb⟩ => ⟨he, p, hb.symm⟩

theorem fiveAfter {w : World} {g : Nat} {t : TypeId} {v0 v1 v2 v3 v4 : Value} (h : Box w g t #[v0, v1, v2, v3, v4]) :
    (∀ p : After w, p.x.cell? ⟨g, 0, none⟩ = some v0) ∧ (∀ p : After w, p.x.cell? ⟨g, 1, none⟩ = some v1) ∧ (∀ p : After w, p.x.cell? ⟨g, 2, none⟩ = some v2) ∧ (∀ p : After w, p.x.cell? ⟨g, 3, none⟩ = some v3) ∧ (∀ p : After w, p.x.cell? ⟨g, 4, none⟩ = some v4) :=
  ⟨After.cell h.lt (h.cell 0), After.cell h.lt (h.cell 1), After.cell h.lt (h.cell 2), After.cell h.lt (h.cell 3), After.cell h.lt (h.cell 4)⟩
theorem rowAfter {w : World} {A : Option Addr} {n : Nat} {zs : List Int} (h : Row w w.heap.size A n zs) (p : After w) : Row p.x p.x.heap.size A n zs := (h.below p.bel (Nat.le_refl _)).more p.bel.size


end Go.Proofs.YtjdepjpjjgkmbaaGreat

/- Words for the cursors of the laws' draws: bytes that can be read, a cursor over them, and what a draw leaves; no conditions. -/
namespace Go.Proofs.YtjdepjpjjgkmbaaGreat
open Go.RowKit

/-- The slice of n bytes at A can be read, in blocks below B. -/
def Bytes (w : World) (B : Nat) (A : Option Addr) (n : Nat) : Prop :=
  0 < n → ∃ b o, A = some ⟨b, o, none⟩ ∧ b < B ∧ ∀ i, i < n → ∃ z : Int, 0 ≤ z ∧ z ≤ 255 ∧ w.cell? ⟨b, o + i, none⟩ = some (.int .u8 z)

theorem Bytes.keep {w w' : World} {B : Nat} {A : Option Addr} {n : Nat} (h : Bytes w B A n) (hk : ∀ p : Addr, p.block < B → w'.cell? p = w.cell? p) : Bytes w' B A n := fun hn => by
  obtain ⟨b, o, hA, hb, hc⟩ := h hn
  refine ⟨b, o, hA, hb, fun i hi => ?_⟩
  obtain ⟨z, h0, h1, hz⟩ := hc i hi
  exact ⟨z, h0, h1, by rw [hk ⟨b, o + i, none⟩ hb]; exact hz⟩
theorem Bytes.more {w : World} {B C : Nat} {A : Option Addr} {n : Nat} (h : Bytes w B A n) (hBC : B ≤ C) : Bytes w C A n := fun hn => by
  obtain ⟨b, o, hA, hb, hc⟩ := h hn
  exact ⟨b, o, hA, by omega, hc⟩
theorem Bytes.below {w w' : World} {B C : Nat} {A : Option Addr} {n : Nat} (h : Bytes w B A n) (hb : Below C w w') (hBC : B ≤ C) : Bytes w' B A n := h.keep fun _ hp => hb.cell (Nat.lt_of_lt_of_le hp hBC)

/-- A cursor over the n bytes at A lies in block g: at most all of them have been taken. -/
def Cur (w : World) (t : TypeId) (k : IntKind) (g : Nat) (A : Option Addr) (n cap : Nat) : Prop :=
  n ≤ 4096 ∧ Bytes w g A n ∧ ∃ i h : Int, 0 ≤ i ∧ i ≤ n ∧ Box w g t #[.slice A n cap, .int .i64 i, .int k h]

theorem Cur.lt {w : World} {t : TypeId} {k : IntKind} {g : Nat} {A : Option Addr} {n cap : Nat} (h : Cur w t k g A n cap) : g < w.heap.size := by
  obtain ⟨_, _, _, _, _, _, hb⟩ := h
  exact hb.lt

theorem grown_refl (w : World) (r : Option Nat) : w.grownBy w r := ⟨rfl, rfl, rfl, Nat.le_refl _, fun _ _ _ => rfl⟩
theorem grown_trans {a b c : World} {r : Option Nat} (h : a.grownBy b r) (k : b.grownBy c r) : a.grownBy c r :=
  ⟨k.os.trans h.os, k.tape.trans h.tape, k.output.trans h.output, Nat.le_trans h.size k.size, fun i hi hne => (k.block i (Nat.lt_of_lt_of_le hi h.size) hne).trans (h.block i hi hne)⟩
theorem grown_drew {a b : World} {r : Option Nat} (h : a.grownBy b r) : a.grownBy b.drew r := ⟨h.os, h.tape, h.output, h.size, h.block⟩
theorem grown_set {a b : World} {g : Nat} (h : a.grownBy b (some g)) (i : Nat) (u : Value) : a.grownBy (b.setCell ⟨g, i, none⟩ u) (some g) :=
  ⟨h.os, h.tape, h.output, by rw [size_set]; exact h.size, fun k hk hne => (Below.heap_setCell b ⟨g, i, none⟩ u k (fun e => hne (by rw [e]))).trans (h.block k hk hne)⟩
theorem grown_new {a b : World} {r : Option Nat} (h : a.grownBy b r) {p : Addr} (hp : a.heap.size ≤ p.block) (u : Value) : a.grownBy (b.setCell p u) r :=
  ⟨h.os, h.tape, h.output, by rw [size_set]; exact h.size, fun k hk hne => (Below.heap_setCell b p u k (fun e => by omega)).trans (h.block k hk hne)⟩
theorem grown_bel {a b : World} (h : Below a.heap.size a b) (r : Option Nat) : a.grownBy b r := ⟨h.os, h.tape, h.output, h.size, fun k hk _ => h.block k hk⟩
theorem grown_alloc {a b : World} {r : Option Nat} (h : a.grownBy b r) (o : Obj) : a.grownBy (b.alloc o) r := grown_trans h (grown_bel (bel_alloc b o) r)
theorem grown_far {a b c : World} {r r' : Option Nat} (h : a.grownBy b r) (k : b.grownBy c r') (hr : ∀ q, r' = some q → a.heap.size ≤ q) : a.grownBy c r :=
  ⟨k.os.trans h.os, k.tape.trans h.tape, k.output.trans h.output, Nat.le_trans h.size k.size, fun i hi hne => (k.block i (Nat.lt_of_lt_of_le hi h.size) (fun e => by have := hr _ e.symm; omega)).trans (h.block i hi hne)⟩
theorem bel_grown {a b c : World} {g : Nat} (h : Below a.heap.size a b) (k : b.grownBy c (some g)) (hg : a.heap.size ≤ g) : Below a.heap.size a c :=
  h.grown k h.size (fun r hr => by injection hr with hr; omega)

theorem Box.kept {w w' : World} {g : Nat} {t : TypeId} {cs : Array Value} {r : Option Nat} (h : Box w g t cs) (hg : w.grownBy w' r) (hne : r ≠ some g) : Box w' g t cs := (hg.block g h.lt (fun e => hne e.symm)).trans h
theorem Box.set {w : World} {g : Nat} {t : TypeId} {cs : Array Value} (h : Box w g t cs) (i : Nat) (u : Value) : Box (w.setCell ⟨g, i, none⟩ u) g t (cs.setIfInBounds i u) := by
  unfold Box at h ⊢
  simp [World.setCell, Array.getElem?_modify, h]
theorem Box.far {w : World} {g : Nat} {t : TypeId} {cs : Array Value} (h : Box w g t cs) {p : Addr} (hp : p.block ≠ g) (u : Value) : Box (w.setCell p u) g t cs := (Below.heap_setCell w p u g (fun e => hp e.symm)).trans h
theorem Box.three {w : World} {g : Nat} {t : TypeId} {v0 v1 v2 : Value} (h : Box w g t #[v0, v1, v2]) : w.cell? ⟨g, 0, none⟩ = some v0 ∧ w.cell? ⟨g, 1, none⟩ = some v1 ∧ w.cell? ⟨g, 2, none⟩ = some v2 := ⟨h.cell 0, h.cell 1, h.cell 2⟩

theorem Bytes.kept {w w' : World} {B : Nat} {A : Option Addr} {n : Nat} {r : Option Nat} (h : Bytes w B A n) (hg : w.grownBy w' r) (hB : B ≤ w.heap.size) (hr : ∀ k, r = some k → B ≤ k) : Bytes w' B A n :=
  h.keep fun p hp => World.cell?_of_block (hg.block p.block (by omega) (fun e => by have := hr _ e.symm; omega))
theorem Bytes.set {w : World} {g : Nat} {A : Option Addr} {n : Nat} (h : Bytes w g A n) (i : Nat) (u : Value) : Bytes (w.setCell ⟨g, i, none⟩ u) g A n :=
  h.keep fun p hp => World.cell?_setCell_other _ _ _ _ (fun e => by rw [← e] at hp; exact absurd hp (Nat.lt_irrefl _))
theorem Bytes.drewN {w : World} {B : Nat} {A : Option Addr} {n : Nat} (h : Bytes w B A n) (k : Nat) : Bytes (w.drewN k) B A n := h
theorem Box.drewN {w : World} {g : Nat} {t : TypeId} {cs : Array Value} (h : Box w g t cs) (k : Nat) : Box (w.drewN k) g t cs := h
/-- A cursor is as it was where other blocks, behind it, were written. -/
theorem Cur.kept {w w' : World} {t : TypeId} {k : IntKind} {g : Nat} {A : Option Addr} {n cap : Nat} {r : Option Nat} (h : Cur w t k g A n cap) (hg : w.grownBy w' r) (hr : ∀ q, r = some q → g < q) : Cur w' t k g A n cap := by
  have hl := h.lt
  obtain ⟨hn, hB, i, x, h0, h1, hb⟩ := h
  exact ⟨hn, hB.kept hg (by omega) (fun q hq => by have := hr q hq; omega), i, x, h0, h1, hb.kept hg (fun e => by have := hr g e; omega)⟩

theorem Box.ints {w : World} {g : Nat} {t : TypeId} {zs : List Int} (h : Box w g t (zs.map (Value.int .i64)).toArray) {i : Nat} (hi : i < zs.length) : w.cell? ⟨g, i, none⟩ = some (.int .i64 (nth zs i)) := by
  rw [h.cell i, nth_lt hi]
  simp [hi]

end Go.Proofs.YtjdepjpjjgkmbaaGreat

/- Is a number from one to another: what the program's within and the model's l1In answer; no conditions. -/
namespace Go.Proofs.YtjdepjpjjgkmbaaGreat
open Go.RowKit

theorem within_any (x lo hi : Int) (w : World) :
    Calls Tryz.prog 143 #[.int .i64 x, .int .i64 lo, .int .i64 hi] w fun e w' => e = .returned (.bool (inB x lo hi)) ∧ w = w' := by
  by_cases h1 : lo ≤ x
  · by_cases h2 : x ≤ hi
    · have e : inB x lo hi = true := inB_true.2 ⟨h1, h2⟩
      rw [e]
      go_enter Tryz.func143, Tryz.ntmps143
      go_wp2
      go_ret
      exact ⟨rfl, rfl⟩
    · have e : inB x lo hi = false := inB_false.2 (by omega)
      rw [e]
      go_enter Tryz.func143, Tryz.ntmps143
      go_wp2
      go_ret
      exact ⟨rfl, rfl⟩
  · have e : inB x lo hi = false := inB_false.2 (by omega)
    rw [e]
    go_enter Tryz.func143, Tryz.ntmps143
    go_wp2
    go_ret
    exact ⟨rfl, rfl⟩

theorem l1In_any (x lo hi : Int) (w : World) :
    Calls Tryz.prog 174 #[.int .i64 x, .int .i64 lo, .int .i64 hi] w fun e w' => e = .returned (.bool (inB x lo hi)) ∧ w = w' := by
  by_cases h1 : lo ≤ x
  · by_cases h2 : x ≤ hi
    · have e : inB x lo hi = true := inB_true.2 ⟨h1, h2⟩
      rw [e]
      go_enter Tryz.func174, Tryz.ntmps174
      go_wp2
      go_ret
      exact ⟨rfl, rfl⟩
    · have e : inB x lo hi = false := inB_false.2 (by omega)
      rw [e]
      go_enter Tryz.func174, Tryz.ntmps174
      go_wp2
      go_ret
      exact ⟨rfl, rfl⟩
  · have e : inB x lo hi = false := inB_false.2 (by omega)
    rw [e]
    go_enter Tryz.func174, Tryz.ntmps174
    go_wp2
    go_ret
    exact ⟨rfl, rfl⟩

end Go.Proofs.YtjdepjpjjgkmbaaGreat

/- What the laws' own big answers: are there more than 4096 bytes; no conditions. -/
namespace Go.Proofs.YtjdepjpjjgkmbaaGreat
open Go.RowKit

end Go.Proofs.YtjdepjpjjgkmbaaGreat

/- Words of chapter 2: what the functions of stamps compute, and slices of pairs of numbers; no conditions. -/
namespace Go.Proofs.YtjdepjpjjgkmbaaGreat
open Go.RowKit

/-- A stamp that is right. -/
def stB (c k : Int) : Bool := if c = 0 then decide (k = 0) else inB c 1 100000 && inB k 0 15
theorem stB_not {c : Int} (h : c ≠ 0) (k : Int) : stB c k = (inB c 1 100000 && inB k 0 15) := by simp [stB, h]
theorem stB_00 : stB 0 0 = true := rfl
theorem stB_bd {c k : Int} (h : stB c k = true) : 0 ≤ c ∧ c ≤ 100000 ∧ 0 ≤ k ∧ k ≤ 15 := by
  unfold stB at h
  split at h
  · have := of_decide_eq_true h; omega
  · rw [Bool.and_eq_true] at h
    have a := inB_true.1 h.1
    have b := inB_true.1 h.2
    omega
theorem stB_spec (c k : Int) : (inB c 0 100000 && inB k 0 15 && (decide (0 < c) || decide (k = 0))) = stB c k := by
  rw [Bool.eq_iff_iff]
  unfold stB
  split
  · subst_vars
    simp [inB]
    omega
  · simp [inB]
    omega

/-- Older, alike or newer. -/
def sgn (a b : Int) : Int := if a < b then -1 else if b < a then 1 else 0
theorem sgn_lt {a b : Int} (h : a < b) : sgn a b = -1 := by simp [sgn, h]
theorem sgn_gt {a b : Int} (h : b < a) : sgn a b = 1 := by simp [sgn, h]; omega
theorem sgn_eq (a : Int) : sgn a a = 0 := by simp [sgn]
theorem sgn_bd (a b : Int) : -1 ≤ sgn a b ∧ sgn a b ≤ 1 := by
  unfold sgn
  split
  · omega
  · split <;> omega

/-- The first that is not 0. -/
def orN (x y : Int) : Int := if x = 0 then y else x

/-- What CmpStamp answers. -/
def cmpN (a b c d : Int) : Int := if stB a b && stB c d then orN (sgn a c) (sgn b d) else 2
theorem cmpN_no1 {a b : Int} (h : stB a b = false) (c d : Int) : cmpN a b c d = 2 := by simp [cmpN, h]
theorem cmpN_no2 {c d : Int} (h : stB c d = false) (a b : Int) : cmpN a b c d = 2 := by simp [cmpN, h]
theorem cmpN_yes {a b c d : Int} (h : stB a b = true) (h' : stB c d = true) : cmpN a b c d = orN (sgn a c) (sgn b d) := by simp [cmpN, h, h']

/-- Two stamps are not right, or one is older, or they are one, or one is newer: and the other way round. -/
theorem cmp_cases (a b c d : Int) : cmpN a b c d = 2 ∨ (cmpN a b c d = -1 ∧ cmpN c d a b = 1 ∧ (a ≠ c ∨ b ≠ d)) ∨ (cmpN a b c d = 0 ∧ a = c ∧ b = d) ∨ (cmpN a b c d = 1 ∧ cmpN c d a b = -1 ∧ (a ≠ c ∨ b ≠ d)) := by
  rcases h1 : stB a b with _ | _
  · exact .inl (cmpN_no1 h1 c d)
  rcases h2 : stB c d with _ | _
  · exact .inl (cmpN_no2 h2 a b)
  right
  rw [cmpN_yes h1 h2, cmpN_yes h2 h1]
  unfold orN
  rcases Int.lt_trichotomy a c with h | h | h
  · rw [sgn_lt h, sgn_gt h]
    exact .inl ⟨rfl, rfl, .inl (by omega)⟩
  · subst h
    rw [sgn_eq]
    rcases Int.lt_trichotomy b d with k | k | k
    · rw [sgn_lt k, sgn_gt k]
      exact .inl ⟨rfl, rfl, .inr (by omega)⟩
    · subst k
      rw [sgn_eq]
      exact .inr (.inl ⟨rfl, rfl, rfl⟩)
    · rw [sgn_lt k, sgn_gt k]
      exact .inr (.inr ⟨rfl, rfl, .inr (by omega)⟩)
  · rw [sgn_lt h, sgn_gt h]
    exact .inr (.inr ⟨rfl, rfl, .inl (by omega)⟩)
/-- The pair at place i. -/
def pth (ps : List (Int × Int)) (i : Nat) : Int × Int := ps.getD i (0, 0)
theorem pth_lt {ps : List (Int × Int)} {i : Nat} (h : i < ps.length) : pth ps i = ps[i] := by simp [pth, h]
/-- The slice of n pairs of int64 at A holds ps, in blocks below B. -/
def Pairs (w : World) (B : Nat) (A : Option Addr) (n : Nat) (ps : List (Int × Int)) : Prop :=
  ps.length = n ∧ (0 < n → ∃ b o, A = some ⟨b, o, none⟩ ∧ b < B ∧ ∀ i, i < n → w.cell? ⟨b, o + i * 2, none⟩ = some (.int .i64 (pth ps i).1) ∧ w.cell? ⟨b, o + i * 2 + 1, none⟩ = some (.int .i64 (pth ps i).2))
theorem Pairs.keep {w w' : World} {B : Nat} {A : Option Addr} {n : Nat} {ps : List (Int × Int)} (h : Pairs w B A n ps) (hk : ∀ p : Addr, p.block < B → w'.cell? p = w.cell? p) : Pairs w' B A n ps := by
  refine ⟨h.1, fun hn => ?_⟩
  obtain ⟨b, o, hA, hb, hc⟩ := h.2 hn
  exact ⟨b, o, hA, hb, fun i hi => ⟨(hk ⟨b, o + i * 2, none⟩ hb).trans (hc i hi).1, (hk ⟨b, o + i * 2 + 1, none⟩ hb).trans (hc i hi).2⟩⟩
theorem Pairs.below {w w' : World} {B C : Nat} {A : Option Addr} {n : Nat} {ps : List (Int × Int)} (h : Pairs w B A n ps) (hb : Below C w w') (hBC : B ≤ C) : Pairs w' B A n ps :=
  h.keep fun _ hp => hb.cell (Nat.lt_of_lt_of_le hp hBC)
theorem Pairs.more {w : World} {B C : Nat} {A : Option Addr} {n : Nat} {ps : List (Int × Int)} (h : Pairs w B A n ps) (hBC : B ≤ C) : Pairs w C A n ps := by
  refine ⟨h.1, fun hn => ?_⟩
  obtain ⟨b, o, hA, hb, hc⟩ := h.2 hn
  exact ⟨b, o, hA, by omega, hc⟩
theorem Pairs.later {w w' : World} {A : Option Addr} {n : Nat} {ps : List (Int × Int)} (h : Pairs w w.heap.size A n ps) (hb : Below w.heap.size w w') : Pairs w' w'.heap.size A n ps :=
  (h.below hb (Nat.le_refl _)).more hb.size

theorem Box.two {w : World} {g : Nat} {t : TypeId} {v0 v1 : Value} (h : Box w g t #[v0, v1]) : w.cell? ⟨g, 0, none⟩ = some v0 ∧ w.cell? ⟨g, 1, none⟩ = some v1 := ⟨h.cell 0, h.cell 1⟩

end Go.Proofs.YtjdepjpjjgkmbaaGreat

/- Words of chapter 3: what the functions of claims and seals compute; no conditions. -/
namespace Go.Proofs.YtjdepjpjjgkmbaaGreat
open Go.RowKit

/-- A claim that is right. -/
def clB (ck ch ct cq cv : Int) : Bool := inB ck 1 2 && inB ch 0 3 && stB ct cq && inB cv 0 9999
theorem clB_1 {ck : Int} (h : inB ck 1 2 = false) (ch ct cq cv : Int) : clB ck ch ct cq cv = false := by simp [clB, h]
theorem clB_2 {ch : Int} (h : inB ch 0 3 = false) (ck ct cq cv : Int) : clB ck ch ct cq cv = false := by simp [clB, h]
theorem clB_3 {ct cq : Int} (h : stB ct cq = false) (ck ch cv : Int) : clB ck ch ct cq cv = false := by simp [clB, h]
theorem clB_4 {ck ch ct cq : Int} (h1 : inB ck 1 2 = true) (h2 : inB ch 0 3 = true) (h3 : stB ct cq = true) (cv : Int) : clB ck ch ct cq cv = inB cv 0 9999 := by simp [clB, h1, h2, h3]
theorem clB_bd {ck ch ct cq cv : Int} (h : clB ck ch ct cq cv = true) : (1 ≤ ck ∧ ck ≤ 2) ∧ (0 ≤ ch ∧ ch ≤ 3) ∧ (0 ≤ ct ∧ ct ≤ 100000 ∧ 0 ≤ cq ∧ cq ≤ 15) ∧ 0 ≤ cv ∧ cv ≤ 9999 := by
  simp only [clB, Bool.and_eq_true] at h
  exact ⟨inB_true.1 h.1.1.1, inB_true.1 h.1.1.2, stB_bd h.1.2, inB_true.1 h.2⟩

/-- One number is mixed in. -/
def mix1 (x z : Int) : Int := (48271 * x + z + 1) % 2147483647
/-- Numbers are mixed in, in order. -/
def mixN (x : Int) (zs : List Int) : Int := zs.foldl mix1 x
theorem mix1_bd (x z : Int) : 0 ≤ mix1 x z ∧ mix1 x z ≤ 2147483646 := by unfold mix1; omega
theorem mix1_tmod {x z : Int} (hx : 0 ≤ x) (hz : 0 ≤ z) : Int.tmod (48271 * x + z + 1) 2147483647 = mix1 x z := Int.tmod_eq_emod_of_nonneg (by omega)
theorem mixN_bd : ∀ (zs : List Int) (x : Int), 0 ≤ x → x ≤ 2147483646 → 0 ≤ mixN x zs ∧ mixN x zs ≤ 2147483646
  | [], _, h0, h1 => ⟨h0, h1⟩
  | z :: zs, x, _, _ => mixN_bd zs (mix1 x z) (mix1_bd x z).1 (mix1_bd x z).2
theorem mixN_snoc {zs : List Int} {k : Nat} (h : k < zs.length) (x : Int) : mixN x (zs.take (k + 1)) = mix1 (mixN x (zs.take k)) (nth zs k) := by
  rw [List.take_succ_eq_append_getElem h, nth_lt h]
  unfold mixN
  rw [List.foldl_append]
  rfl
/-- Numbers that can be mixed. -/
def mixable (zs : List Int) : Prop := ∀ i, i < zs.length → 0 ≤ nth zs i ∧ nth zs i ≤ 2147483646
theorem mixable_3 {a b c : Int} (ha : 0 ≤ a ∧ a ≤ 2147483646) (hb : 0 ≤ b ∧ b ≤ 2147483646) (hc : 0 ≤ c ∧ c ≤ 2147483646) : mixable [a, b, c] := fun i hi => by
  have : i = 0 ∨ i = 1 ∨ i = 2 := by simp at hi; omega
  rcases this with rfl | rfl | rfl
  · exact ha
  · exact hb
  · exact hc
theorem mixable_5 {a b c d e : Int} (ha : 0 ≤ a ∧ a ≤ 2147483646) (hb : 0 ≤ b ∧ b ≤ 2147483646) (hc : 0 ≤ c ∧ c ≤ 2147483646) (hd : 0 ≤ d ∧ d ≤ 2147483646) (he : 0 ≤ e ∧ e ≤ 2147483646) : mixable [a, b, c, d, e] := fun i hi => by
  have : i = 0 ∨ i = 1 ∨ i = 2 ∨ i = 3 ∨ i = 4 := by simp at hi; omega
  rcases this with rfl | rfl | rfl | rfl | rfl
  · exact ha
  · exact hb
  · exact hc
  · exact hd
  · exact he

/-- What DigestOf answers. -/
def digN (ck ch ct cq cv : Int) : Int := if clB ck ch ct cq cv then mixN 7 [ck, ch, ct, cq, cv] else -1
theorem digN_no {ck ch ct cq cv : Int} (h : clB ck ch ct cq cv = false) : digN ck ch ct cq cv = -1 := by simp [digN, h]
theorem digN_yes {ck ch ct cq cv : Int} (h : clB ck ch ct cq cv = true) : digN ck ch ct cq cv = mixN 7 [ck, ch, ct, cq, cv] := by simp [digN, h]
theorem digN_bd {ck ch ct cq cv : Int} (h : clB ck ch ct cq cv = true) : 0 ≤ digN ck ch ct cq cv ∧ digN ck ch ct cq cv ≤ 2147483646 := by
  rw [digN_yes h]; exact mixN_bd _ _ (by omega) (by omega)
theorem mixable_claim {ck ch ct cq cv : Int} (h : clB ck ch ct cq cv = true) : mixable [ck, ch, ct, cq, cv] := by
  have := clB_bd h
  exact mixable_5 (by omega) (by omega) (by omega) (by omega) (by omega)

/-- Is there a seal? -/
def seB (s l c sh : Int) (zs : List Int) (ck ch ct cq cv x : Int) : Bool := clB ck ch ct cq cv && srvB s l c sh zs x
/-- A seal's tag. -/
def tagN (zs : List Int) (ck ch ct cq cv x : Int) : Int := mixN 7 [nth zs x.toNat, digN ck ch ct cq cv, x]
/-- A seal and a flag, as they are answered. -/
def seV (s l c sh : Int) (zs : List Int) (ck ch ct cq cv x : Int) : Value :=
  if seB s l c sh zs ck ch ct cq cv x then .tuple #[.agg #[.int .i64 x, .int .i64 (tagN zs ck ch ct cq cv x)], .bool true] else .tuple #[.agg #[.int .i64 0, .int .i64 0], .bool false]
theorem seB_1 {ck ch ct cq cv : Int} (h : clB ck ch ct cq cv = false) (s l c sh : Int) (zs : List Int) (x : Int) : seB s l c sh zs ck ch ct cq cv x = false := by simp [seB, h]
theorem seB_2 {s l c sh : Int} {zs : List Int} {x : Int} (h : srvB s l c sh zs x = false) (ck ch ct cq cv : Int) : seB s l c sh zs ck ch ct cq cv x = false := by simp [seB, h]
theorem seB_3 {s l c sh ck ch ct cq cv : Int} {zs : List Int} {x : Int} (h1 : clB ck ch ct cq cv = true) (h : srvB s l c sh zs x = true) : seB s l c sh zs ck ch ct cq cv x = true := by simp [seB, h, h1]
theorem seV_no {s l c sh ck ch ct cq cv : Int} {zs : List Int} {x : Int} (h : seB s l c sh zs ck ch ct cq cv x = false) : seV s l c sh zs ck ch ct cq cv x = .tuple #[.agg #[.int .i64 0, .int .i64 0], .bool false] := by simp [seV, h]
theorem seV_yes {s l c sh ck ch ct cq cv : Int} {zs : List Int} {x : Int} (h : seB s l c sh zs ck ch ct cq cv x = true) : seV s l c sh zs ck ch ct cq cv x = .tuple #[.agg #[.int .i64 x, .int .i64 (tagN zs ck ch ct cq cv x)], .bool true] := by simp [seV, h]
/-- What a server's number says of its key. -/
theorem srvB_key {s l c sh : Int} {zs : List Int} {x : Int} (h : srvB s l c sh zs x = true) : 0 ≤ x ∧ x ≤ 9 ∧ x.toNat < zs.length ∧ 1 ≤ nth zs x.toNat ∧ nth zs x.toNat ≤ 1000000 := by
  simp only [srvB, Bool.and_eq_true] at h
  have hb := okB_parts h.1
  have hx := inB_true.1 h.2
  have hk := h.1
  simp only [okB, Bool.and_eq_true, decide_eq_true_eq] at hk
  have hl := hk.1.2
  have hlt : x.toNat < zs.length := by omega
  have ha := hk.2
  unfold keysB at ha
  rw [List.all_eq_true] at ha
  have := inB_true.1 (ha _ (List.getElem_mem hlt))
  rw [nth_lt hlt]
  exact ⟨hx.1, by omega, hlt, this.1, this.2⟩
theorem mixable_seal {s l c sh ck ch ct cq cv : Int} {zs : List Int} {x : Int} (h1 : clB ck ch ct cq cv = true) (h2 : srvB s l c sh zs x = true) : mixable [nth zs x.toNat, digN ck ch ct cq cv, x] := by
  have a := srvB_key h2
  exact mixable_3 (by omega) (digN_bd h1) (by omega)
/-- What SealRight answers. -/
def riB (s l c sh : Int) (zs : List Int) (ck ch ct cq cv x t : Int) : Bool := seB s l c sh zs ck ch ct cq cv x && decide (t = tagN zs ck ch ct cq cv x)
theorem riB_no {s l c sh ck ch ct cq cv : Int} {zs : List Int} {x : Int} (h : seB s l c sh zs ck ch ct cq cv x = false) (t : Int) : riB s l c sh zs ck ch ct cq cv x t = false := by simp [riB, h]
theorem riB_yes {s l c sh ck ch ct cq cv : Int} {zs : List Int} {x : Int} (h : seB s l c sh zs ck ch ct cq cv x = true) (t : Int) : riB s l c sh zs ck ch ct cq cv x t = decide (t = tagN zs ck ch ct cq cv x) := by simp [riB, h]

end Go.Proofs.YtjdepjpjjgkmbaaGreat

/- Words of chapter 4: lists of pairs in order of their first numbers, lists that are alike for each first number, putting and joining, keeping the first of each; no conditions. -/
namespace Go.Proofs.YtjdepjpjjgkmbaaGreat
open Go.RowKit

/-- In order of the first numbers. -/
def Srt (l : List (Int × Int)) : Prop := l.Pairwise fun p q => p.1 ≤ q.1
/-- In order, none twice. -/
def SSrt (l : List (Int × Int)) : Prop := l.Pairwise fun p q => p.1 < q.1
/-- Those of one first number. -/
def of (k : Int) (l : List (Int × Int)) : List (Int × Int) := l.filter fun p => p.1 == k
/-- For each first number the same ones, in the same order. -/
def Same (a b : List (Int × Int)) : Prop := ∀ k, of k a = of k b

theorem of_nil (k : Int) : of k [] = [] := rfl
theorem of_app (k : Int) (a b : List (Int × Int)) : of k (a ++ b) = of k a ++ of k b := by simp [of]
theorem of_cons (k : Int) (x : Int × Int) (l : List (Int × Int)) : of k (x :: l) = if x.1 = k then x :: of k l else of k l := by
  unfold of
  by_cases h : x.1 = k <;> simp [h]
theorem of_none {k : Int} {l : List (Int × Int)} (h : ∀ p ∈ l, p.1 ≠ k) : of k l = [] := by
  unfold of
  rw [List.filter_eq_nil_iff]
  intro p hp
  simpa using h p hp
theorem mem_of {k : Int} {l : List (Int × Int)} {p : Int × Int} : p ∈ of k l ↔ p ∈ l ∧ p.1 = k := by simp [of]
theorem Same.refl (a : List (Int × Int)) : Same a a := fun _ => rfl
theorem Same.symm {a b : List (Int × Int)} (h : Same a b) : Same b a := fun k => (h k).symm
theorem Same.trans {a b c : List (Int × Int)} (h : Same a b) (h' : Same b c) : Same a c := fun k => (h k).trans (h' k)
theorem Same.app {a b c d : List (Int × Int)} (h : Same a b) (h' : Same c d) : Same (a ++ c) (b ++ d) := fun k => by rw [of_app, of_app, h k, h' k]
theorem Same.mem {a b : List (Int × Int)} (h : Same a b) {p : Int × Int} : p ∈ a ↔ p ∈ b := by
  have := h p.1
  constructor
  · intro hp
    have : p ∈ of p.1 b := by rw [← this]; exact mem_of.2 ⟨hp, rfl⟩
    exact (mem_of.1 this).1
  · intro hp
    have : p ∈ of p.1 a := by rw [this]; exact mem_of.2 ⟨hp, rfl⟩
    exact (mem_of.1 this).1
/-- Two parts with no first number in common change places. -/
theorem Same.swap {a b : List (Int × Int)} (h : ∀ p ∈ a, ∀ q ∈ b, p.1 ≠ q.1) : Same (b ++ a) (a ++ b) := fun k => by
  rw [of_app, of_app]
  by_cases hk : ∃ p ∈ a, p.1 = k
  · obtain ⟨p, hp, rfl⟩ := hk
    rw [of_none (l := b) (fun q hq e => h p hp q hq e.symm)]
    simp
  · rw [of_none (l := a) (fun q hq e => hk ⟨q, hq, e⟩)]
    simp

theorem rev_ind {P : List (Int × Int) → Prop} (h0 : P []) (h1 : ∀ l s, P l → P (l ++ [s])) (l : List (Int × Int)) : P l := by
  have : ∀ l : List (Int × Int), P l.reverse := by
    intro l
    induction l with
    | nil => exact h0
    | cons x l ih => rw [List.reverse_cons]; exact h1 _ _ ih
  have := this l.reverse
  rwa [List.reverse_reverse] at this

/-- Lists in order that are alike for each first number are one. -/
theorem same_eq : ∀ {a b : List (Int × Int)}, Srt a → Srt b → Same a b → a = b
  | [], [], _, _, _ => rfl
  | [], y :: b, _, _, h => by have := h y.1; simp [of] at this
  | x :: a, [], _, _, h => by have := h x.1; simp [of] at this
  | x :: a, y :: b, ha, hb, h => by
    have ha' := List.pairwise_cons.1 ha
    have hb' := List.pairwise_cons.1 hb
    have hxm : x ∈ y :: b := h.mem.1 (by simp)
    have hym : y ∈ x :: a := h.mem.2 (by simp)
    have h1 : y.1 ≤ x.1 := by
      rcases List.mem_cons.1 hxm with e | e
      · rw [e]; exact Int.le_refl _
      · exact hb'.1 x e
    have h2 : x.1 ≤ y.1 := by
      rcases List.mem_cons.1 hym with e | e
      · rw [e]; exact Int.le_refl _
      · exact ha'.1 y e
    have hk : y.1 = x.1 := Int.le_antisymm h1 h2
    have e := h x.1
    rw [of_cons, of_cons, if_pos rfl, if_pos hk] at e
    injection e with e1 e2
    subst e1
    rw [same_eq ha'.2 hb'.2 (fun k => by
      have := h k
      rw [of_cons, of_cons] at this
      by_cases hk : x.1 = k
      · simpa [hk] using this
      · simpa [hk] using this)]

/-- One more in order, ahead of the first larger one. -/
def ins : List (Int × Int) → Int × Int → List (Int × Int)
  | [], s => [s]
  | x :: l, s => if s.1 < x.1 then s :: x :: l else x :: ins l s
/-- Is there one of this first number? -/
def has (l : List (Int × Int)) (k : Int) : Bool := l.any fun p => p.1 == k
/-- One more, where there is none of its first number. -/
def put (l : List (Int × Int)) (s : Int × Int) : List (Int × Int) := if has l s.1 then l else ins l s
/-- All of them, one after the other. -/
def puts (l : List (Int × Int)) : List (Int × Int) := l.foldl put []
theorem puts_snoc (l : List (Int × Int)) (s : Int × Int) : puts (l ++ [s]) = put (puts l) s := by simp [puts]
theorem has_mem {l : List (Int × Int)} {k : Int} : has l k = true ↔ ∃ p ∈ l, p.1 = k := by simp [has]
theorem has_not {l : List (Int × Int)} {k : Int} : has l k = false ↔ ∀ p ∈ l, p.1 ≠ k := by simp [has]
theorem ins_mem {l : List (Int × Int)} {s p : Int × Int} : p ∈ ins l s ↔ p = s ∨ p ∈ l := by
  induction l with
  | nil => simp [ins]
  | cons x l ih =>
    unfold ins
    split
    · simp
    · simp only [List.mem_cons, ih]
      constructor <;> rintro (h | h | h) <;> simp [h]
theorem ins_len (l : List (Int × Int)) (s : Int × Int) : (ins l s).length = l.length + 1 := by
  induction l with
  | nil => rfl
  | cons x l ih => unfold ins; split <;> simp [ih]
theorem put_len (l : List (Int × Int)) (s : Int × Int) : (put l s).length = if has l s.1 then l.length else l.length + 1 := by
  unfold put
  split
  · rfl
  · exact ins_len l s
theorem put_le (l : List (Int × Int)) (s : Int × Int) : (put l s).length ≤ l.length + 1 ∧ l.length ≤ (put l s).length := by
  rw [put_len]
  split <;> omega
theorem puts_le (l : List (Int × Int)) : (puts l).length ≤ l.length := by
  refine rev_ind (P := fun l => (puts l).length ≤ l.length) (by simp [puts]) (fun l s ih => ?_) l
  · rw [puts_snoc]
    have := (put_le (puts l) s).1
    simp only [List.length_append, List.length_cons, List.length_nil]
    omega
theorem ins_srt {l : List (Int × Int)} {s : Int × Int} (h : SSrt l) (hn : ∀ p ∈ l, p.1 ≠ s.1) : SSrt (ins l s) := by
  induction l with
  | nil => simp [ins, SSrt]
  | cons x l ih =>
    have h' := List.pairwise_cons.1 h
    unfold ins
    split
    · rename_i hlt
      refine List.pairwise_cons.2 ⟨fun p hp => ?_, h⟩
      rcases List.mem_cons.1 hp with e | e
      · rw [e]; exact hlt
      · have := h'.1 p e; omega
    · rename_i hge
      have hx := hn x (by simp)
      refine List.pairwise_cons.2 ⟨fun p hp => ?_, ih h'.2 (fun p hp => hn p (by simp [hp]))⟩
      rcases ins_mem.1 hp with e | e
      · rw [e]; omega
      · exact h'.1 p e
theorem ins_of {l : List (Int × Int)} {s : Int × Int} (hn : ∀ p ∈ l, p.1 ≠ s.1) (k : Int) : of k (ins l s) = if s.1 = k then [s] else of k l := by
  induction l with
  | nil => rw [show ins [] s = [s] from rfl, of_cons]; simp [of_nil]
  | cons x l ih =>
    have hx := hn x (by simp)
    have ih := ih (fun p hp => hn p (by simp [hp]))
    unfold ins
    split
    · rw [of_cons]
      split
      · rename_i e
        rw [of_none (fun p hp => e ▸ hn p hp)]
      · rfl
    · rw [of_cons, of_cons, ih]
      by_cases e : s.1 = k
      · have hxk : x.1 ≠ k := by omega
        simp [e, hxk]
      · simp [e]
theorem put_srt {l : List (Int × Int)} (s : Int × Int) (h : SSrt l) : SSrt (put l s) := by
  unfold put
  split
  · exact h
  · rename_i e
    exact ins_srt h (has_not.1 (by simpa using e))
theorem ssrt_of {l : List (Int × Int)} (h : SSrt l) (k : Int) : (of k l).length ≤ 1 := by
  induction l with
  | nil => simp [of_nil]
  | cons x l ih =>
    have h' := List.pairwise_cons.1 h
    rw [of_cons]
    split
    · rename_i e
      rw [of_none (fun p hp => by have := h'.1 p hp; omega)]
      simp
    · exact ih h'.2
theorem put_of {l : List (Int × Int)} (s : Int × Int) (h : SSrt l) (k : Int) : of k (put l s) = (of k l ++ of k [s]).take 1 := by
  have hl := ssrt_of h k
  unfold put
  split
  · rename_i e
    obtain ⟨p, hp, hk⟩ := has_mem.1 e
    by_cases e : s.1 = k
    · have : p ∈ of k l := mem_of.2 ⟨hp, hk.trans e⟩
      match hm : of k l, hl with
      | [], _ => rw [hm] at this; simp at this
      | [q], _ => simp
    · rw [of_cons, if_neg e, of_nil, List.append_nil, List.take_of_length_le hl]
  · rename_i e
    have e := has_not.1 (by simpa using e : has l s.1 = false)
    rw [ins_of e k, of_cons, of_nil]
    by_cases f : s.1 = k
    · subst f
      rw [of_none e]
      simp
    · simp [f, List.take_of_length_le hl]
theorem puts_srt (l : List (Int × Int)) : SSrt (puts l) := by
  refine rev_ind (P := fun l => SSrt (puts l)) (by simp [puts, SSrt]) (fun l s ih => ?_) l
  rw [puts_snoc]
  exact put_srt s ih
theorem puts_of (l : List (Int × Int)) (k : Int) : of k (puts l) = (of k l).take 1 := by
  refine rev_ind (P := fun l => of k (puts l) = (of k l).take 1) (by simp [puts, of_nil]) (fun l s ih => ?_) l
  · rw [puts_snoc, put_of s (puts_srt l) k, ih, of_app]
    rcases of k l with _ | ⟨a, _⟩ <;> simp
theorem SSrt.srt {l : List (Int × Int)} (h : SSrt l) : Srt l := h.imp fun h => Int.le_of_lt h

/-- Those that differ from the one ahead of them. -/
def cfrom (k : Int) : List (Int × Int) → List (Int × Int)
  | [] => []
  | y :: l => if y.1 = k then cfrom y.1 l else y :: cfrom y.1 l
def cmpct : List (Int × Int) → List (Int × Int)
  | [] => []
  | x :: l => x :: cfrom x.1 l
theorem cfrom_srt {k : Int} {l : List (Int × Int)} (h : Srt l) (hk : ∀ p ∈ l, k ≤ p.1) : SSrt (cfrom k l) ∧ ∀ p ∈ cfrom k l, k < p.1 := by
  induction l generalizing k with
  | nil => simp [cfrom, SSrt]
  | cons y l ih =>
    have h' := List.pairwise_cons.1 h
    have ih := ih (k := y.1) h'.2 h'.1
    unfold cfrom
    split
    · rename_i e
      exact ⟨ih.1, fun p hp => by have := ih.2 p hp; omega⟩
    · rename_i e
      have hky := hk y (by simp)
      refine ⟨List.pairwise_cons.2 ⟨ih.2, ih.1⟩, fun p hp => ?_⟩
      rcases List.mem_cons.1 hp with e | e
      · rw [e]; omega
      · have := ih.2 p e; omega
theorem cmpct_srt {l : List (Int × Int)} (h : Srt l) : SSrt (cmpct l) := by
  cases l with
  | nil => simp [cmpct, SSrt]
  | cons x l =>
    have h' := List.pairwise_cons.1 h
    have := cfrom_srt h'.2 h'.1
    exact List.pairwise_cons.2 ⟨this.2, this.1⟩
theorem cfrom_of {k : Int} {l : List (Int × Int)} (h : Srt l) (hk : ∀ p ∈ l, k ≤ p.1) (j : Int) : of j (cfrom k l) = if j = k then [] else (of j l).take 1 := by
  induction l generalizing k with
  | nil => simp [cfrom, of_nil]
  | cons y l ih =>
    have h' := List.pairwise_cons.1 h
    have ih := ih (k := y.1) h'.2 h'.1
    have hky := hk y (by simp)
    unfold cfrom
    split
    · rename_i e
      rw [ih, of_cons, e]
      by_cases f : j = k
      · simp [f]
      · simp [f, show ¬ k = j from fun h => f h.symm]
    · rename_i e
      rw [of_cons, of_cons, ih]
      by_cases f : y.1 = j
      · have : ¬ j = k := by omega
        simp [f, this]
      · have f' : ¬ j = y.1 := fun h => f h.symm
        simp only [f, f', if_false]
        split
        · rename_i g
          rw [of_none (fun p hp => by have := h'.1 p hp; omega)]
          rfl
        · rfl
theorem cmpct_of {l : List (Int × Int)} (h : Srt l) (j : Int) : of j (cmpct l) = (of j l).take 1 := by
  cases l with
  | nil => simp [cmpct, of_nil]
  | cons x l =>
    have h' := List.pairwise_cons.1 h
    unfold cmpct
    rw [of_cons, of_cons, cfrom_of h'.2 h'.1]
    by_cases f : x.1 = j
    · simp [f]
    · simp [f, show ¬ j = x.1 from fun h => f h.symm]
/-- What JoinSeals does is what its model does. -/
theorem cmpct_puts {s l : List (Int × Int)} (h : Srt s) (hs : Same s l) : cmpct s = puts l :=
  same_eq (cmpct_srt h).srt (puts_srt l).srt fun k => by rw [cmpct_of h, puts_of, hs k]
theorem cfrom_snoc (k : Int) (l : List (Int × Int)) (y : Int × Int) : cfrom k (l ++ [y]) = cfrom k l ++ if y.1 = (l.getLast?.map (·.1)).getD k then [] else [y] := by
  induction l generalizing k with
  | nil =>
    show (if y.1 = k then cfrom y.1 [] else y :: cfrom y.1 []) = [] ++ if y.1 = k then [] else [y]
    rw [List.nil_append]
    rfl
  | cons x l ih =>
    rw [List.cons_append]
    unfold cfrom
    rw [ih]
    have : (((x :: l).getLast?).map (·.1)).getD k = ((l.getLast?).map (·.1)).getD x.1 := by
      rcases l.eq_nil_or_concat with rfl | ⟨l', z, rfl⟩
      · rfl
      · rw [List.concat_eq_append, ← List.cons_append, List.getLast?_append, List.getLast?_append]
        rfl
    rw [this]
    by_cases e : x.1 = k
    · simp [e]
    · simp [e]
/-- One more at the end. -/
theorem cmpct_take {l : List (Int × Int)} {k : Nat} (h0 : 0 < k) (h : k < l.length) : cmpct (l.take (k + 1)) = cmpct (l.take k) ++ if (pth l k).1 = (pth l (k - 1)).1 then [] else [pth l k] := by
  rw [List.take_succ_eq_append_getElem h, pth_lt h, pth_lt (by omega : k - 1 < l.length)]
  match l, h with
  | x :: l, h =>
    obtain ⟨k, rfl⟩ : ∃ j, k = j + 1 := ⟨k - 1, by omega⟩
    simp only [List.take_succ_cons, List.cons_append, cmpct, cfrom_snoc]
    have hk : k < l.length := by simpa using h
    have : (((List.take k l).getLast?).map (·.1)).getD x.1 = ((x :: l)[k + 1 - 1]'(by simp; omega)).1 := by
      rcases k with _ | k
      · simp
      · simp [List.getLast?_take, show l[k]? = some l[k] from List.getElem?_eq_getElem (by omega)]
    rw [this]
theorem cmpct_len_le (l : List (Int × Int)) : (cmpct l).length ≤ l.length := by
  have : ∀ k, (cfrom k l).length ≤ l.length := by
    induction l with
    | nil => simp [cfrom]
    | cons y l ih => intro k; unfold cfrom; have := ih y.1; split <;> simp <;> omega
  cases l with
  | nil => simp [cmpct]
  | cons x l =>
    have h : ∀ (l : List (Int × Int)) k, (cfrom k l).length ≤ l.length := by
      intro l
      induction l with
      | nil => simp [cfrom]
      | cons y l ih => intro k; unfold cfrom; have := ih y.1; split <;> simp <;> omega
    simpa [cmpct] using h l x.1

/-- Two places exchanged. -/
def swp (d : List (Int × Int)) (i j : Nat) : List (Int × Int) := (d.set i (pth d j)).set j (pth d i)
theorem pth_app (P Q : List (Int × Int)) (x : Int × Int) : pth (P ++ x :: Q) P.length = x := by simp [pth]
theorem pth_at {d P Q : List (Int × Int)} {x : Int × Int} {i : Nat} (h : d = P ++ x :: Q) (hi : i = P.length) : pth d i = x := by subst h hi; exact pth_app P Q x
theorem swp_app (P Q R : List (Int × Int)) (x y : Int × Int) : swp (P ++ x :: (Q ++ y :: R)) P.length (P.length + 1 + Q.length) = P ++ y :: (Q ++ x :: R) := by
  unfold swp
  rw [pth_app, pth_at (P := P ++ x :: Q) (x := y) (Q := R) (by simp) (by simp; omega)]
  simp [List.set_append, show ¬ P.length + 1 + Q.length < P.length by omega, show P.length + 1 + Q.length - P.length = Q.length + 1 by omega]
theorem swp_at {d d' P Q R : List (Int × Int)} {x y : Int × Int} {i j : Nat} (h : d = P ++ x :: (Q ++ y :: R)) (hi : i = P.length) (hj : j = P.length + 1 + Q.length) (h' : d' = P ++ y :: (Q ++ x :: R)) : swp d i j = d' := by
  subst h hi hj h'
  exact swp_app P Q R x y
theorem swp_comm (d : List (Int × Int)) (i j : Nat) (h : i ≠ j) : swp d i j = swp d j i := by
  unfold swp
  exact List.set_comm _ _ h
theorem srt_at {l : List (Int × Int)} (h : Srt l) {i j : Nat} (hij : i ≤ j) (hj : j < l.length) : (pth l i).1 ≤ (pth l j).1 := by
  rw [pth_lt hj, pth_lt (by omega : i < l.length)]
  rcases Nat.lt_or_eq_of_le hij with h' | h'
  · exact List.pairwise_iff_getElem.1 h i j (by omega) hj h'
  · subst h'; exact Int.le_refl _

end Go.Proofs.YtjdepjpjjgkmbaaGreat

/- What the functions of impl/l01_group.go answer at every group whose keys can be read: contracts of each of them. -/
namespace Go.Proofs.YtjdepjpjjgkmbaaGreat
open Go.RowKit

theorem servers_any (s l c sh : Int) (A : Option Addr) (n cap : Nat) (w : World) :
    Calls Tryz.prog 212 #[.agg #[.int .i64 s, .int .i64 l, .int .i64 c, .int .i64 sh, .slice A n cap]] w fun e w' => e = .returned (.bool (inB s 1 10)) ∧ Below w.heap.size w w' := by
  go_enter Tryz.func212, Tryz.ntmps212
  go_wp2_with (go_at_call 143; refine (within_any _ _ _ _).mono ?_; rintro e w' ⟨rfl, rfl⟩)
  go_ret
  exact ⟨rfl, (Below.refl _ _).alloc (Nat.le_refl _) _⟩

theorem clients_any (s l c sh : Int) (A : Option Addr) (n cap : Nat) (w : World) :
    Calls Tryz.prog 213 #[.agg #[.int .i64 s, .int .i64 l, .int .i64 c, .int .i64 sh, .slice A n cap]] w fun e w' => e = .returned (.bool (inB c 1 6)) ∧ Below w.heap.size w w' := by
  go_enter Tryz.func213, Tryz.ntmps213
  go_wp2_with (go_at_call 143; refine (within_any _ _ _ _).mono ?_; rintro e w' ⟨rfl, rfl⟩)
  go_ret
  exact ⟨rfl, (Below.refl _ _).alloc (Nat.le_refl _) _⟩

theorem shelves_any (s l c sh : Int) (A : Option Addr) (n cap : Nat) (w : World) :
    Calls Tryz.prog 214 #[.agg #[.int .i64 s, .int .i64 l, .int .i64 c, .int .i64 sh, .slice A n cap]] w fun e w' => e = .returned (.bool (inB sh 1 4)) ∧ Below w.heap.size w w' := by
  go_enter Tryz.func214, Tryz.ntmps214
  go_wp2_with (go_at_call 143; refine (within_any _ _ _ _).mono ?_; rintro e w' ⟨rfl, rfl⟩)
  go_ret
  exact ⟨rfl, (Below.refl _ _).alloc (Nat.le_refl _) _⟩

theorem liars_any (s l c sh : Int) (A : Option Addr) (n cap : Nat) (w : World) (h1 : 1 ≤ s) (h2 : s ≤ 10) :
    Calls Tryz.prog 215 #[.agg #[.int .i64 s, .int .i64 l, .int .i64 c, .int .i64 sh, .slice A n cap]] w fun e w' => e = .returned (.bool (inB l 0 ((s - 1) / 3))) ∧ Below w.heap.size w w' := by
  go_enter Tryz.func215, Tryz.ntmps215
  go_wp2_with (go_at_call 143; refine (within_any _ _ _ _).mono ?_; rintro e w' ⟨rfl, rfl⟩)
  go_ret
  exact ⟨rfl, (Below.refl _ _).alloc (Nat.le_refl _) _⟩

theorem nodes_any (s l c sh : Int) (A : Option Addr) (n cap : Nat) (w : World) (h1 : 1 ≤ s) (h2 : s ≤ 10) (h3 : 1 ≤ c) (h4 : c ≤ 6) :
    Calls Tryz.prog 235 #[.agg #[.int .i64 s, .int .i64 l, .int .i64 c, .int .i64 sh, .slice A n cap]] w fun e w' => e = .returned (.int .i64 (s + c)) ∧ Below w.heap.size w w' := by
  go_enter Tryz.func235, Tryz.ntmps235
  go_wp2
  go_ret
  exact ⟨rfl, (Below.refl _ _).alloc (Nat.le_refl _) _⟩

theorem keys_no (s l c sh : Int) (A : Option Addr) (n cap : Nat) (w : World) (h1 : 1 ≤ s) (h2 : s ≤ 10) (h3 : 1 ≤ c) (h4 : c ≤ 6) (hn : (n : Int) ≠ s + c) (_hm : n ≤ maxLen) :
    Calls Tryz.prog 216 #[.agg #[.int .i64 s, .int .i64 l, .int .i64 c, .int .i64 sh, .slice A n cap]] w fun e w' => e = .returned (.bool false) ∧ Below w.heap.size w w' := by
  have hne : ((n : Int) != s + c) = true := by rw [bne_iff_ne]; exact hn
  unfold maxLen at _hm
  go_enter Tryz.func216, Tryz.ntmps216
  go_wp2_with fail
  go_region_held3 (fun w' => w'.cell? ⟨w.heap.size, 0, none⟩ = some (.int .i64 s) ∧ w'.cell? ⟨w.heap.size, 1, none⟩ = some (.int .i64 l) ∧ w'.cell? ⟨w.heap.size, 2, none⟩ = some (.int .i64 c) ∧ w'.cell? ⟨w.heap.size, 3, none⟩ = some (.int .i64 sh) ∧ w'.cell? ⟨w.heap.size, 4, none⟩ = some (.slice A n cap)) (go_keep)
    (first | (go_at_call 235; refine (nodes_any s l c sh A n cap _ h1 h2 h3 h4).mono ?_; rintro e w' ⟨rfl, hb⟩; obtain ⟨hc, hf⟩ := bcell hb))
  clear hc hf
  go_wp2
  go_ret
  exact ⟨rfl, bel_trans (bel_alloc _ _) (bel_drew' hb)⟩

set_option maxHeartbeats 400000 in
theorem keys_yes (s l c sh : Int) (A : Option Addr) (n cap : Nat) (zs : List Int) (w : World) (h1 : 1 ≤ s) (h2 : s ≤ 10) (h3 : 1 ≤ c) (h4 : c ≤ 6) (hn : (n : Int) = s + c) (hr : Row w w.heap.size A n zs) :
    Calls Tryz.prog 216 #[.agg #[.int .i64 s, .int .i64 l, .int .i64 c, .int .i64 sh, .slice A n cap]] w fun e w' => e = .returned (.bool (keysB zs)) ∧ Below w.heap.size w w' := by
  have hne : ((n : Int) != s + c) = false := by simp [hn]
  have hn0 : 0 < n := by omega
  have hn16 : n ≤ 16 := by omega
  obtain ⟨hzl, hr⟩ := hr
  obtain ⟨b, o, rfl, hbB, hcell⟩ := hr hn0
  have HN := Lib.hid hn
  clear hn hr
  have HZ := Lib.hid hzl
  clear hzl
  have HC := Lib.hid hcell
  clear hcell
  go_enter Tryz.func216, Tryz.ntmps216
  go_wp2_with fail
  go_region_held3 (fun w' => w'.cell? ⟨w.heap.size, 0, none⟩ = some (.int .i64 s) ∧ w'.cell? ⟨w.heap.size, 1, none⟩ = some (.int .i64 l) ∧ w'.cell? ⟨w.heap.size, 2, none⟩ = some (.int .i64 c) ∧ w'.cell? ⟨w.heap.size, 3, none⟩ = some (.int .i64 sh) ∧ w'.cell? ⟨w.heap.size, 4, none⟩ = some (.slice (some ⟨b, o, none⟩) n cap)) (go_keep)
    (first | (go_at_call 235; refine (nodes_any s l c sh _ n cap _ h1 h2 h3 h4).mono ?_; rintro e w' ⟨rfl, hb⟩; obtain ⟨hc, hf⟩ := bcell hb))
  clear hc hf
  have hbw : Below w.heap.size w w' := bel_trans (bel_alloc _ _) (bel_drew' hb)
  have HC' : Hid (∀ i, i < n → w'.cell? ⟨b, o + i, none⟩ = some (.int .i64 (nth zs i))) := fun i hi => (hbw.cell (p := ⟨b, o + i, none⟩) hbB).trans (HC.out i hi)
  clear hb
  go_wp2
  go_loop [14] (fun i => ∃ k : Nat, k ≤ n ∧ i = .int .i64 k ∧ Hid (∀ j, j < k → inB (nth zs j) 1 1000000 = true)) (fun i => n - (intOf i).toNat)
  case atStart => exact ⟨0, Nat.zero_le _, rfl, fun j hj => absurd hj (by omega)⟩
  case round =>
    obtain ⟨k, hk, rfl, hall⟩ := hrel
    by_cases hlt : k < n
    · have g := HC'.out k hlt
      rcases hb : inB (nth zs k) 1 1000000 with _ | _
      · have HF : Hid (keysB zs = false) := keysB_false (by rw [HZ.out]; exact hlt) hb
        go_wp2_with (go_at_call 143; refine (within_any _ _ _ _).mono ?_; rintro e w' ⟨rfl, rfl⟩)
        go_ret
        exact ⟨by rw [HF.out]; rfl, hbw⟩
      · have HS : Hid (∀ j, j < k + 1 → inB (nth zs j) 1 1000000 = true) := fun j hj => by
          rcases Nat.lt_or_ge j k with h | h
          · exact hall.out j h
          · have e : j = k := by omega
            rw [e]; exact hb
        go_wp2_with (go_at_call 143; refine (within_any _ _ _ _).mono ?_; rintro e w' ⟨rfl, rfl⟩)
        go_round
        case rel => exact ⟨k + 1, by omega, by go_num, HS⟩
        case measure => simp [intOf]; omega
    · have HT : Hid (keysB zs = true) := keysB_true fun j hj => hall.out j (by have := HZ.out; omega)
      go_wp2
      go_ret
      exact ⟨by rw [HT.out]; rfl, hbw⟩

/-- What the five rules of a group say. -/
def ruleB (s l c sh : Int) (zs : List Int) : Nat → Bool
  | 0 => inB s 1 10
  | 1 => inB c 1 6
  | 2 => inB sh 1 4
  | 3 => inB l 0 ((s - 1) / 3)
  | _ => decide ((zs.length : Int) = s + c) && keysB zs

theorem okB_all {s l c sh : Int} {zs : List Int} (h : ∀ j, j < 5 → ruleB s l c sh zs j = true) : okB s l c sh zs = true := by
  have h0 := h 0 (by omega)
  have h1 := h 1 (by omega)
  have h2 := h 2 (by omega)
  have h3 := h 3 (by omega)
  have h4 := h 4 (by omega)
  simp only [ruleB] at h0 h1 h2 h3 h4
  simp only [okB, h0, h1, h2, h3, Bool.true_and]; exact h4
theorem okB_none {s l c sh : Int} {zs : List Int} {j : Nat} (h : j < 5) (hj : ruleB s l c sh zs j = false) : okB s l c sh zs = false := by
  have : j = 0 ∨ j = 1 ∨ j = 2 ∨ j = 3 ∨ j = 4 := by omega
  rcases this with rfl | rfl | rfl | rfl | rfl <;> simp only [ruleB] at hj <;> simp only [okB, Bool.and_assoc, hj, Bool.false_and, Bool.and_false]

/-- The fifth rule, whatever the keys. -/
theorem keys_any (s l c sh : Int) (A : Option Addr) (n cap : Nat) (zs : List Int) (w : World) (h1 : 1 ≤ s) (h2 : s ≤ 10) (h3 : 1 ≤ c) (h4 : c ≤ 6) (hm : n ≤ maxLen) (hr : Row w w.heap.size A n zs) :
    Calls Tryz.prog 216 #[.agg #[.int .i64 s, .int .i64 l, .int .i64 c, .int .i64 sh, .slice A n cap]] w fun e w' => e = .returned (.bool (ruleB s l c sh zs 4)) ∧ Below w.heap.size w w' := by
  by_cases hn : (n : Int) = s + c
  · have e : ruleB s l c sh zs 4 = keysB zs := by simp [ruleB, hr.1, hn]
    rw [e]
    exact keys_yes s l c sh A n cap zs w h1 h2 h3 h4 hn hr
  · have e : ruleB s l c sh zs 4 = false := by simp [ruleB, hr.1, hn]
    rw [e]
    exact keys_no s l c sh A n cap w h1 h2 h3 h4 hn hm

theorem all_succ {P : Nat → Bool} {k : Nat} (h : ∀ j, j < k → P j = true) (hk : P k = true) : ∀ j, j < k + 1 → P j = true := fun j hj => by
  rcases Nat.lt_or_ge j k with h1 | h1
  · exact h j h1
  · have e : j = k := by omega
    rw [e]; exact hk

set_option maxHeartbeats 1000000 in
theorem groupOk_any (s l c sh : Int) (A : Option Addr) (n cap : Nat) (zs : List Int) (w : World) (hm : n ≤ maxLen) (hr : Row w w.heap.size A n zs) :
    Calls Tryz.prog 175 #[(.agg #[.int .i64 s, .int .i64 l, .int .i64 c, .int .i64 sh, .slice A n cap])] w fun e w' => e = .returned (.bool (okB s l c sh zs)) ∧ Below w.heap.size w w' := by
  have HR := Lib.hid hr
  clear hr
  go_enter Tryz.func175, Tryz.ntmps175
  go_wp2_with fail
  go_loopw [19] (fun i wr => ∃ k : Nat, k ≤ 5 ∧ i = .int .i64 k ∧ Hid (∀ j, j < k → ruleB s l c sh zs j = true) ∧ Below w.heap.size w wr ∧ w.heap.size + 1 < wr.heap.size ∧
      wr.cell? ⟨w.heap.size + 1, 0, none⟩ = some (.func (Fn.func 212) #[(.agg #[.int .i64 s, .int .i64 l, .int .i64 c, .int .i64 sh, .slice A n cap])] #[]) ∧
      wr.cell? ⟨w.heap.size + 1, 1, none⟩ = some (.func (Fn.func 213) #[(.agg #[.int .i64 s, .int .i64 l, .int .i64 c, .int .i64 sh, .slice A n cap])] #[]) ∧
      wr.cell? ⟨w.heap.size + 1, 2, none⟩ = some (.func (Fn.func 214) #[(.agg #[.int .i64 s, .int .i64 l, .int .i64 c, .int .i64 sh, .slice A n cap])] #[]) ∧
      wr.cell? ⟨w.heap.size + 1, 3, none⟩ = some (.func (Fn.func 215) #[(.agg #[.int .i64 s, .int .i64 l, .int .i64 c, .int .i64 sh, .slice A n cap])] #[]) ∧
      wr.cell? ⟨w.heap.size + 1, 4, none⟩ = some (.func (Fn.func 216) #[(.agg #[.int .i64 s, .int .i64 l, .int .i64 c, .int .i64 sh, .slice A n cap])] #[]))
    (fun i _ => 5 - (intOf i).toNat)
  case atStart =>
    refine ⟨0, by omega, rfl, fun j hj => absurd hj (by omega), bel_trans (bel_alloc _ _) (bel_alloc _ _), by simp, ?_, ?_, ?_, ?_, ?_⟩ <;> simp
  case round =>
    obtain ⟨k, hk, rfl, hall, hb, hz, hc0, hc1, hc2, hc3, hc4⟩ := hrel
    by_cases hlt : k < 5
    · have hcase : k = 0 ∨ k = 1 ∨ k = 2 ∨ k = 3 ∨ k = 4 := by omega
      rcases hcase with rfl | rfl | rfl | rfl | rfl
      · rcases hv : inB s 1 10 with _ | _
        · have HF : Hid (okB s l c sh zs = false) := okB_none (j := 0) (by omega) hv
          go_wp2_with (go_at_call 212; refine (servers_any s l c sh A n cap _).mono ?_; rintro e w' ⟨rfl, hb'⟩)
          go_ret
          exact ⟨by rw [HF.out]; rfl, bel_trans hb hb'⟩
        · have HS : Hid (∀ j, j < 0 + 1 → ruleB s l c sh zs j = true) := all_succ hall.out hv
          go_wp2_with (go_at_call 212; refine (servers_any s l c sh A n cap _).mono ?_; rintro e w' ⟨rfl, hb'⟩)
          go_roundw
          case rel => exact ⟨1, by omega, by go_num, HS, bel_trans hb hb', Nat.lt_of_lt_of_le hz hb'.size, (hb'.cell (p := ⟨w.heap.size + 1, 0, none⟩) hz).trans hc0, (hb'.cell (p := ⟨w.heap.size + 1, 1, none⟩) hz).trans hc1, (hb'.cell (p := ⟨w.heap.size + 1, 2, none⟩) hz).trans hc2, (hb'.cell (p := ⟨w.heap.size + 1, 3, none⟩) hz).trans hc3, (hb'.cell (p := ⟨w.heap.size + 1, 4, none⟩) hz).trans hc4⟩
          case measure => simp [intOf]
      · rcases hv : inB c 1 6 with _ | _
        · have HF : Hid (okB s l c sh zs = false) := okB_none (j := 1) (by omega) hv
          go_wp2_with (go_at_call 213; refine (clients_any s l c sh A n cap _).mono ?_; rintro e w' ⟨rfl, hb'⟩)
          go_ret
          exact ⟨by rw [HF.out]; rfl, bel_trans hb hb'⟩
        · have HS : Hid (∀ j, j < 1 + 1 → ruleB s l c sh zs j = true) := all_succ hall.out hv
          go_wp2_with (go_at_call 213; refine (clients_any s l c sh A n cap _).mono ?_; rintro e w' ⟨rfl, hb'⟩)
          go_roundw
          case rel => exact ⟨2, by omega, by go_num, HS, bel_trans hb hb', Nat.lt_of_lt_of_le hz hb'.size, (hb'.cell (p := ⟨w.heap.size + 1, 0, none⟩) hz).trans hc0, (hb'.cell (p := ⟨w.heap.size + 1, 1, none⟩) hz).trans hc1, (hb'.cell (p := ⟨w.heap.size + 1, 2, none⟩) hz).trans hc2, (hb'.cell (p := ⟨w.heap.size + 1, 3, none⟩) hz).trans hc3, (hb'.cell (p := ⟨w.heap.size + 1, 4, none⟩) hz).trans hc4⟩
          case measure => simp [intOf]
      · rcases hv : inB sh 1 4 with _ | _
        · have HF : Hid (okB s l c sh zs = false) := okB_none (j := 2) (by omega) hv
          go_wp2_with (go_at_call 214; refine (shelves_any s l c sh A n cap _).mono ?_; rintro e w' ⟨rfl, hb'⟩)
          go_ret
          exact ⟨by rw [HF.out]; rfl, bel_trans hb hb'⟩
        · have HS : Hid (∀ j, j < 2 + 1 → ruleB s l c sh zs j = true) := all_succ hall.out hv
          go_wp2_with (go_at_call 214; refine (shelves_any s l c sh A n cap _).mono ?_; rintro e w' ⟨rfl, hb'⟩)
          go_roundw
          case rel => exact ⟨3, by omega, by go_num, HS, bel_trans hb hb', Nat.lt_of_lt_of_le hz hb'.size, (hb'.cell (p := ⟨w.heap.size + 1, 0, none⟩) hz).trans hc0, (hb'.cell (p := ⟨w.heap.size + 1, 1, none⟩) hz).trans hc1, (hb'.cell (p := ⟨w.heap.size + 1, 2, none⟩) hz).trans hc2, (hb'.cell (p := ⟨w.heap.size + 1, 3, none⟩) hz).trans hc3, (hb'.cell (p := ⟨w.heap.size + 1, 4, none⟩) hz).trans hc4⟩
          case measure => simp [intOf]
      · obtain ⟨hs1, hs2⟩ := inB_true.1 (show inB s 1 10 = true from hall.out 0 (by omega))
        rcases hv : inB l 0 ((s - 1) / 3) with _ | _
        · have HF : Hid (okB s l c sh zs = false) := okB_none (j := 3) (by omega) hv
          go_wp2_with (go_at_call 215; refine (liars_any s l c sh A n cap _ hs1 hs2).mono ?_; rintro e w' ⟨rfl, hb'⟩)
          go_ret
          exact ⟨by rw [HF.out]; rfl, bel_trans hb hb'⟩
        · have HS : Hid (∀ j, j < 3 + 1 → ruleB s l c sh zs j = true) := all_succ hall.out hv
          go_wp2_with (go_at_call 215; refine (liars_any s l c sh A n cap _ hs1 hs2).mono ?_; rintro e w' ⟨rfl, hb'⟩)
          go_roundw
          case rel => exact ⟨4, by omega, by go_num, HS, bel_trans hb hb', Nat.lt_of_lt_of_le hz hb'.size, (hb'.cell (p := ⟨w.heap.size + 1, 0, none⟩) hz).trans hc0, (hb'.cell (p := ⟨w.heap.size + 1, 1, none⟩) hz).trans hc1, (hb'.cell (p := ⟨w.heap.size + 1, 2, none⟩) hz).trans hc2, (hb'.cell (p := ⟨w.heap.size + 1, 3, none⟩) hz).trans hc3, (hb'.cell (p := ⟨w.heap.size + 1, 4, none⟩) hz).trans hc4⟩
          case measure => simp [intOf]
      · obtain ⟨hs1, hs2⟩ := inB_true.1 (show inB s 1 10 = true from hall.out 0 (by omega))
        obtain ⟨hq1, hq2⟩ := inB_true.1 (show inB c 1 6 = true from hall.out 1 (by omega))
        have HR2 := Lib.hid ((HR.out.below hb (Nat.le_refl _)).more hb.size)
        rcases hv : ruleB s l c sh zs 4 with _ | _
        · have HF : Hid (okB s l c sh zs = false) := okB_none (j := 4) (by omega) hv
          go_wp2_with (go_at_call 216; refine (keys_any s l c sh A n cap zs _ hs1 hs2 hq1 hq2 hm (HR2.out)).mono ?_; rintro e w' ⟨rfl, hb'⟩)
          go_ret
          exact ⟨by rw [HF.out]; rfl, bel_trans hb hb'⟩
        · have HS : Hid (∀ j, j < 4 + 1 → ruleB s l c sh zs j = true) := all_succ hall.out hv
          go_wp2_with (go_at_call 216; refine (keys_any s l c sh A n cap zs _ hs1 hs2 hq1 hq2 hm (HR2.out)).mono ?_; rintro e w' ⟨rfl, hb'⟩)
          go_roundw
          case rel => exact ⟨5, by omega, by go_num, HS, bel_trans hb hb', Nat.lt_of_lt_of_le hz hb'.size, (hb'.cell (p := ⟨w.heap.size + 1, 0, none⟩) hz).trans hc0, (hb'.cell (p := ⟨w.heap.size + 1, 1, none⟩) hz).trans hc1, (hb'.cell (p := ⟨w.heap.size + 1, 2, none⟩) hz).trans hc2, (hb'.cell (p := ⟨w.heap.size + 1, 3, none⟩) hz).trans hc3, (hb'.cell (p := ⟨w.heap.size + 1, 4, none⟩) hz).trans hc4⟩
          case measure => simp [intOf]
    · have hk5 : k = 5 := by omega
      subst hk5
      have HT : Hid (okB s l c sh zs = true) := okB_all hall.out
      go_wp2
      go_ret
      exact ⟨by rw [HT.out]; rfl, hb⟩

end Go.Proofs.YtjdepjpjjgkmbaaGreat

/- What the model of GroupOk answers at every group whose keys can be read: the same as the program. -/
namespace Go.Proofs.YtjdepjpjjgkmbaaGreat
open Go.RowKit

set_option maxHeartbeats 400000 in
theorem specGroup_no1 (s l c sh : Int) (A : Option Addr) (n cap : Nat) (w : World) (h1 : inB s 1 10 = false) :
    Calls Tryz.prog 133 #[(.agg #[.int .i64 s, .int .i64 l, .int .i64 c, .int .i64 sh, .slice A n cap])] w fun e w' => e = .returned (.bool false) ∧ Below w.heap.size w w' := by
  go_enter Tryz.func133, Tryz.ntmps133
  go_wp2_with (go_at_call 174; refine (l1In_any _ _ _ _).mono ?_; rintro e w' ⟨rfl, rfl⟩)
  go_ret
  exact ⟨rfl, bel_alloc _ _⟩

set_option maxHeartbeats 400000 in
theorem specGroup_no2 (s l c sh : Int) (A : Option Addr) (n cap : Nat) (w : World) (h1 : inB s 1 10 = true) (h2 : inB l 0 10 = false) :
    Calls Tryz.prog 133 #[(.agg #[.int .i64 s, .int .i64 l, .int .i64 c, .int .i64 sh, .slice A n cap])] w fun e w' => e = .returned (.bool false) ∧ Below w.heap.size w w' := by
  obtain ⟨b1, b2⟩ := inB_true.1 h1
  go_enter Tryz.func133, Tryz.ntmps133
  go_wp2_with (go_at_call 174; refine (l1In_any _ _ _ _).mono ?_; rintro e w' ⟨rfl, rfl⟩)
  go_ret
  exact ⟨rfl, bel_alloc _ _⟩

set_option maxHeartbeats 400000 in
theorem specGroup_no3 (s l c sh : Int) (A : Option Addr) (n cap : Nat) (w : World) (h1 : inB s 1 10 = true) (h2 : inB l 0 10 = true) (h3 : s < 3 * l + 1) :
    Calls Tryz.prog 133 #[(.agg #[.int .i64 s, .int .i64 l, .int .i64 c, .int .i64 sh, .slice A n cap])] w fun e w' => e = .returned (.bool false) ∧ Below w.heap.size w w' := by
  obtain ⟨b1, b2⟩ := inB_true.1 h1
  obtain ⟨b3, b4⟩ := inB_true.1 h2
  go_enter Tryz.func133, Tryz.ntmps133
  go_wp2_with (go_at_call 174; refine (l1In_any _ _ _ _).mono ?_; rintro e w' ⟨rfl, rfl⟩)
  go_ret
  exact ⟨rfl, bel_alloc _ _⟩

set_option maxHeartbeats 400000 in
theorem specGroup_no4 (s l c sh : Int) (A : Option Addr) (n cap : Nat) (w : World) (h1 : inB s 1 10 = true) (h2 : inB l 0 10 = true) (h3 : ¬ s < 3 * l + 1) (h4 : inB c 1 6 = false) :
    Calls Tryz.prog 133 #[(.agg #[.int .i64 s, .int .i64 l, .int .i64 c, .int .i64 sh, .slice A n cap])] w fun e w' => e = .returned (.bool false) ∧ Below w.heap.size w w' := by
  obtain ⟨b1, b2⟩ := inB_true.1 h1
  obtain ⟨b3, b4⟩ := inB_true.1 h2
  go_enter Tryz.func133, Tryz.ntmps133
  go_wp2_with (go_at_call 174; refine (l1In_any _ _ _ _).mono ?_; rintro e w' ⟨rfl, rfl⟩)
  go_ret
  exact ⟨rfl, bel_alloc _ _⟩

set_option maxHeartbeats 400000 in
theorem specGroup_no5 (s l c sh : Int) (A : Option Addr) (n cap : Nat) (w : World) (h1 : inB s 1 10 = true) (h2 : inB l 0 10 = true) (h3 : ¬ s < 3 * l + 1) (h4 : inB c 1 6 = true) (h5 : inB sh 1 4 = false) :
    Calls Tryz.prog 133 #[(.agg #[.int .i64 s, .int .i64 l, .int .i64 c, .int .i64 sh, .slice A n cap])] w fun e w' => e = .returned (.bool false) ∧ Below w.heap.size w w' := by
  obtain ⟨b1, b2⟩ := inB_true.1 h1
  obtain ⟨b3, b4⟩ := inB_true.1 h2
  obtain ⟨b5, b6⟩ := inB_true.1 h4
  go_enter Tryz.func133, Tryz.ntmps133
  go_wp2_with (go_at_call 174; refine (l1In_any _ _ _ _).mono ?_; rintro e w' ⟨rfl, rfl⟩)
  go_ret
  exact ⟨rfl, bel_alloc _ _⟩

set_option maxHeartbeats 400000 in
theorem specGroup_no6 (s l c sh : Int) (A : Option Addr) (n cap : Nat) (w : World) (h1 : inB s 1 10 = true) (h2 : inB l 0 10 = true) (h3 : ¬ s < 3 * l + 1) (h4 : inB c 1 6 = true) (h5 : inB sh 1 4 = true) (h6 : (n : Int) ≠ s + c) (_hm : n ≤ maxLen) :
    Calls Tryz.prog 133 #[(.agg #[.int .i64 s, .int .i64 l, .int .i64 c, .int .i64 sh, .slice A n cap])] w fun e w' => e = .returned (.bool false) ∧ Below w.heap.size w w' := by
  obtain ⟨b1, b2⟩ := inB_true.1 h1
  obtain ⟨b3, b4⟩ := inB_true.1 h2
  obtain ⟨b5, b6⟩ := inB_true.1 h4
  have hne : ((n : Int) != s + c) = true := by rw [bne_iff_ne]; exact h6
  unfold maxLen at _hm
  go_enter Tryz.func133, Tryz.ntmps133
  go_wp2_with (go_at_call 174; refine (l1In_any _ _ _ _).mono ?_; rintro e w' ⟨rfl, rfl⟩)
  go_ret
  exact ⟨rfl, bel_alloc _ _⟩

set_option maxHeartbeats 1000000 in
theorem specGroup_yes (s l c sh : Int) (A : Option Addr) (n cap : Nat) (zs : List Int) (w : World) (h1 : inB s 1 10 = true) (h2 : inB l 0 10 = true) (h3 : ¬ s < 3 * l + 1) (h4 : inB c 1 6 = true) (h5 : inB sh 1 4 = true) (h6 : (n : Int) = s + c) (hr : Row w w.heap.size A n zs) :
    Calls Tryz.prog 133 #[(.agg #[.int .i64 s, .int .i64 l, .int .i64 c, .int .i64 sh, .slice A n cap])] w fun e w' => e = .returned (.bool (keysB zs)) ∧ Below w.heap.size w w' := by
  obtain ⟨b1, b2⟩ := inB_true.1 h1
  obtain ⟨b3, b4⟩ := inB_true.1 h2
  obtain ⟨b5, b6⟩ := inB_true.1 h4
  have hne : ((n : Int) != s + c) = false := by simp [h6]
  have hn0 : 0 < n := by omega
  have hn16 : n ≤ 16 := by omega
  obtain ⟨hzl, hr⟩ := hr
  obtain ⟨b, o, rfl, hbB, hcell⟩ := hr hn0
  have H6 := Lib.hid h6
  clear h6 hr
  have HZ := Lib.hid hzl
  clear hzl
  have HC := Lib.hid hcell
  clear hcell
  go_enter Tryz.func133, Tryz.ntmps133
  go_wp2_with (go_at_call 174; refine (l1In_any _ _ _ _).mono ?_; rintro e w' ⟨rfl, rfl⟩)
  go_loop [3] (fun i => ∃ k : Nat, k ≤ n ∧ i = .int .i64 k ∧ Hid (∀ j, j < k → inB (nth zs j) 1 1000000 = true)) (fun i => n - (intOf i).toNat)
  case atStart => exact ⟨0, Nat.zero_le _, rfl, fun j hj => absurd hj (by omega)⟩
  case round =>
    obtain ⟨k, hk, rfl, hall⟩ := hrel
    by_cases hlt : k < n
    · have g := HC.out k hlt
      rcases hb : inB (nth zs k) 1 1000000 with _ | _
      · have HF : Hid (keysB zs = false) := keysB_false (by rw [HZ.out]; exact hlt) hb
        go_wp2_with (go_at_call 174; refine (l1In_any _ _ _ _).mono ?_; rintro e w' ⟨rfl, rfl⟩)
        go_ret
        exact ⟨by rw [HF.out]; rfl, bel_alloc _ _⟩
      · have HS : Hid (∀ j, j < k + 1 → inB (nth zs j) 1 1000000 = true) := all_succ (P := fun j => inB (nth zs j) 1 1000000) hall.out hb
        go_wp2_with (go_at_call 174; refine (l1In_any _ _ _ _).mono ?_; rintro e w' ⟨rfl, rfl⟩)
        go_round
        case rel => exact ⟨k + 1, by omega, by go_num, HS⟩
        case measure => simp [intOf]; omega
    · have HT : Hid (keysB zs = true) := keysB_true fun j hj => hall.out j (by have := HZ.out; omega)
      go_wp2
      go_ret
      exact ⟨by rw [HT.out]; rfl, bel_alloc _ _⟩

/-- The model's own rule for Liars says the same. -/
theorem liars_iff {s l : Int} (h1 : 1 ≤ s) (h2 : s ≤ 10) : inB l 0 ((s - 1) / 3) = (inB l 0 10 && !decide (s < 3 * l + 1)) := by
  rw [Bool.eq_iff_iff]
  simp only [inB, Bool.and_eq_true, decide_eq_true_eq, Bool.not_eq_true', decide_eq_false_iff_not]
  omega

theorem specGroup_any (s l c sh : Int) (A : Option Addr) (n cap : Nat) (zs : List Int) (w : World) (hm : n ≤ maxLen) (hr : Row w w.heap.size A n zs) :
    Calls Tryz.prog 133 #[(.agg #[.int .i64 s, .int .i64 l, .int .i64 c, .int .i64 sh, .slice A n cap])] w fun e w' => e = .returned (.bool (okB s l c sh zs)) ∧ Below w.heap.size w w' := by
  have hl := hr.1
  rcases h1 : inB s 1 10 with _ | _
  · rw [show okB s l c sh zs = false by simp [okB, h1]]
    exact specGroup_no1 s l c sh A n cap w h1
  have hs := inB_true.1 h1
  have e := liars_iff (l := l) hs.1 hs.2
  rcases h2 : inB l 0 10 with _ | _
  · rw [show okB s l c sh zs = false by simp [okB, e, h2]]
    exact specGroup_no2 s l c sh A n cap w h1 h2
  by_cases h3 : s < 3 * l + 1
  · rw [show okB s l c sh zs = false by simp [okB, e, h3]]
    exact specGroup_no3 s l c sh A n cap w h1 h2 h3
  rcases h4 : inB c 1 6 with _ | _
  · rw [show okB s l c sh zs = false by simp [okB, h4]]
    exact specGroup_no4 s l c sh A n cap w h1 h2 h3 h4
  rcases h5 : inB sh 1 4 with _ | _
  · rw [show okB s l c sh zs = false by simp [okB, h5]]
    exact specGroup_no5 s l c sh A n cap w h1 h2 h3 h4 h5
  by_cases h6 : (n : Int) = s + c
  · rw [show okB s l c sh zs = keysB zs by simp only [okB, e, h1, h2, h3, h4, h5, hl, h6]; simp]
    exact specGroup_yes s l c sh A n cap zs w h1 h2 h3 h4 h5 h6 hr
  · rw [show okB s l c sh zs = false by simp only [okB, hl, h6]; simp]
    exact specGroup_no6 s l c sh A n cap w h1 h2 h3 h4 h5 h6 hm

end Go.Proofs.YtjdepjpjjgkmbaaGreat

/- What QuorumOf, IsServer and IsClient answer, of the program and of its model: contracts of each of them. -/
namespace Go.Proofs.YtjdepjpjjgkmbaaGreat
open Go.RowKit

set_option maxHeartbeats 400000 in
theorem quorum_any (s l c sh : Int) (A : Option Addr) (n cap : Nat) (zs : List Int) (w : World) (hm : n ≤ maxLen) (hr : Row w w.heap.size A n zs) :
    Calls Tryz.prog 243 #[.agg #[.int .i64 s, .int .i64 l, .int .i64 c, .int .i64 sh, .slice A n cap]] w fun e w' => e = .returned (.int .i64 (quoN s l c sh zs)) ∧ Below w.heap.size w w' := by
  have HR := Lib.hid hr
  have HM := Lib.hid hm
  clear hr hm
  rcases hok : okB s l c sh zs with _ | _
  · have HQ : Hid (quoN s l c sh zs = -1) := by show quoN s l c sh zs = -1; simp [quoN, hok]
    go_enter Tryz.func243, Tryz.ntmps243
    have hb0 := bel_alloc w (.cells #[.int .i64 s, .int .i64 l, .int .i64 c, .int .i64 sh, .slice A n cap] 26)
    go_wp2_with fail
    generalize (w.alloc _ : World) = w0 at hb0 ⊢
    refine (groupOk_any s l c sh A n cap zs w0 HM.out ((HR.out.below hb0 (Nat.le_refl _)).more hb0.size)).mono ?_
    rintro e w1 ⟨rfl, hb1⟩
    go_wp2
    go_ret
    exact ⟨by rw [HQ.out]; rfl, bel_trans hb0 hb1⟩
  · have HQ : Hid (quoN s l c sh zs = (s + l) / 2 + 1) := by show quoN s l c sh zs = _; simp [quoN, hok]
    obtain ⟨b1, b2, b3, b4, b5, b6⟩ := okB_parts hok
    go_enter Tryz.func243, Tryz.ntmps243
    have D := Box.new w 26 #[.int .i64 s, .int .i64 l, .int .i64 c, .int .i64 sh, .slice A n cap]
    have hb0 := bel_alloc w (.cells #[.int .i64 s, .int .i64 l, .int .i64 c, .int .i64 sh, .slice A n cap] 26)
    go_wp2_with fail
    generalize (w.alloc _ : World) = w0 at D hb0 ⊢
    refine (groupOk_any s l c sh A n cap zs w0 HM.out ((HR.out.below hb0 (Nat.le_refl _)).more hb0.size)).mono ?_
    rintro e w1 ⟨rfl, hb1⟩
    obtain ⟨a0, a1, a2, a3, a4⟩ := (D.later hb1 D.lt).five
    go_wp2
    go_ret
    exact ⟨by rw [HQ.out]; rfl, bel_trans hb0 hb1⟩

set_option maxHeartbeats 400000 in
theorem server_any (s l c sh : Int) (A : Option Addr) (n cap : Nat) (zs : List Int) (x : Int) (w : World) (hm : n ≤ maxLen) (hr : Row w w.heap.size A n zs) :
    Calls Tryz.prog 118 #[.agg #[.int .i64 s, .int .i64 l, .int .i64 c, .int .i64 sh, .slice A n cap], .int .i64 x] w fun e w' => e = .returned (.bool (srvB s l c sh zs x)) ∧ Below w.heap.size w w' := by
  have HR := Lib.hid hr
  have HM := Lib.hid hm
  clear hr hm
  rcases hok : okB s l c sh zs with _ | _
  · have HQ : Hid (srvB s l c sh zs x = false) := by show srvB s l c sh zs x = _; simp [srvB, hok]
    go_enter Tryz.func118, Tryz.ntmps118
    have hb0 := bel_alloc w (.cells #[.int .i64 s, .int .i64 l, .int .i64 c, .int .i64 sh, .slice A n cap] 26)
    go_wp2_with fail
    generalize (w.alloc _ : World) = w0 at hb0 ⊢
    refine (groupOk_any s l c sh A n cap zs w0 HM.out ((HR.out.below hb0 (Nat.le_refl _)).more hb0.size)).mono ?_
    rintro e w1 ⟨rfl, hb1⟩
    go_wp2
    go_ret
    exact ⟨by rw [HQ.out]; rfl, bel_trans hb0 hb1⟩
  · have HQ : Hid (srvB s l c sh zs x = inB x 0 (s - 1)) := by show srvB s l c sh zs x = _; simp [srvB, hok]
    obtain ⟨b1, b2, b3, b4, b5, b6⟩ := okB_parts hok
    go_enter Tryz.func118, Tryz.ntmps118
    have D := Box.new w 26 #[.int .i64 s, .int .i64 l, .int .i64 c, .int .i64 sh, .slice A n cap]
    have hb0 := bel_alloc w (.cells #[.int .i64 s, .int .i64 l, .int .i64 c, .int .i64 sh, .slice A n cap] 26)
    go_wp2_with fail
    generalize (w.alloc _ : World) = w0 at D hb0 ⊢
    refine (groupOk_any s l c sh A n cap zs w0 HM.out ((HR.out.below hb0 (Nat.le_refl _)).more hb0.size)).mono ?_
    rintro e w1 ⟨rfl, hb1⟩
    obtain ⟨a0, a1, a2, a3, a4⟩ := (D.later hb1 D.lt).five
    go_wp2_with (go_at_call 143; refine (within_any _ _ _ _).mono ?_; rintro e w' ⟨rfl, rfl⟩)
    go_ret
    exact ⟨by rw [HQ.out]; rfl, bel_trans hb0 hb1⟩

set_option maxHeartbeats 400000 in
theorem client_any (s l c sh : Int) (A : Option Addr) (n cap : Nat) (zs : List Int) (x : Int) (w : World) (hm : n ≤ maxLen) (hr : Row w w.heap.size A n zs) :
    Calls Tryz.prog 224 #[.agg #[.int .i64 s, .int .i64 l, .int .i64 c, .int .i64 sh, .slice A n cap], .int .i64 x] w fun e w' => e = .returned (.bool (cliB s l c sh zs x)) ∧ Below w.heap.size w w' := by
  have HR := Lib.hid hr
  have HM := Lib.hid hm
  clear hr hm
  rcases hok : okB s l c sh zs with _ | _
  · have HQ : Hid (cliB s l c sh zs x = false) := by show cliB s l c sh zs x = _; simp [cliB, hok]
    go_enter Tryz.func224, Tryz.ntmps224
    have D := Box.new w 26 #[.int .i64 s, .int .i64 l, .int .i64 c, .int .i64 sh, .slice A n cap]
    have hb0 := bel_alloc w (.cells #[.int .i64 s, .int .i64 l, .int .i64 c, .int .i64 sh, .slice A n cap] 26)
    go_wp2_with fail
    generalize (w.alloc _ : World) = w0 at D hb0 ⊢
    have hr0 := (HR.out.below hb0 (Nat.le_refl _)).more hb0.size
    obtain ⟨a0, a1, a2, a3, a4⟩ := fiveAfter D
    refine wp_region_after (by kernel_rfl) (by kernel_rfl) ?_
    repeat (first | go_big_quiet_step (exact after_of (groupOk_any s l c sh A n cap zs _ HM.out (rowAfter hr0 _))) | quiet_step (exact after_of (groupOk_any s l c sh A n cap zs _ HM.out (rowAfter hr0 _))))
    refine wpQuiet_nil ?_
    intro p
    go_wp2
    go_ret
    exact ⟨by rw [HQ.out]; rfl, bel_trans hb0 p.bel⟩
  · have HQ : Hid (cliB s l c sh zs x = inB x s (s + c - 1)) := by show cliB s l c sh zs x = _; simp [cliB, hok]
    obtain ⟨b1, b2, b3, b4, b5, b6⟩ := okB_parts hok
    have hwr : IntKind.i64.wrap (s + c - 1) = s + c - 1 := IntWalk.i64_in _ (by omega)
    go_enter Tryz.func224, Tryz.ntmps224
    have D := Box.new w 26 #[.int .i64 s, .int .i64 l, .int .i64 c, .int .i64 sh, .slice A n cap]
    have hb0 := bel_alloc w (.cells #[.int .i64 s, .int .i64 l, .int .i64 c, .int .i64 sh, .slice A n cap] 26)
    go_wp2_with fail
    generalize (w.alloc _ : World) = w0 at D hb0 ⊢
    have hr0 := (HR.out.below hb0 (Nat.le_refl _)).more hb0.size
    obtain ⟨a0, a1, a2, a3, a4⟩ := D.five
    first | (go_region_held3 (fun w' => w'.cell? ⟨w.heap.size, 0, none⟩ = some (.int .i64 s) ∧ w'.cell? ⟨w.heap.size, 1, none⟩ = some (.int .i64 l) ∧ w'.cell? ⟨w.heap.size, 2, none⟩ = some (.int .i64 c) ∧ w'.cell? ⟨w.heap.size, 3, none⟩ = some (.int .i64 sh) ∧ w'.cell? ⟨w.heap.size, 4, none⟩ = some (.slice A n cap)) (first | exact K2 | exact K1 | go_keep)
      (first
        | (go_at_call 175; refine (groupOk_any s l c sh A n cap zs _ HM.out ?_).mono ?_; exact hr0; rintro e w1 ⟨rfl, hb1⟩; have D1 := D.later (bel_drew' hb1) D.lt; have K1 := D1.five)
        | (go_at_call 235; refine (nodes_any s l c sh A n cap _ b1 b2 b3 b4).mono ?_; rintro e w2 ⟨rfl, hb2⟩; have K2 := (D1.later hb2 D1.lt).five)
        | (go_at_call 143; refine (within_any _ _ _ _).mono ?_; rintro e w' ⟨rfl, rfl⟩))) | fail
    all_goals go_wp2
    all_goals go_ret
    all_goals exact ⟨by rw [HQ.out]; rfl, bel_trans hb0 (bel_trans (bel_drew' hb1) hb2)⟩

set_option maxHeartbeats 400000 in
theorem specQuorum_any (s l c sh : Int) (A : Option Addr) (n cap : Nat) (zs : List Int) (w : World) (hm : n ≤ maxLen) (hr : Row w w.heap.size A n zs) :
    Calls Tryz.prog 183 #[.agg #[.int .i64 s, .int .i64 l, .int .i64 c, .int .i64 sh, .slice A n cap]] w fun e w' => e = .returned (.int .i64 (quoN s l c sh zs)) ∧ Below w.heap.size w w' := by
  have HR := Lib.hid hr
  have HM := Lib.hid hm
  clear hr hm
  rcases hok : okB s l c sh zs with _ | _
  · have HQ : Hid (quoN s l c sh zs = -1) := by show quoN s l c sh zs = -1; simp [quoN, hok]
    go_enter Tryz.func183, Tryz.ntmps183
    have hb0 := bel_alloc w (.cells #[.int .i64 s, .int .i64 l, .int .i64 c, .int .i64 sh, .slice A n cap] 26)
    go_wp2_with fail
    generalize (w.alloc _ : World) = w0 at hb0 ⊢
    refine (specGroup_any s l c sh A n cap zs w0 HM.out ((HR.out.below hb0 (Nat.le_refl _)).more hb0.size)).mono ?_
    rintro e w1 ⟨rfl, hb1⟩
    go_wp2
    go_ret
    exact ⟨by rw [HQ.out]; rfl, bel_trans hb0 hb1⟩
  · have HQ : Hid (quoN s l c sh zs = (s + l) / 2 + 1) := by show quoN s l c sh zs = _; simp [quoN, hok]
    obtain ⟨b1, b2, b3, b4, b5, b6⟩ := okB_parts hok
    go_enter Tryz.func183, Tryz.ntmps183
    have D := Box.new w 26 #[.int .i64 s, .int .i64 l, .int .i64 c, .int .i64 sh, .slice A n cap]
    have hb0 := bel_alloc w (.cells #[.int .i64 s, .int .i64 l, .int .i64 c, .int .i64 sh, .slice A n cap] 26)
    go_wp2_with fail
    generalize (w.alloc _ : World) = w0 at D hb0 ⊢
    refine (specGroup_any s l c sh A n cap zs w0 HM.out ((HR.out.below hb0 (Nat.le_refl _)).more hb0.size)).mono ?_
    rintro e w1 ⟨rfl, hb1⟩
    obtain ⟨a0, a1, a2, a3, a4⟩ := (D.later hb1 D.lt).five
    go_wp2
    go_ret
    exact ⟨by rw [HQ.out]; rfl, bel_trans hb0 hb1⟩

set_option maxHeartbeats 400000 in
theorem specServer_any (s l c sh : Int) (A : Option Addr) (n cap : Nat) (zs : List Int) (x : Int) (w : World) (hm : n ≤ maxLen) (hr : Row w w.heap.size A n zs) :
    Calls Tryz.prog 117 #[.agg #[.int .i64 s, .int .i64 l, .int .i64 c, .int .i64 sh, .slice A n cap], .int .i64 x] w fun e w' => e = .returned (.bool (srvB s l c sh zs x)) ∧ Below w.heap.size w w' := by
  have HR := Lib.hid hr
  have HM := Lib.hid hm
  clear hr hm
  rcases hok : okB s l c sh zs with _ | _
  · have HQ : Hid (srvB s l c sh zs x = false) := by show srvB s l c sh zs x = _; simp [srvB, hok]
    go_enter Tryz.func117, Tryz.ntmps117
    have hb0 := bel_alloc w (.cells #[.int .i64 s, .int .i64 l, .int .i64 c, .int .i64 sh, .slice A n cap] 26)
    go_wp2_with fail
    generalize (w.alloc _ : World) = w0 at hb0 ⊢
    refine (specGroup_any s l c sh A n cap zs w0 HM.out ((HR.out.below hb0 (Nat.le_refl _)).more hb0.size)).mono ?_
    rintro e w1 ⟨rfl, hb1⟩
    go_wp2
    go_ret
    exact ⟨by rw [HQ.out]; rfl, bel_trans hb0 hb1⟩
  · have HQ : Hid (srvB s l c sh zs x = inB x 0 (s - 1)) := by show srvB s l c sh zs x = _; simp [srvB, hok]
    obtain ⟨b1, b2, b3, b4, b5, b6⟩ := okB_parts hok
    go_enter Tryz.func117, Tryz.ntmps117
    have D := Box.new w 26 #[.int .i64 s, .int .i64 l, .int .i64 c, .int .i64 sh, .slice A n cap]
    have hb0 := bel_alloc w (.cells #[.int .i64 s, .int .i64 l, .int .i64 c, .int .i64 sh, .slice A n cap] 26)
    go_wp2_with fail
    generalize (w.alloc _ : World) = w0 at D hb0 ⊢
    refine (specGroup_any s l c sh A n cap zs w0 HM.out ((HR.out.below hb0 (Nat.le_refl _)).more hb0.size)).mono ?_
    rintro e w1 ⟨rfl, hb1⟩
    obtain ⟨a0, a1, a2, a3, a4⟩ := (D.later hb1 D.lt).five
    go_wp2_with (go_at_call 174; refine (l1In_any _ _ _ _).mono ?_; rintro e w' ⟨rfl, rfl⟩)
    go_ret
    exact ⟨by rw [HQ.out]; rfl, bel_trans hb0 hb1⟩

set_option maxHeartbeats 400000 in
theorem specClient_any (s l c sh : Int) (A : Option Addr) (n cap : Nat) (zs : List Int) (x : Int) (w : World) (hm : n ≤ maxLen) (hr : Row w w.heap.size A n zs) :
    Calls Tryz.prog 194 #[.agg #[.int .i64 s, .int .i64 l, .int .i64 c, .int .i64 sh, .slice A n cap], .int .i64 x] w fun e w' => e = .returned (.bool (cliB s l c sh zs x)) ∧ Below w.heap.size w w' := by
  have HR := Lib.hid hr
  have HM := Lib.hid hm
  clear hr hm
  rcases hok : okB s l c sh zs with _ | _
  · have HQ : Hid (cliB s l c sh zs x = false) := by show cliB s l c sh zs x = _; simp [cliB, hok]
    go_enter Tryz.func194, Tryz.ntmps194
    have hb0 := bel_alloc w (.cells #[.int .i64 s, .int .i64 l, .int .i64 c, .int .i64 sh, .slice A n cap] 26)
    go_wp2_with fail
    generalize (w.alloc _ : World) = w0 at hb0 ⊢
    refine (specGroup_any s l c sh A n cap zs w0 HM.out ((HR.out.below hb0 (Nat.le_refl _)).more hb0.size)).mono ?_
    rintro e w1 ⟨rfl, hb1⟩
    go_wp2
    go_ret
    exact ⟨by rw [HQ.out]; rfl, bel_trans hb0 hb1⟩
  · have HQ : Hid (cliB s l c sh zs x = inB x s (s + c - 1)) := by show cliB s l c sh zs x = _; simp [cliB, hok]
    obtain ⟨b1, b2, b3, b4, b5, b6⟩ := okB_parts hok
    go_enter Tryz.func194, Tryz.ntmps194
    have D := Box.new w 26 #[.int .i64 s, .int .i64 l, .int .i64 c, .int .i64 sh, .slice A n cap]
    have hb0 := bel_alloc w (.cells #[.int .i64 s, .int .i64 l, .int .i64 c, .int .i64 sh, .slice A n cap] 26)
    go_wp2_with fail
    generalize (w.alloc _ : World) = w0 at D hb0 ⊢
    refine (specGroup_any s l c sh A n cap zs w0 HM.out ((HR.out.below hb0 (Nat.le_refl _)).more hb0.size)).mono ?_
    rintro e w1 ⟨rfl, hb1⟩
    obtain ⟨a0, a1, a2, a3, a4⟩ := (D.later hb1 D.lt).five
    go_wp2_with (go_at_call 174; refine (l1In_any _ _ _ _).mono ?_; rintro e w' ⟨rfl, rfl⟩)
    go_ret
    exact ⟨by rw [HQ.out]; rfl, bel_trans hb0 hb1⟩

end Go.Proofs.YtjdepjpjjgkmbaaGreat

/- Whether a group has such a shelf, a stamp that is zero, the claim to be ready: contracts of the program's and the model's functions of it. -/
namespace Go.Proofs.YtjdepjpjjgkmbaaGreat
open Go.RowKit

theorem groupB_is {s l c sh : Int} {zs : List Int} {b : Bool} (h : okB s l c sh zs = b) (A : Option Addr) (n cap : Nat) (w : World) (hm : n ≤ maxLen) (hr : Row w w.heap.size A n zs) :
    Calls Tryz.prog 175 #[.agg #[.int .i64 s, .int .i64 l, .int .i64 c, .int .i64 sh, .slice A n cap]] w fun e w' => e = .returned (.bool b) ∧ Below w.heap.size w w' := h ▸ groupOk_any s l c sh A n cap zs w hm hr
theorem specGroupB_is {s l c sh : Int} {zs : List Int} {b : Bool} (h : okB s l c sh zs = b) (A : Option Addr) (n cap : Nat) (w : World) (hm : n ≤ maxLen) (hr : Row w w.heap.size A n zs) :
    Calls Tryz.prog 133 #[.agg #[.int .i64 s, .int .i64 l, .int .i64 c, .int .i64 sh, .slice A n cap]] w fun e w' => e = .returned (.bool b) ∧ Below w.heap.size w w' := h ▸ specGroup_any s l c sh A n cap zs w hm hr

/-- Is there such a shelf? -/
def shfB (s l c sh : Int) (zs : List Int) (x : Int) : Bool := okB s l c sh zs && inB x 0 (sh - 1)
theorem okB_sh {s l c sh : Int} {zs : List Int} (h : okB s l c sh zs = true) : 1 ≤ sh ∧ sh ≤ 4 := by
  simp only [okB, Bool.and_eq_true] at h
  exact inB_true.1 h.1.1.1.2
/-- Nothing is written yet. -/
def nilB (ct cq v : Int) : Bool := decide (ct = 0 ∧ cq = 0) && decide (v = 0)
set_option maxHeartbeats 1000000 in
theorem isShelf_is (s l c sh : Int) (A : Option Addr) (n cap : Nat) (zs : List Int) (x : Int) (w : World) (hm : n ≤ maxLen) (hr : Row w w.heap.size A n zs) :
    Calls Tryz.prog 144 #[.agg #[.int .i64 s, .int .i64 l, .int .i64 c, .int .i64 sh, .slice A n cap], .int .i64 x] w fun e w' => e = .returned (.bool (shfB s l c sh zs x)) ∧ Below w.heap.size w w' := by
  have E0 := bel_alloc w (.cells #[.int .i64 s, .int .i64 l, .int .i64 c, .int .i64 sh, .slice A n cap] 26)
  have DG := Box.new w 26 #[.int .i64 s, .int .i64 l, .int .i64 c, .int .i64 sh, .slice A n cap]
  have HR := Lib.hid ((hr.below E0 (Nat.le_refl _)).more E0.size)
  have HM := Lib.hid hm
  clear hr hm
  obtain ⟨d0, d1, d2, d3, d4⟩ := DG.five
  go_enter Tryz.func144, Tryz.ntmps144
  go_wp2_with fail
  generalize (w.alloc _ : World) = w1 at E0 DG HR d0 d1 d2 d3 d4 ⊢
  rcases hok : okB s l c sh zs with _ | _
  · have hs := Lib.hid (show shfB s l c sh zs x = false by simp [shfB, hok])
    have HO := Lib.hid hok
    clear hok
    refine (groupB_is HO.out A n cap w1 HM.out HR.out).mono ?_
    rintro e w2 ⟨rfl, hb2⟩
    have E2 := bel_trans E0 hb2
    go_wp2
    go_ret
    exact ⟨by rw [hs.out]; rfl, E2⟩
  · have hs := Lib.hid (show shfB s l c sh zs x = inB x 0 (sh - 1) by simp [shfB, hok])
    have hsh := okB_sh hok
    have HO := Lib.hid hok
    clear hok
    refine (groupB_is HO.out A n cap w1 HM.out HR.out).mono ?_
    rintro e w2 ⟨rfl, hb2⟩
    have E2 := bel_trans E0 hb2
    have DG2 := DG.later hb2 DG.lt
    clear d0 d1 d2 d3 d4 DG hb2
    obtain ⟨d0, d1, d2, d3, d4⟩ := DG2.five
    go_wp2_with (go_at_call 143; refine (within_any _ _ _ _).mono ?_; rintro e w' ⟨rfl, rfl⟩)
    go_ret
    exact ⟨by rw [hs.out]; rfl, E2⟩
theorem isShelfB_is {s l c sh : Int} {zs : List Int} {x : Int} {b : Bool} (h : shfB s l c sh zs x = b) (A : Option Addr) (n cap : Nat) (w : World) (hm : n ≤ maxLen) (hr : Row w w.heap.size A n zs) :
    Calls Tryz.prog 144 #[.agg #[.int .i64 s, .int .i64 l, .int .i64 c, .int .i64 sh, .slice A n cap], .int .i64 x] w fun e w' => e = .returned (.bool b) ∧ Below w.heap.size w w' := h ▸ isShelf_is s l c sh A n cap zs x w hm hr

theorem nil_cases (ct cq v : Int) : (ct = 0 ∧ cq = 0 ∧ v = 0 ∧ nilB ct cq v = true) ∨ (nilB ct cq v = false ∧ ((ct == 0) = false ∨ ((ct == 0) = true ∧ (cq == 0) = false) ∨ (ct = 0 ∧ cq = 0 ∧ (v == 0) = false))) := by
  unfold nilB
  by_cases h1 : ct = 0
  · by_cases h2 : cq = 0
    · by_cases h3 : v = 0
      · exact .inl ⟨h1, h2, h3, by simp [h1, h2, h3]⟩
      · exact .inr ⟨by simp [h3], .inr (.inr ⟨h1, h2, by simpa using h3⟩)⟩
    · exact .inr ⟨by simp [h2], .inr (.inl ⟨by simpa using h1, by simpa using h2⟩)⟩
  · exact .inr ⟨by simp [h1], .inl (by simpa using h1)⟩

theorem l4Zero_yes (w : World) : Calls Tryz.prog 161 #[.agg #[.int .i64 0, .int .i64 0]] w fun e w' => e = .returned (.bool true) ∧ Below w.heap.size w w' := by
  have hb := bel_alloc w (.cells #[.int .i64 0, .int .i64 0] 39)
  obtain ⟨d0, d1⟩ := (Box.new w 39 #[.int .i64 0, .int .i64 0]).two
  go_enter Tryz.func161, Tryz.ntmps161
  go_wp2
  go_ret
  exact ⟨rfl, hb⟩
theorem l4Zero_no (ct cq : Int) (h : (ct == 0) = false ∨ ((ct == 0) = true ∧ (cq == 0) = false)) (w : World) : Calls Tryz.prog 161 #[.agg #[.int .i64 ct, .int .i64 cq]] w fun e w' => e = .returned (.bool false) ∧ Below w.heap.size w w' := by
  have hb := bel_alloc w (.cells #[.int .i64 ct, .int .i64 cq] 39)
  obtain ⟨d0, d1⟩ := (Box.new w 39 #[.int .i64 ct, .int .i64 cq]).two
  rcases h with h1 | ⟨h1, h2⟩
  · go_enter Tryz.func161, Tryz.ntmps161
    go_wp2
    go_ret
    exact ⟨rfl, hb⟩
  · go_enter Tryz.func161, Tryz.ntmps161
    go_wp2
    go_ret
    exact ⟨rfl, hb⟩
theorem l4Ready_is (x ct cq v : Int) (w : World) : Calls Tryz.prog 137 #[.int .i64 x, .agg #[.int .i64 ct, .int .i64 cq], .int .i64 v] w fun e w' => e = .returned (.agg #[.int .i64 1, .int .i64 x, .int .i64 ct, .int .i64 cq, .int .i64 v]) ∧ Below w.heap.size w w' := by
  have E0 := bel_trans (bel_alloc w (.cells #[.int .i64 ct, .int .i64 cq] 39)) (bel_alloc _ (.cells #[.int .i64 0, .int .i64 0, .int .i64 0, .int .i64 0, .int .i64 0] 180))
  obtain ⟨d0, d1⟩ := ((Box.new w 39 #[.int .i64 ct, .int .i64 cq]).alloc (.cells #[.int .i64 0, .int .i64 0, .int .i64 0, .int .i64 0, .int .i64 0] 180)).two
  have D := Box.new (w.alloc (.cells #[.int .i64 ct, .int .i64 cq] 39)) 180 #[.int .i64 0, .int .i64 0, .int .i64 0, .int .i64 0, .int .i64 0]
  simp only [World.size_alloc] at D


  go_enter Tryz.func137, Tryz.ntmps137
  go_wp2
  exact bodyPost_ret (v := .agg #[.int .i64 1, .int .i64 x, .int .i64 ct, .int .i64 cq, .int .i64 v]) (by simp [results, Tryz.results137, go_sem]) rfl
    ⟨rfl, by first | exact bel_trans (bel_alloc _ _) (bel_alloc _ _) | exact ((((E0.setCell (by simp) _).setCell (by simp) _).setCell (by simp) _).setCell (by simp) _).setCell (by simp) _⟩

end Go.Proofs.YtjdepjpjjgkmbaaGreat

/- Words of chapter 5: what the functions of notes compute; no conditions. -/
namespace Go.Proofs.YtjdepjpjjgkmbaaGreat
open Go.RowKit

/-- A value that is right. -/
def valB (x : Int) : Bool := inB x 0 9999
end Go.Proofs.YtjdepjpjjgkmbaaGreat

/- What a walk over a note and a group keeps: both boxes, the keys, the lists; no conditions. -/
namespace Go.Proofs.YtjdepjpjjgkmbaaGreat
open Go.RowKit

/-- What a walk over a note and a group keeps: both boxes, and the keys. -/
structure NG (w wr : World) (tn tg : TypeId) (nc : Array Value) (gc : Array Value) (A : Option Addr) (n : Nat) (zs : List Int) (N G : Nat) : Prop where
  nb : Box wr N tn nc
  gb : Box wr G tg gc
  row : Row wr wr.heap.size A n zs
  bel : Below w.heap.size w wr
theorem NG.later {w wr w' : World} {tn tg : TypeId} {nc gc : Array Value} {A : Option Addr} {n : Nat} {zs : List Int} {N G : Nat} (h : NG w wr tn tg nc gc A n zs N G) (hb : Below wr.heap.size wr w') : NG w w' tn tg nc gc A n zs N G :=
  ⟨h.nb.later hb h.nb.lt, h.gb.later hb h.gb.lt, (h.row.below hb (Nat.le_refl _)).more hb.size, bel_trans h.bel hb⟩

theorem NG.start (w : World) (tn tg : TypeId) (nc gc : Array Value) (A : Option Addr) (n : Nat) (zs : List Int) (hr : Row w w.heap.size A n zs) :
    NG w ((w.alloc (.cells nc tn)).alloc (.cells gc tg)) tn tg nc gc A n zs w.heap.size (w.heap.size + 1) := by
  have E0 := bel_trans (bel_alloc w (.cells nc tn)) (bel_alloc _ (.cells gc tg))
  have G := Box.new (w.alloc (.cells nc tn)) tg gc
  simp only [World.size_alloc] at G
  exact ⟨(Box.new w _ _).alloc _, G, (hr.below E0 (Nat.le_refl _)).more E0.size, E0⟩

/-- The same, the group first, with the note's lists. -/
structure NGP (w wr : World) (tn tg : TypeId) (nc : Array Value) (gc : Array Value) (A : Option Addr) (n : Nat) (zs : List Int) (P : Option Addr) (p : Nat) (ps : List (Int × Int)) (Q : Option Addr) (q : Nat) (qs : List (Int × Int)) (G N : Nat) : Prop where
  nb : Box wr N tn nc
  gb : Box wr G tg gc
  row : Row wr wr.heap.size A n zs
  prs : Pairs wr wr.heap.size P p ps
  qrs : Pairs wr wr.heap.size Q q qs
  bel : Below w.heap.size w wr
theorem NGP.later {w wr w' : World} {tn tg : TypeId} {nc gc : Array Value} {A : Option Addr} {n : Nat} {zs : List Int} {P : Option Addr} {p : Nat} {ps : List (Int × Int)} {Q : Option Addr} {q : Nat} {qs : List (Int × Int)} {N G : Nat} (h : NGP w wr tn tg nc gc A n zs P p ps Q q qs N G) (hb : Below wr.heap.size wr w') : NGP w w' tn tg nc gc A n zs P p ps Q q qs N G :=
  ⟨h.nb.later hb h.nb.lt, h.gb.later hb h.gb.lt, (h.row.below hb (Nat.le_refl _)).more hb.size, h.prs.later hb, h.qrs.later hb, bel_trans h.bel hb⟩
theorem NGP.start (w : World) (tn tg : TypeId) (nc gc : Array Value) (A : Option Addr) (n : Nat) (zs : List Int) (P : Option Addr) (p : Nat) (ps : List (Int × Int)) (Q : Option Addr) (q : Nat) (qs : List (Int × Int)) (hr : Row w w.heap.size A n zs) (hp : Pairs w w.heap.size P p ps) (hq : Pairs w w.heap.size Q q qs) :
    NGP w ((w.alloc (.cells gc tg)).alloc (.cells nc tn)) tn tg nc gc A n zs P p ps Q q qs w.heap.size (w.heap.size + 1) := by
  have E0 := bel_trans (bel_alloc w (.cells gc tg)) (bel_alloc _ (.cells nc tn))
  have G := Box.new (w.alloc (.cells gc tg)) tn nc
  simp only [World.size_alloc] at G
  exact ⟨G, (Box.new w _ _).alloc _, (hr.below E0 (Nat.le_refl _)).more E0.size, hp.later E0, hq.later E0, E0⟩

end Go.Proofs.YtjdepjpjjgkmbaaGreat

/- A note's cells as one array, kept whole: a load of all of it, its single cells, its size; no conditions. -/
namespace Go.Proofs.YtjdepjpjjgkmbaaGreat
open Go.RowKit

/-- A load of a whole variable whose block is known. -/
theorem wpList_load_box {P : Program} {ops : Array Oper} {rest : List Oper} {o : Oper} {a : Act} {w : World} {Q : Exit → Act → World → Prop} (ty : TypeId) (x : Operand) (ho : o.op = .load ty x)
    (g : Nat) (hx : a.eval x = .pointer (some ⟨g, 0, none⟩)) (t : TypeId) (cs : Array Value) (hg : Box w g t cs) (d : TypeDesc)
    (hu : P.underlying ty = some d) (hd : (match d with | .struct _ | .array _ _ => true | _ => false) = true) (hi : (P.info? ty).map (·.size) = some cs.size)
    (hw : Region.wanted o (yielded ops a.tmps) = true) (h : wpList P ops Q rest (a.put o.dst (.agg cs)) w) : wpList P ops Q (o :: rest) a w := by
  unfold wpList
  rw [if_pos hw]
  exact .inl (wp_load_row ty x ho g hx t cs (0, 0) d hg hu hd hi h)

section
variable {N : Array Value} {k1 k2 k3 k4 k5 t1 t2 v1 o1 o2 v2 : Int} {P : Option Addr} {p pc : Nat} {Q : Option Addr} {q qc : Nat} {l1 l2 v3 : Int}
end

end Go.Proofs.YtjdepjpjjgkmbaaGreat

/- A note's cells as one array: its shape, its parts, a variable written whole; no conditions. -/
namespace Go.Proofs.YtjdepjpjjgkmbaaGreat
open Go.RowKit

theorem size_setRow (w : World) (g : Nat) (cs : Array Value) : (w.setRow g cs).heap.size = w.heap.size := by simp [World.setRow]
theorem Box.setRow {w : World} {g : Nat} {t : TypeId} {old : Array Value} (h : Box w g t old) (cs : Array Value) : Box (w.setRow g cs) g t cs := by
  unfold Box at h ⊢
  simp [World.setRow, Array.getElem?_modify, h]
theorem heap_setRow (w : World) (g : Nat) (cs : Array Value) (k : Nat) (h : k ≠ g) : (w.setRow g cs).heap[k]? = w.heap[k]? := by
  simp [World.setRow, Array.getElem?_modify, show ¬ g = k from fun e => h e.symm]
/-- A note's cells: fourteen numbers, and these two lists. -/
def Shape (N : Array Value) (c m : Value) : Prop := ∃ k1 k2 k3 k4 k5 t1 t2 v1 o1 o2 v2 l1 l2 v3 : Int, N = #[.int .i64 k1, .int .i64 k2, .int .i64 k3, .int .i64 k4, .int .i64 k5, .int .i64 t1, .int .i64 t2, .int .i64 v1, .int .i64 o1, .int .i64 o2, .int .i64 v2, c, m, .int .i64 l1, .int .i64 l2, .int .i64 v3]
/-- A place in a note that is a number. -/
def isNum (i : Nat) : Prop := i = 0 ∨ i = 1 ∨ i = 2 ∨ i = 3 ∨ i = 4 ∨ i = 5 ∨ i = 6 ∨ i = 7 ∨ i = 8 ∨ i = 9 ∨ i = 10 ∨ i = 13 ∨ i = 14 ∨ i = 15
theorem Shape.size {N : Array Value} {c m : Value} (h : Shape N c m) : N.size = 16 := by
  obtain ⟨k1, k2, k3, k4, k5, t1, t2, v1, o1, o2, v2, l1, l2, v3, rfl⟩ := h; rfl
theorem Shape.put {N : Array Value} {c m : Value} (h : Shape N c m) {i : Nat} (hi : isNum i) (z : Int) : Shape (N.setIfInBounds i (.int .i64 z)) c m := by
  obtain ⟨k1, k2, k3, k4, k5, t1, t2, v1, o1, o2, v2, l1, l2, v3, rfl⟩ := h
  rcases hi with rfl | rfl | rfl | rfl | rfl | rfl | rfl | rfl | rfl | rfl | rfl | rfl | rfl | rfl
  · exact ⟨z, k2, k3, k4, k5, t1, t2, v1, o1, o2, v2, l1, l2, v3, rfl⟩
  · exact ⟨k1, z, k3, k4, k5, t1, t2, v1, o1, o2, v2, l1, l2, v3, rfl⟩
  · exact ⟨k1, k2, z, k4, k5, t1, t2, v1, o1, o2, v2, l1, l2, v3, rfl⟩
  · exact ⟨k1, k2, k3, z, k5, t1, t2, v1, o1, o2, v2, l1, l2, v3, rfl⟩
  · exact ⟨k1, k2, k3, k4, z, t1, t2, v1, o1, o2, v2, l1, l2, v3, rfl⟩
  · exact ⟨k1, k2, k3, k4, k5, z, t2, v1, o1, o2, v2, l1, l2, v3, rfl⟩
  · exact ⟨k1, k2, k3, k4, k5, t1, z, v1, o1, o2, v2, l1, l2, v3, rfl⟩
  · exact ⟨k1, k2, k3, k4, k5, t1, t2, z, o1, o2, v2, l1, l2, v3, rfl⟩
  · exact ⟨k1, k2, k3, k4, k5, t1, t2, v1, z, o2, v2, l1, l2, v3, rfl⟩
  · exact ⟨k1, k2, k3, k4, k5, t1, t2, v1, o1, z, v2, l1, l2, v3, rfl⟩
  · exact ⟨k1, k2, k3, k4, k5, t1, t2, v1, o1, o2, z, l1, l2, v3, rfl⟩
  · exact ⟨k1, k2, k3, k4, k5, t1, t2, v1, o1, o2, v2, z, l2, v3, rfl⟩
  · exact ⟨k1, k2, k3, k4, k5, t1, t2, v1, o1, o2, v2, l1, z, v3, rfl⟩
  · exact ⟨k1, k2, k3, k4, k5, t1, t2, v1, o1, o2, v2, l1, l2, z, rfl⟩
theorem Shape.cert {N : Array Value} {c m : Value} (h : Shape N c m) (v : Value) : Shape (N.setIfInBounds 11 v) v m := by
  obtain ⟨k1, k2, k3, k4, k5, t1, t2, v1, o1, o2, v2, l1, l2, v3, rfl⟩ := h
  exact ⟨k1, k2, k3, k4, k5, t1, t2, v1, o1, o2, v2, l1, l2, v3, rfl⟩
theorem Shape.more {N : Array Value} {c m : Value} (h : Shape N c m) (v : Value) : Shape (N.setIfInBounds 12 v) c v := by
  obtain ⟨k1, k2, k3, k4, k5, t1, t2, v1, o1, o2, v2, l1, l2, v3, rfl⟩ := h
  exact ⟨k1, k2, k3, k4, k5, t1, t2, v1, o1, o2, v2, l1, l2, v3, rfl⟩
theorem Shape.one {N : Array Value} {c m : Value} (h : Shape N c m) (hc : c.oneCell' = true) (hm : m.oneCell' = true) : N.all (·.oneCell') = true := by
  obtain ⟨k1, k2, k3, k4, k5, t1, t2, v1, o1, o2, v2, l1, l2, v3, rfl⟩ := h
  rw [Array.all_eq_true_iff_forall_mem]
  intro x hx
  simp only [List.mem_toArray, List.mem_cons, List.not_mem_nil, or_false] at hx
  rcases hx with rfl | rfl | rfl | rfl | rfl | rfl | rfl | rfl | rfl | rfl | rfl | rfl | rfl | rfl | rfl | rfl <;> first | rfl | exact hc | exact hm
end Go.Proofs.YtjdepjpjjgkmbaaGreat

/- Variables kept whole as boxes: loads of them in drawn regions, a step where one of two operations may come up, worlds in which only some blocks turned; no conditions. -/
namespace Go.Proofs.YtjdepjpjjgkmbaaGreat
open Go Go.RowKit

section
variable {P : Program} {ops : Array Oper} {Q : Exit → Act → World → Prop} {md : Region.Mode} {S : World → Prop} {z : Nat}

theorem run_load_box {o : Oper} {a : Act} {w : World} (ty : TypeId) (x : Operand) (ho : o.op = .load ty x) (g : Nat) (hx : a.eval x = .pointer (some ⟨g, 0, none⟩)) (t : TypeId) (cs : Array Value) (hg : Box w g t cs) (d : TypeDesc)
    (hu : P.underlying ty = some d) (hd : (match d with | .struct _ | .array _ _ => true | _ => false) = true) (hi : (P.info? ty).map (·.size) = some cs.size) :
    (execOp a.eval o).run P w = .ok (.value (.agg cs)) w := by
  unfold execOp
  simp only [ho, hx, Instr.loadAt, Instr.sureAddr, Sem.run_bind, Sem.run_pure, Result.andThen_ok, run_loadVar_row w g t ty cs (0, 0) d hg hu hd hi]

/-- A load of a whole variable yields its cells wherever its box stands. -/
theorem yields_box {o : Oper} {a : Act} (ty : TypeId) (x : Operand) (ho : o.op = .load ty x) (g : Nat) (hx : a.eval x = .pointer (some ⟨g, 0, none⟩)) (t : TypeId) (cs : Array Value) (hS : ∀ w, S w → Box w g t cs) (d : TypeDesc)
    (hu : P.underlying ty = some d) (hd : (match d with | .struct _ | .array _ _ => true | _ => false) = true) (hi : (P.info? ty).map (·.size) = some cs.size)
    (hw : Region.wanted o (yielded ops a.tmps) = true) : YieldsIf P ops S o (.agg cs) a :=
  .inl ⟨hw, fun w h => run_load_box ty x ho g hx t cs (hS w h) d hu hd hi⟩

/-- Take number i first, where S holds behind every operation: number z is none of the region's. -/
theorem wpAnyE_firstS {i : Nat} {oi : Oper} {v : Value} (hi : ops[i]? = some oi) (hsel : ∀ (j : Nat) (o : Oper) cs b, ops[j]? = some o → o.op ≠ .select cs b)
    (hQ : ∀ c a w, Q (.panic c) (a.put oi.dst v) w → Q (.panic c) a w) (hz : ops[z]? = none) :
    ∀ (fuel : Nat) (listed : Array Bool) (a : Act) (w : World),
      (∀ j oj, ops[j]? = some oj → j ≠ i → listed.getD j true = false → (∀ e ∈ oj.after, Region.binds md e = true → e.on ≠ i) → oi.apart ops oj = true) →
      i ∈ Region.ready md ops listed → YieldsIf P ops S oi v a → listed.getD z false = false → S w →
      wpAnyE P md ops Q S z fuel (listed.setIfInBounds i true) (a.put oi.dst v) w → wpAnyE P md ops Q S z (fuel + 1) listed a w := by
  have hiz : i ≠ z := fun e => by rw [e, hz] at hi; cases hi
  intro fuel
  induction fuel with
  | zero =>
    intro listed a w _ hr hy _ hS H
    refine ⟨fun h => (by rw [h] at hr; cases hr), fun j hj => ?_⟩
    by_cases hji : j = i
    · subst hji; exact hy.wpOp hi hS ⟨fun _ _ => hS, H⟩
    · have := ready_mono hj hji
      rw [H.1] at this
      cases this
  | succ fuel ih =>
    intro listed a w hfree hr hy hl hS H
    refine ⟨fun h => (by rw [h] at hr; cases hr), fun j hj => ?_⟩
    by_cases hji : j = i
    · subst hji; exact hy.wpOp hi hS ⟨fun _ _ => hS, H⟩
    · have h1 := H.2 j (ready_mono hj hji)
      obtain ⟨hjun, oj, hoj, hall⟩ := mem_ready.1 hj
      have hjz : j ≠ z := fun e => by rw [e, hz] at hoj; cases hoj
      have hun := (mem_ready.1 hr).1
      have hnot : ∀ e ∈ oj.after, Region.binds md e = true → e.on ≠ i := fun e he hb heq => by
        have h1 := hall e he hb
        rw [heq, getD_both hun] at h1
        cases h1
      have hzset : (listed.setIfInBounds i true).getD z false = false := by rw [getD_set_ne false hiz]; exact hl
      have h2 := wpOp_putIf hoj (hfree j oj hoj hji hjun hnot) (fun cs b => hsel i oi cs b hi) (fun cs b => hsel j oj cs b hoj) hQ hy h1
      have hfree' : ∀ k ok, ops[k]? = some ok → k ≠ i → (listed.setIfInBounds j true).getD k true = false →
          (∀ e ∈ ok.after, Region.binds md e = true → e.on ≠ i) → oi.apart ops ok = true := fun k ok hk hki hun hno => by
        refine hfree k ok hk hki ?_ hno
        by_cases hjk : j = k
        · subst hjk; exact hjun
        · rw [getD_set_ne true hjk] at hun; exact hun
      refine wpOp_mono (fun a' w' h3 => ⟨fun hjz' _ => h3.2.1 hjz' hzset, ih (listed.setIfInBounds j true) a' w' hfree' (ready_mono hr (Ne.symm hji)) h3.1 (by rw [getD_set_ne false hjz]; exact hl) (h3.2.1 hjz hzset) ?_⟩) h2
      rw [Array.setIfInBounds_comm _ _ hji]
      exact h3.2.2
theorem wpAnyE_takeS {i : Nat} {oi : Oper} {v : Value} {fuel : Nat} {listed : Array Bool} {a : Act} {w : World} (hi : ops[i]? = some oi)
    (hs : Region.noSelect ops = true) (hf : Region.free md ops listed i = true) (hr : (Region.ready md ops listed).contains i = true)
    (hQ : ∀ c a w, Q (.panic c) (a.put oi.dst v) w → Q (.panic c) a w) (hz : (ops[z]?.isNone && !listed.getD z false) = true) (hy : YieldsIf P ops S oi v a) (hS : S w)
    (h : wpAnyE P md ops Q S z fuel (listed.setIfInBounds i true) (a.put oi.dst v) w) : wpAnyE P md ops Q S z (fuel + 1) listed a w := by
  simp only [Bool.and_eq_true, Bool.not_eq_true', Option.isNone_iff_eq_none] at hz
  exact wpAnyE_firstS hi (Region.noSelect_spec hs) hQ hz.1 fuel listed a w (Region.free_spec hi hf) (by simpa using hr) hy hz.2 hS h
/-- Number i alone can come up, and it is the last one. -/
theorem wpAnyE_end {i : Nat} {o : Oper} {fuel : Nat} {listed : Array Bool} {a : Act} {w : World} (hr : Region.ready md ops listed = [i]) (ho : ops[i]? = some o) (hend : Region.ready md ops (listed.setIfInBounds i true) = [])
    (h : ∀ K' : Act → World → Prop, Shut (∀ a w, S w → Q .normal a w → K' a w) → if Region.wanted o (yielded ops a.tmps) = true then Oper.wp P o a w K' Q else K' (a.put o.dst undef) w) : wpAnyE P md ops Q S z (fuel + 1) listed a w := by
  refine ⟨fun h0 => (by rw [hr] at h0; cases h0), fun j hj => ?_⟩
  rw [hr] at hj
  have e : j = i := by simpa using hj
  subst e
  refine wpOp_step ho (fun K' hK => h K' (fun a w hS hW => hK a w ⟨fun _ _ => hS, ?_⟩))
  cases fuel with
  | zero => exact ⟨hend, hW⟩
  | succ f => exact ⟨fun _ => hW, by rw [hend]; simp⟩

/-- One of two can come up. -/
theorem wpAnyE_two {i j : Nat} {oi oj : Oper} {fuel : Nat} {listed : Array Bool} {a : Act} {w : World} (hr : Region.ready md ops listed = [i, j]) (hoi : ops[i]? = some oi) (hoj : ops[j]? = some oj)
    (hi : ∀ K' : Act → World → Prop, Shut (∀ a w, S w → (S w → wpAnyE P md ops Q S z fuel (listed.setIfInBounds i true) a w) → K' a w) → if Region.wanted oi (yielded ops a.tmps) = true then Oper.wp P oi a w K' Q else K' (a.put oi.dst undef) w)
    (hj : ∀ K' : Act → World → Prop, Shut (∀ a w, S w → (S w → wpAnyE P md ops Q S z fuel (listed.setIfInBounds j true) a w) → K' a w) → if Region.wanted oj (yielded ops a.tmps) = true then Oper.wp P oj a w K' Q else K' (a.put oj.dst undef) w) :
    wpAnyE P md ops Q S z (fuel + 1) listed a w := by
  refine ⟨fun h0 => (by rw [hr] at h0; cases h0), fun k hk => ?_⟩
  rw [hr] at hk
  have e : k = i ∨ k = j := by simpa using hk
  rcases e with rfl | rfl
  · exact wpOp_step hoi (fun K' hK => hi K' (fun a w hS hW => hK a w ⟨fun _ _ => hS, hW hS⟩))
  · exact wpOp_step hoj (fun K' hK => hj K' (fun a w hS hW => hK a w ⟨fun _ _ => hS, hW hS⟩))
end

/-- Only these blocks may have turned. -/
structure Turns (T : Nat → Prop) (w w' : World) : Prop where
  os : w'.os = w.os
  tape : w'.tape = w.tape
  output : w'.output = w.output
  size : w.heap.size ≤ w'.heap.size
  block : ∀ i, i < w.heap.size → ¬ T i → w'.heap[i]? = w.heap[i]?
theorem Turns.of_below {T : Nat → Prop} {a b : World} (h : Below a.heap.size a b) : Turns T a b := ⟨h.os, h.tape, h.output, h.size, fun i hi _ => h.block i hi⟩
theorem Turns.of_grown {g : Nat} {a b : World} (h : a.grownBy b (some g)) : Turns (· = g) a b := ⟨h.os, h.tape, h.output, h.size, fun i hi hb => h.block i hi (by intro e; injection e with e; exact hb e)⟩
theorem Turns.trans {T : Nat → Prop} {a b c : World} (h : Turns T a b) (k : Turns T b c) : Turns T a c :=
  ⟨k.os.trans h.os, k.tape.trans h.tape, k.output.trans h.output, Nat.le_trans h.size k.size, fun i hi hb => (k.block i (Nat.lt_of_lt_of_le hi h.size) hb).trans (h.block i hi hb)⟩
theorem Turns.sub {T T' : Nat → Prop} {a b : World} (h : Turns T a b) (hs : ∀ i, i < a.heap.size → T i → T' i) : Turns T' a b := ⟨h.os, h.tape, h.output, h.size, fun i hi hb => h.block i hi (fun ht => hb (hs i hi ht))⟩
theorem Turns.below {T : Nat → Prop} {w a b : World} (h : Turns T a b) (hb : Below w.heap.size w a) (hT : ∀ i, T i → w.heap.size ≤ i) : Below w.heap.size w b :=
  ⟨h.os.trans hb.os, h.tape.trans hb.tape, h.output.trans hb.output, Nat.le_trans hb.size h.size, fun i hi => (h.block i (Nat.lt_of_lt_of_le hi hb.size) (fun ht => by have := hT i ht; omega)).trans (hb.block i hi)⟩
theorem Turns.cell {T : Nat → Prop} {a b : World} (h : Turns T a b) {g : Nat} (hg : g < a.heap.size) (hb : ¬ T g) (o : Nat) : b.cell? ⟨g, o, none⟩ = a.cell? ⟨g, o, none⟩ := World.cell?_of_block (h.block g hg hb)
theorem Turns.frozen {T : Nat → Prop} {a b : World} (h : Turns T a b) {g : Nat} (hg : g < a.heap.size) (hb : ¬ T g) (o : Nat) : b.frozen? ⟨g, o, none⟩ = a.frozen? ⟨g, o, none⟩ := World.frozen?_of_block (h.block g hg hb)
theorem Box.turn {T : Nat → Prop} {a b : World} {g : Nat} {t : TypeId} {cs : Array Value} (hx : Box a g t cs) (h : Turns T a b) (hb : ¬ T g) : Box b g t cs := (h.block g hx.lt hb).trans hx
theorem turns_setRow (w : World) (g : Nat) (cs : Array Value) : Turns (· = g) w (w.setRow g cs) :=
  ⟨rfl, rfl, rfl, by rw [size_setRow]; exact Nat.le_refl _, fun i _ hne => heap_setRow w g cs i hne⟩

/-- The blocks from lo up to hi. -/
def Iv (lo hi : Nat) : Nat → Prop := fun b => lo ≤ b ∧ b < hi
theorem iv_far {lo hi a b : Nat} (h : hi ≤ a ∨ b ≤ lo) : ∀ x, Iv lo hi x → ¬ Iv a b x := fun x h1 h2 => by unfold Iv at h1 h2; omega
theorem iv_one {lo hi g : Nat} (h : g < lo ∨ hi ≤ g) : ∀ x, Iv lo hi x → ¬ x = g := fun x h1 h2 => by unfold Iv at h1; omega
theorem iv_not {lo hi g : Nat} (h : g < lo ∨ hi ≤ g) : ¬ Iv lo hi g := fun h1 => by unfold Iv at h1; omega
theorem iv_sub {lo hi a b : Nat} (h1 : a ≤ lo) (h2 : hi ≤ b) : ∀ x, Iv lo hi x → Iv a b x := fun x h => by unfold Iv at h ⊢; omega

/-- A datum that is kept where none of its blocks turned: P w F v says that v reads as it in w, through blocks of F alone. -/
structure Keeps (P : World → (Nat → Prop) → Value → Prop) : Prop where
  turn : ∀ {T : Nat → Prop} {w w' : World} {F : Nat → Prop} {v : Value}, P w F v → Turns T w w' → (∀ b, F b → ¬ T b) → P w' F v
  sub : ∀ {w : World} {F F' : Nat → Prop} {v : Value}, P w F v → (∀ b, F b → F' b) → P w F' v
theorem Keeps.later {P : World → (Nat → Prop) → Value → Prop} (k : Keeps P) {w w' : World} {F : Nat → Prop} {v : Value} (h : P w F v) (hb : Below w.heap.size w w') : P w' F v := k.turn (T := fun _ => False) h (Turns.of_below hb) (fun _ _ h => h)

/-- The variable at g has these cells, which read as a datum through blocks of F, g not among them. -/
structure VarOf (P : World → (Nat → Prop) → Value → Prop) (t : TypeId) (wr : World) (F : Nat → Prop) (g : Nat) (C : Array Value) : Prop where
  box : Box wr g t C
  far : ¬ F g
  dat : P wr F (.agg C)
theorem VarOf.turn {P : World → (Nat → Prop) → Value → Prop} (k : Keeps P) {t : TypeId} {wr w' : World} {F T : Nat → Prop} {g : Nat} {C : Array Value} (h : VarOf P t wr F g C) (ht : Turns T wr w') (hg : ¬ T g) (hF : ∀ b, F b → ¬ T b) : VarOf P t w' F g C :=
  ⟨h.box.turn ht hg, h.far, k.turn h.dat ht hF⟩
theorem VarOf.later {P : World → (Nat → Prop) → Value → Prop} (k : Keeps P) {t : TypeId} {wr w' : World} {F : Nat → Prop} {g : Nat} {C : Array Value} (h : VarOf P t wr F g C) (hb : Below wr.heap.size wr w') : VarOf P t w' F g C :=
  ⟨h.box.later hb h.box.lt, h.far, k.later h.dat hb⟩
theorem VarOf.new {P : World → (Nat → Prop) → Value → Prop} (k : Keeps P) (t : TypeId) {w : World} {F : Nat → Prop} {C : Array Value} (h : P w F (.agg C)) (hF : ∀ b, F b → b < w.heap.size) : VarOf P t (w.alloc (.cells C t)) F w.heap.size C :=
  ⟨Box.new w t C, fun hf => absurd (hF _ hf) (Nat.lt_irrefl _), k.later h (bel_alloc w _)⟩
/-- A variable that was made ahead is written whole. -/
theorem VarOf.put {P : World → (Nat → Prop) → Value → Prop} (k : Keeps P) {t : TypeId} {w : World} {F : Nat → Prop} {g : Nat} {Z C : Array Value} (hz : Box w g t Z) (h : P w F (.agg C)) (hF : ¬ F g) : VarOf P t (w.setRow g C) F g C :=
  ⟨hz.setRow C, hF, k.turn h (turns_setRow w g C) (fun _ hb e => hF (e ▸ hb))⟩
theorem lt_of_cell {w : World} {b o : Nat} {u : Value} (h : w.cell? ⟨b, o, none⟩ = some u) : b < w.heap.size := by
  rcases Nat.lt_or_ge b w.heap.size with hlt | hge
  · exact hlt
  · simp [World.cell?, Array.getElem?_eq_none hge] at h

end Go.Proofs.YtjdepjpjjgkmbaaGreat

/- What the functions of impl/l02_stamp.go answer at every stamp: contracts of each of them. -/
namespace Go.Proofs.YtjdepjpjjgkmbaaGreat
open Go.RowKit

theorem pairsAfter {w : World} {A : Option Addr} {n : Nat} {ps : List (Int × Int)} (h : Pairs w w.heap.size A n ps) (p : After w) : Pairs p.x p.x.heap.size A n ps := h.later p.bel

theorem stampOk_any (c k : Int) (w : World) :
    Calls Tryz.prog 114 #[.agg #[.int .i64 c, .int .i64 k]] w fun e w' => e = .returned (.bool (stB c k)) ∧ Below w.heap.size w w' := by
  by_cases hc : c = 0
  · subst hc
    by_cases hk : k = 0
    · subst hk
      go_enter Tryz.func114, Tryz.ntmps114
      go_wp2
      go_ret
      exact ⟨rfl, bel_alloc _ _⟩
    · have e : Hid (stB 0 k = false) := by show stB 0 k = false; simp [stB, hk]
      have hk' : (k == 0) = false := by simpa using hk
      go_enter Tryz.func114, Tryz.ntmps114
      go_wp2
      go_ret
      exact ⟨by rw [e.out]; first | rfl | simp [hk], bel_alloc _ _⟩
  · have hc' : (c == 0) = false := by simpa using hc
    have e := Lib.hid (stB_not hc k)
    rcases h1 : inB c 1 100000 with _ | _
    · go_enter Tryz.func114, Tryz.ntmps114
      go_wp2_with (go_at_call 143; refine (within_any _ _ _ _).mono ?_; rintro e w' ⟨rfl, rfl⟩)
      go_ret
      exact ⟨by rw [e.out, h1]; rfl, bel_alloc _ _⟩
    · go_enter Tryz.func114, Tryz.ntmps114
      go_wp2_with (go_at_call 143; refine (within_any _ _ _ _).mono ?_; rintro e w' ⟨rfl, rfl⟩)
      go_ret
      exact ⟨by rw [e.out, h1]; rfl, bel_alloc _ _⟩

theorem isNaN_any (x : Int) (w : World) :
    Calls Tryz.prog 173 #[.int .i64 x] w fun e w' => e = .returned (.bool false) ∧ w = w' := by
  have h : (x != x) = false := by simp
  go_enter Tryz.func173, Tryz.ntmps173
  go_wp2
  go_ret
  exact ⟨by first | rfl | simp, rfl⟩

theorem compare_any (a b : Int) (w : World) :
    Calls Tryz.prog 116 #[.int .i64 a, .int .i64 b] w fun e w' => e = .returned (.int .i64 (sgn a b)) ∧ w = w' := by
  rcases Int.lt_trichotomy a b with h | h | h
  · have e := Lib.hid (sgn_lt h)
    go_enter Tryz.func116, Tryz.ntmps116
    go_wp2_with (go_at_call 173; refine (isNaN_any _ _).mono ?_; rintro e w' ⟨rfl, rfl⟩)
    go_ret
    exact ⟨by rw [e.out]; rfl, rfl⟩
  · subst h
    have e := Lib.hid (sgn_eq a)
    go_enter Tryz.func116, Tryz.ntmps116
    go_wp2_with (go_at_call 173; refine (isNaN_any _ _).mono ?_; rintro e w' ⟨rfl, rfl⟩)
    go_ret
    exact ⟨by rw [e.out]; rfl, rfl⟩
  · have e := Lib.hid (sgn_gt h)
    have h' : ¬ a < b := by omega
    go_enter Tryz.func116, Tryz.ntmps116
    go_wp2_with (go_at_call 173; refine (isNaN_any _ _).mono ?_; rintro e w' ⟨rfl, rfl⟩)
    go_ret
    exact ⟨by rw [e.out]; rfl, rfl⟩

theorem or_any (b : Nat) (x y : Int) (w : World) (h0 : w.cell? ⟨b, 0, none⟩ = some (.int .i64 x)) (h1 : w.cell? ⟨b, 1, none⟩ = some (.int .i64 y)) :
    Calls Tryz.prog 115 #[.slice (some ⟨b, 0, none⟩) 2 2] w fun e w' => e = .returned (.int .i64 (orN x y)) ∧ w = w' := by
  go_enter Tryz.func115, Tryz.ntmps115
  go_wp2
  go_loop [8] (fun i => ∃ k : Nat, k ≤ 2 ∧ i = .int .i64 k ∧ (0 < k → x = 0) ∧ (1 < k → y = 0)) (fun i => 2 - (intOf i).toNat)
  case atStart => exact ⟨0, by omega, rfl, fun h => absurd h (by omega), fun h => absurd h (by omega)⟩
  case round =>
    obtain ⟨k, hk, rfl, hx, hy⟩ := hrel
    have hcase : k = 0 ∨ k = 1 ∨ k = 2 := by omega
    rcases hcase with rfl | rfl | rfl
    · clear hx hy
      by_cases hx : x = 0
      · subst hx
        go_wp2
        go_round
        case rel => exact ⟨1, by omega, by go_num, fun _ => trivial, fun h => absurd h (by omega)⟩
        case measure => simp [intOf]
      · have hx' : (x != 0) = true := by simpa using hx
        have e : Hid (orN x y = x) := by show orN x y = x; simp [orN, hx]
        go_wp2
        go_ret
        exact ⟨by rw [e.out]; rfl, rfl⟩
    · obtain rfl := hx (by omega)
      clear hx hy
      by_cases hy : y = 0
      · subst hy
        go_wp2
        go_round
        case rel => exact ⟨2, by omega, by go_num, fun _ => trivial, fun _ => trivial⟩
        case measure => simp [intOf]
      · have hy' : (y != 0) = true := by simpa using hy
        go_wp2
        go_ret
        exact ⟨rfl, rfl⟩
    · obtain rfl := hx (by omega)
      obtain rfl := hy (by omega)
      go_wp2
      go_ret
      exact ⟨rfl, rfl⟩

set_option maxHeartbeats 400000 in
theorem cmpStamp_any (a b c d : Int) (w : World) :
    Calls Tryz.prog 59 #[.agg #[.int .i64 a, .int .i64 b], .agg #[.int .i64 c, .int .i64 d]] w fun e w' => e = .returned (.int .i64 (cmpN a b c d)) ∧ Below w.heap.size w w' := by
  rcases h1 : stB a b with _ | _
  · have e := Lib.hid (cmpN_no1 h1 c d)
    go_enter Tryz.func59, Tryz.ntmps59
    have hb0 := bel_trans (bel_alloc w (.cells #[.int .i64 a, .int .i64 b] 39)) (bel_alloc _ (.cells #[.int .i64 c, .int .i64 d] 39))
    go_wp2_with fail
    generalize ((w.alloc _).alloc _ : World) = w0 at hb0 ⊢
    refine (stampOk_any a b w0).mono ?_
    rintro e w1 ⟨rfl, hb1⟩
    go_wp2
    go_ret
    exact ⟨by rw [e.out]; rfl, bel_trans hb0 hb1⟩
  · rcases h2 : stB c d with _ | _
    · have e := Lib.hid (cmpN_no2 h2 a b)
      go_enter Tryz.func59, Tryz.ntmps59
      have hb0 := bel_trans (bel_alloc w (.cells #[.int .i64 a, .int .i64 b] 39)) (bel_alloc _ (.cells #[.int .i64 c, .int .i64 d] 39))
      have D := (Box.new w 39 #[.int .i64 a, .int .i64 b]).alloc (.cells #[.int .i64 c, .int .i64 d] 39)
      have X := Box.new (w.alloc (.cells #[.int .i64 a, .int .i64 b] 39)) 39 #[.int .i64 c, .int .i64 d]
      simp only [World.size_alloc] at X
      go_wp2_with fail
      generalize ((w.alloc _).alloc _ : World) = w0 at hb0 D X ⊢
      refine (stampOk_any a b w0).mono ?_
      rintro e w1 ⟨rfl, hb1⟩
      obtain ⟨x0, x1⟩ := (X.later hb1 X.lt).two
      go_wp2_with fail
      refine (stampOk_any c d w1).mono ?_
      rintro e w2 ⟨rfl, hb2⟩
      go_wp2
      go_ret
      exact ⟨by rw [e.out]; rfl, bel_trans (bel_trans hb0 hb1) hb2⟩
    · have e := Lib.hid (cmpN_yes h1 h2)
      go_enter Tryz.func59, Tryz.ntmps59
      have hb0 := bel_trans (bel_alloc w (.cells #[.int .i64 a, .int .i64 b] 39)) (bel_alloc _ (.cells #[.int .i64 c, .int .i64 d] 39))
      have D := (Box.new w 39 #[.int .i64 a, .int .i64 b]).alloc (.cells #[.int .i64 c, .int .i64 d] 39)
      have X := Box.new (w.alloc (.cells #[.int .i64 a, .int .i64 b] 39)) 39 #[.int .i64 c, .int .i64 d]
      simp only [World.size_alloc] at X
      go_wp2_with fail
      generalize ((w.alloc _).alloc _ : World) = w0 at hb0 D X ⊢
      refine (stampOk_any a b w0).mono ?_
      rintro e w1 ⟨rfl, hb1⟩
      have D1 := D.later hb1 D.lt
      have X1 := X.later hb1 X.lt
      have E1 := bel_trans hb0 hb1
      clear D X hb0 hb1
      obtain ⟨x0, x1⟩ := X1.two
      go_wp2_with fail
      refine (stampOk_any c d w1).mono ?_
      rintro e w2 ⟨rfl, hb2⟩
      have D2 := D1.later hb2 D1.lt
      have X2 := X1.later hb2 X1.lt
      have E2 := bel_trans E1 hb2
      clear D1 X1 E1 hb2 x0 x1
      obtain ⟨a0, a1⟩ := D2.two
      obtain ⟨x0, x1⟩ := X2.two
      go_wp2_with fail
      go_region_held3 (fun w' => w'.cell? ⟨w.heap.size, 0, none⟩ = some (.int .i64 a) ∧ w'.cell? ⟨w.heap.size, 1, none⟩ = some (.int .i64 b) ∧ w'.cell? ⟨w.heap.size + 1, 0, none⟩ = some (.int .i64 c) ∧ w'.cell? ⟨w.heap.size + 1, 1, none⟩ = some (.int .i64 d)) (go_keep)
        (first
          | (go_at_call 116; refine (compare_any _ _ _).mono ?_; rintro e w' ⟨rfl, rfl⟩)
          | (go_at_call 115; refine (or_any _ (sgn a c) (sgn b d) _ ?_ ?_).mono ?_; (simp); (simp); rintro e w' ⟨rfl, rfl⟩))
      go_wp2
      go_ret
      exact ⟨by rw [e.out]; rfl, (bel_trans E2 (bel_alloc _ _)).drew⟩

theorem newer_any (a b c d : Int) (w : World) :
    Calls Tryz.prog 210 #[.agg #[.int .i64 a, .int .i64 b], .agg #[.int .i64 c, .int .i64 d]] w fun e w' => e = .returned (.bool (cmpN a b c d == 1)) ∧ Below w.heap.size w w' := by
  have hb0 := bel_trans (bel_alloc w (.cells #[.int .i64 a, .int .i64 b] 39)) (bel_alloc _ (.cells #[.int .i64 c, .int .i64 d] 39))
  go_enter Tryz.func210, Tryz.ntmps210
  go_wp2_with fail
  generalize ((w.alloc _).alloc _ : World) = w0 at hb0 ⊢
  refine (cmpStamp_any a b c d w0).mono ?_
  rintro e w1 ⟨rfl, hb1⟩
  go_wp2
  go_ret
  exact ⟨rfl, bel_trans hb0 hb1⟩

end Go.Proofs.YtjdepjpjjgkmbaaGreat

/- What the model's functions of spec/l02_stamp.go answer at every stamp: contracts of each of them. -/
namespace Go.Proofs.YtjdepjpjjgkmbaaGreat
open Go.RowKit

theorem specStampOk_any (c k : Int) (w : World) :
    Calls Tryz.prog 195 #[.agg #[.int .i64 c, .int .i64 k]] w fun e w' => e = .returned (.bool (stB c k)) ∧ Below w.heap.size w w' := by
  rw [← stB_spec]
  rcases h1 : inB c 0 100000 with _ | _
  · go_enter Tryz.func195, Tryz.ntmps195
    go_wp2_with (go_at_call 174; refine (l1In_any _ _ _ _).mono ?_; rintro e w' ⟨rfl, rfl⟩)
    go_ret
    exact ⟨rfl, bel_alloc _ _⟩
  rcases h2 : inB k 0 15 with _ | _
  · go_enter Tryz.func195, Tryz.ntmps195
    go_wp2_with (go_at_call 174; refine (l1In_any _ _ _ _).mono ?_; rintro e w' ⟨rfl, rfl⟩)
    go_ret
    exact ⟨rfl, bel_alloc _ _⟩
  by_cases h3 : 0 < c
  · have e : Hid (decide (0 < c) = true) := decide_eq_true h3
    go_enter Tryz.func195, Tryz.ntmps195
    go_wp2_with (go_at_call 174; refine (l1In_any _ _ _ _).mono ?_; rintro e w' ⟨rfl, rfl⟩)
    go_ret
    exact ⟨by rw [e.out]; rfl, bel_alloc _ _⟩
  have e : Hid (decide (0 < c) = false) := decide_eq_false h3
  by_cases h4 : k = 0
  · subst h4
    go_enter Tryz.func195, Tryz.ntmps195
    go_wp2_with (go_at_call 174; refine (l1In_any _ _ _ _).mono ?_; rintro e w' ⟨rfl, rfl⟩)
    go_ret
    exact ⟨by rw [e.out]; rfl, bel_alloc _ _⟩
  · have h4' : (k == 0) = false := by simpa using h4
    have e' : Hid (decide (k = 0) = false) := decide_eq_false h4
    go_enter Tryz.func195, Tryz.ntmps195
    go_wp2_with (go_at_call 174; refine (l1In_any _ _ _ _).mono ?_; rintro e w' ⟨rfl, rfl⟩)
    go_ret
    exact ⟨by rw [e.out, e'.out]; rfl, bel_alloc _ _⟩

set_option maxHeartbeats 1000000 in
theorem specCmp_any (a b c d : Int) (w : World) :
    Calls Tryz.prog 200 #[.agg #[.int .i64 a, .int .i64 b], .agg #[.int .i64 c, .int .i64 d]] w fun e w' => e = .returned (.int .i64 (cmpN a b c d)) ∧ Below w.heap.size w w' := by
  have hb0 := bel_trans (bel_alloc w (.cells #[.int .i64 a, .int .i64 b] 39)) (bel_alloc _ (.cells #[.int .i64 c, .int .i64 d] 39))
  have D := (Box.new w 39 #[.int .i64 a, .int .i64 b]).alloc (.cells #[.int .i64 c, .int .i64 d] 39)
  have X := Box.new (w.alloc (.cells #[.int .i64 a, .int .i64 b] 39)) 39 #[.int .i64 c, .int .i64 d]
  simp only [World.size_alloc] at X
  go_enter Tryz.func200, Tryz.ntmps200
  go_wp2_with fail
  generalize ((w.alloc _).alloc _ : World) = w0 at hb0 D X ⊢
  refine (specStampOk_any a b w0).mono ?_
  rintro e w1 ⟨rfl, hb1⟩
  have D1 := D.later hb1 D.lt
  have X1 := X.later hb1 X.lt
  have E1 := bel_trans hb0 hb1
  clear D X hb0 hb1
  obtain ⟨x0, x1⟩ := X1.two
  rcases h1 : stB a b with _ | _
  · have e := Lib.hid (cmpN_no1 h1 c d)
    go_wp2
    go_ret
    exact ⟨by rw [e.out]; rfl, E1⟩
  go_wp2_with fail
  refine (specStampOk_any c d w1).mono ?_
  rintro e w2 ⟨rfl, hb2⟩
  have D2 := D1.later hb2 D1.lt
  have X2 := X1.later hb2 X1.lt
  have E2 := bel_trans E1 hb2
  clear D1 X1 E1 hb2 x0 x1
  obtain ⟨a0, a1⟩ := D2.two
  obtain ⟨x0, x1⟩ := X2.two
  rcases h2 : stB c d with _ | _
  · have e := Lib.hid (cmpN_no2 h2 a b)
    go_wp2
    go_ret
    exact ⟨by rw [e.out]; rfl, E2⟩
  have e := Lib.hid (cmpN_yes h1 h2)
  rcases Int.lt_trichotomy a c with h | h | h
  · have n1 : (a != c) = true := by simp; omega
    have s1 := Lib.hid (sgn_lt h)
    go_wp2
    go_ret
    exact ⟨by rw [e.out, s1.out]; rfl, E2⟩
  · subst h
    have s1 := Lib.hid (sgn_eq a)
    rcases Int.lt_trichotomy b d with k | k | k
    · have n1 : (b != d) = true := by simp; omega
      have s2 := Lib.hid (sgn_lt k)
      go_wp2
      go_ret
      exact ⟨by rw [e.out, s1.out, s2.out]; rfl, E2⟩
    · subst k
      have s2 := Lib.hid (sgn_eq b)
      go_wp2
      go_ret
      exact ⟨by rw [e.out, s1.out, s2.out]; rfl, E2⟩
    · have n1 : (b != d) = true := by simp; omega
      have n2 : ¬ b < d := by omega
      have s2 := Lib.hid (sgn_gt k)
      go_wp2
      go_ret
      exact ⟨by rw [e.out, s1.out, s2.out]; rfl, E2⟩
  · have n1 : (a != c) = true := by simp; omega
    have n2 : ¬ a < c := by omega
    have s1 := Lib.hid (sgn_gt h)
    go_wp2
    go_ret
    exact ⟨by rw [e.out, s1.out]; rfl, E2⟩

end Go.Proofs.YtjdepjpjjgkmbaaGreat

/- The laws' own copies of stamps and of lists of them, their size and the test that two are alike: contracts of each of them. -/
namespace Go.Proofs.YtjdepjpjjgkmbaaGreat
open Go.RowKit

theorem toStamp_any (c k : Int) (w : World) :
    Calls Tryz.prog 31 #[.agg #[.int .i64 c, .int .i64 k]] w fun e w' => e = .returned (.agg #[.int .i64 c, .int .i64 k]) ∧ Below w.heap.size w w' := by
  go_enter Tryz.func31, Tryz.ntmps31
  go_wp2
  exact bodyPost_ret (v := .agg #[.int .i64 c, .int .i64 k]) (by simp [results, Tryz.results31, go_sem]) rfl ⟨rfl, by
    first
    | exact bel_trans (bel_trans (bel_alloc _ _) (bel_alloc _ _)) (bel_alloc _ _)
    | exact (((((bel_trans (bel_trans (bel_alloc _ _) (bel_alloc _ _)) (bel_alloc _ _)).setCell (by simp) _).setCell (by simp) _).setCell (by simp) _).setCell (by simp) _)⟩

theorem eqStamp_same (c k : Int) (w : World) :
    Calls Tryz.prog 104 #[.agg #[.int .i64 c, .int .i64 k], .agg #[.int .i64 c, .int .i64 k]] w fun e w' => e = .returned (.bool true) ∧ Below w.heap.size w w' := by
  go_enter Tryz.func104, Tryz.ntmps104
  go_wp2
  go_ret
  exact ⟨rfl, bel_trans (bel_alloc _ _) (bel_alloc _ _)⟩

/-- n pairs of noughts are made. -/
theorem run_make_pairs {P : Program} (t e : TypeId) (ht : P.underlying t = some (.slice e)) (hinfo : (P.info? e).map (fun i => (i.zero, i.size, i.bytes)) = some (some (.agg #[.int .i64 0, .int .i64 0]), 2, 16))
    (n : Nat) (hn : n ≤ 1048576) (w : World) :
    (Instr.makeSlice t (.int .i64 (n : Int)) (.int .i64 (n : Int))).run P w = .ok (.slice (some ⟨w.heap.size, 0, none⟩) n n) (w.alloc (.cells (madeCells #[.int .i64 0, .int .i64 0] (n * 2)) e)) := by
  obtain ⟨i, hi, hzz⟩ := Option.map_eq_some_iff.1 hinfo
  simp only [Prod.mk.injEq] at hzz
  obtain ⟨hz, hs, hb⟩ := hzz
  have hr := run_make (P := P) w t e i _ ht hi hz .i64 .i64 n n (by omega) (Int.le_refl _) (by rw [hb]; omega) (by omega)
  simp only [Int.toNat_natCast, hs] at hr
  exact hr
theorem made_pairs (w : World) (n : Nat) (t : TypeId) : (w.alloc (.cells (madeCells #[.int .i64 0, .int .i64 0] (n * 2)) t)).rowIs w.heap.size t (n * 2) (fun _ => .int .i64 0) :=
  ⟨madeCells #[.int .i64 0, .int .i64 0] (n * 2), heap_alloc_new w _, size_madeCells _ _, fun i hi => by
    have h : i % 2 = 0 ∨ i % 2 = 1 := by omega
    rcases h with h | h <;> simp [madeCells, hi, h]⟩

/-- The first k pairs are copied. -/
def uptoP (ps : List (Int × Int)) (k j : Nat) : Value := if j < k * 2 then (if j % 2 = 0 then .int .i64 (pth ps (j / 2)).1 else .int .i64 (pth ps (j / 2)).2) else .int .i64 0
theorem uptoP_zero (ps : List (Int × Int)) (j : Nat) : uptoP ps 0 j = .int .i64 0 := by simp [uptoP]
theorem uptoP_succ {w : World} {b n k : Nat} {t : TypeId} {ps : List (Int × Int)} {x y : Int} (h : w.rowIs b t n (uptoP ps k)) (hx : pth ps k = (x, y)) :
    ((w.setCell ⟨b, k * 2, none⟩ (.int .i64 x)).setCell ⟨b, k * 2 + 1, none⟩ (.int .i64 y)).rowIs b t n (uptoP ps (k + 1)) :=
  ((h.set (k * 2) _).set (k * 2 + 1) _).congr fun i _ => by
    unfold uptoP
    by_cases e : i = k * 2 + 1
    · subst e
      have h1 : (k * 2 + 1) % 2 = 1 := by omega
      have h2 : (k * 2 + 1) / 2 = k := by omega
      have h3 : k * 2 + 1 < (k + 1) * 2 := by omega
      simp [h1, h2, h3, hx]
    · by_cases f : i = k * 2
      · subst f
        have h1 : (k * 2) % 2 = 0 := by omega
        have h2 : (k * 2) / 2 = k := by omega
        have h3 : k * 2 < (k + 1) * 2 := by omega
        simp [h2, h3, hx]
      · by_cases g : i < k * 2
        · simp [e, f, g, show i < (k + 1) * 2 by omega]
        · simp [e, f, g, show ¬ i < (k + 1) * 2 by omega]
theorem uptoP_all {w : World} {b n : Nat} {t : TypeId} {ps : List (Int × Int)} (h : w.rowIs b t (n * 2) (uptoP ps n)) (hl : ps.length = n) : Pairs w w.heap.size (some ⟨b, 0, none⟩) n ps := by
  refine ⟨hl, fun _ => ⟨b, 0, rfl, h.lt, fun i hi => ⟨?_, ?_⟩⟩⟩
  · have h1 : (i * 2) % 2 = 0 := by omega
    have h2 : (i * 2) / 2 = i := by omega
    rw [Nat.zero_add, h.cell (i := i * 2) (by omega)]
    simp [uptoP, h2, show i * 2 < n * 2 by omega]
  · have h1 : (i * 2 + 1) % 2 = 1 := by omega
    have h2 : (i * 2 + 1) / 2 = i := by omega
    rw [Nat.zero_add, h.cell (i := i * 2 + 1) (by omega)]
    simp [uptoP, h1, h2, show i * 2 + 1 < n * 2 by omega]

end Go.Proofs.YtjdepjpjjgkmbaaGreat

/- The library's stable sort over a slice of pairs, first part: what a slice of pairs holds, exchanging two of them, exchanging two ranges. -/
namespace Go.Proofs.YtjdepjpjjgkmbaaGreat
open Go.RowKit

/-- The block g holds these pairs, from its beginning. -/
structure Held (w : World) (g : Nat) (d : List (Int × Int)) : Prop where
  lt : g < w.heap.size
  fr : ∀ o, w.frozen? ⟨g, o, none⟩ = false
  at0 : ∀ i, i < d.length → w.cell? ⟨g, i * 2, none⟩ = some (.int .i64 (pth d i).1)
  at1 : ∀ i, i < d.length → w.cell? ⟨g, i * 2 + 1, none⟩ = some (.int .i64 (pth d i).2)
theorem Held.later {w w' : World} {g : Nat} {d : List (Int × Int)} (h : Held w g d) (hb : Below w.heap.size w w') : Held w' g d :=
  ⟨Nat.lt_of_lt_of_le h.lt hb.size, fun o => (hb.frozen (p := ⟨g, o, none⟩) h.lt).trans (h.fr o), fun i hi => (hb.cell (p := ⟨g, i * 2, none⟩) h.lt).trans (h.at0 i hi), fun i hi => (hb.cell (p := ⟨g, i * 2 + 1, none⟩) h.lt).trans (h.at1 i hi)⟩
theorem Held.drew {w : World} {g : Nat} {d : List (Int × Int)} (h : Held w g d) : Held w.drew g d := ⟨h.lt, h.fr, h.at0, h.at1⟩

theorem cell_set1 {w : World} {g i j : Nat} {u v : Value} (h : w.cell? ⟨g, i, none⟩ = some u) : (w.setCell ⟨g, j, none⟩ v).cell? ⟨g, i, none⟩ = some (if i = j then v else u) := by
  by_cases e : i = j
  · subst e
    rw [World.cell?_setCell_same _ _ _ h]
    simp
  · rw [World.cell?_setCell_other _ _ _ _ (fun e' => e (by injection e' with _ e'; exact e'.symm)), h]
    simp [e]

/-- One pair is written. -/
theorem Held.put {w : World} {g : Nat} {d : List (Int × Int)} (h : Held w g d) (i : Nat) (x : Int × Int) :
    Held ((w.setCell ⟨g, i * 2, none⟩ (.int .i64 x.1)).setCell ⟨g, i * 2 + 1, none⟩ (.int .i64 x.2)) g (d.set i x) := by
  refine ⟨by simp only [size_set]; exact h.lt, fun o => by simp [h.fr o], fun k hk => ?_, fun k hk => ?_⟩
  · rw [List.length_set] at hk
    rw [cell_set1 (cell_set1 (h.at0 k hk))]
    have e1 : ¬ k * 2 = i * 2 + 1 := by omega
    rw [if_neg e1]
    by_cases e : k = i
    · subst e; simp [pth, hk]
    · rw [if_neg (by omega)]; simp [pth, show ¬ i = k by omega]
  · rw [List.length_set] at hk
    rw [cell_set1 (cell_set1 (h.at1 k hk))]
    have e1 : ¬ k * 2 + 1 = i * 2 := by omega
    rw [if_neg e1]
    by_cases e : k = i
    · subst e; simp [pth, hk]
    · rw [if_neg (by omega)]; simp [pth, show ¬ i = k by omega]
/-- Two pairs are exchanged. -/
theorem Held.swap {w : World} {g : Nat} {d : List (Int × Int)} (h : Held w g d) (i j : Nat) {x y : Int × Int} (hx : pth d i = x) (hy : pth d j = y) :
    Held ((((w.setCell ⟨g, i * 2, none⟩ (.int .i64 y.1)).setCell ⟨g, i * 2 + 1, none⟩ (.int .i64 y.2)).setCell ⟨g, j * 2, none⟩ (.int .i64 x.1)).setCell ⟨g, j * 2 + 1, none⟩ (.int .i64 x.2)) g (swp d i j) := by
  subst hx hy
  exact (h.put i (pth d j)).put j (pth d i)
theorem grown_swap {a w : World} {g : Nat} (h : a.grownBy w (some g)) (i j k l : Nat) (p q r s : Value) :
    a.grownBy ((((w.setCell ⟨g, i, none⟩ p).setCell ⟨g, j, none⟩ q).setCell ⟨g, k, none⟩ r).setCell ⟨g, l, none⟩ s) (some g) :=
  grown_set (grown_set (grown_set (grown_set h _ _) _ _) _ _) _ _

theorem vint {a b : Int} (h : a = b) : Value.int .i64 a = Value.int .i64 b := by rw [h]
theorem take_more {l : List (Int × Int)} {k : Nat} {x : Int × Int} (h : l.drop k = x :: l.drop (k + 1)) : l.take (k + 1) = l.take k ++ [x] := by
  have hk : k < l.length := by
    rcases Nat.lt_or_ge k l.length with h' | h'
    · exact h'
    · rw [List.drop_of_length_le h'] at h; cases h
  rw [List.take_succ_eq_append_getElem hk]
  rw [List.drop_eq_getElem_cons hk] at h
  injection h with h1 _
  rw [h1]

/-- Nothing is answered; the block holds these now, and no other block is changed. -/
def Does (w : World) (g : Nat) (d : List (Int × Int)) (e : Ending) (w' : World) : Prop := e = .returned (.tuple #[]) ∧ Held w' g d ∧ w.grownBy w' (some g)

set_option maxHeartbeats 400000 in
theorem swapRange_any (g n cap a b m : Nat) (A U M V B : List (Int × Int)) (f : Value) (w : World) (hn : n ≤ 4194304) (hl : (A ++ (U ++ (M ++ (V ++ B)))).length = n)
    (hA : A.length = a) (hb : a + U.length + M.length = b) (hU : U.length = m) (hV : V.length = m) (H : Held w g (A ++ (U ++ (M ++ (V ++ B))))) :
    Calls Tryz.prog 260 #[.slice (some ⟨g, 0, none⟩) n cap, .int .i64 a, .int .i64 b, .int .i64 m, f] w (Does w g (A ++ (V ++ (M ++ (U ++ B))))) := by
  simp only [List.length_append] at hl
  have HH := Lib.hid H
  clear H
  go_enter Tryz.func260, Tryz.ntmps260
  go_wp2_with fail
  go_loopw [10] (fun i wr => ∃ k : Nat, k ≤ m ∧ i = .int .i64 k ∧ Held wr g (A ++ (V.take k ++ (U.drop k ++ (M ++ (U.take k ++ (V.drop k ++ B)))))) ∧ w.grownBy wr (some g)) (fun i _ => m - (intOf i).toNat)
  case atStart => exact ⟨0, Nat.zero_le _, rfl, by simpa using HH.out, grown_refl _ _⟩
  case round =>
    obtain ⟨k, hk, rfl, hh, hg⟩ := hrel
    by_cases hlt : k < m
    · obtain ⟨x, hx⟩ : ∃ x, U.drop k = x :: U.drop (k + 1) := ⟨U[k]'(by omega), List.drop_eq_getElem_cons (by omega)⟩
      obtain ⟨y, hy⟩ : ∃ y, V.drop k = y :: V.drop (k + 1) := ⟨V[k]'(by omega), List.drop_eq_getElem_cons (by omega)⟩
      generalize hd : (A ++ (V.take k ++ (U.drop k ++ (M ++ (U.take k ++ (V.drop k ++ B)))))) = d at hh
      have hdl : d.length = n := by subst hd; simp [List.length_append, List.length_take, List.length_drop]; omega
      have hpx : pth d (a + k) = x := pth_at (P := A ++ V.take k) (Q := U.drop (k + 1) ++ (M ++ (U.take k ++ (V.drop k ++ B)))) (by rw [← hd, hx]; simp) (by simp [List.length_take]; omega)
      have hpy : pth d (b + k) = y := pth_at (P := A ++ (V.take k ++ (U.drop k ++ (M ++ U.take k)))) (Q := V.drop (k + 1) ++ B) (by rw [← hd, hy]; simp) (by simp [List.length_take, List.length_drop]; omega)
      have c0 := hh.at0 (a + k) (by omega)
      have c1 := hh.at1 (a + k) (by omega)
      have c2 := hh.at0 (b + k) (by omega)
      have c3 := hh.at1 (b + k) (by omega)
      rw [hpx] at c0 c1
      rw [hpy] at c2 c3
      have fr := hh.fr
      have HS := Lib.hid (hh.swap (a + k) (b + k) hpx hpy)
      have hlt' : (k : Int) < (m : Int) := by omega
      have ha1 : (a : Int) + (k : Int) < n := by omega
      have ha2 : (b : Int) + (k : Int) < n := by omega
      obtain ⟨x, x'⟩ := x
      obtain ⟨y, y'⟩ := y
      go_wp2
      go_region
      go_wp2
      go_roundw
      case rel =>
        refine ⟨k + 1, by omega, by go_num, ?_, grown_drew (grown_swap hg _ _ _ _ _ _ _ _)⟩
        have hs : swp d (a + k) (b + k) = (A ++ (V.take (k + 1) ++ (U.drop (k + 1) ++ (M ++ (U.take (k + 1) ++ (V.drop (k + 1) ++ B)))))) := by
          refine swp_at (x := (x, x')) (y := (y, y')) (P := A ++ V.take k) (Q := U.drop (k + 1) ++ (M ++ U.take k)) (R := V.drop (k + 1) ++ B) (by rw [← hd, hx, hy]; simp) (by simp [List.length_take]; omega) (by simp [List.length_take, List.length_drop]; omega) ?_
          rw [take_more hx, take_more hy]
          simp
        rw [← hs]
        exact HS.out.drew
      case measure => simp [intOf]; omega
    · have hkm : k = m := by omega
      subst hkm
      go_wp2
      go_end0
      refine ⟨rfl, ?_, hg⟩
      rw [List.take_of_length_le (by omega), List.take_of_length_le (by omega), List.drop_of_length_le (by omega), List.drop_of_length_le (by omega)] at hh
      simpa using hh
/-- The same, the numbers as they come. -/
theorem swapRange_is (g n cap : Nat) (ai bi mi : Int) (A U M V B : List (Int × Int)) (f : Value) (w : World) (hn : n ≤ 4194304) (hl : A.length + U.length + M.length + V.length + B.length = n)
    (hA : ai = (A.length : Int)) (hb : bi = ((A.length + U.length + M.length : Nat) : Int)) (hm : mi = (U.length : Int)) (hV : V.length = U.length) (H : Held w g (A ++ (U ++ (M ++ (V ++ B))))) :
    Calls Tryz.prog 260 #[.slice (some ⟨g, 0, none⟩) n cap, .int .i64 ai, .int .i64 bi, .int .i64 mi, f] w (Does w g (A ++ (V ++ (M ++ (U ++ B))))) := by
  subst hA hb hm
  exact swapRange_any g n cap _ _ _ A U M V B f w hn (by simp only [List.length_append]; omega) rfl rfl rfl hV H

set_option maxRecDepth 100000 in
set_option maxHeartbeats 800000 in
theorem rotate_is (g n cap : Nat) (ai mi bi : Int) (A U V B : List (Int × Int)) (f : Value) (w : World) (hn : n ≤ 4194304) (hl : A.length + U.length + V.length + B.length = n)
    (hA : ai = (A.length : Int)) (hm : mi = ((A.length + U.length : Nat) : Int)) (hb : bi = ((A.length + U.length + V.length : Nat) : Int)) (hU : 0 < U.length) (hV : 0 < V.length) (H : Held w g (A ++ (U ++ (V ++ B)))) :
    Calls Tryz.prog 259 #[.slice (some ⟨g, 0, none⟩) n cap, .int .i64 ai, .int .i64 mi, .int .i64 bi, f] w (Does w g (A ++ (V ++ (U ++ B)))) := by
  have HH := Lib.hid H
  clear H
  generalize hb' : A.length + U.length + V.length = b at hb
  generalize hm' : A.length + U.length = m at hm hb'
  generalize ha' : A.length = a at hA hm' hl
  subst hA hm hb
  go_enter Tryz.func259, Tryz.ntmps259
  go_wp2_with fail
  go_loopw [10, 11] (fun i j wr => ∃ A' U' V' B' : List (Int × Int), 0 < U'.length ∧ 0 < V'.length ∧ A'.length + U'.length = m ∧ A'.length + U'.length + V'.length + B'.length = n ∧ i = .int .i64 U'.length ∧ j = .int .i64 V'.length ∧
      A' ++ (V' ++ (U' ++ B')) = A ++ (V ++ (U ++ B)) ∧ Held wr g (A' ++ (U' ++ (V' ++ B'))) ∧ w.grownBy wr (some g)) (fun i j _ => (intOf i).toNat + (intOf j).toNat)
  case atStart => exact ⟨A, U, V, B, hU, hV, by omega, by omega, vint (by omega), vint (by omega), rfl, HH.out, grown_refl _ _⟩
  case round =>
    obtain ⟨A', U', V', B', hu, hv, hAU, hlen, rfl, rfl, hgoal, hh, hg⟩ := hrel
    generalize hi : U'.length = i at hu hAU hlen
    generalize hj : V'.length = j at hv hlen
    rcases Nat.lt_trichotomy i j with hlt | heq | hgt
    · have hne : ((i : Int) == (j : Int)) = false := by simp; omega
      have hng : ¬ ((j : Int) < (i : Int)) := by omega
      go_wp2_with fail
      refine (swapRange_is g n cap _ _ _ A' U' (V'.take (j - i)) (V'.drop (j - i)) B' _ _ hn (by simp [List.length_take, List.length_drop]; omega) (by omega) (by simp [List.length_take]; omega) (by omega) (by simp [List.length_drop]; omega) (by rw [← List.append_assoc (V'.take _), List.take_append_drop]; exact hh)).mono ?_
      rintro e w1 ⟨rfl, hh1, hg1⟩
      go_wp2
      go_roundw
      case rel =>
        refine ⟨A', V'.drop (j - i), V'.take (j - i), U' ++ B', by simp [List.length_drop]; omega, by simp [List.length_take]; omega, by simp [List.length_drop]; omega, by simp [List.length_take, List.length_drop]; omega, vint (by simp [List.length_drop]; omega), vint (by simp [List.length_take]; omega), ?_, hh1, grown_trans hg hg1⟩
        rw [← hgoal, ← List.append_assoc (V'.take _), List.take_append_drop]
      case measure => simp [intOf]; omega
    · subst heq
      go_wp2_with fail
      refine (swapRange_is g n cap _ _ _ A' U' [] V' B' _ _ hn (by simp; omega) (by omega) (by simp; omega) (by omega) (by omega) (by simpa using hh)).mono ?_
      rintro e w1 ⟨rfl, hh1, hg1⟩
      go_wp2
      go_end0
      refine ⟨rfl, ?_, grown_trans hg hg1⟩
      rw [← hgoal]
      simpa using hh1
    · have hne : ((i : Int) == (j : Int)) = false := by simp; omega
      have hng : ((j : Int) < (i : Int)) := by omega
      go_wp2_with fail
      refine (swapRange_is g n cap _ _ _ A' (U'.take j) (U'.drop j) V' B' _ _ hn (by simp [List.length_take, List.length_drop]; omega) (by omega) (by simp [List.length_take, List.length_drop]; omega) (by simp [List.length_take]; omega) (by simp [List.length_take]; omega) (by rw [← List.append_assoc (U'.take _), List.take_append_drop]; exact hh)).mono ?_
      rintro e w1 ⟨rfl, hh1, hg1⟩
      go_wp2
      go_roundw
      case rel =>
        refine ⟨A' ++ V', U'.drop j, U'.take j, B', by simp [List.length_drop]; omega, by simp [List.length_take]; omega, by simp [List.length_drop]; omega, by simp [List.length_take, List.length_drop]; omega, vint (by simp [List.length_drop]; omega), vint (by simp [List.length_take]; omega), ?_, by simpa using hh1, grown_trans hg hg1⟩
        rw [← hgoal, ← List.append_assoc (U'.take _), List.take_append_drop]
        simp
      case measure => simp [intOf]; omega

end Go.Proofs.YtjdepjpjjgkmbaaGreat

/- The laws' own copies of seals and of lists of them, their size, the test that two are alike, their marks: contracts of each of them. -/
namespace Go.Proofs.YtjdepjpjjgkmbaaGreat
open Go.RowKit

theorem toSealP_any (c k : Int) (w : World) :
    Calls Tryz.prog 89 #[.agg #[.int .i64 c, .int .i64 k]] w fun e w' => e = .returned (.agg #[.int .i64 c, .int .i64 k]) ∧ Below w.heap.size w w' := by
  go_enter Tryz.func89, Tryz.ntmps89
  go_wp2
  exact bodyPost_ret (v := .agg #[.int .i64 c, .int .i64 k]) (by simp [results, Tryz.results89, go_sem]) rfl ⟨rfl, by
    first
    | exact bel_trans (bel_trans (bel_alloc _ _) (bel_alloc _ _)) (bel_alloc _ _)
    | exact (((((bel_trans (bel_trans (bel_alloc _ _) (bel_alloc _ _)) (bel_alloc _ _)).setCell (by simp) _).setCell (by simp) _).setCell (by simp) _).setCell (by simp) _)⟩

theorem eqSealP_same (c k : Int) (w : World) :
    Calls Tryz.prog 90 #[.agg #[.int .i64 c, .int .i64 k], .agg #[.int .i64 c, .int .i64 k]] w fun e w' => e = .returned (.bool true) ∧ Below w.heap.size w w' := by
  go_enter Tryz.func90, Tryz.ntmps90
  go_wp2
  go_ret
  exact ⟨rfl, bel_trans (bel_alloc _ _) (bel_alloc _ _)⟩

theorem szSeals_le (A : Option Addr) (n cap : Nat) (L : Int) (w : World) (h1 : L ≤ 1048576) (hm : (n : Int) ≤ L) :
    Calls Tryz.prog 30 #[.slice A n cap, .int .i64 L] w fun e w' => e = .returned (.int .i64 (L - n)) ∧ w = w' := by
  have h : ¬ (L : Int) - n < 0 := by omega
  go_enter Tryz.func30, Tryz.ntmps30
  go_wp2
  go_ret
  exact ⟨rfl, rfl⟩
theorem szSeals_gt (A : Option Addr) (n cap : Nat) (L : Int) (w : World) (h0 : 0 ≤ L) (h1 : L ≤ 1048576) (hm : L < n) (hx : n ≤ maxLen) :
    Calls Tryz.prog 30 #[.slice A n cap, .int .i64 L] w fun e w' => e = .returned (.int .i64 (-1)) ∧ w = w' := by
  unfold maxLen at hx
  have h : (L : Int) - n < 0 := by omega
  go_enter Tryz.func30, Tryz.ntmps30
  go_wp2
  go_ret
  exact ⟨rfl, rfl⟩

theorem Tryz.infoSeal : (Tryz.prog.info? 136).map (fun i => (i.zero, i.size, i.bytes)) = some (some (.agg #[.int .i64 0, .int .i64 0]), 2, 16) := by kernel_rfl

/-- What a copy of n pairs leaves: a new block that holds them. -/
def MadeHeld (w : World) (n : Nat) (ps : List (Int × Int)) (e : Ending) (w' : World) : Prop :=
  ∃ g, w.heap.size ≤ g ∧ e = .returned (.slice (some ⟨g, 0, none⟩) n n) ∧ ps.length = n ∧ Held w' g ps ∧ Below w.heap.size w w'
theorem upto_held {w : World} {b n : Nat} {t : TypeId} {ps : List (Int × Int)} (h : w.rowIs b t (n * 2) (uptoP ps n)) (hl : ps.length = n) : Held w b ps := by
  have hp := uptoP_all h hl
  refine ⟨h.lt, fun o => h.frozen o, fun i hi => ?_, fun i hi => ?_⟩
  · obtain ⟨b', o, hA, _, hc⟩ := hp.2 (by omega)
    cases hA
    have := (hc i (by omega)).1
    rwa [Nat.zero_add] at this
  · obtain ⟨b', o, hA, _, hc⟩ := hp.2 (by omega)
    cases hA
    have := (hc i (by omega)).2
    rwa [Nat.zero_add] at this

set_option maxHeartbeats 400000 in
theorem toSeals_any (A : Option Addr) (n cap : Nat) (ps : List (Int × Int)) (w : World) (hm : n ≤ 1048576) (hr : Pairs w w.heap.size A n ps) :
    Calls Tryz.prog 32 #[.slice A n cap] w (MadeHeld w n ps) := by
  have hmk := fun W => run_make_pairs (P := Tryz.prog) 40 136 Tryz.underlying40 Tryz.infoSeal n hm W
  have HR := Lib.hid hr
  clear hr
  go_enter Tryz.func32, Tryz.ntmps32
  go_wp2_with fail
  go_loopw [4] (fun i wr => ∃ k : Nat, k ≤ n ∧ i = .int .i64 k ∧ wr.rowIs w.heap.size 136 (n * 2) (uptoP ps k) ∧ Below w.heap.size w wr) (fun i _ => n - (intOf i).toNat)
  case atStart => exact ⟨0, Nat.zero_le _, rfl, (made_pairs w n 136).congr (fun i _ => (uptoP_zero ps i).symm), bel_alloc _ _⟩
  case round =>
    obtain ⟨k, hk, rfl, hrow, hb⟩ := hrel
    clear hmk
    by_cases hlt : k < n
    · obtain ⟨b, o, hA, hbB, hcell⟩ := HR.out.2 (by omega)
      subst hA
      obtain ⟨g0, g1⟩ := hcell k hlt
      have g0 := (hb.cell (p := ⟨b, o + k * 2, none⟩) hbB).trans g0
      have g1 := (hb.cell (p := ⟨b, o + k * 2 + 1, none⟩) hbB).trans g1
      generalize hx : pth ps k = x at g0 g1
      obtain ⟨x, y⟩ := x
      have HX := Lib.hid hx
      clear hx hcell
      go_wp2_with fail
      refine (toSealP_any x y _).mono ?_
      rintro e w1 ⟨rfl, hb1⟩
      have hrow1 := hrow.of_block (hb1.block _ hrow.lt)
      have E1 := bel_trans hb hb1
      clear hrow hb g0 g1
      have c0 := hrow1.cell (i := k * 2) (by omega)
      have c1 := hrow1.cell (i := k * 2 + 1) (by omega)
      have fr := hrow1.frozen
      have HS := Lib.hid (uptoP_succ hrow1 HX.out)
      have HB := Lib.hid ((E1.setCell (p := ⟨w.heap.size, k * 2, none⟩) (Nat.le_refl _) (.int .i64 x)).setCell (p := ⟨w.heap.size, k * 2 + 1, none⟩) (Nat.le_refl _) (.int .i64 y))
      have hlt' : (k : Int) < (n : Int) := by omega
      go_wp2
      go_roundw
      case rel => exact ⟨k + 1, by omega, by go_num, HS.out, HB.out⟩
      case measure => simp [intOf]; omega
    · have hkn : k = n := by omega
      subst hkn
      have hz := HR.out.1
      go_wp2
      go_ret
      exact ⟨_, Nat.le_refl _, rfl, hz, upto_held hrow hz, hb⟩

set_option maxHeartbeats 400000 in
theorem eqSeals_same (A A' : Option Addr) (n cap cap' : Nat) (ps : List (Int × Int)) (w : World) (hm : n ≤ 1048576) (hr : Pairs w w.heap.size A n ps) (hr' : Pairs w w.heap.size A' n ps) :
    Calls Tryz.prog 33 #[.slice A n cap, .slice A' n cap'] w fun e w' => e = .returned (.bool true) ∧ Below w.heap.size w w' := by
  have HR := Lib.hid hr
  have HR' := Lib.hid hr'
  clear hr hr'
  go_enter Tryz.func33, Tryz.ntmps33
  go_wp2_with fail
  go_loopw [5] (fun i wr => ∃ k : Nat, k ≤ n ∧ i = .int .i64 k ∧ Below w.heap.size w wr) (fun i _ => n - (intOf i).toNat)
  case atStart => exact ⟨0, Nat.zero_le _, rfl, Below.refl _ _⟩
  case round =>
    obtain ⟨k, hk, rfl, hb⟩ := hrel
    by_cases hlt : k < n
    · obtain ⟨b, o, hA, hbB, hcell⟩ := HR.out.2 (by omega)
      obtain ⟨b', o', hA', hbB', hcell'⟩ := HR'.out.2 (by omega)
      subst hA hA'
      obtain ⟨g0, g1⟩ := hcell k hlt
      obtain ⟨h0, h1⟩ := hcell' k hlt
      have hz := hb.size
      have g0 := After.cell (w := wr) (a := ⟨b, o + k * 2, none⟩) (by simp; omega) ((hb.cell (p := ⟨b, o + k * 2, none⟩) hbB).trans g0)
      have g1 := After.cell (w := wr) (a := ⟨b, o + k * 2 + 1, none⟩) (by simp; omega) ((hb.cell (p := ⟨b, o + k * 2 + 1, none⟩) hbB).trans g1)
      have h0 := After.cell (w := wr) (a := ⟨b', o' + k * 2, none⟩) (by simp; omega) ((hb.cell (p := ⟨b', o' + k * 2, none⟩) hbB').trans h0)
      have h1 := After.cell (w := wr) (a := ⟨b', o' + k * 2 + 1, none⟩) (by simp; omega) ((hb.cell (p := ⟨b', o' + k * 2 + 1, none⟩) hbB').trans h1)
      generalize pth ps k = x at g0 g1 h0 h1
      obtain ⟨x, y⟩ := x
      have hlt' : (k : Int) < (n : Int) := by omega
      clear hcell hcell'
      go_wp2_with fail
      refine wp_region_after (by kernel_rfl) (by kernel_rfl) ?_
      repeat (first | go_big_quiet_step ((go_at_call 90; exact after_of (eqSealP_same x y _))) | quiet_step ((go_at_call 90; exact after_of (eqSealP_same x y _))))
      refine wpQuiet_nil ?_
      intro pw
      have E3 := bel_trans hb pw.bel
      go_wp2
      go_roundw
      case rel => exact ⟨k + 1, by omega, by go_num, E3⟩
      case measure => simp [intOf]; omega
    · go_wp2
      go_ret
      exact ⟨rfl, hb⟩

theorem Held.pairs {w : World} {g : Nat} {ps : List (Int × Int)} (h : Held w g ps) : Pairs w w.heap.size (some ⟨g, 0, none⟩) ps.length ps :=
  ⟨rfl, fun _ => ⟨g, 0, rfl, h.lt, fun i hi => ⟨by rw [Nat.zero_add]; exact h.at0 i hi, by rw [Nat.zero_add]; exact h.at1 i hi⟩⟩⟩

/-- Marked from k on. -/
def Marked (k : Int) (d : List (Int × Int)) : Prop := ∀ j, j < d.length → pth d j = (k + 2 * j, k + 2 * j + 1)

set_option maxHeartbeats 1000000 in
theorem mark_is (g n cap : Nat) (k : Int) (d : List (Int × Int)) (w : World) (hn : n ≤ 4194304) (hk0 : 0 ≤ k) (hk1 : k ≤ 100000000) (hl : d.length = n) (H : Held w g d) :
    Calls Tryz.prog 36 #[.slice (some ⟨g, 0, none⟩) n cap, .int .i64 k] w fun e w' => e = .returned (.int .i64 (k + 2 * n)) ∧ ∃ d', d'.length = n ∧ Marked k d' ∧ Held w' g d' ∧ w.grownBy w' (some g) := by
  have HH := Lib.hid H
  replace hl := Lib.hid hl
  clear H
  go_enter Tryz.func36, Tryz.ntmps36
  go_wp2_with fail
  go_loopw [1, 5] (fun kv iv wr => ∃ (i : Nat) (k' : Int) (d' : List (Int × Int)), i ≤ n ∧ k + 2 * i = k' ∧ iv = .int .i64 i ∧ kv = .int .i64 k' ∧ d'.length = n ∧ (∀ j, j < i → pth d' j = (k + 2 * j, k + 2 * j + 1)) ∧ Held wr g d' ∧ w.grownBy wr (some g)) (fun _ i _ => n - (intOf i).toNat)
  case atStart => exact ⟨0, k, d, Nat.zero_le _, by omega, rfl, rfl, hl.out, by omega, HH.out, grown_refl _ _⟩
  case round =>
    obtain ⟨i, k', d', hi, hk', rfl, rfl, hl', hm, hh, hg⟩ := hrel
    have hb : k' ≤ 200000000 := by omega
    have hb0 : 0 ≤ k' := by omega
    by_cases hlt : i < n
    · have hlt' : (i : Int) < (n : Int) := by omega
      have c0 := hh.at0 i (by omega)
      have c1 := hh.at1 i (by omega)
      have fr := hh.fr
      have HP := Lib.hid (hh.put i (k', k' + 1))
      have HG := Lib.hid (grown_set (grown_set hg (i * 2) (.int .i64 k')) (i * 2 + 1) (.int .i64 (k' + 1)))
      replace hl' := Lib.hid hl'
      replace hm := Lib.hid hm
      replace hk' := Lib.hid hk'
      clear hg hh
      go_wp2
      go_roundw
      case rel =>
        have e := hk'.out
        refine ⟨i + 1, k' + 1 + 1, d'.set i (k', k' + 1), by omega, by omega, by go_num, rfl, by simpa using hl'.out, fun j hj => ?_, HP.out, HG.out⟩
        by_cases e' : j = i
        · subst e'
          have : j < d'.length := by rw [hl'.out]; exact hlt
          simp [pth, this]
          omega
        · have := hm.out j (by omega)
          rw [← this]
          simp [pth, show ¬ i = j by omega]
      case measure => simp [intOf]; omega
    · obtain rfl : i = n := by omega
      replace hl' := Lib.hid hl'
      replace hm := Lib.hid hm
      replace hk' := Lib.hid hk'
      go_wp2
      go_ret
      exact ⟨by rw [hk'.out]; rfl, d', hl'.out, fun j hj => hm.out j (by rw [← hl'.out]; exact hj), hh, hg⟩
set_option maxHeartbeats 1000000 in
theorem held_is (g n cap : Nat) (k : Int) (d : List (Int × Int)) (w : World) (hn : n ≤ 4194304) (hk0 : 0 ≤ k) (hk1 : k ≤ 100000000) (hl : d.length = n) (hM : Marked k d) (H : Held w g d) :
    Calls Tryz.prog 107 #[.slice (some ⟨g, 0, none⟩) n cap, .int .i64 k] w fun e w' => e = .returned (.int .i64 (k + 2 * n)) ∧ w = w' := by
  have HH := Lib.hid H
  have HMK := Lib.hid hM
  replace hl := Lib.hid hl
  clear H hM
  go_enter Tryz.func107, Tryz.ntmps107
  go_wp2_with fail
  go_loopw [1, 5] (fun kv iv wr => ∃ (i : Nat) (k' : Int), i ≤ n ∧ k + 2 * i = k' ∧ iv = .int .i64 i ∧ kv = .int .i64 k' ∧ w = wr) (fun _ i _ => n - (intOf i).toNat)
  case atStart => exact ⟨0, k, Nat.zero_le _, by omega, rfl, rfl, rfl⟩
  case round =>
    obtain ⟨i, k', hi, hk', rfl, rfl, rfl⟩ := hrel
    have hb : k' ≤ 200000000 := by omega
    have hb0 : 0 ≤ k' := by omega
    by_cases hlt : i < n
    · have hlt' : (i : Int) < (n : Int) := by omega
      have c0 := HH.out.at0 i (by rw [hl.out]; exact hlt)
      have c1 := HH.out.at1 i (by rw [hl.out]; exact hlt)
      rw [HMK.out i (by rw [hl.out]; exact hlt)] at c0 c1
      simp only [hk'] at c0 c1
      replace hk' := Lib.hid hk'
      go_wp2
      go_roundw
      case rel => exact ⟨i + 1, k' + 1 + 1, by omega, by have := hk'.out; omega, by go_num, rfl, trivial⟩
      case measure => simp [intOf]; omega
    · obtain rfl : i = n := by omega
      replace hk' := Lib.hid hk'
      go_wp2
      go_ret
      exact ⟨by rw [hk'.out]; rfl, rfl⟩
theorem mark_nil (k : Int) (w : World) : Calls Tryz.prog 36 #[.slice none 0 0, .int .i64 k] w fun e w' => e = .returned (.int .i64 k) ∧ w = w' := by
  go_enter Tryz.func36, Tryz.ntmps36
  go_wp2_with fail
  go_loopw [1, 5] (fun kv iv wr => iv = .int .i64 0 ∧ kv = .int .i64 k ∧ w = wr) (fun _ _ _ => 0)
  case atStart => exact ⟨rfl, rfl, rfl⟩
  case round =>
    obtain ⟨rfl, rfl, rfl⟩ := hrel
    go_wp2
    go_ret
    exact ⟨rfl, rfl⟩
theorem held_nil (k : Int) (w : World) : Calls Tryz.prog 107 #[.slice none 0 0, .int .i64 k] w fun e w' => e = .returned (.int .i64 k) ∧ w = w' := by
  go_enter Tryz.func107, Tryz.ntmps107
  go_wp2_with fail
  go_loopw [1, 5] (fun kv iv wr => iv = .int .i64 0 ∧ kv = .int .i64 k ∧ w = wr) (fun _ _ _ => 0)
  case atStart => exact ⟨rfl, rfl, rfl⟩
  case round =>
    obtain ⟨rfl, rfl, rfl⟩ := hrel
    go_wp2
    go_ret
    exact ⟨rfl, rfl⟩

end Go.Proofs.YtjdepjpjjgkmbaaGreat

/- What the model's draws of chapter 1 leave: contracts of each function of l01_draw.go that the laws reach. -/
namespace Go.Proofs.YtjdepjpjjgkmbaaGreat
open Go.RowKit

end Go.Proofs.YtjdepjpjjgkmbaaGreat

/- What the model's draws of stamps leave: a stamp, two of them, a stamp and a number, a list of stamps; the cursor, or the bytes, can be read. -/
namespace Go.Proofs.YtjdepjpjjgkmbaaGreat
open Go.RowKit

end Go.Proofs.YtjdepjpjjgkmbaaGreat

/- A variable made ahead of a call whose contract speaks of a world: what is known then; no conditions. -/
namespace Go.Proofs.YtjdepjpjjgkmbaaGreat
open Go.RowKit

end Go.Proofs.YtjdepjpjjgkmbaaGreat

/- What the model's draws of claims leave: a claim, and the cursor further on; the cursor is a right one. -/
namespace Go.Proofs.YtjdepjpjjgkmbaaGreat
open Go.RowKit

end Go.Proofs.YtjdepjpjjgkmbaaGreat

/- What the model's draws out of the code leave, chapter 2: two stamps, a stamp and a client, a list of stamps; the bytes can be read. -/
namespace Go.Proofs.YtjdepjpjjgkmbaaGreat
open Go.RowKit

/-- The cells of a list of pairs. -/
def flatP (ps : List (Int × Int)) : List Value := ps.flatMap fun p => [.int .i64 p.1, .int .i64 p.2]
theorem flatP_len (ps : List (Int × Int)) : (flatP ps).length = ps.length * 2 := by
  induction ps with
  | nil => rfl
  | cons p ps ih => show (flatP ps).length + 1 + 1 = _; rw [ih, List.length_cons]; omega
theorem flatP_snoc (ps : List (Int × Int)) (x y : Int) : flatP (ps ++ [(x, y)]) = flatP ps ++ [.int .i64 x, .int .i64 y] := by simp [flatP]
theorem flatP_at {ps : List (Int × Int)} {i : Nat} (h : i < ps.length) : (flatP ps)[i * 2]? = some (.int .i64 (pth ps i).1) ∧ (flatP ps)[i * 2 + 1]? = some (.int .i64 (pth ps i).2) := by
  induction ps generalizing i with
  | nil => simp at h
  | cons p ps ih =>
    have e : flatP (p :: ps) = .int .i64 p.1 :: .int .i64 p.2 :: flatP ps := rfl
    rcases i with _ | i
    · exact ⟨rfl, rfl⟩
    · have := ih (i := i) (by simpa using h)
      rw [e, show (i + 1) * 2 = i * 2 + 1 + 1 by omega]
      simp only [List.getElem?_cons_succ]
      have ep : pth (p :: ps) (i + 1) = pth ps i := by simp [pth]
      rw [ep]
      exact this
theorem own_pairs {w : World} {base : Nat} {e : TypeId} {q cap : Nat} {ps : List (Int × Int)} (h : w.ownsRow base e 2 (.slice (some ⟨q, 0, none⟩) ps.length cap) ps.length (flatP ps)) : Pairs w w.heap.size (some ⟨q, 0, none⟩) ps.length ps := by
  refine ⟨rfl, fun _ => ⟨q, 0, rfl, (h.lt q rfl).2, fun i hi => ?_⟩⟩
  rw [Nat.zero_add, h.cellAt (i * 2) (by omega), h.cellAt (i * 2 + 1) (by omega)]
  exact flatP_at hi

end Go.Proofs.YtjdepjpjjgkmbaaGreat

/- The cells of a list of pairs, one behind the other; no conditions. -/
namespace Go.Proofs.YtjdepjpjjgkmbaaGreat
open Go.RowKit

theorem Tryz.infoSealI : (Tryz.prog.info? 136).map (fun i => (i.zero, i.size, i.bytes)) = some (some (.agg #[.int .i64 0, .int .i64 0]), 2, 16) := by kernel_rfl

/-- The cells of a slice of pairs. -/
theorem pairs_news {w : World} {B : Nat} {b o n : Nat} {ps : List (Int × Int)} (h : Pairs w B (some ⟨b, o, none⟩) n ps) : ∀ j u, (flatP ps)[j]? = some u → w.cell? ((⟨b, o, none⟩ : Addr).add j) = some u := by
  intro j u hu
  have hj : j < ps.length * 2 := by
    rw [← flatP_len]
    rcases Nat.lt_or_ge j (flatP ps).length with h' | h'
    · exact h'
    · rw [List.getElem?_eq_none h'] at hu; cases hu
  rw [h.1] at hj
  obtain ⟨b', o', hA, _, hc⟩ := h.2 (by omega)
  cases hA
  rw [show (⟨b, o, none⟩ : Addr).add j = ⟨b, o + j, none⟩ by unfold Addr.add; split <;> simp_all]
  have h2 : j % 2 = 0 ∨ j % 2 = 1 := by omega
  rcases h2 with h2 | h2
  · obtain ⟨k, rfl⟩ : ∃ k, j = k * 2 := ⟨j / 2, by omega⟩
    rw [(hc k (by omega)).1]
    rw [(flatP_at (by rw [h.1]; omega)).1] at hu
    exact hu
  · obtain ⟨k, rfl⟩ : ∃ k, j = k * 2 + 1 := ⟨j / 2, by omega⟩
    rw [← Nat.add_assoc, (hc k (by omega)).2]
    rw [(flatP_at (by rw [h.1]; omega)).2] at hu
    exact hu
theorem flatP_one (ps : List (Int × Int)) : ∀ u ∈ flatP ps, u.oneCell' = true := by
  intro u hu
  simp only [flatP, List.mem_flatMap] at hu
  obtain ⟨p, _, hp⟩ := hu
  simp only [List.mem_cons, List.not_mem_nil, or_false] at hp
  rcases hp with rfl | rfl <;> rfl
theorem flatP_app (a b : List (Int × Int)) : flatP (a ++ b) = flatP a ++ flatP b := by simp [flatP]

end Go.Proofs.YtjdepjpjjgkmbaaGreat

/- Words of chapter 7: slices of opens (four numbers each), the open of a client, putting an open to its place; no conditions. -/
namespace Go.Proofs.YtjdepjpjjgkmbaaGreat
open Go.RowKit

/-- An open: its client, its stamp's count and client, its value. -/
abbrev Opn := Int × Int × Int × Int
/-- The open at place i. -/
def oth (os : List Opn) (i : Nat) : Opn := os.getD i (0, 0, 0, 0)
theorem oth_lt {os : List Opn} {i : Nat} (h : i < os.length) : oth os i = os[i] := by simp [oth, h]

/-- The slice of n opens at A holds os, in blocks below B. -/
def Quads (w : World) (B : Nat) (A : Option Addr) (n : Nat) (os : List Opn) : Prop :=
  os.length = n ∧ (0 < n → ∃ b o, A = some ⟨b, o, none⟩ ∧ b < B ∧ ∀ i, i < n → w.cell? ⟨b, o + i * 4, none⟩ = some (.int .i64 (oth os i).1) ∧ w.cell? ⟨b, o + i * 4 + 1, none⟩ = some (.int .i64 (oth os i).2.1) ∧ w.cell? ⟨b, o + i * 4 + 2, none⟩ = some (.int .i64 (oth os i).2.2.1) ∧ w.cell? ⟨b, o + i * 4 + 3, none⟩ = some (.int .i64 (oth os i).2.2.2))
theorem Quads.keep {w w' : World} {B : Nat} {A : Option Addr} {n : Nat} {os : List Opn} (h : Quads w B A n os) (hk : ∀ p : Addr, p.block < B → w'.cell? p = w.cell? p) : Quads w' B A n os := by
  refine ⟨h.1, fun hn => ?_⟩
  obtain ⟨b, o, hA, hb, hc⟩ := h.2 hn
  exact ⟨b, o, hA, hb, fun i hi => ⟨(hk ⟨b, o + i * 4, none⟩ hb).trans (hc i hi).1, (hk ⟨b, o + i * 4 + 1, none⟩ hb).trans (hc i hi).2.1, (hk ⟨b, o + i * 4 + 2, none⟩ hb).trans (hc i hi).2.2.1, (hk ⟨b, o + i * 4 + 3, none⟩ hb).trans (hc i hi).2.2.2⟩⟩
theorem Quads.below {w w' : World} {B C : Nat} {A : Option Addr} {n : Nat} {os : List Opn} (h : Quads w B A n os) (hb : Below C w w') (hBC : B ≤ C) : Quads w' B A n os :=
  h.keep fun _ hp => hb.cell (Nat.lt_of_lt_of_le hp hBC)
theorem Quads.more {w : World} {B C : Nat} {A : Option Addr} {n : Nat} {os : List Opn} (h : Quads w B A n os) (hBC : B ≤ C) : Quads w C A n os := by
  refine ⟨h.1, fun hn => ?_⟩
  obtain ⟨b, o, hA, hb, hc⟩ := h.2 hn
  exact ⟨b, o, hA, by omega, hc⟩
theorem Quads.later {w w' : World} {A : Option Addr} {n : Nat} {os : List Opn} (h : Quads w w.heap.size A n os) (hb : Below w.heap.size w w') : Quads w' w'.heap.size A n os :=
  (h.below hb (Nat.le_refl _)).more hb.size
theorem quads_nil (w : World) (B : Nat) (A : Option Addr) : Quads w B A 0 [] := ⟨rfl, fun h => absurd h (by omega)⟩

theorem Box.four {w : World} {g : Nat} {t : TypeId} {v0 v1 v2 v3 : Value} (h : Box w g t #[v0, v1, v2, v3]) :
    w.cell? ⟨g, 0, none⟩ = some v0 ∧ w.cell? ⟨g, 1, none⟩ = some v1 ∧ w.cell? ⟨g, 2, none⟩ = some v2 ∧ w.cell? ⟨g, 3, none⟩ = some v3 := ⟨h.cell 0, h.cell 1, h.cell 2, h.cell 3⟩

/-- The cells of opens. -/
def flatO (os : List Opn) : List Value := os.flatMap fun o => [.int .i64 o.1, .int .i64 o.2.1, .int .i64 o.2.2.1, .int .i64 o.2.2.2]
theorem flatO_len (os : List Opn) : (flatO os).length = os.length * 4 := by
  induction os with
  | nil => rfl
  | cons o os ih => show (flatO os).length + 1 + 1 + 1 + 1 = _; rw [ih, List.length_cons]; omega
theorem flatO_snoc (os : List Opn) (a b c d : Int) : flatO (os ++ [(a, b, c, d)]) = flatO os ++ [.int .i64 a, .int .i64 b, .int .i64 c, .int .i64 d] := by simp [flatO]
theorem flatO_app (a b : List Opn) : flatO (a ++ b) = flatO a ++ flatO b := by simp [flatO]
theorem flatO_at {os : List Opn} {i : Nat} (h : i < os.length) : (flatO os)[i * 4]? = some (.int .i64 (oth os i).1) ∧ (flatO os)[i * 4 + 1]? = some (.int .i64 (oth os i).2.1) ∧ (flatO os)[i * 4 + 2]? = some (.int .i64 (oth os i).2.2.1) ∧ (flatO os)[i * 4 + 3]? = some (.int .i64 (oth os i).2.2.2) := by
  induction os generalizing i with
  | nil => simp at h
  | cons p os ih =>
    have e : flatO (p :: os) = .int .i64 p.1 :: .int .i64 p.2.1 :: .int .i64 p.2.2.1 :: .int .i64 p.2.2.2 :: flatO os := rfl
    rcases i with _ | i
    · exact ⟨rfl, rfl, rfl, rfl⟩
    · have := ih (i := i) (by simpa using h)
      rw [e, show (i + 1) * 4 = i * 4 + 1 + 1 + 1 + 1 by omega, show i * 4 + 1 + 1 + 1 + 1 + 1 = (i * 4 + 1) + 1 + 1 + 1 + 1 by omega, show i * 4 + 1 + 1 + 1 + 1 + 2 = (i * 4 + 2) + 1 + 1 + 1 + 1 by omega, show i * 4 + 1 + 1 + 1 + 1 + 3 = (i * 4 + 3) + 1 + 1 + 1 + 1 by omega]
      simp only [List.getElem?_cons_succ]
      have ep : oth (p :: os) (i + 1) = oth os i := by simp [oth]
      rw [ep]
      exact this
theorem flatO_one (os : List Opn) : ∀ u ∈ flatO os, u.oneCell' = true := by
  intro u hu
  unfold flatO at hu
  rw [List.mem_flatMap] at hu
  obtain ⟨p, _, hp⟩ := hu
  simp only [List.mem_cons, List.mem_nil_iff, or_false] at hp
  rcases hp with rfl | rfl | rfl | rfl <;> rfl
theorem quads_news {w : World} {B : Nat} {b o n : Nat} {os : List Opn} (h : Quads w B (some ⟨b, o, none⟩) n os) : ∀ j u, (flatO os)[j]? = some u → w.cell? ((⟨b, o, none⟩ : Addr).add j) = some u := by
  intro j u hu
  have hj : j < os.length * 4 := by
    rw [← flatO_len]
    exact (List.getElem?_eq_some_iff.1 hu).1
  have hi : j / 4 < os.length := by omega
  obtain ⟨b', o', hA, _, hc⟩ := h.2 (by have := h.1; omega)
  cases hA
  obtain ⟨c0, c1, c2, c3⟩ := hc (j / 4) (by have := h.1; omega)
  obtain ⟨f0, f1, f2, f3⟩ := flatO_at hi
  rw [show (⟨b, o, none⟩ : Addr).add j = ⟨b, o + j, none⟩ by unfold Addr.add; split <;> simp_all]
  have hcase : j = j / 4 * 4 ∨ j = j / 4 * 4 + 1 ∨ j = j / 4 * 4 + 2 ∨ j = j / 4 * 4 + 3 := by omega
  generalize hq : j / 4 = q at *
  rcases hcase with e | e | e | e
  · rw [e] at hu ⊢; rw [c0, ← f0, hu]
  · rw [e] at hu ⊢; rw [← Nat.add_assoc, c1, ← f1, hu]
  · rw [e] at hu ⊢; rw [← Nat.add_assoc, c2, ← f2, hu]
  · rw [e] at hu ⊢; rw [← Nat.add_assoc, c3, ← f3, hu]
theorem own_quads {w : World} {base : Nat} {e : TypeId} {q cap : Nat} {os : List Opn} (h : w.ownsRow base e 4 (.slice (some ⟨q, 0, none⟩) os.length cap) os.length (flatO os)) : Quads w w.heap.size (some ⟨q, 0, none⟩) os.length os := by
  refine ⟨rfl, fun _ => ⟨q, 0, rfl, (h.lt q rfl).2, fun i hi => ?_⟩⟩
  rw [Nat.zero_add, h.cellAt (i * 4) (by omega), h.cellAt (i * 4 + 1) (by omega), h.cellAt (i * 4 + 2) (by omega), h.cellAt (i * 4 + 3) (by omega)]
  exact flatO_at hi

/-- The block g holds these opens, from its beginning, and can be written. -/
structure HeldQ (w : World) (g : Nat) (d : List Opn) : Prop where
  lt : g < w.heap.size
  fr : ∀ o, w.frozen? ⟨g, o, none⟩ = false
  cs : ∀ i, i < d.length → w.cell? ⟨g, i * 4, none⟩ = some (.int .i64 (oth d i).1) ∧ w.cell? ⟨g, i * 4 + 1, none⟩ = some (.int .i64 (oth d i).2.1) ∧ w.cell? ⟨g, i * 4 + 2, none⟩ = some (.int .i64 (oth d i).2.2.1) ∧ w.cell? ⟨g, i * 4 + 3, none⟩ = some (.int .i64 (oth d i).2.2.2)
theorem HeldQ.keep {w w' : World} {g : Nat} {d : List Opn} (h : HeldQ w g d) (hl : g < w'.heap.size) (hf : ∀ o, w'.frozen? ⟨g, o, none⟩ = w.frozen? ⟨g, o, none⟩) (hc : ∀ o, w'.cell? ⟨g, o, none⟩ = w.cell? ⟨g, o, none⟩) : HeldQ w' g d :=
  ⟨hl, fun o => (hf o).trans (h.fr o), fun i hi => ⟨(hc _).trans (h.cs i hi).1, (hc _).trans (h.cs i hi).2.1, (hc _).trans (h.cs i hi).2.2.1, (hc _).trans (h.cs i hi).2.2.2⟩⟩
theorem HeldQ.later {w w' : World} {g : Nat} {d : List Opn} (h : HeldQ w g d) (hb : Below w.heap.size w w') : HeldQ w' g d :=
  h.keep (Nat.lt_of_lt_of_le h.lt hb.size) (fun o => hb.frozen (p := ⟨g, o, none⟩) h.lt) (fun o => hb.cell (p := ⟨g, o, none⟩) h.lt)
theorem HeldQ.kept {w w' : World} {g : Nat} {d : List Opn} {r : Option Nat} (h : HeldQ w g d) (hg : w.grownBy w' r) (hne : r ≠ some g) : HeldQ w' g d :=
  h.keep (Nat.lt_of_lt_of_le h.lt hg.size) (fun o => hg.frozen_far ⟨g, o, none⟩ h.lt (fun e => hne e.symm)) (fun o => hg.cell_far ⟨g, o, none⟩ h.lt (fun e => hne e.symm))
theorem HeldQ.quads {w : World} {g : Nat} {os : List Opn} (h : HeldQ w g os) : Quads w w.heap.size (some ⟨g, 0, none⟩) os.length os :=
  ⟨rfl, fun _ => ⟨g, 0, rfl, h.lt, fun i hi => by rw [Nat.zero_add]; exact h.cs i hi⟩⟩
theorem own_heldQ {w : World} {base : Nat} {e : TypeId} {q cap : Nat} {os : List Opn} (h : w.ownsRow base e 4 (.slice (some ⟨q, 0, none⟩) os.length cap) os.length (flatO os)) : HeldQ w q os := by
  refine ⟨(h.lt q rfl).2, fun o => ?_, fun i hi => ?_⟩
  · rcases h.2 with ⟨h', _⟩ | ⟨g', cap', cur, h', _, hg, _⟩
    · simp at h'
    · simp only [Value.slice.injEq, Option.some.injEq, Addr.mk.injEq, and_true, true_and] at h'
      obtain ⟨rfl, rfl⟩ := h'
      simp [World.frozen?, hg]
  · rw [h.cellAt (i * 4) (by omega), h.cellAt (i * 4 + 1) (by omega), h.cellAt (i * 4 + 2) (by omega), h.cellAt (i * 4 + 3) (by omega)]
    exact flatO_at hi
theorem HeldQ.put {w : World} {g : Nat} {d : List Opn} (h : HeldQ w g d) (i : Nat) (x : Opn) :
    HeldQ ((((w.setCell ⟨g, i * 4, none⟩ (.int .i64 x.1)).setCell ⟨g, i * 4 + 1, none⟩ (.int .i64 x.2.1)).setCell ⟨g, i * 4 + 2, none⟩ (.int .i64 x.2.2.1)).setCell ⟨g, i * 4 + 3, none⟩ (.int .i64 x.2.2.2)) g (d.set i x) := by
  refine ⟨by simp only [size_set]; exact h.lt, fun o => by simp only [World.frozen?_setCell]; exact h.fr o, fun j hj => ?_⟩
  rw [List.length_set] at hj
  obtain ⟨c0, c1, c2, c3⟩ := h.cs j hj
  by_cases e : j = i
  · subst e
    have ex : oth (d.set j x) j = x := by simp [oth, hj]
    rw [ex]
    refine ⟨?_, ?_, ?_, ?_⟩
    · rw [cell_set1 (cell_set1 (cell_set1 (cell_set1 c0)))]; simp
    · rw [cell_set1 (cell_set1 (cell_set1 (cell_set1 c1)))]; simp
    · rw [cell_set1 (cell_set1 (cell_set1 (cell_set1 c2)))]; simp
    · rw [cell_set1 (cell_set1 (cell_set1 (cell_set1 c3)))]; simp
  · have ex : oth (d.set i x) j = oth d j := by simp [oth, show ¬ i = j from fun h => e h.symm]
    rw [ex]
    refine ⟨?_, ?_, ?_, ?_⟩
    · rw [cell_set1 (cell_set1 (cell_set1 (cell_set1 c0))), if_neg (by omega), if_neg (by omega), if_neg (by omega), if_neg (by omega)]
    · rw [cell_set1 (cell_set1 (cell_set1 (cell_set1 c1))), if_neg (by omega), if_neg (by omega), if_neg (by omega), if_neg (by omega)]
    · rw [cell_set1 (cell_set1 (cell_set1 (cell_set1 c2))), if_neg (by omega), if_neg (by omega), if_neg (by omega), if_neg (by omega)]
    · rw [cell_set1 (cell_set1 (cell_set1 (cell_set1 c3))), if_neg (by omega), if_neg (by omega), if_neg (by omega), if_neg (by omega)]

/-- A part of a slice of opens. -/
theorem Quads.take {w : World} {B : Nat} {b o n k : Nat} {os : List Opn} (h : Quads w B (some ⟨b, o, none⟩) n os) (hk : k ≤ n) : Quads w B (some ⟨b, o, none⟩) k (os.take k) := by
  refine ⟨by rw [List.length_take, h.1]; omega, fun hpos => ?_⟩
  obtain ⟨b', o', hA, hb, hc⟩ := h.2 (by omega)
  cases hA
  refine ⟨b, o, rfl, hb, fun i hi => ?_⟩
  have e : oth (os.take k) i = oth os i := by simp [oth, hi]
  rw [e]
  exact hc i (by omega)
theorem Quads.drop {w : World} {B : Nat} {b o n k : Nat} {os : List Opn} (h : Quads w B (some ⟨b, o, none⟩) n os) (hk : k ≤ n) : Quads w B (some ⟨b, o + k * 4, none⟩) (n - k) (os.drop k) := by
  refine ⟨by rw [List.length_drop, h.1], fun hpos => ?_⟩
  obtain ⟨b', o', hA, hb, hc⟩ := h.2 (by omega)
  cases hA
  refine ⟨b, o + k * 4, rfl, hb, fun i hi => ?_⟩
  have e : oth (os.drop k) i = oth os (k + i) := by simp [oth, List.getElem?_drop]
  rw [e]
  have := hc (k + i) (by omega)
  rw [show o + (k + i) * 4 = o + k * 4 + i * 4 by omega] at this
  exact this

/-- The place behind the last open of a lesser client. -/
def behS (c : Int) (s : Nat × Nat) (o : Opn) : Nat × Nat := (s.1 + 1, if o.1 < c then s.1 + 1 else s.2)
def behN (c : Int) (os : List Opn) : Nat := (os.foldl (behS c) (0, 0)).2
theorem beh_fst (c : Int) (os : List Opn) (s : Nat × Nat) : (os.foldl (behS c) s).1 = s.1 + os.length := by
  induction os generalizing s with
  | nil => rfl
  | cons o os ih => rw [List.foldl_cons, ih, List.length_cons]; simp only [behS]; omega
theorem behN_snoc {c : Int} {os : List Opn} {k : Nat} (h : k < os.length) : behN c (os.take (k + 1)) = if (oth os k).1 < c then k + 1 else behN c (os.take k) := by
  rw [List.take_succ_eq_append_getElem h, ← oth_lt h]
  unfold behN
  rw [List.foldl_append, List.foldl_cons, List.foldl_nil]
  have := beh_fst c (os.take k) (0, 0)
  simp only [behS, this, List.length_take]
  split
  · omega
  · rfl
theorem behN_le (c : Int) (os : List Opn) : behN c os ≤ os.length := by
  have key : ∀ k, k ≤ os.length → behN c (os.take k) ≤ k := by
    intro k
    induction k with
    | zero => intro _; rw [List.take_zero]; exact Nat.le_refl _
    | succ k ih =>
      intro hk
      rw [behN_snoc (by omega)]
      split
      · omega
      · have := ih (by omega); omega
  have := key os.length (Nat.le_refl _)
  rwa [List.take_length] at this
/-- Where the first open of a client stands, or that there is none. -/
def firstAt (c : Int) (os : List Opn) (i : Nat) : Prop := i < os.length ∧ (oth os i).1 = c ∧ ∀ j, j < i → (oth os j).1 ≠ c
def noneAt (c : Int) (os : List Opn) : Prop := ∀ j, j < os.length → (oth os j).1 ≠ c
/-- The opens with one more, in its place. -/
def putO (os : List Opn) (i j : Nat) (o : Opn) : List Opn := os.take i ++ [o] ++ os.drop j
theorem putO_len {os : List Opn} {i j : Nat} {o : Opn} (hi : i ≤ os.length) (hj : j ≤ os.length) : (putO os i j o).length = i + 1 + (os.length - j) := by
  simp [putO]; omega
theorem first_cases (c : Int) (os : List Opn) : (∃ i, firstAt c os i) ∨ noneAt c os := by
  by_cases h : ∃ j, j < os.length ∧ (oth os j).1 = c
  · left
    have hf : ∀ n, (∃ j, j < n ∧ j < os.length ∧ (oth os j).1 = c) → ∃ i, firstAt c os i := by
      intro n
      induction n with
      | zero => rintro ⟨j, hj, _⟩; omega
      | succ n ih =>
        rintro ⟨j, hj, h1, h2⟩
        by_cases hn : ∃ j, j < n ∧ j < os.length ∧ (oth os j).1 = c
        · exact ih hn
        · by_cases e : j = n
          · subst e
            exact ⟨j, h1, h2, fun m hm hc => hn ⟨m, hm, by omega, hc⟩⟩
          · exact absurd ⟨j, by omega, h1, h2⟩ hn
    obtain ⟨j, h1, h2⟩ := h
    exact hf (j + 1) ⟨j, by omega, h1, h2⟩
  · right
    intro j hj hc
    exact h ⟨j, hj, hc⟩
/-- What WithOpen puts together. -/
def withO (os : List Opn) (o : Opn) : List Opn :=
  match os.findIdx? (fun x => x.1 == o.1) with
  | some i => putO os i (i + 1) o
  | none => putO os (behN o.1 os) (behN o.1 os) o
theorem withO_first {os : List Opn} {o : Opn} {i : Nat} (h : firstAt o.1 os i) : withO os o = putO os i (i + 1) o := by
  have e : os.findIdx? (fun x => x.1 == o.1) = some i := by
    rw [List.findIdx?_eq_some_iff_getElem]
    refine ⟨h.1, by have := h.2.1; rw [oth_lt h.1] at this; simp [this], fun j hj => ?_⟩
    have hj' : j < os.length := Nat.lt_trans hj h.1
    have := h.2.2 j hj
    rw [oth_lt hj'] at this
    simpa using this
  unfold withO
  rw [e]
theorem withO_none {os : List Opn} {o : Opn} (h : noneAt o.1 os) : withO os o = putO os (behN o.1 os) (behN o.1 os) o := by
  have e : os.findIdx? (fun x => x.1 == o.1) = none := by
    rw [List.findIdx?_eq_none_iff]
    intro x hx
    obtain ⟨j, hj, rfl⟩ := List.getElem_of_mem hx
    have := h j hj
    rw [oth_lt hj] at this
    simpa using this
  unfold withO
  rw [e]
theorem withO_len (os : List Opn) (o : Opn) : (withO os o).length ≤ os.length + 1 ∧ 1 ≤ (withO os o).length := by
  rcases first_cases o.1 os with ⟨i, h⟩ | h
  · rw [withO_first h, putO_len (by have := h.1; omega) (by have := h.1; omega)]; have := h.1; omega
  · rw [withO_none h, putO_len (behN_le _ _) (behN_le _ _)]; have := behN_le o.1 os; omega

end Go.Proofs.YtjdepjpjjgkmbaaGreat

/- The opens of a shelf: where the one of a client stands, and which it is (the program's and the model's): contracts of each of them. -/
namespace Go.Proofs.YtjdepjpjjgkmbaaGreat
open Go.RowKit

/-- What placeOf answers. -/
def Place (c : Int) (os : List Opn) (w : World) (e : Ending) (w' : World) : Prop :=
  Below w.heap.size w w' ∧ ((∃ i : Nat, firstAt c os i ∧ e = .returned (.tuple #[.int .i64 (i : Int), .int .i64 ((i : Int) + 1)])) ∨ (noneAt c os ∧ e = .returned (.tuple #[.int .i64 (behN c os : Int), .int .i64 (behN c os : Int)])))

set_option maxHeartbeats 1000000 in
theorem placeOf_is (A : Option Addr) (n cap : Nat) (os : List Opn) (c : Int) (w : World) (hm : n ≤ 4194304) (hr : Quads w w.heap.size A n os) :
    Calls Tryz.prog 113 #[.slice A n cap, .int .i64 c] w (Place c os w) := by
  have HR := Lib.hid hr
  have HL := Lib.hid hr.1
  clear hr
  go_enter Tryz.func113, Tryz.ntmps113
  go_wp2_with fail
  go_loopw [6, 11] (fun bv iv wr => ∃ k b : Nat, k ≤ n ∧ b ≤ k ∧ iv = .int .i64 k ∧ bv = .int .i64 b ∧ behN c (os.take k) = b ∧ (∀ j, j < k → (oth os j).1 ≠ c) ∧ Below w.heap.size w wr) (fun _ i _ => n - (intOf i).toNat)
  case atStart => exact ⟨0, 0, Nat.zero_le _, Nat.le_refl _, rfl, rfl, rfl, fun j hj => absurd hj (by omega), Below.refl _ _⟩
  case round =>
    obtain ⟨k, bb, hk, hbk, rfl, rfl, hbe, hne, hb⟩ := hrel
    by_cases hlt : k < n
    · obtain ⟨b, o, hA, hbB, hcell⟩ := HR.out.2 (by omega)
      subst hA
      obtain ⟨g0, g1, g2, g3⟩ := hcell k hlt
      have g0 := (hb.cell (p := ⟨b, o + k * 4, none⟩) hbB).trans g0
      have g1 := (hb.cell (p := ⟨b, o + k * 4 + 1, none⟩) hbB).trans g1
      have g2 := (hb.cell (p := ⟨b, o + k * 4 + 2, none⟩) hbB).trans g2
      have g3 := (hb.cell (p := ⟨b, o + k * 4 + 3, none⟩) hbB).trans g3
      have hsn := behN_snoc (c := c) (os := os) (k := k) (by rw [HL.out]; exact hlt)
      generalize hx : oth os k = x at g0 g1 g2 g3 hsn
      obtain ⟨x, y, z, u⟩ := x
      have HX := Lib.hid hx
      have hlt' : (k : Int) < (n : Int) := by omega
      rw [hbe] at hsn
      replace hbe := Lib.hid hbe
      replace hne := Lib.hid hne
      have E2 := bel_trans hb (bel_alloc wr (.cells #[.int .i64 x, .int .i64 y, .int .i64 z, .int .i64 u] 97))
      clear hx hcell
      by_cases he : x = c
      · subst he
        clear hsn
        go_wp2
        go_ret2
        exact ⟨E2, .inl ⟨k, ⟨by rw [HL.out]; exact hlt, by rw [HX.out], hne.out⟩, rfl⟩⟩
      · have he' : (x == c) = false := by simpa using he
        have hne2 := Lib.hid (show ∀ j, j < k + 1 → (oth os j).1 ≠ c from fun j hj => by
          by_cases ej : j = k
          · subst ej; rw [HX.out]; exact he
          · exact hne.out j (by omega))
        by_cases hl : x < c
        · simp only [hl, if_true] at hsn
          replace hsn := Lib.hid hsn
          go_wp2
          go_roundw
          case rel => exact ⟨k + 1, k + 1, by omega, by omega, by go_num, by go_num, hsn.out, hne2.out, E2⟩
          case measure => simp [intOf]; omega
        · simp only [hl, if_false] at hsn
          replace hsn := Lib.hid hsn
          go_wp2
          go_roundw
          case rel => exact ⟨k + 1, bb, by omega, by omega, by go_num, rfl, hsn.out, hne2.out, E2⟩
          case measure => simp [intOf]; omega
    · obtain rfl : k = n := by omega
      rw [← HL.out, List.take_length] at hbe
      replace hbe := Lib.hid hbe
      replace hne := Lib.hid hne
      go_wp2
      go_ret2
      exact ⟨hb, .inr ⟨fun j hj => hne.out j (by rw [← HL.out]; exact hj), by rw [hbe.out]; rfl⟩⟩

end Go.Proofs.YtjdepjpjjgkmbaaGreat

/- The laws' own copies of opens and shelves, their size, the test that two are alike, their marks: contracts of each of them. -/
namespace Go.Proofs.YtjdepjpjjgkmbaaGreat
open Go.RowKit

theorem Tryz.infoOpen : (Tryz.prog.info? 97).map (fun i => (i.zero, i.size, i.bytes)) = some (some (.agg #[.int .i64 0, .int .i64 0, .int .i64 0, .int .i64 0]), 4, 32) := by kernel_rfl

theorem HeldK.far {w : World} {g : Nat} {d : List (Int × Int)} (h : Held w g d) {b : Nat} (hb : b ≠ g) (o : Nat) (v : Value) : Held (w.setCell ⟨b, o, none⟩ v) g d :=
  ⟨by rw [size_set]; exact h.lt, fun j => by simp [h.fr j], fun i hi => by rw [World.cell?_setCell_other _ _ _ _ (fun e => hb (by injection e))]; exact h.at0 i hi, fun i hi => by rw [World.cell?_setCell_other _ _ _ _ (fun e => hb (by injection e))]; exact h.at1 i hi⟩
theorem HeldQ.far {w : World} {g : Nat} {d : List Opn} (h : HeldQ w g d) {b : Nat} (hb : b ≠ g) (o : Nat) (v : Value) : HeldQ (w.setCell ⟨b, o, none⟩ v) g d :=
  h.keep (by rw [size_set]; exact h.lt) (fun j => by simp) (fun j => World.cell?_setCell_other _ _ _ _ (fun e => hb (by injection e)))

end Go.Proofs.YtjdepjpjjgkmbaaGreat

/- The library's stable sort over a slice of pairs, second part: comparing two pairs, sorting by insertion. -/
namespace Go.Proofs.YtjdepjpjjgkmbaaGreat
open Go.RowKit

/-- Two seals are compared by their first numbers. -/
theorem cmpSeal_any (a b c d : Int) (w : World) :
    Calls Tryz.prog 250 #[.agg #[.int .i64 a, .int .i64 b], .agg #[.int .i64 c, .int .i64 d]] w fun e w' => e = .returned (.int .i64 (sgn a c)) ∧ Below w.heap.size w w' := by
  have hb := bel_trans (bel_alloc w (.cells #[.int .i64 a, .int .i64 b] 136)) (bel_alloc _ (.cells #[.int .i64 c, .int .i64 d] 136))
  have D := ((Box.new w 136 #[.int .i64 a, .int .i64 b]).alloc (.cells #[.int .i64 c, .int .i64 d] 136)).two
  have X := (Box.new (w.alloc (.cells #[.int .i64 a, .int .i64 b] 136)) 136 #[.int .i64 c, .int .i64 d]).two
  simp only [World.size_alloc] at X
  obtain ⟨d0, _⟩ := D
  obtain ⟨x0, _⟩ := X
  go_enter Tryz.func250, Tryz.ntmps250
  go_wp2_with fail
  generalize ((w.alloc _).alloc _ : World) = w0 at hb d0 x0 ⊢
  refine (compare_any a c w0).mono ?_
  rintro e w' ⟨rfl, rfl⟩
  go_wp2
  go_ret
  exact ⟨rfl, hb⟩

theorem cmpSeal_is {a c s : Int} (h : sgn a c = s) (b d : Int) (w : World) :
    Calls Tryz.prog 250 #[.agg #[.int .i64 a, .int .i64 b], .agg #[.int .i64 c, .int .i64 d]] w fun e w' => e = .returned (.int .i64 s) ∧ Below w.heap.size w w' := by
  rw [← h]
  exact cmpSeal_any a b c d w

/-- Not smaller: 0 or 1. -/
theorem sgn_ge {a c : Int} (h : ¬ a < c) : sgn a c = if c < a then 1 else 0 := by simp [sgn, h]

theorem Srt.mid {Z1 Z2 : List (Int × Int)} {y : Int × Int} (h : Srt (Z1 ++ Z2)) (h1 : ∀ p ∈ Z1, p.1 ≤ y.1) (h2 : ∀ p ∈ Z2, y.1 < p.1) : Srt (Z1 ++ y :: Z2) := by
  have h' := List.pairwise_append.1 h
  refine List.pairwise_append.2 ⟨h'.1, List.pairwise_cons.2 ⟨fun p hp => Int.le_of_lt (h2 p hp), h'.2.1⟩, fun p hp q hq => ?_⟩
  rcases List.mem_cons.1 hq with e | e
  · rw [e]; exact h1 p hp
  · exact h'.2.2 p hp q e
theorem Same.mid {Z1 Z2 X1 : List (Int × Int)} {y : Int × Int} (h : Same (Z1 ++ Z2) X1) (h2 : ∀ p ∈ Z2, y.1 < p.1) : Same (Z1 ++ y :: Z2) (X1 ++ [y]) := by
  have e : Same (Z1 ++ ([y] ++ Z2)) (Z1 ++ (Z2 ++ [y])) := (Same.refl Z1).app (Same.swap fun p hp q hq => by
    simp only [List.mem_singleton] at hq
    have := h2 p hp
    rw [hq]
    omega)
  refine Same.trans e ?_
  rw [← List.append_assoc]
  exact h.app (Same.refl _)
theorem Srt.last {Z : List (Int × Int)} {z : Int × Int} (h : Srt (Z ++ [z])) : ∀ p ∈ Z ++ [z], p.1 ≤ z.1 := by
  have h' := List.pairwise_append.1 h
  intro p hp
  rcases List.mem_append.1 hp with e | e
  · exact h'.2.2 p e z (by simp)
  · simp only [List.mem_singleton] at e
    rw [e]
    exact Int.le_refl _

/-- What sorting leaves. -/
def Sorts (w : World) (g : Nat) (A X B : List (Int × Int)) (e : Ending) (w' : World) : Prop :=
  ∃ Z : List (Int × Int), Z.length = X.length ∧ Srt Z ∧ Same Z X ∧ Does w g (A ++ (Z ++ B)) e w'

set_option maxRecDepth 100000 in
set_option maxHeartbeats 800000 in
theorem insSort_is (g n cap : Nat) (ai bi : Int) (A X B : List (Int × Int)) (w : World) (hn : n ≤ 4194304) (hl : A.length + X.length + B.length = n)
    (hA : ai = (A.length : Int)) (hb : bi = ((A.length + X.length : Nat) : Int)) (H : Held w g (A ++ (X ++ B))) :
    Calls Tryz.prog 257 #[.slice (some ⟨g, 0, none⟩) n cap, .int .i64 ai, .int .i64 bi, (.func (Fn.func 250) #[] #[])] w (Sorts w g A X B) := by
  generalize hb' : A.length + X.length = b at hb
  generalize ha' : A.length = a at hA hb' hl
  subst hA hb
  rcases X with _ | ⟨x0, X0⟩
  · have hab : a = b := by simpa using hb'
    subst hab
    go_enter Tryz.func257, Tryz.ntmps257
    go_wp2_with fail
    go_loopw [8] (fun i wr => i = .int .i64 ((a : Int) + 1) ∧ wr = w) (fun i _ => 0)
    case atStart => exact ⟨rfl, rfl⟩
    case round =>
      obtain ⟨rfl, rfl⟩ := hrel
      go_wp2
      go_end0
      exact ⟨[], rfl, by simp [Srt], Same.refl _, rfl, H, grown_refl _ _⟩
  · have HH := Lib.hid H
    clear H
    go_enter Tryz.func257, Tryz.ntmps257
    go_wp2_with fail
    go_loopw [8] (fun i wr => ∃ (Z Y X1 : List (Int × Int)) (k : Nat), X1 ++ Y = x0 :: X0 ∧ Z.length = X1.length ∧ a + Z.length = k ∧ i = .int .i64 k ∧ Srt Z ∧ Same Z X1 ∧ Held wr g (A ++ (Z ++ (Y ++ B))) ∧ w.grownBy wr (some g)) (fun i _ => b - (intOf i).toNat)
    case atStart => exact ⟨[x0], X0, [x0], a + 1, rfl, rfl, rfl, by go_num, by simp [Srt], Same.refl _, HH.out, grown_refl _ _⟩
    case round =>
      obtain ⟨Z, Y, X1, k, hX, hZl, hk, rfl, hsrt, hsame, hh, hg⟩ := hrel
      have hXl := congrArg List.length hX
      simp only [List.length_append, List.length_cons] at hXl hb' hl
      rcases Y with _ | ⟨y, Y⟩
      · simp only [List.length_nil] at hXl
        have hkb : k = b := by omega
        subst hkb
        go_wp2
        go_end0
        refine ⟨Z, ?_, hsrt, ?_, rfl, ?_, hg⟩
        · simp; omega
        · rw [← hX]; simpa using hsame
        · simpa using hh
      · simp only [List.length_cons] at hXl
        have hkb : k < b := by omega
        have hkb' : (k : Int) < (b : Int) := by omega
        go_wp2_with fail
        go_loopw [9] (fun j wr => ∃ (Z1 Z2 : List (Int × Int)) (q : Nat), Z1 ++ Z2 = Z ∧ a + Z1.length = q ∧ j = .int .i64 q ∧ (∀ p ∈ Z2, y.1 < p.1) ∧ Held wr g (A ++ (Z1 ++ (y :: (Z2 ++ (Y ++ B))))) ∧ w.grownBy wr (some g)) (fun j _ => (intOf j).toNat)
        case atStart => exact ⟨Z, [], k, by simp, hk, rfl, by simp, by simpa using hh, hg⟩
        case round =>
          obtain ⟨Z1, Z2, q, hZ, hq, rfl, hZ2, hh2, hg2⟩ := hrel
          have hlen := congrArg List.length hZ
          simp only [List.length_append] at hlen
          rcases Z1.eq_nil_or_concat with rfl | ⟨Z3, z, rfl⟩
          · have hqa : q = a := by simpa using hq.symm
            subst hqa
            go_wp2_with fail
            refine wp_region_after (by kernel_rfl) (by kernel_rfl) ?_
            repeat (first | go_big_quiet_step (fail) | quiet_step (fail))
            refine wpQuiet_nil ?_
            intro pw
            go_wp2
            go_roundw
            case rel => exact ⟨y :: Z2, Y, X1 ++ [y], k + 1, by simpa using hX, by simp; omega, by simp; omega, by go_num, Srt.mid (Z1 := []) (by rw [hZ]; exact hsrt) (by simp) hZ2, Same.mid (Z1 := []) (by rw [hZ]; exact hsame) hZ2, by simpa using hh2.later pw.bel, grown_trans hg2 (grown_bel pw.bel _)⟩
            case measure => simp [intOf]; omega
          · rw [List.concat_eq_append] at hZ hq hh2 hlen
            simp only [List.length_append, List.length_singleton] at hq hlen
            obtain ⟨r, rfl⟩ : ∃ r, q = r + 1 := ⟨q - 1, by omega⟩
            generalize hd : (A ++ ((Z3 ++ [z]) ++ (y :: (Z2 ++ (Y ++ B))))) = d at hh2
            have hdl : d.length = n := by subst hd; simp only [List.length_append, List.length_cons, List.length_nil]; omega
            have hpz : pth d r = z := pth_at (P := A ++ Z3) (Q := y :: (Z2 ++ (Y ++ B))) (by rw [← hd]; simp) (by simp; omega)
            have hpy : pth d (r + 1) = y := pth_at (P := A ++ (Z3 ++ [z])) (Q := Z2 ++ (Y ++ B)) (by rw [← hd]; simp) (by simp; omega)
            have hrn : (r : Int) + 1 < n := by omega
            have hrn' : (r : Int) < n := by omega
            have har : (a : Int) < (r : Int) + 1 := by omega
            have c0 := hh2.at0 (r + 1) (by omega)
            have c1 := hh2.at1 (r + 1) (by omega)
            have c2 := hh2.at0 r (by omega)
            have c3 := hh2.at1 r (by omega)
            rw [hpy] at c0 c1
            rw [hpz] at c2 c3
            have g0 := After.cell (by exact hh2.lt) c0
            have g1 := After.cell (by exact hh2.lt) c1
            have g2 := After.cell (by exact hh2.lt) c2
            have g3 := After.cell (by exact hh2.lt) c3
            have HS := Lib.hid (fun (W : World) (h : Held W g d) => h.swap (r + 1) r hpy hpz)
            have HH2 := Lib.hid hh2
            have HG2 := Lib.hid hg2
            clear hh2 hg2
            obtain ⟨y, y'⟩ := y
            obtain ⟨z, z'⟩ := z
            by_cases hyz : y < z
            · have hs : sgn y z = -1 := sgn_lt hyz
              go_wp2_with fail
              refine wp_region_after (by kernel_rfl) (by kernel_rfl) ?_
              repeat (first | go_big_quiet_step ((go_at_call 250; exact after_of (cmpSeal_is hs y' z' _))) | quiet_step ((go_at_call 250; exact after_of (cmpSeal_is hs y' z' _))))
              refine wpQuiet_nil ?_
              intro pw
              have hh3 := HH2.out.later pw.bel
              have hg3 := grown_trans HG2.out (grown_bel pw.bel (some g))
              have HS3 := Lib.hid (HS.out _ hh3)
              have d0 := g0 pw
              have d1 := g1 pw
              have d2 := g2 pw
              have d3 := g3 pw
              have fr := hh3.fr
              clear g0 g1 g2 g3 hh3
              go_wp2
              go_region
              go_wp2
              go_roundw
              case rel =>
                refine ⟨Z3, (z, z') :: Z2, r, by rw [← hZ]; simp, by omega, by go_num, ?_, ?_, grown_drew (grown_swap hg3 _ _ _ _ _ _ _ _)⟩
                · intro p hp
                  rcases List.mem_cons.1 hp with e | e
                  · rw [e]; exact hyz
                  · exact hZ2 p e
                · have hs' : swp d (r + 1) r = A ++ (Z3 ++ ((y, y') :: (((z, z') :: Z2) ++ (Y ++ B)))) := by
                    rw [swp_comm _ _ _ (by omega)]
                    exact swp_at (x := (z, z')) (y := (y, y')) (P := A ++ Z3) (Q := []) (R := Z2 ++ (Y ++ B)) (by rw [← hd]; simp) (by simp; omega) (by simp; omega) (by simp)
                  rw [← hs']
                  exact HS3.out.drew
              case measure => simp [intOf]
            · have hs := sgn_ge hyz
              go_wp2_with fail
              refine wp_region_after (by kernel_rfl) (by kernel_rfl) ?_
              repeat (first | go_big_quiet_step ((go_at_call 250; exact after_of (cmpSeal_is hs y' z' _))) | quiet_step ((go_at_call 250; exact after_of (cmpSeal_is hs y' z' _))))
              refine wpQuiet_nil ?_
              intro pw
              have hh3 := HH2.out.later pw.bel
              have hg3 := grown_trans HG2.out (grown_bel pw.bel (some g))
              have hsr : Srt ((Z3 ++ [(z, z')]) ++ Z2) := by rw [hZ]; exact hsrt
              have hz3 := Srt.last (List.pairwise_append.1 hsr).1
              go_wp2
              go_roundw
              case rel => exact ⟨(Z3 ++ [(z, z')]) ++ (y, y') :: Z2, Y, X1 ++ [(y, y')], k + 1, by simpa using hX, by simp; omega, by simp; omega, by go_num, Srt.mid hsr (fun p hp => by have := hz3 p hp; simp only at this ⊢; omega) hZ2, Same.mid (by rw [hZ]; exact hsame) hZ2, by rw [← hd] at hh3; simpa using hh3, hg3⟩
              case measure => simp [intOf]; omega

end Go.Proofs.YtjdepjpjjgkmbaaGreat

/- The library's stable sort over a slice of pairs, third part: merging where one side is a single pair. -/
namespace Go.Proofs.YtjdepjpjjgkmbaaGreat
open Go.RowKit

/-- Smaller ones ahead, none smaller behind. -/
theorem Srt.mid2 {Z1 Z2 : List (Int × Int)} {y : Int × Int} (h : Srt (Z1 ++ Z2)) (h1 : ∀ p ∈ Z1, p.1 ≤ y.1) (h2 : ∀ p ∈ Z2, y.1 ≤ p.1) : Srt (Z1 ++ y :: Z2) := by
  have h' := List.pairwise_append.1 h
  refine List.pairwise_append.2 ⟨h'.1, List.pairwise_cons.2 ⟨fun p hp => h2 p hp, h'.2.1⟩, fun p hp q hq => ?_⟩
  rcases List.mem_cons.1 hq with e | e
  · rw [e]; exact h1 p hp
  · exact h'.2.2 p hp q e
theorem sgn_nn {a c : Int} (h : ¬ a < c) : ∃ s : Int, sgn a c = s ∧ 0 ≤ s ∧ s ≤ 1 ∧ decide (s < 0) = false := by
  have := sgn_ge h
  refine ⟨_, rfl, ?_, ?_, ?_⟩ <;> rw [this] <;> split <;> simp
theorem mem_pth {l : List (Int × Int)} {p : Int × Int} (h : p ∈ l) : ∃ i, i < l.length ∧ p = pth l i := by
  obtain ⟨i, hi, rfl⟩ := List.getElem_of_mem h
  exact ⟨i, hi, (pth_lt hi).symm⟩
theorem pth_right (P Q : List (Int × Int)) (i : Nat) : pth (P ++ Q) (P.length + i) = pth Q i := by
  simp [pth, List.getElem?_append_right]
theorem pth_left {P : List (Int × Int)} {i : Nat} (h : i < P.length) (Q : List (Int × Int)) : pth (P ++ Q) i = pth P i := by
  simp [pth, List.getElem?_append_left h]
theorem pth_take {l : List (Int × Int)} {i k : Nat} (h : i < k) : pth (l.take k) i = pth l i := by simp [pth, h]
theorem pth_drop (l : List (Int × Int)) (i k : Nat) : pth (l.drop k) i = pth l (k + i) := by simp [pth, List.getElem?_drop]

theorem pth_seg {d P Y Q : List (Int × Int)} {h m : Nat} (hd : d = P ++ (Y ++ Q)) (hm : m = P.length) (h1 : m ≤ h) (h2 : h < m + Y.length) : pth d h = pth Y (h - m) := by
  subst hd hm
  obtain ⟨t, rfl⟩ : ∃ t, h = P.length + t := ⟨h - P.length, by omega⟩
  rw [pth_right, pth_left (by omega), show P.length + t - P.length = t by omega]

set_option maxRecDepth 100000 in
set_option maxHeartbeats 800000 in
/-- One pair goes into a range in order behind it. -/
theorem symOne_is (g n cap : Nat) (ai mi bi : Int) (A Y B : List (Int × Int)) (x : Int × Int) (w : World) (hn : n ≤ 4194304) (hl : A.length + 1 + Y.length + B.length = n)
    (hA : ai = (A.length : Int)) (hm : mi = ((A.length + 1 : Nat) : Int)) (hb : bi = ((A.length + 1 + Y.length : Nat) : Int)) (hY : Srt Y) (H : Held w g (A ++ (x :: (Y ++ B)))) :
    Calls Tryz.prog 258 #[.slice (some ⟨g, 0, none⟩) n cap, .int .i64 ai, .int .i64 mi, .int .i64 bi, (.func (Fn.func 250) #[] #[])] w (Sorts w g A ([x] ++ Y) B) := by
  generalize hb' : A.length + 1 + Y.length = b at hb
  generalize hm' : A.length + 1 = m at hm hb' hl
  generalize ha' : A.length = a at hA hm'
  subst hA hm hb
  generalize hd : A ++ (x :: (Y ++ B)) = d at H
  have HH := Lib.hid H
  have hY0 := Lib.hid hY
  have hd := Lib.hid hd
  clear H hY
  have hma : ((m : Int) - (a : Int) == 1) = true := by simp; omega
  go_enter Tryz.func258, Tryz.ntmps258
  go_wp2_with fail
  go_loopw [10, 11] (fun iv jv wr => ∃ i j : Nat, iv = .int .i64 i ∧ jv = .int .i64 j ∧ m ≤ i ∧ i ≤ j ∧ j ≤ b ∧ (m < i → (pth Y (i - 1 - m)).1 < x.1) ∧ (j < b → x.1 ≤ (pth Y (j - m)).1) ∧ Below w.heap.size w wr) (fun i j _ => (intOf j).toNat - (intOf i).toNat)
  case atStart => exact ⟨m, b, rfl, rfl, Nat.le_refl _, by omega, Nat.le_refl _, by omega, by omega, Below.refl _ _⟩
  case round =>
    obtain ⟨i, j, rfl, rfl, h1, h2, h3, h4, h5, hbel⟩ := hrel
    have hh := HH.out.later hbel
    have hlen : d.length = n := by rw [← hd.out]; simp only [List.length_append, List.length_cons]; omega
    have hpx : pth d a = x := pth_at (P := A) (Q := Y ++ B) hd.out.symm ha'.symm
    by_cases hij : i < j
    · have hij' : (i : Int) < (j : Int) := by omega
      obtain ⟨h, hmid, hi1, hi2⟩ : ∃ h : Nat, ((i : Int) + (j : Int)) / 2 = (h : Int) ∧ i ≤ h ∧ h < j := ⟨(i + j) / 2, by omega, by omega, by omega⟩
      have hph : pth d h = pth Y (h - m) := pth_seg (P := A ++ [x]) (Q := B) (by rw [← hd.out]; simp) (by simp; omega) (by omega) (by omega)
      have c0 := hh.at0 h (by omega)
      have c1 := hh.at1 h (by omega)
      have c2 := hh.at0 a (by omega)
      have c3 := hh.at1 a (by omega)
      rw [hph] at c0 c1
      rw [hpx] at c2 c3
      have h4 := Lib.hid h4
      have h5 := Lib.hid h5
      generalize hp : pth Y (h - m) = p at c0 c1
      have hp := Lib.hid hp
      have g0 := After.cell (by exact hh.lt) c0
      have g1 := After.cell (by exact hh.lt) c1
      have g2 := After.cell (by exact hh.lt) c2
      have g3 := After.cell (by exact hh.lt) c3
      have hhn : (h : Int) < n := by omega
      have han : (a : Int) < n := by omega
      clear hlen hph hpx hh
      rename_i h4' h5' hp'
      clear h4' h5' hp'
      obtain ⟨x, x'⟩ := x
      obtain ⟨p, p'⟩ := p
      by_cases hlt : p < x
      · have hs : sgn p x = -1 := sgn_lt hlt
        go_wp2_with fail
        refine wp_region_after (by kernel_rfl) (by kernel_rfl) ?_
        repeat (first | go_big_quiet_step ((go_at_call 250; exact after_of (cmpSeal_is hs p' x' _))) | quiet_step ((go_at_call 250; exact after_of (cmpSeal_is hs p' x' _))))
        refine wpQuiet_nil ?_
        intro pw
        go_wp2
        go_roundw
        case rel => exact ⟨h + 1, j, by go_num, rfl, by omega, by omega, h3, fun _ => by rw [show h + 1 - 1 - m = h - m by omega, hp.out]; exact hlt, h5.out, bel_trans hbel pw.bel⟩
        case measure => simp [intOf]; omega
      · have hs := sgn_ge hlt
        go_wp2_with fail
        refine wp_region_after (by kernel_rfl) (by kernel_rfl) ?_
        repeat (first | go_big_quiet_step ((go_at_call 250; exact after_of (cmpSeal_is hs p' x' _))) | quiet_step ((go_at_call 250; exact after_of (cmpSeal_is hs p' x' _))))
        refine wpQuiet_nil ?_
        intro pw
        go_wp2
        go_roundw
        case rel => exact ⟨i, h, rfl, rfl, h1, hi1, by omega, h4.out, fun _ => by rw [hp.out]; simp only; omega, bel_trans hbel pw.bel⟩
        case measure => simp [intOf]; omega
    · obtain rfl : i = j := by omega
      have hi : i - m ≤ Y.length := by omega
      have hY1 : ∀ p ∈ Y.take (i - m), p.1 < x.1 := by
        intro p hp
        obtain ⟨t, ht, rfl⟩ := mem_pth hp
        rw [List.length_take] at ht
        rw [pth_take (by omega)]
        have := h4 (by omega)
        have h6 := srt_at hY0.out (i := t) (j := i - 1 - m) (by omega) (by omega)
        omega
      have hY2 : ∀ p ∈ Y.drop (i - m), x.1 ≤ p.1 := by
        intro p hp
        obtain ⟨t, ht, rfl⟩ := mem_pth hp
        rw [List.length_drop] at ht
        rw [pth_drop]
        have := h5 (by omega)
        have h6 := srt_at hY0.out (i := i - m) (j := i - m + t) (by omega) (by omega)
        omega
      have hY1l : (Y.take (i - m)).length = i - m := by rw [List.length_take]; omega
      have hY12 : Y.take (i - m) ++ Y.drop (i - m) = Y := List.take_append_drop _ _
      generalize Y.take (i - m) = Y1 at hY1 hY1l hY12
      generalize Y.drop (i - m) = Y2 at hY2 hY12
      have hY12 := Lib.hid hY12
      have hY1 := Lib.hid hY1
      have hY2 := Lib.hid hY2
      have h4 := 0
      have h5 := 0
      rename_i q1 q2 q3 q4 q5
      clear h4 h5 q1 q2 q3 q4 q5
      have hh' : Held wr g (A ++ (x :: (Y1 ++ (Y2 ++ B)))) := by rw [← List.append_assoc Y1, hY12.out, hd.out]; exact hh
      have hh := Lib.hid hh'
      clear hh' hpx hlen
      go_wp2_with fail
      go_loopw [13] (fun kv wr => ∃ k : Nat, kv = .int .i64 k ∧ a ≤ k ∧ k + 1 ≤ i ∧ Held wr g (A ++ (Y1.take (k - a) ++ (x :: (Y1.drop (k - a) ++ (Y2 ++ B))))) ∧ w.grownBy wr (some g)) (fun k _ => i - (intOf k).toNat)
      case atStart => exact ⟨a, rfl, Nat.le_refl _, by omega, by simpa using hh.out, grown_bel hbel _⟩
      case round =>
        obtain ⟨k, rfl, hk1, hk2, hhk, hgk⟩ := hrel
        by_cases hki : k + 1 < i
        · obtain ⟨y, hy⟩ : ∃ y, Y1.drop (k - a) = y :: Y1.drop (k - a + 1) := ⟨Y1[k - a]'(by omega), List.drop_eq_getElem_cons (by omega)⟩
          have hYl : Y1.length + Y2.length = Y.length := by rw [← hY12.out]; simp
          generalize hd' : (A ++ (Y1.take (k - a) ++ (x :: (Y1.drop (k - a) ++ (Y2 ++ B))))) = d' at hhk
          have hdl : d'.length = n := by rw [← hd']; simp only [List.length_append, List.length_cons, List.length_take, List.length_drop]; omega
          have hpx : pth d' k = x := pth_at (P := A ++ Y1.take (k - a)) (Q := Y1.drop (k - a) ++ (Y2 ++ B)) (by rw [← hd']; simp) (by simp [List.length_take]; omega)
          have hpy : pth d' (k + 1) = y := pth_at (P := A ++ (Y1.take (k - a) ++ [x])) (Q := Y1.drop (k - a + 1) ++ (Y2 ++ B)) (by rw [← hd', hy]; simp) (by simp [List.length_take]; omega)
          have c0 := hhk.at0 k (by omega)
          have c1 := hhk.at1 k (by omega)
          have c2 := hhk.at0 (k + 1) (by omega)
          have c3 := hhk.at1 (k + 1) (by omega)
          rw [hpx] at c0 c1
          rw [hpy] at c2 c3
          have fr := hhk.fr
          have HS := Lib.hid (hhk.swap k (k + 1) hpx hpy)
          have hki' : (k : Int) < (i : Int) - 1 := by omega
          have hkn : (k : Int) < n := by omega
          have hkn' : (k : Int) + 1 < n := by omega
          have hy := Lib.hid hy
          have hd' := Lib.hid hd'
          rename_i q1 q2
          clear q1 q2 hpx hpy hdl hYl
          obtain ⟨x, x'⟩ := x
          obtain ⟨y, y'⟩ := y
          go_wp2
          go_region
          go_wp2
          go_roundw
          case rel =>
            refine ⟨k + 1, by go_num, by omega, by omega, ?_, grown_drew (grown_swap hgk _ _ _ _ _ _ _ _)⟩
            have hs' : swp d' k (k + 1) = A ++ (Y1.take (k + 1 - a) ++ ((x, x') :: (Y1.drop (k + 1 - a) ++ (Y2 ++ B)))) := by
              rw [show k + 1 - a = k - a + 1 by omega, take_more hy.out]
              exact swp_at (x := (x, x')) (y := (y, y')) (P := A ++ Y1.take (k - a)) (Q := []) (R := Y1.drop (k - a + 1) ++ (Y2 ++ B)) (by rw [← hd'.out, hy.out]; simp) (by simp [List.length_take]; omega) (by simp [List.length_take]; omega) (by simp)
            rw [← hs']
            exact HS.out.drew
          case measure => simp [intOf]; omega
        · have hki' : ¬ (k : Int) < (i : Int) - 1 := by omega
          rw [List.take_of_length_le (by omega), List.drop_of_length_le (by omega)] at hhk
          go_wp2
          first | go_end0 | go_ret
          refine ⟨Y1 ++ x :: Y2, ?_, ?_, ?_, rfl, by simpa using hhk, hgk⟩
          · rw [← hY12.out]; simp; omega
          · exact Srt.mid2 (by rw [hY12.out]; exact hY0.out) (fun p hp => Int.le_of_lt (hY1.out p hp)) hY2.out
          · rw [← hY12.out]
            have e : Same ((Y1 ++ [x]) ++ Y2) (([x] ++ Y1) ++ Y2) := (Same.swap (a := [x]) (b := Y1) fun p hp q hq => by
              simp only [List.mem_singleton] at hp
              have := hY1.out q hq
              rw [hp]
              omega).app (Same.refl _)
            simpa using e

end Go.Proofs.YtjdepjpjjgkmbaaGreat

/- The library's stable sort over a slice of pairs, fourth part: merging where the other side is a single pair. -/
namespace Go.Proofs.YtjdepjpjjgkmbaaGreat
open Go.RowKit

set_option maxRecDepth 100000 in
set_option maxHeartbeats 800000 in
/-- One pair goes into a range in order ahead of it. -/
theorem symLast_is (g n cap : Nat) (ai mi bi : Int) (A X B : List (Int × Int)) (y : Int × Int) (w : World) (hn : n ≤ 4194304) (hl : A.length + X.length + 1 + B.length = n)
    (hA : ai = (A.length : Int)) (hm : mi = ((A.length + X.length : Nat) : Int)) (hb : bi = ((A.length + X.length + 1 : Nat) : Int)) (hX2 : 2 ≤ X.length) (hX : Srt X) (H : Held w g (A ++ (X ++ (y :: B)))) :
    Calls Tryz.prog 258 #[.slice (some ⟨g, 0, none⟩) n cap, .int .i64 ai, .int .i64 mi, .int .i64 bi, (.func (Fn.func 250) #[] #[])] w (Sorts w g A (X ++ [y]) B) := by
  generalize hb' : A.length + X.length + 1 = b at hb hl
  generalize hm' : A.length + X.length = m at hm hb'
  generalize ha' : A.length = a at hA hm'
  subst hA hm hb
  generalize hd : A ++ (X ++ (y :: B)) = d at H
  have HH := Lib.hid H
  have hX0 := Lib.hid hX
  have hd := Lib.hid hd
  clear H hX
  have hma : ((m : Int) - (a : Int) == 1) = false := by simp; omega
  have hbm : ((b : Int) - (m : Int) == 1) = true := by simp; omega
  go_enter Tryz.func258, Tryz.ntmps258
  go_wp2_with fail
  go_loopw [14, 15] (fun iv jv wr => ∃ i j : Nat, iv = .int .i64 i ∧ jv = .int .i64 j ∧ a ≤ i ∧ i ≤ j ∧ j ≤ m ∧ (a < i → (pth X (i - 1 - a)).1 ≤ y.1) ∧ (j < m → y.1 < (pth X (j - a)).1) ∧ Below w.heap.size w wr) (fun i j _ => (intOf j).toNat - (intOf i).toNat)
  case atStart => exact ⟨a, m, rfl, rfl, Nat.le_refl _, by omega, Nat.le_refl _, by omega, by omega, Below.refl _ _⟩
  case round =>
    obtain ⟨i, j, rfl, rfl, h1, h2, h3, h4, h5, hbel⟩ := hrel
    have hh := HH.out.later hbel
    have hlen : d.length = n := by rw [← hd.out]; simp only [List.length_append, List.length_cons]; omega
    have hpy : pth d m = y := pth_at (P := A ++ X) (Q := B) (by rw [← hd.out]; simp) (by simp; omega)
    by_cases hij : i < j
    · have hij' : (i : Int) < (j : Int) := by omega
      obtain ⟨h, hmid, hi1, hi2⟩ : ∃ h : Nat, ((i : Int) + (j : Int)) / 2 = (h : Int) ∧ i ≤ h ∧ h < j := ⟨(i + j) / 2, by omega, by omega, by omega⟩
      have hph : pth d h = pth X (h - a) := pth_seg (P := A) (Q := y :: B) hd.out.symm ha'.symm (by omega) (by omega)
      have c0 := hh.at0 h (by omega)
      have c1 := hh.at1 h (by omega)
      have c2 := hh.at0 m (by omega)
      have c3 := hh.at1 m (by omega)
      rw [hph] at c0 c1
      rw [hpy] at c2 c3
      have h4 := Lib.hid h4
      have h5 := Lib.hid h5
      generalize hp : pth X (h - a) = p at c0 c1
      have hp := Lib.hid hp
      have g0 := After.cell (by exact hh.lt) c0
      have g1 := After.cell (by exact hh.lt) c1
      have g2 := After.cell (by exact hh.lt) c2
      have g3 := After.cell (by exact hh.lt) c3
      have hhn : (h : Int) < n := by omega
      have han : (m : Int) < n := by omega
      clear hlen hph hpy hh
      rename_i h4' h5' hp'
      clear h4' h5' hp'
      obtain ⟨y, y'⟩ := y
      obtain ⟨p, p'⟩ := p
      by_cases hlt : y < p
      · have hs : sgn y p = -1 := sgn_lt hlt
        go_wp2_with fail
        refine wp_region_after (by kernel_rfl) (by kernel_rfl) ?_
        repeat (first | go_big_quiet_step ((go_at_call 250; exact after_of (cmpSeal_is hs y' p' _))) | quiet_step ((go_at_call 250; exact after_of (cmpSeal_is hs y' p' _))))
        refine wpQuiet_nil ?_
        intro pw
        go_wp2
        go_roundw
        case rel => exact ⟨i, h, rfl, rfl, h1, hi1, by omega, h4.out, fun _ => by rw [hp.out]; exact hlt, bel_trans hbel pw.bel⟩
        case measure => simp [intOf]; omega
      · obtain ⟨s, hs, hs0, hs1, hsd⟩ := sgn_nn hlt
        go_wp2_with fail
        refine wp_region_after (by kernel_rfl) (by kernel_rfl) ?_
        repeat (first | go_big_quiet_step ((go_at_call 250; exact after_of (cmpSeal_is hs y' p' _))) | quiet_step ((go_at_call 250; exact after_of (cmpSeal_is hs y' p' _))))
        refine wpQuiet_nil ?_
        intro pw
        go_wp2
        go_roundw
        case rel => exact ⟨h + 1, j, by go_num, rfl, by omega, by omega, h3, fun _ => by rw [show h + 1 - 1 - a = h - a by omega, hp.out]; simp only; omega, h5.out, bel_trans hbel pw.bel⟩
        case measure => simp [intOf]; omega
    · obtain rfl : i = j := by omega
      have hi : i - a ≤ X.length := by omega
      have hX1 : ∀ p ∈ X.take (i - a), p.1 ≤ y.1 := by
        intro p hp
        obtain ⟨t, ht, rfl⟩ := mem_pth hp
        rw [List.length_take] at ht
        rw [pth_take (by omega)]
        have := h4 (by omega)
        have h6 := srt_at hX0.out (i := t) (j := i - 1 - a) (by omega) (by omega)
        omega
      have hX2 : ∀ p ∈ X.drop (i - a), y.1 < p.1 := by
        intro p hp
        obtain ⟨t, ht, rfl⟩ := mem_pth hp
        rw [List.length_drop] at ht
        rw [pth_drop]
        have := h5 (by omega)
        have h6 := srt_at hX0.out (i := i - a) (j := i - a + t) (by omega) (by omega)
        omega
      have hX1l : (X.take (i - a)).length = i - a := by rw [List.length_take]; omega
      have hX12 : X.take (i - a) ++ X.drop (i - a) = X := List.take_append_drop _ _
      generalize X.take (i - a) = X1 at hX1 hX1l hX12
      generalize X.drop (i - a) = X2 at hX2 hX12
      have hXl : X1.length + X2.length = X.length := by rw [← hX12]; simp
      have hX12 := Lib.hid hX12
      have hX1 := Lib.hid hX1
      have hX2 := Lib.hid hX2
      rename_i q0 q1 q2 q3
      clear h4 h5 q1 q2 q3
      have hh' : Held wr g (A ++ (X1 ++ (X2 ++ (y :: B)))) := by rw [← List.append_assoc X1, hX12.out, hd.out]; exact hh
      have hh := Lib.hid hh'
      clear hh' hpy hlen
      go_wp2_with fail
      go_loopw [17] (fun kv wr => ∃ k : Nat, kv = .int .i64 k ∧ i ≤ k ∧ k ≤ m ∧ Held wr g (A ++ (X1 ++ (X2.take (k - i) ++ (y :: (X2.drop (k - i) ++ B))))) ∧ w.grownBy wr (some g)) (fun k _ => (intOf k).toNat)
      case atStart =>
        refine ⟨m, rfl, h3, Nat.le_refl _, ?_, grown_bel hbel _⟩
        rw [List.take_of_length_le (by omega), List.drop_of_length_le (by omega)]
        simpa using hh.out
      case round =>
        obtain ⟨k, rfl, hk1, hk2, hhk, hgk⟩ := hrel
        by_cases hki : i < k
        · obtain ⟨r, rfl⟩ : ∃ r, k = r + 1 := ⟨k - 1, by omega⟩
          obtain ⟨z, hz⟩ : ∃ z, X2.drop (r - i) = z :: X2.drop (r - i + 1) := ⟨X2[r - i]'(by omega), List.drop_eq_getElem_cons (by omega)⟩
          have hz' := take_more hz
          rw [show r + 1 - i = r - i + 1 by omega, hz'] at hhk
          generalize hd' : (A ++ (X1 ++ (X2.take (r - i) ++ [z] ++ (y :: (X2.drop (r - i + 1) ++ B))))) = d' at hhk
          have hdl : d'.length = n := by rw [← hd']; simp only [List.length_append, List.length_cons, List.length_take, List.length_drop, List.length_nil]; omega
          have hpz : pth d' r = z := pth_at (P := A ++ (X1 ++ X2.take (r - i))) (Q := y :: (X2.drop (r - i + 1) ++ B)) (by rw [← hd']; simp) (by simp [List.length_take]; omega)
          have hpy : pth d' (r + 1) = y := pth_at (P := A ++ (X1 ++ (X2.take (r - i) ++ [z]))) (Q := X2.drop (r - i + 1) ++ B) (by rw [← hd']; simp) (by simp [List.length_take]; omega)
          have c0 := hhk.at0 (r + 1) (by omega)
          have c1 := hhk.at1 (r + 1) (by omega)
          have c2 := hhk.at0 r (by omega)
          have c3 := hhk.at1 r (by omega)
          rw [hpy] at c0 c1
          rw [hpz] at c2 c3
          have fr := hhk.fr
          have HS := Lib.hid (hhk.swap (r + 1) r hpy hpz)
          have hki' : (i : Int) < (r : Int) + 1 := by omega
          have hkn : (r : Int) < n := by omega
          have hkn' : (r : Int) + 1 < n := by omega
          have hz := Lib.hid hz
          have hd' := Lib.hid hd'
          rename_i q1 q2
          clear q1 q2 hpz hpy hdl hz'
          obtain ⟨y, y'⟩ := y
          obtain ⟨z, z'⟩ := z
          go_wp2
          go_region
          go_wp2
          go_roundw
          case rel =>
            refine ⟨r, by go_num, by omega, by omega, ?_, grown_drew (grown_swap hgk _ _ _ _ _ _ _ _)⟩
            have hs' : swp d' (r + 1) r = A ++ (X1 ++ (X2.take (r - i) ++ ((y, y') :: (X2.drop (r - i) ++ B)))) := by
              rw [swp_comm _ _ _ (by omega), hz.out]
              exact swp_at (x := (z, z')) (y := (y, y')) (P := A ++ (X1 ++ X2.take (r - i))) (Q := []) (R := X2.drop (r - i + 1) ++ B) (by rw [← hd'.out]; simp) (by simp [List.length_take]; omega) (by simp [List.length_take]; omega) (by simp)
            rw [← hs']
            exact HS.out.drew
          case measure => simp [intOf]
        · obtain rfl : k = i := by omega
          rw [Nat.sub_self] at hhk
          go_wp2
          first | go_end0 | go_ret
          refine ⟨X1 ++ y :: X2, ?_, ?_, ?_, rfl, by simpa using hhk, hgk⟩
          · rw [← hX12.out]; simp
          · exact Srt.mid (by rw [hX12.out]; exact hX0.out) hX1.out hX2.out
          · rw [← hX12.out]
            exact Same.mid (Same.refl _) hX2.out

end Go.Proofs.YtjdepjpjjgkmbaaGreat

namespace Go.Proofs.YtjdepjpjjgkmbaaGreat
open Go.RowKit

/-- Two merged parts, none of the first larger than one of the second, are the whole merged. -/
theorem merge_parts {X1 X2 Y1 Y2 Z1 Z2 : List (Int × Int)} (hX : Srt (X1 ++ X2)) (hY : Srt (Y1 ++ Y2)) (h12 : ∀ p ∈ X1, ∀ q ∈ Y2, p.1 ≤ q.1) (h21 : ∀ p ∈ Y1, ∀ q ∈ X2, p.1 < q.1)
    (s1 : Srt Z1) (e1 : Same Z1 (X1 ++ Y1)) (s2 : Srt Z2) (e2 : Same Z2 (X2 ++ Y2)) : Srt (Z1 ++ Z2) ∧ Same (Z1 ++ Z2) ((X1 ++ X2) ++ (Y1 ++ Y2)) := by
  have hX' := (List.pairwise_append.1 hX).2.2
  have hY' := (List.pairwise_append.1 hY).2.2
  refine ⟨List.pairwise_append.2 ⟨s1, s2, fun p hp q hq => ?_⟩, ?_⟩
  · rcases List.mem_append.1 (e1.mem.1 hp) with hp | hp <;> rcases List.mem_append.1 (e2.mem.1 hq) with hq | hq
    · exact hX' p hp q hq
    · exact h12 p hp q hq
    · exact Int.le_of_lt (h21 p hp q hq)
    · exact hY' p hp q hq
  · refine (e1.app e2).trans ?_
    have e : Same (X1 ++ ((Y1 ++ X2) ++ Y2)) (X1 ++ ((X2 ++ Y1) ++ Y2)) := (Same.refl X1).app ((Same.swap fun p hp q hq => by
      have := h21 q hq p hp
      omega).app (Same.refl Y2))
    simpa using e

/-- Where the two ranges are parted. -/
theorem part_at {X Y : List (Int × Int)} {a m b mid N s e s0 r0 : Nat} (hX : Srt X) (hY : Srt Y) (hXl : a + X.length = m) (hYl : m + Y.length = b) (hmid : mid = (a + b) / 2) (hN : mid + m = N) (he : s + e = N)
    (C : (m ≤ mid ∧ s0 = a ∧ r0 = m) ∨ (mid < m ∧ s0 + b = N ∧ r0 = mid)) (h1 : s0 ≤ s) (h2 : s ≤ r0)
    (F1 : s0 < s → (pth X (s - 1 - a)).1 ≤ (pth Y (e - m)).1) (F2 : s < r0 → (pth Y (e - 1 - m)).1 < (pth X (s - a)).1) :
    (∀ p ∈ X.take (s - a), ∀ q ∈ Y.drop (e - m), p.1 ≤ q.1) ∧ (∀ p ∈ Y.take (e - m), ∀ q ∈ X.drop (s - a), p.1 < q.1) := by
  constructor
  · intro p hp q hq
    obtain ⟨t, ht, rfl⟩ := mem_pth hp
    obtain ⟨u, hu, rfl⟩ := mem_pth hq
    rw [List.length_take] at ht
    rw [List.length_drop] at hu
    rw [pth_take (by omega), pth_drop]
    have h3 := F1 (by omega)
    have h4 := srt_at hX (i := t) (j := s - 1 - a) (by omega) (by omega)
    have h5 := srt_at hY (i := e - m) (j := e - m + u) (by omega) (by omega)
    omega
  · intro p hp q hq
    obtain ⟨t, ht, rfl⟩ := mem_pth hp
    obtain ⟨u, hu, rfl⟩ := mem_pth hq
    rw [List.length_take] at ht
    rw [List.length_drop] at hu
    rw [pth_take (by omega), pth_drop]
    have h3 := F2 (by omega)
    have h4 := srt_at hY (i := t) (j := e - 1 - m) (by omega) (by omega)
    have h5 := srt_at hX (i := s - a) (j := s - a + u) (by omega) (by omega)
    omega

set_option maxRecDepth 100000 in
set_option maxHeartbeats 2000000 in
/-- Two ranges of two or more, where smaller ones are merged rightly. -/
theorem symBig_is (g n cap : Nat) (ai mi bi : Int) (A X Y B : List (Int × Int)) (w : World) (hn : n ≤ 4194304) (hl : A.length + X.length + Y.length + B.length = n)
    (hA : ai = (A.length : Int)) (hm : mi = ((A.length + X.length : Nat) : Int)) (hb : bi = ((A.length + X.length + Y.length : Nat) : Int)) (hX2 : 2 ≤ X.length) (hY2 : 2 ≤ Y.length) (hX : Srt X) (hY : Srt Y) (H : Held w g (A ++ (X ++ (Y ++ B))))
    (ih : ∀ (ai mi bi : Int) (A' X' Y' B' : List (Int × Int)) (w : World), X'.length + Y'.length < X.length + Y.length → A'.length + X'.length + Y'.length + B'.length = n →
      ai = (A'.length : Int) → mi = ((A'.length + X'.length : Nat) : Int) → bi = ((A'.length + X'.length + Y'.length : Nat) : Int) → 0 < X'.length → 0 < Y'.length → Srt X' → Srt Y' → Held w g (A' ++ (X' ++ (Y' ++ B'))) →
      Calls Tryz.prog 258 #[.slice (some ⟨g, 0, none⟩) n cap, .int .i64 ai, .int .i64 mi, .int .i64 bi, (.func (Fn.func 250) #[] #[])] w (Sorts w g A' (X' ++ Y') B')) :
    Calls Tryz.prog 258 #[.slice (some ⟨g, 0, none⟩) n cap, .int .i64 ai, .int .i64 mi, .int .i64 bi, (.func (Fn.func 250) #[] #[])] w (Sorts w g A (X ++ Y) B) := by
  have ih := Lib.hid ih
  rename_i ih'
  clear ih'
  generalize hb' : A.length + X.length + Y.length = b at hb
  generalize hm' : A.length + X.length = m at hm hb' hl
  generalize ha' : A.length = a at hA hm'
  subst hA hm hb
  generalize hd : A ++ (X ++ (Y ++ B)) = d at H
  have hlen : d.length = n := by rw [← hd]; simp only [List.length_append]; omega
  have hlen := Lib.hid hlen
  have HH := Lib.hid H
  have hX0 := Lib.hid hX
  have hY0 := Lib.hid hY
  have hd := Lib.hid hd
  rename_i q1 q2
  clear H hX hY q1 q2
  have hma : ((m : Int) - (a : Int) == 1) = false := by simp; omega
  have hbm : ((b : Int) - (m : Int) == 1) = false := by simp; omega
  obtain ⟨mid, hmid, hmidN⟩ : ∃ mid : Nat, ((a : Int) + (b : Int)) / 2 = (mid : Int) ∧ mid = (a + b) / 2 := ⟨(a + b) / 2, by omega, rfl⟩
  have hmidN := Lib.hid hmidN
  obtain ⟨N, hN, hNN⟩ : ∃ N : Nat, (mid : Int) + (m : Int) = (N : Int) ∧ mid + m = N := ⟨mid + m, by omega, rfl⟩
  have hNN := Lib.hid hNN
  obtain ⟨P, hP, hPN⟩ : ∃ P : Nat, (N : Int) - 1 = (P : Int) ∧ P + 1 = N := ⟨N - 1, by have := hNN.out; omega, by have := hNN.out; omega⟩
  have hPN := Lib.hid hPN
  rename_i q1 q2 q3
  clear q1 q2 q3
  obtain ⟨s0, r0, C⟩ : ∃ s0 r0 : Nat, (m ≤ mid ∧ s0 = a ∧ r0 = m) ∨ (mid < m ∧ s0 + b = N ∧ r0 = mid) := by
    have := hNN.out
    have := hmidN.out
    rcases Nat.lt_or_ge mid m with h | h
    · exact ⟨N - b, mid, .inr ⟨h, by omega, rfl⟩⟩
    · exact ⟨a, m, .inl ⟨h, rfl, rfl⟩⟩
  have C := Lib.hid C
  rename_i q1
  clear q1
  go_enter Tryz.func258, Tryz.ntmps258
  go_upto_if 140 with fail
  go_cut [20, 21] (fun sv rv wr => sv = .int .i64 s0 ∧ rv = .int .i64 r0 ∧ wr = w)
  case first => as_aux_lemma =>
    rcases C.out with ⟨h, e1, e2⟩ | ⟨h, e1, e2⟩
    · have h' : ¬ (mid : Int) < (m : Int) := by omega
      have e1 := Lib.hid e1
      have e2 := Lib.hid e2
      rename_i q1 q2
      clear q1 q2
      go_wp2_with fail
      go_meet
      exact ⟨vint (by have := e1.out; omega), vint (by have := e2.out; omega), rfl⟩
    · have h' : (mid : Int) < (m : Int) := by omega
      have e2 := Lib.hid e2
      have e1 := Lib.hid e1
      rename_i q1 q2
      clear q1 q2
      go_wp2_with fail
      go_meet
      exact ⟨vint (by have := e1.out; omega), vint (by have := e2.out; omega), rfl⟩
  case rest =>
  obtain ⟨rfl, rfl, rfl⟩ := hcut
  obtain ⟨w0, rfl⟩ : ∃ w0, w0 = wc := ⟨_, rfl⟩
  go_wp2_with fail
  have hbd : a ≤ s0 ∧ r0 ≤ m ∧ r0 ≤ mid ∧ s0 ≤ r0 ∧ N ≤ s0 + b ∧ mid ≤ b ∧ a ≤ mid := by
    have := hNN.out
    have := hmidN.out
    rcases C.out with h | h <;> omega
  go_loopw [20, 21] (fun sv rv wr => ∃ s r : Nat, sv = .int .i64 s ∧ rv = .int .i64 r ∧ s0 ≤ s ∧ s ≤ r ∧ r ≤ r0 ∧ (s0 < s → (pth d (s - 1)).1 ≤ (pth d (N - s)).1) ∧ (r < r0 → (pth d (N - 1 - r)).1 < (pth d r).1) ∧ Below w0.heap.size w0 wr) (fun s r _ => (intOf r).toNat - (intOf s).toNat)
  case atStart => exact ⟨s0, r0, rfl, rfl, Nat.le_refl _, hbd.2.2.2.1, Nat.le_refl _, by omega, by omega, Below.refl _ _⟩
  case round =>
    obtain ⟨s, r, rfl, rfl, h1, h2, h3, h4, h5, hbel⟩ := hrel
    have hh := HH.out.later hbel
    by_cases hij : s < r
    · have hij' : (s : Int) < (r : Int) := by omega
      obtain ⟨c, hc, hi1, hi2⟩ : ∃ c : Nat, ((s : Int) + (r : Int)) / 2 = (c : Int) ∧ s ≤ c ∧ c < r := ⟨(s + r) / 2, by omega, by omega, by omega⟩
      have hPN0 := hPN.out
      have hl0 := hlen.out
      have hNN0 := hNN.out
      obtain ⟨q, hq, hq'⟩ : ∃ q : Nat, (P : Int) - (c : Int) = (q : Int) ∧ q + c = P := ⟨P - c, by omega, by omega⟩
      have c0 := hh.at0 q (by omega)
      have c1 := hh.at1 q (by omega)
      have c2 := hh.at0 c (by omega)
      have c3 := hh.at1 c (by omega)
      have hqn : (q : Int) < n := by omega
      have hcn : (c : Int) < n := by omega
      generalize hu : pth d q = u at c0 c1
      generalize hv : pth d c = v at c2 c3
      have hu := Lib.hid hu
      have hv := Lib.hid hv
      have h4 := Lib.hid h4
      have h5 := Lib.hid h5
      have hq' := Lib.hid hq'
      have g0 := After.cell (by exact hh.lt) c0
      have g1 := After.cell (by exact hh.lt) c1
      have g2 := After.cell (by exact hh.lt) c2
      have g3 := After.cell (by exact hh.lt) c3
      rename_i q1 q2 q3 q4 q5
      clear q1 q2 q3 q4 q5 hPN0 hl0 hNN0 hh
      obtain ⟨u, u'⟩ := u
      obtain ⟨v, v'⟩ := v
      by_cases hlt : u < v
      · as_aux_lemma =>
        have hs : sgn u v = -1 := sgn_lt hlt
        go_wp2_with fail
        refine wp_region_after (by kernel_rfl) (by kernel_rfl) ?_
        repeat (first | go_big_quiet_step ((go_at_call 250; exact after_of (cmpSeal_is hs u' v' _))) | quiet_step ((go_at_call 250; exact after_of (cmpSeal_is hs u' v' _))))
        refine wpQuiet_nil ?_
        intro pw
        go_wp2
        go_roundw
        case rel => exact ⟨s, c, rfl, rfl, h1, hi1, by omega, h4.out, fun _ => by rw [show N - 1 - c = q by have := hq'.out; have := hPN.out; omega, hu.out, hv.out]; exact hlt, bel_trans hbel pw.bel⟩
        case measure => simp [intOf]; omega
      · as_aux_lemma =>
        obtain ⟨t, hs, hs0, hs1, hsd⟩ := sgn_nn hlt
        go_wp2_with fail
        refine wp_region_after (by kernel_rfl) (by kernel_rfl) ?_
        repeat (first | go_big_quiet_step ((go_at_call 250; exact after_of (cmpSeal_is hs u' v' _))) | quiet_step ((go_at_call 250; exact after_of (cmpSeal_is hs u' v' _))))
        refine wpQuiet_nil ?_
        intro pw
        go_wp2
        go_roundw
        case rel => exact ⟨c + 1, r, by go_num, rfl, by omega, by omega, h3, fun _ => by rw [show N - (c + 1) = q by have := hq'.out; have := hPN.out; omega, show c + 1 - 1 = c from rfl, hu.out, hv.out]; simp only; omega, h5.out, bel_trans hbel pw.bel⟩
        case measure => simp [intOf]; omega
    · obtain rfl : s = r := by omega
      obtain ⟨e, he, he'⟩ : ∃ e : Nat, (N : Int) - (s : Int) = (e : Int) ∧ s + e = N := ⟨N - s, by have := hNN.out; omega, by have := hNN.out; omega⟩
      have heb : m ≤ e ∧ e ≤ b ∧ mid ≤ e ∧ e - m = mid - s ∧ e - mid = m - s := by
        have := hNN.out
        omega
      have hdX : ∀ i, a ≤ i → i < m → pth d i = pth X (i - a) := fun i h h' => pth_seg (P := A) (Q := Y ++ B) hd.out.symm ha'.symm h (by omega)
      have hdY : ∀ i, m ≤ i → i < b → pth d i = pth Y (i - m) := fun i h h' => pth_seg (P := A ++ X) (Q := B) (by rw [← hd.out]; simp) (by simp; omega) h (by omega)
      obtain ⟨hp1, hp2⟩ := part_at hX0.out hY0.out (by omega) (by omega) hmidN.out hNN.out he' C.out h1 h3 (fun h => by
        have := h4 h
        rw [hdX (s - 1) (by omega) (by omega), hdY (N - s) (by omega) (by omega)] at this
        rw [show N - s = e by omega] at this
        exact this) (fun h => by
        have := h5 h
        rw [hdX s (by omega) (by omega), hdY (N - 1 - s) (by have := hNN.out; omega) (by omega)] at this
        rw [show N - 1 - s = e - 1 by omega] at this
        exact this)
      have he' := Lib.hid he'
      have hp1 := Lib.hid hp1
      have hp2 := Lib.hid hp2
      have heb := Lib.hid heb
      rename_i q1 q2 q3 q4
      clear q1 q2 q3 q4 hdX hdY h4 h5
      have hX12 : X.take (s - a) ++ X.drop (s - a) = X := List.take_append_drop _ _
      have hY12 : Y.take (e - m) ++ Y.drop (e - m) = Y := List.take_append_drop _ _
      have hlX1 : (X.take (s - a)).length = s - a := by rw [List.length_take]; omega
      have hlX2 : (X.drop (s - a)).length = m - s := by rw [List.length_drop]; omega
      have hlY1 : (Y.take (e - m)).length = mid - s := by rw [List.length_take]; have := heb.out; omega
      have hlY2 : (Y.drop (e - m)).length = b - e := by rw [List.length_drop]; have := heb.out; omega
      generalize X.take (s - a) = X1 at hp1 hX12 hlX1
      generalize X.drop (s - a) = X2 at hp2 hX12 hlX2
      generalize Y.take (e - m) = Y1 at hp2 hY12 hlY1
      generalize Y.drop (e - m) = Y2 at hp1 hY12 hlY2
      have hXY := Lib.hid (And.intro hX12 hY12)
      have hlX := Lib.hid (And.intro hlX1 hlX2)
      have hlY := Lib.hid (And.intro hlY1 hlY2)
      have hh' : Held wr g (A ++ (X1 ++ (X2 ++ (Y1 ++ (Y2 ++ B))))) := by
        rw [← List.append_assoc X1, hX12, ← List.append_assoc Y1, hY12, hd.out]
        exact hh
      have hh1 := Lib.hid hh'
      have hg1 := Lib.hid (grown_bel hbel (some g))
      clear hX12 hY12 hlX1 hlX2 hlY1 hlY2 hh' hh hbel
      have hse : s ≤ m ∧ a ≤ s ∧ s ≤ mid := by omega
      go_upto_region 39 with fail
      go_cut [185] (fun v wr' => v = .bool (decide (s < m ∧ m < e)) ∧ wr' = wr)
      case first => as_aux_lemma =>
        by_cases t1 : s < m
        · have t1' : (s : Int) < (m : Int) := by omega
          by_cases t2 : m < e
          · have t2' : (m : Int) < (e : Int) := by omega
            go_wp2_with fail
            go_meet
            exact ⟨by simp [t1, t2], rfl⟩
          · have t2' : ¬ (m : Int) < (e : Int) := by omega
            go_wp2_with fail
            go_meet
            exact ⟨by simp [t2], rfl⟩
        · have t1' : ¬ (s : Int) < (m : Int) := by omega
          go_wp2_with fail
          go_meet
          exact ⟨by simp [t1], rfl⟩
      case rest =>
      obtain ⟨rfl, rfl⟩ := hcut
      obtain ⟨w1, rfl⟩ : ∃ w1, w1 = wc := ⟨_, rfl⟩
      go_upto_if 185 with fail
      go_cut [191] (fun _ wr' => Held wr' g (A ++ (X1 ++ (Y1 ++ (X2 ++ (Y2 ++ B))))) ∧ w0.grownBy wr' (some g))
      case first => as_aux_lemma =>
        by_cases t : s < m ∧ m < e
        · have td : decide (s < m ∧ m < e) = true := by simp [t]
          have e1 := hlX.out
          have e2 := hlY.out
          have e3 := heb.out
          go_wp2_with fail
          refine (rotate_is g n cap _ _ _ (A ++ X1) X2 Y1 (Y2 ++ B) _ _ hn (by simp; omega) (by simp; omega) (by simp; omega) (by simp; omega) (by omega) (by omega) (by simpa using hh1.out)).mono ?_
          rintro e' w2 ⟨rfl, hh2, hg2⟩
          go_wp2_with fail
          go_meet
          exact ⟨by simpa using hh2, grown_trans hg1.out hg2⟩
        · have td : decide (s < m ∧ m < e) = false := by simp only [decide_eq_false_iff_not]; exact t
          have e1 := hlX.out
          have e2 := hlY.out
          have e3 := heb.out
          have hz : X2.length = 0 ∨ Y1.length = 0 := by omega
          go_wp2_with fail
          go_meet
          refine ⟨?_, hg1.out⟩
          have := hh1.out
          rcases hz with hz | hz
          · rw [List.length_eq_zero_iff.1 hz] at this ⊢; simpa using this
          · rw [List.length_eq_zero_iff.1 hz] at this ⊢; simpa using this
      case rest =>
      obtain ⟨hh2, hg2⟩ := hcut
      obtain ⟨w2, rfl⟩ : ∃ w2, w2 = wc := ⟨_, rfl⟩
      have hh2 := Lib.hid hh2
      have hg2 := Lib.hid hg2
      clear hh1 hg1
      go_upto_region 41 with fail
      go_cut [199] (fun v wr' => v = .bool (decide (a < s ∧ s < mid)) ∧ wr' = w2)
      case first => as_aux_lemma =>
        by_cases t1 : a < s
        · have t1' : (a : Int) < (s : Int) := by omega
          by_cases t2 : s < mid
          · have t2' : (s : Int) < (mid : Int) := by omega
            go_wp2_with fail
            go_meet
            exact ⟨by simp [t1, t2], rfl⟩
          · have t2' : ¬ (s : Int) < (mid : Int) := by omega
            go_wp2_with fail
            go_meet
            exact ⟨by simp [t2], rfl⟩
        · have t1' : ¬ (a : Int) < (s : Int) := by omega
          go_wp2_with fail
          go_meet
          exact ⟨by simp [t1], rfl⟩
      case rest =>
      obtain ⟨rfl, rfl⟩ := hcut
      obtain ⟨w2, rfl⟩ : ∃ w2, w2 = wc := ⟨_, rfl⟩
      have hXs : Srt X1 ∧ Srt X2 := by
        have := List.pairwise_append.1 (by rw [hXY.out.1]; exact hX0.out : Srt (X1 ++ X2))
        exact ⟨this.1, this.2.1⟩
      have hYs : Srt Y1 ∧ Srt Y2 := by
        have := List.pairwise_append.1 (by rw [hXY.out.2]; exact hY0.out : Srt (Y1 ++ Y2))
        exact ⟨this.1, this.2.1⟩
      go_upto_if 199 with fail
      go_cut [205] (fun _ wr' => ∃ Z1 : List (Int × Int), Z1.length = X1.length + Y1.length ∧ Srt Z1 ∧ Same Z1 (X1 ++ Y1) ∧ Held wr' g (A ++ (Z1 ++ (X2 ++ (Y2 ++ B)))) ∧ w0.grownBy wr' (some g))
      case first => as_aux_lemma =>
        by_cases t : a < s ∧ s < mid
        · have td : decide (a < s ∧ s < mid) = true := by simp [t]
          have e1 := hlX.out
          have e2 := hlY.out
          have e3 := heb.out
          go_wp2_with fail
          refine (ih.out _ _ _ A X1 Y1 (X2 ++ (Y2 ++ B)) _ (by omega) (by simp; omega) (by omega) (by omega) (by omega) (by omega) (by omega) hXs.1 hYs.1 (by simpa using hh2.out)).mono ?_
          rintro e' w3 ⟨Z1, hz1, hz2, hz3, rfl, hh3, hg3⟩
          go_wp2_with fail
          go_meet
          exact ⟨Z1, by simpa using hz1, hz2, hz3, hh3, grown_trans hg2.out hg3⟩
        · have td : decide (a < s ∧ s < mid) = false := by simp only [decide_eq_false_iff_not]; exact t
          have e1 := hlX.out
          have e2 := hlY.out
          have hz : X1.length = 0 ∨ Y1.length = 0 := by omega
          go_wp2_with fail
          go_meet
          have := hh2.out
          rcases hz with hz | hz
          · rw [List.length_eq_zero_iff.1 hz] at this ⊢
            exact ⟨Y1, by simp, hYs.1, Same.refl _, by simpa using this, hg2.out⟩
          · rw [List.length_eq_zero_iff.1 hz] at this ⊢
            exact ⟨X1, by simp, hXs.1, by simpa using Same.refl X1, by simpa using this, hg2.out⟩
      case rest =>
      obtain ⟨Z1, hz1, hz2, hz3, hh3, hg3⟩ := hcut
      obtain ⟨w3, rfl⟩ : ∃ w3, w3 = wc := ⟨_, rfl⟩
      have hh3 := Lib.hid hh3
      have hg3 := Lib.hid hg3
      have hz1 := Lib.hid hz1
      clear hh2 hg2
      rename_i q1
      clear q1
      go_upto_region 43 with fail
      go_cut [213] (fun v wr' => v = .bool (decide (mid < e ∧ e < b)) ∧ wr' = w3)
      case first => as_aux_lemma =>
        by_cases t1 : mid < e
        · have t1' : (mid : Int) < (e : Int) := by omega
          by_cases t2 : e < b
          · have t2' : (e : Int) < (b : Int) := by omega
            go_wp2_with fail
            go_meet
            exact ⟨by simp [t1, t2], rfl⟩
          · have t2' : ¬ (e : Int) < (b : Int) := by omega
            go_wp2_with fail
            go_meet
            exact ⟨by simp [t2], rfl⟩
        · have t1' : ¬ (mid : Int) < (e : Int) := by omega
          go_wp2_with fail
          go_meet
          exact ⟨by simp [t1], rfl⟩
      case rest =>
      obtain ⟨rfl, rfl⟩ := hcut
      obtain ⟨w3, rfl⟩ : ∃ w3, w3 = wc := ⟨_, rfl⟩
      have hfin : ∀ Z2 : List (Int × Int), Srt Z2 → Same Z2 (X2 ++ Y2) → Srt (Z1 ++ Z2) ∧ Same (Z1 ++ Z2) (X ++ Y) := fun Z2 z1 z2 => by
        have := merge_parts (by rw [hXY.out.1]; exact hX0.out) (by rw [hXY.out.2]; exact hY0.out) hp1.out hp2.out hz2 hz3 z1 z2
        rwa [hXY.out.1, hXY.out.2] at this
      have hfin := Lib.hid hfin
      rename_i q1
      clear q1
      by_cases t : mid < e ∧ e < b
      · as_aux_lemma =>
        have td : decide (mid < e ∧ e < b) = true := by simp [t]
        have e1 := hlX.out
        have e2 := hlY.out
        have e3 := heb.out
        have e4 := hz1.out
        go_wp2_with fail
        refine (ih.out _ _ _ (A ++ Z1) X2 Y2 B _ (by omega) (by simp; omega) (by simp; omega) (by simp; omega) (by simp; omega) (by omega) (by omega) hXs.2 hYs.2 (by simpa using hh3.out)).mono ?_
        rintro e' w4 ⟨Z2, hy1, hy2, hy3, rfl, hh4, hg4⟩
        simp only [List.length_append] at hy1
        go_wp2
        go_end0
        obtain ⟨f1, f2⟩ := hfin.out Z2 hy2 hy3
        exact ⟨Z1 ++ Z2, by simp; omega, f1, f2, rfl, by simpa using hh4, grown_trans hg3.out hg4⟩
      · as_aux_lemma =>
        have td : decide (mid < e ∧ e < b) = false := by simp only [decide_eq_false_iff_not]; exact t
        have e1 := hlX.out
        have e2 := hlY.out
        have e3 := heb.out
        have e4 := hz1.out
        have hz : X2.length = 0 ∨ Y2.length = 0 := by omega
        go_wp2
        go_end0
        have := hh3.out
        rcases hz with hz | hz
        · have hx := List.length_eq_zero_iff.1 hz
          obtain ⟨f1, f2⟩ := hfin.out Y2 hYs.2 (by rw [hx]; exact Same.refl _)
          rw [hx] at this
          exact ⟨Z1 ++ Y2, by simp; omega, f1, f2, rfl, by simpa using this, hg3.out⟩
        · have hx := List.length_eq_zero_iff.1 hz
          obtain ⟨f1, f2⟩ := hfin.out X2 hXs.2 (by rw [hx]; simpa using Same.refl X2)
          rw [hx] at this
          exact ⟨Z1 ++ X2, by simp; omega, f1, f2, rfl, by simpa using this, hg3.out⟩

/-- Two ranges in order are merged. -/
theorem symMerge_is (g n cap : Nat) (hn : n ≤ 4194304) : ∀ (k : Nat) (ai mi bi : Int) (A X Y B : List (Int × Int)) (w : World), X.length + Y.length < k → A.length + X.length + Y.length + B.length = n →
      ai = (A.length : Int) → mi = ((A.length + X.length : Nat) : Int) → bi = ((A.length + X.length + Y.length : Nat) : Int) → 0 < X.length → 0 < Y.length → Srt X → Srt Y → Held w g (A ++ (X ++ (Y ++ B))) →
      Calls Tryz.prog 258 #[.slice (some ⟨g, 0, none⟩) n cap, .int .i64 ai, .int .i64 mi, .int .i64 bi, (.func (Fn.func 250) #[] #[])] w (Sorts w g A (X ++ Y) B)
  | 0, _, _, _, _, _, _, _, _, h, _, _, _, _, _, _, _, _, _ => by omega
  | k + 1, ai, mi, bi, A, X, Y, B, w, hk, hl, hA, hm, hb, h1, h2, hX, hY, H => by
    rcases Nat.lt_or_ge X.length 2 with hx | hx
    · match X, h1, hx with
      | [x], _, _ => exact symOne_is g n cap ai mi bi A Y B x w hn (by simpa using hl) hA (by simpa using hm) (by simpa using hb) hY (by simpa using H)
    · rcases Nat.lt_or_ge Y.length 2 with hy | hy
      · match Y, h2, hy with
        | [y], _, _ => exact symLast_is g n cap ai mi bi A X B y w hn (by simpa using hl) hA hm (by simpa using hb) hx hX (by simpa using H)
      · exact symBig_is g n cap ai mi bi A X Y B w hn hl hA hm hb hx hy hX hY H fun ai mi bi A' X' Y' B' w' hlt hl' hA' hm' hb' h1' h2' hX' hY' H' =>
          symMerge_is g n cap hn k ai mi bi A' X' Y' B' w' (by omega) hl' hA' hm' hb' h1' h2' hX' hY' H'

end Go.Proofs.YtjdepjpjjgkmbaaGreat
