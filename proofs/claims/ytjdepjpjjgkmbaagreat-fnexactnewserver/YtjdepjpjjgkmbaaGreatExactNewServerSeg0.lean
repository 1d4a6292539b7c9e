/- What the model's draw of a group, a claim and a seal out of the code leaves: the three, the keys can be read; the bytes can be read. -/
import Derived.Test.YtjdepjpjjgkmbaaGreatKinds9
import Derived.Test.YtjdepjpjjgkmbaaGreatRecsBlock
import Derived.Test.YtjdepjpjjgkmbaaGreatRepData
import Derived.Deep.MidRow
import Derived.Test.YtjdepjpjjgkmbaaGreatSpecReg1
import Derived.Deep.Slices
import Derived.Lib.AppendZerosOnto
import Derived.Laws.AppendOwnNone
import Derived.Test.YtjdepjpjjgkmbaaGreatBoxWalk
import Derived.OrdersIn
import Derived.RangeFuncNested
import Derived.RangeFuncBound
import Derived.RangeFuncCalls
import Derived.RangeFuncLeaves
import Derived.Shelf.Abstract
import Derived.Shelf.RegionOpen
import Derived.WalkKit
import Derived.OwnWalkIn
import Derived.TacticsInMore
import Derived.LoopNIn
import Derived.LoopIn
import Derived.Sort.CutIn
import Derived.Test.YtjdepjpjjgkmbaaGreatRecOk9
import Derived.Test.YtjdepjpjjgkmbaaGreatKinds8a
import Derived.Test.YtjdepjpjjgkmbaaGreatCopiesReg
import Derived.Test.YtjdepjpjjgkmbaaGreatDrawSpec
import Derived.Deep.AppendLies
import Derived.Laws.Pointers
import Derived.Deep.RegionLaw
import Derived.Test.YtjdepjpjjgkmbaaGreatSpecSeal
import Derived.Deep.CutBlock

/- The laws' helpers over lists of records: the size, held against what is left; conditions: the sizes. -/
namespace Go.Proofs.YtjdepjpjjgkmbaaGreat
open Go Go.RowKit

theorem totC_rest (ds : List RecD) (k : Nat) : totC (ds.take k) + (ds.length - k) ≤ totC ds := by
  have h : totC (ds.take k) + totC (ds.drop k) = totC ds := by
    unfold totC
    rw [← List.sum_append, ← List.map_append, List.take_append_drop]
  have key : ∀ l : List RecD, l.length ≤ totC l := by
    intro l
    unfold totC
    induction l with
    | nil => exact Nat.zero_le _
    | cons d l ih => simp only [List.map_cons, List.sum_cons, List.length_cons]; omega
  have h2 := key (ds.drop k)
  rw [List.length_drop] at h2
  omega
theorem totC_zero (ds : List RecD) : totC (ds.take 0) = 0 := by simp [totC]
theorem RecsF.atC {ds : List RecD} {w : World} {F : Nat → Prop} {b o n : Nat} (h : RecsF ds w F (some ⟨b, o, none⟩) n) {k : Nat} (hk : k < ds.length) (hn : 0 < n) : ∃ L m mc, RecAt w b (o + k * 9) ds[k] (.slice L m mc) ∧ AtC ds[k] w F (.agg #[.int .i64 (ds[k]).r1, .int .i64 (ds[k]).r2, .int .i64 (ds[k]).r3, .int .i64 (ds[k]).r4, .int .i64 (ds[k]).r5, .int .i64 (ds[k]).r6, .int .i64 (ds[k]).r7, .slice L m mc, .int .i64 (ds[k]).r8]) := by
  obtain ⟨b', o', hA, -, -, hc⟩ := h.2 hn
  injection hA with hA
  injection hA with e1 e2
  subst e1 e2
  obtain ⟨L, m, mc, h1, h2, h3⟩ := hc k hk
  exact ⟨L, m, mc, h1, L, m, mc, rfl, h2, h3⟩

theorem atAfter {d : RecD} {w : World} {F : Nat → Prop} {v : Value} (h : AtC d w F v) (pw : After w) : AtC d pw.x F v := (keepsC d).later h pw.bel
set_option maxRecDepth 100000 in
set_option maxHeartbeats 4000000 in
theorem eq_CS {ds : List RecD} {w : World} {F F' : Nat → Prop} {A A' : Option Addr} {n cap cap' : Nat} (h : RecsF ds w F A n) (h' : RecsF ds w F' A' n) (hz : totC ds ≤ 1048576) :
    Calls Tryz.prog 88 #[.slice A n cap, .slice A' n cap'] w fun e w' => e = .returned (.bool true) ∧ Below w.heap.size w w' := by
  have HL := Lib.hid h.1
  have HH := Lib.hid h
  have HH' := Lib.hid h'
  have hnn : n ≤ 1048576 := by have := totC_rest ds 0; rw [totC_zero] at this; have := h.1; omega
  have HZ := Lib.hid (fun k (hk : k < ds.length) => totC_mem ds hk)
  clear h h'
  go_enter Tryz.func88, Tryz.ntmps88
  go_wp2
  go_loopw [5] (fun i wr => ∃ k : Nat, k ≤ n ∧ i = .int .i64 k ∧ Below w.heap.size w wr) (fun i _ => n - (intOf i).toNat)
  case atStart => exact ⟨0, Nat.zero_le _, rfl, Below.refl _ _⟩
  case round =>
    obtain ⟨k, hk, rfl, hb⟩ := hrel
    by_cases hlt : k < n
    · have hkd : k < ds.length := by have := HL.out; omega
      have hD := HH.out.later hb
      have hD' := HH'.out.later hb
      obtain ⟨b, o, hA, -, hbl, -⟩ := hD.2 (by omega)
      obtain ⟨b', o', hA', -, hbl', -⟩ := hD'.2 (by omega)
      subst hA hA'
      obtain ⟨L, m, mc, hrec, hat⟩ := hD.atC hkd (by omega)
      obtain ⟨L', m', mc', hrec', hat'⟩ := hD'.atC hkd (by omega)
      have hzz := HZ.out k hkd
      obtain ⟨d, hd⟩ : ∃ d : RecD, ds[k] = d := ⟨_, rfl⟩
      rw [hd] at hrec hat hrec' hat' hzz
      have hsz : d.sz ≤ 1048576 := by unfold RecD.sz; omega
      obtain ⟨c0, c1, c2, c3, c4, c5, c6, c7, c8⟩ := hrec
      obtain ⟨k0, k1, k2, k3, k4, k5, k6, k7, k8⟩ := hrec'
      have f0 := After.cell hbl c0
      have f1 := After.cell hbl c1
      have f2 := After.cell hbl c2
      have f3 := After.cell hbl c3
      have f4 := After.cell hbl c4
      have f5 := After.cell hbl c5
      have f6 := After.cell hbl c6
      have f7 := After.cell hbl c7
      have f8 := After.cell hbl c8
      have e0 := After.cell hbl' k0
      have e1 := After.cell hbl' k1
      have e2 := After.cell hbl' k2
      have e3 := After.cell hbl' k3
      have e4 := After.cell hbl' k4
      have e5 := After.cell hbl' k5
      have e6 := After.cell hbl' k6
      have e7 := After.cell hbl' k7
      have e8 := After.cell hbl' k8
      have hltI : (k : Int) < (n : Int) := by omega
      have hkw : IntKind.i64.wrap ((k : Int) + 1) = (k : Int) + 1 := IntWalk.i64_in _ (by omega)
      have HAT := Lib.hid hat
      have HAT' := Lib.hid hat'
      clear hd hD hD' hat hat' hzz
      go_upto_region 6 with fail
      refine wp_region_after (by kernel_rfl) (by kernel_rfl) ?_
      repeat (first | go_big_quiet_step ((go_at_call 148; exact after_of (eq_C (atAfter HAT.out _) (atAfter HAT'.out _) hsz))) | quiet_step ((go_at_call 148; exact after_of (eq_C (atAfter HAT.out _) (atAfter HAT'.out _) hsz))))
      refine wpQuiet_nil ?_
      intro pw
      clear f0 f1 f2 f3 f4 f5 f6 f7 f8 e0 e1 e2 e3 e4 e5 e6 e7 e8
      go_wp2
      go_roundw
      case rel => exact ⟨k + 1, by omega, by go_num, bel_trans hb pw.bel⟩
      case measure => simp [intOf]; omega
    · have hkn : k = n := by omega
      subst hkn
      go_wp2
      go_ret
      exact ⟨rfl, hb⟩
end Go.Proofs.YtjdepjpjjgkmbaaGreat

/- A block of records of one's own: each with its list in blocks of its own; made anew, written, read; no conditions. -/
namespace Go.Proofs.YtjdepjpjjgkmbaaGreat
open Go Go.RowKit

theorem turns_setCells9 (g : Nat) : ∀ (vs : List Value) (o : Nat) (w : World), Turns (· = g) w (w.setCells g o vs)
  | [], _, w => Turns.of_below (Below.refl _ _)
  | v :: vs, o, w => (turns_cell9 w g o v).trans (turns_setCells9 g vs (o + 1) _)
where
  turns_cell9 (w : World) (g o : Nat) (u : Value) : Turns (· = g) w (w.setCell ⟨g, o, none⟩ u) :=
    ⟨rfl, rfl, rfl, by rw [size_set]; exact Nat.le_refl _, fun i _ hne => Below.heap_setCell w ⟨g, o, none⟩ u i hne⟩
def zeroC : RecD := ⟨0, 0, 0, 0, 0, 0, 0, [], 0⟩
/-- The block g holds n records, D of them; the list of the one at place i lies in blocks of Fs i, apart from all others'. -/
structure RecsAt (w : World) (g n : Nat) (D : Nat → RecD) (Fs : Nat → Nat → Prop) : Prop where
  lt : g < w.heap.size
  fr : ∀ o, w.frozen? ⟨g, o, none⟩ = false
  row : ∀ i, i < n → ∃ u, w.rangeAt g (i * 9) ((D i).cells u).toList ∧ LieC (D i) w (Fs i) (.agg ((D i).cells u))
  apart : ∀ i, i < n → ∀ b, Fs i b → b ≠ g
  two : ∀ i j, i < n → j < n → i ≠ j → ∀ b, Fs i b → ¬ Fs j b
theorem RecsAt.turn {w w' : World} {g n : Nat} {D : Nat → RecD} {Fs : Nat → Nat → Prop} {T : Nat → Prop} (h : RecsAt w g n D Fs) (ht : Turns T w w') (hg : ¬ T g) (hF : ∀ i, i < n → ∀ b, Fs i b → ¬ T b) : RecsAt w' g n D Fs :=
  ⟨Nat.lt_of_lt_of_le h.lt ht.size, fun o => (ht.frozen h.lt hg o).trans (h.fr o), fun i hi => by
    obtain ⟨u, h1, h2⟩ := h.row i hi
    exact ⟨u, fun j v hv => (ht.cell h.lt hg _).trans (h1 j v hv), (keepsLC _).turn h2 ht (hF i hi)⟩, h.apart, h.two⟩
theorem RecsAt.later {w w' : World} {g n : Nat} {D : Nat → RecD} {Fs : Nat → Nat → Prop} (h : RecsAt w g n D Fs) (hb : Below w.heap.size w w') : RecsAt w' g n D Fs :=
  h.turn (T := fun _ => False) (Turns.of_below hb) (fun h => h) (fun _ _ _ _ h => h)
theorem cells_len (d : RecD) (u : Value) : (d.cells u).toList.length = 9 := rfl
theorem RecsAt.there {w : World} {g n : Nat} {D : Nat → RecD} {Fs : Nat → Nat → Prop} (h : RecsAt w g n D Fs) {i : Nat} (hi : i < n) : w.there g (i * 9) 9 := fun j hj => by
  obtain ⟨u, h1, -⟩ := h.row i hi
  exact ⟨h1.isSome j (by rw [cells_len]; exact hj), h.fr _⟩
def upD (D : Nat → RecD) (i : Nat) (d : RecD) : Nat → RecD := fun j => if j = i then d else D j
def upFs (Fs : Nat → Nat → Prop) (i : Nat) (F : Nat → Prop) : Nat → Nat → Prop := fun j => if j = i then F else Fs j
/-- One of them is written anew. -/
theorem RecsAt.put {w : World} {g n : Nat} {D : Nat → RecD} {Fs : Nat → Nat → Prop} (h : RecsAt w g n D Fs) {i : Nat} (hi : i < n) {d : RecD} {F : Nat → Prop} {u : Value} (hL : LieC d w F (.agg (d.cells u))) (hg : ∀ b, F b → b ≠ g) (ho : ∀ j, j < n → j ≠ i → ∀ b, F b → ¬ Fs j b) :
    RecsAt (w.setCells g (i * 9) (d.cells u).toList) g n (upD D i d) (upFs Fs i F) := by
  have ht := turns_setCells9 g (d.cells u).toList (i * 9) w
  refine ⟨Nat.lt_of_lt_of_le h.lt ht.size, fun o => (World.frozen?_setCells g _ _ _ _).trans (h.fr o), fun j hj => ?_, fun j hj b hb => ?_, fun j k hj hk hjk b hb hb2 => ?_⟩
  · by_cases e : j = i
    · subst e
      refine ⟨u, ?_, ?_⟩
      · simp only [upD, if_true]
        exact World.rangeAt_setCells_same w g _ _ (h.there hi)
      · simp only [upD, upFs, if_true]
        exact (keepsLC _).turn hL ht hg
    · obtain ⟨u', h1, h2⟩ := h.row j hj
      refine ⟨u', ?_, ?_⟩
      · simp only [upD, if_neg e]
        exact World.rangeAt_setCells_apart h1 g _ _ (.inr (by simp only [cells_len]; omega))
      · simp only [upD, upFs, if_neg e]
        exact (keepsLC _).turn h2 ht (h.apart j hj)
  · unfold upFs at hb
    split at hb
    · exact hg b hb
    · exact h.apart j hj b hb
  · unfold upFs at hb hb2
    split at hb <;> split at hb2
    · omega
    · exact ho k hk (by assumption) b hb hb2
    · exact ho j hj (by assumption) b hb2 hb
    · exact h.two j k hj hk hjk b hb hb2
/-- Records of one's own behind lo: no list lies below it. -/
def RecsOwn (w : World) (g lo n : Nat) (D : Nat → RecD) : Prop :=
  lo ≤ g ∧ ∃ Fs, RecsAt w g n D Fs ∧ ∀ i, i < n → ∀ b, Fs i b → lo ≤ b ∧ b < w.heap.size
theorem RecsOwn.turn {w w' : World} {g lo n : Nat} {D : Nat → RecD} {T : Nat → Prop} (h : RecsOwn w g lo n D) (ht : Turns T w w') (hT : ∀ b, T b → b < lo) : RecsOwn w' g lo n D := by
  obtain ⟨hg, Fs, hR, hF⟩ := h
  exact ⟨hg, Fs, hR.turn ht (fun h => by have := hT _ h; omega) (fun i hi b hb hb2 => by have := hT b hb2; have := (hF i hi b hb).1; omega), fun i hi b hb => ⟨(hF i hi b hb).1, Nat.lt_of_lt_of_le (hF i hi b hb).2 ht.size⟩⟩
theorem RecsOwn.later {w w' : World} {g lo n : Nat} {D : Nat → RecD} (h : RecsOwn w g lo n D) (hb : Below w.heap.size w w') : RecsOwn w' g lo n D := h.turn (T := fun _ => False) (Turns.of_below hb) (fun _ h => h.elim)
/-- One of them is written anew, with a new list. -/
theorem RecsOwn.put {w w1 : World} {g lo n : Nat} {D : Nat → RecD} (h : RecsOwn w g lo n D) (hb : Below w.heap.size w w1) {i : Nat} (hi : i < n) {d : RecD} {u : Value} (hL : LieC d w1 (Iv w.heap.size w1.heap.size) (.agg (d.cells u))) :
    RecsOwn (w1.setCells g (i * 9) (d.cells u).toList) g lo n (upD D i d) := by
  obtain ⟨hg, Fs, hR, hF⟩ := h
  have hlt := hR.lt
  have hs := (turns_setCells9 g (d.cells u).toList (i * 9) w1).size
  refine ⟨hg, _, (hR.later hb).put hi hL (fun b hb1 => by have := hb1.1; omega) (fun j hj _ b hb1 hb2 => by have := hb1.1; have := (hF j hj b hb2).2; omega), fun j hj b hb1 => ?_⟩
  unfold upFs at hb1
  split at hb1
  · exact ⟨by have := hb1.1; omega, Nat.lt_of_lt_of_le hb1.2 hs⟩
  · have := hF j hj b hb1
    have := hb.size
    omega
theorem RecsOwn.low {w : World} {g lo lo' n : Nat} {D : Nat → RecD} (h : RecsOwn w g lo n D) (hl : lo' ≤ lo) : RecsOwn w g lo' n D := by
  obtain ⟨hg, Fs, hR, hF⟩ := h
  exact ⟨by omega, Fs, hR, fun i hi b hb => ⟨by have := (hF i hi b hb).1; omega, (hF i hi b hb).2⟩⟩
end Go.Proofs.YtjdepjpjjgkmbaaGreat

/- The laws' copy of a list of records; conditions: the sizes. -/
namespace Go.Proofs.YtjdepjpjjgkmbaaGreat
open Go Go.RowKit

/-- The first k of them, and nothing behind. -/
def recsK (ds : List RecD) (k : Nat) : Nat → RecD := fun j => if j < k then ds.getD j zeroC else zeroC
theorem RecsOwn.there {w : World} {g lo n : Nat} {D : Nat → RecD} (h : RecsOwn w g lo n D) {i : Nat} (hi : i < n) : w.there g (i * 9) 9 := by
  obtain ⟨_, Fs, hR, _⟩ := h
  exact hR.there hi
end Go.Proofs.YtjdepjpjjgkmbaaGreat

/- Records of one's own, read as a list; conditions: none. -/
namespace Go.Proofs.YtjdepjpjjgkmbaaGreat
open Go Go.RowKit

theorem RecsOwn.reads {w : World} {G lo n : Nat} {ds : List RecD} (h : RecsOwn w G lo n (recsK ds n)) (hn : ds.length = n) : RecsF ds w (fun b => b < w.heap.size) (some ⟨G, 0, none⟩) n := by
  obtain ⟨_, Fs, hR, hF⟩ := h
  refine ⟨hn, fun _ => ⟨G, 0, rfl, hR.lt, hR.lt, fun i hi => ?_⟩⟩
  have hi' : i < n := by omega
  obtain ⟨u, h1, h2⟩ := hR.row i hi'
  have hd : recsK ds n i = ds[i] := by
    unfold recsK
    rw [if_pos hi', List.getD_eq_getElem?_getD, List.getElem?_eq_getElem hi]
    rfl
  rw [hd] at h1 h2
  obtain ⟨L, m, mc, e, hm, hp⟩ := ((keepsC _).sub h2.at (fun b hb => (hF i hi' b hb).2) : AtC ds[i] w (fun b => b < w.heap.size) _)
  injection e with e
  have hu : u = .slice L m mc := by simpa [RecD.cells] using e
  subst hu
  refine ⟨L, m, mc, ?_, hm, hp⟩
  rw [Nat.zero_add]
  exact ⟨h1 0 _ rfl, h1 1 _ rfl, h1 2 _ rfl, h1 3 _ rfl, h1 4 _ rfl, h1 5 _ rfl, h1 6 _ rfl, h1 7 _ rfl, h1 8 _ rfl⟩
end Go.Proofs.YtjdepjpjjgkmbaaGreat

/- A journal as data: two lists of records; read, and of one's own; no conditions. -/
namespace Go.Proofs.YtjdepjpjjgkmbaaGreat
open Go Go.RowKit

structure JourD where
  ks : List RecD
  ls : List RecD
def JourD.sz (d : JourD) : Nat := totC d.ks + totC d.ls
/-- A value reads as a journal, through blocks of F alone. -/
def AtJ (d : JourD) (w : World) (F : Nat → Prop) (v : Value) : Prop :=
  ∃ (A : Option Addr) (n c : Nat) (A' : Option Addr) (n' c' : Nat), v = .agg #[.slice A n c, .slice A' n' c'] ∧ n ≤ maxLen ∧ n' ≤ maxLen ∧ RecsF d.ks w F A n ∧ RecsF d.ls w F A' n'
theorem keepsJ (d : JourD) : Keeps (AtJ d) :=
  ⟨fun ⟨A, n, c, A', n', c', e, h1, h2, h3, h4⟩ ht hd => ⟨A, n, c, A', n', c', e, h1, h2, h3.turn ht hd, h4.turn ht hd⟩, fun ⟨A, n, c, A', n', c', e, h1, h2, h3, h4⟩ hs => ⟨A, n, c, A', n', c', e, h1, h2, h3.sub hs, h4.sub hs⟩⟩
theorem RecsF.lt {ds : List RecD} {w : World} {F : Nat → Prop} {A : Option Addr} {n : Nat} (h : RecsF ds w F A n) : RecsF ds w (fun b => F b ∧ b < w.heap.size) A n := by
  refine ⟨h.1, fun hn => ?_⟩
  obtain ⟨b, o, hA, hF, hb, hc⟩ := h.2 hn
  refine ⟨b, o, hA, ⟨hF, hb⟩, hb, fun i hi => ?_⟩
  obtain ⟨L, m, mc, h1, h2, h3⟩ := hc i hi
  refine ⟨L, m, mc, h1, h2, h3.1, fun hm b' o' e => ⟨h3.2 hm b' o' e, ?_⟩⟩
  obtain ⟨b2, o2, e2, hb2, _⟩ := h3.1.2 hm
  rw [e] at e2
  injection e2 with e2
  injection e2 with e2
  subst e2
  exact hb2
/-- A list of records of one's own: nil, or a block, and the records' lists; all in blocks of F. -/
def OwnCS (ds : List RecD) (w : World) (F : Nat → Prop) (v : Value) : Prop :=
  (v = .slice none 0 0 ∧ ds = []) ∨ ∃ (G c : Nat) (Fs : Nat → Nat → Prop), F G ∧ v = .slice (some ⟨G, 0, none⟩) ds.length c ∧ ds.length ≤ c ∧ c ≤ maxLen ∧ RecsAt w G ds.length (recsK ds ds.length) Fs ∧ ∀ i, i < ds.length → ∀ b, Fs i b → F b ∧ b < w.heap.size
theorem OwnCS.turn {ds : List RecD} {w w' : World} {F T : Nat → Prop} {v : Value} (h : OwnCS ds w F v) (ht : Turns T w w') (hd : ∀ b, F b → ¬ T b) : OwnCS ds w' F v := by
  rcases h with h | ⟨G, c, Fs, hG, e, h1, h2, hR, hF⟩
  · exact .inl h
  · exact .inr ⟨G, c, Fs, hG, e, h1, h2, hR.turn ht (hd G hG) (fun i hi b hb => hd b (hF i hi b hb).1), fun i hi b hb => ⟨(hF i hi b hb).1, Nat.lt_of_lt_of_le (hF i hi b hb).2 ht.size⟩⟩
theorem OwnCS.later {ds : List RecD} {w w' : World} {F : Nat → Prop} {v : Value} (h : OwnCS ds w F v) (hb : Below w.heap.size w w') : OwnCS ds w' F v := h.turn (T := fun _ => False) (Turns.of_below hb) (fun _ _ h => h)
theorem OwnCS.sub {ds : List RecD} {w : World} {F F' : Nat → Prop} {v : Value} (h : OwnCS ds w F v) (hs : ∀ b, F b → F' b) : OwnCS ds w F' v := by
  rcases h with h | ⟨G, c, Fs, hG, e, h1, h2, hR, hF⟩
  · exact .inl h
  · exact .inr ⟨G, c, Fs, hs G hG, e, h1, h2, hR, fun i hi b hb => ⟨hs b (hF i hi b hb).1, (hF i hi b hb).2⟩⟩
theorem OwnCS.lt {ds : List RecD} {w : World} {F : Nat → Prop} {v : Value} (h : OwnCS ds w F v) : OwnCS ds w (fun b => F b ∧ b < w.heap.size) v := by
  rcases h with h | ⟨G, c, Fs, hG, e, h1, h2, hR, hF⟩
  · exact .inl h
  · exact .inr ⟨G, c, Fs, ⟨hG, hR.lt⟩, e, h1, h2, hR, fun i hi b hb => ⟨hF i hi b hb, (hF i hi b hb).2⟩⟩
theorem recsK_at {ds : List RecD} {n i : Nat} (hn : ds.length = n) (h : i < ds.length) : recsK ds n i = ds[i] := by
  unfold recsK
  rw [if_pos (by omega), List.getD_eq_getElem?_getD, List.getElem?_eq_getElem h]
  rfl
/-- One's own list, read. -/
theorem OwnCS.reads {ds : List RecD} {w : World} {F : Nat → Prop} {v : Value} (h : OwnCS ds w F v) : ∃ A c, v = .slice A ds.length c ∧ RecsF ds w F A ds.length := by
  rcases h with ⟨rfl, rfl⟩ | ⟨G, c, Fs, hG, e, h1, h2, hR, hF⟩
  · exact ⟨none, 0, rfl, rfl, fun hn => absurd hn (Nat.lt_irrefl _)⟩
  · refine ⟨_, c, e, rfl, fun _ => ⟨G, 0, rfl, hG, hR.lt, fun i hi => ?_⟩⟩
    obtain ⟨u, g1, g2⟩ := hR.row i hi
    rw [recsK_at rfl hi] at g1 g2
    obtain ⟨L, m, mc, e, hm, hp⟩ := ((keepsC _).sub g2.at (fun b hb => (hF i hi b hb).1) : AtC ds[i] w F _)
    injection e with e
    have hu : u = .slice L m mc := by simpa [RecD.cells] using e
    subst hu
    refine ⟨L, m, mc, ?_, hm, hp⟩
    rw [Nat.zero_add]
    exact ⟨g1 0 _ rfl, g1 1 _ rfl, g1 2 _ rfl, g1 3 _ rfl, g1 4 _ rfl, g1 5 _ rfl, g1 6 _ rfl, g1 7 _ rfl, g1 8 _ rfl⟩
theorem OwnCS.len {ds : List RecD} {w : World} {F : Nat → Prop} {v : Value} (h : OwnCS ds w F v) : ds.length ≤ maxLen := by
  rcases h with ⟨rfl, rfl⟩ | ⟨G, c, Fs, hG, e, h1, h2, hR, hF⟩
  · exact Nat.zero_le _
  · omega
theorem RecsOwn.cs {w : World} {G lo n c : Nat} {ds : List RecD} (h : RecsOwn w G lo n (recsK ds n)) (hn : ds.length = n) (hc : n ≤ c) (hm : c ≤ maxLen) : OwnCS ds w (Iv lo w.heap.size) (.slice (some ⟨G, 0, none⟩) n c) := by
  subst hn
  obtain ⟨hg, Fs, hR, hF⟩ := h
  exact .inr ⟨G, c, Fs, ⟨hg, hR.lt⟩, rfl, hc, hm, hR, fun i hi b hb => ⟨hF i hi b hb, (hF i hi b hb).2⟩⟩
/-- A journal of one's own: its two lists apart. -/
def LieJ (d : JourD) (w : World) (F : Nat → Prop) (v : Value) : Prop :=
  ∃ (u u' : Value) (F1 F2 : Nat → Prop), v = .agg #[u, u'] ∧ OwnCS d.ks w F1 u ∧ OwnCS d.ls w F2 u' ∧ (∀ b, F1 b → F b) ∧ (∀ b, F2 b → F b) ∧ ∀ b, F1 b → ¬ F2 b
theorem keepsLJ (d : JourD) : Keeps (LieJ d) :=
  ⟨fun ⟨u, u', F1, F2, e, h1, h2, s1, s2, ha⟩ ht hd => ⟨u, u', F1, F2, e, h1.turn ht (fun b hb => hd b (s1 b hb)), h2.turn ht (fun b hb => hd b (s2 b hb)), s1, s2, ha⟩, fun ⟨u, u', F1, F2, e, h1, h2, s1, s2, ha⟩ hs => ⟨u, u', F1, F2, e, h1, h2, fun b hb => hs b (s1 b hb), fun b hb => hs b (s2 b hb), ha⟩⟩
theorem LieJ.at {d : JourD} {w : World} {F : Nat → Prop} {v : Value} (h : LieJ d w F v) : AtJ d w F v := by
  obtain ⟨u, u', F1, F2, rfl, h1, h2, s1, s2, -⟩ := h
  have l1 := h1.len
  have l2 := h2.len
  obtain ⟨A, c, rfl, r1⟩ := h1.reads
  obtain ⟨A', c', rfl, r2⟩ := h2.reads
  exact ⟨A, _, c, A', _, c', rfl, l1, l2, r1.sub s1, r2.sub s2⟩
end Go.Proofs.YtjdepjpjjgkmbaaGreat

/- Lists of records as cells: a row of nine cells a record; a list somewhere, read; conditions: none. -/
namespace Go.Proofs.YtjdepjpjjgkmbaaGreat
open Go Go.RowKit

/-- The cells of records, each with its list. -/
def flatC (ms : List (RecD × Value)) : List Value := ms.flatMap fun p => (p.1.cells p.2).toList
theorem flatC_len (ms : List (RecD × Value)) : (flatC ms).length = ms.length * 9 := by
  induction ms with
  | nil => rfl
  | cons p ms ih =>
    have e : flatC (p :: ms) = (p.1.cells p.2).toList ++ flatC ms := rfl
    rw [e, List.length_append, ih, List.length_cons, cells_len]
    omega
theorem flatC_app (a b : List (RecD × Value)) : flatC (a ++ b) = flatC a ++ flatC b := by simp [flatC]
theorem flatC_at {ms : List (RecD × Value)} {i : Nat} (h : i < ms.length) {j : Nat} (hj : j < 9) : (flatC ms)[i * 9 + j]? = ((ms[i]).1.cells (ms[i]).2).toList[j]? := by
  induction ms generalizing i with
  | nil => simp at h
  | cons p ms ih =>
    have e : flatC (p :: ms) = (p.1.cells p.2).toList ++ flatC ms := rfl
    rw [e]
    rcases i with _ | i
    · rw [List.getElem?_append_left (by rw [cells_len]; omega)]
      simp
    · rw [List.getElem?_append_right (by rw [cells_len]; omega), cells_len, show (i + 1) * 9 + j - 9 = i * 9 + j by omega]
      exact ih (by simpa using h)
theorem flatC_one {ms : List (RecD × Value)} (h : ∀ p ∈ ms, p.2.oneCell' = true) : ∀ u ∈ flatC ms, u.oneCell' = true := by
  intro u hu
  unfold flatC at hu
  rw [List.mem_flatMap] at hu
  obtain ⟨p, hp, hu⟩ := hu
  have h2 := h p hp
  simp only [RecD.cells, List.mem_cons, List.mem_nil_iff, or_false] at hu
  rcases hu with rfl | rfl | rfl | rfl | rfl | rfl | rfl | rfl | rfl
  all_goals first | rfl | exact h2
/-- A list of pairs somewhere: nil, or at an address, in a block of F. -/
def SlcF (w : World) (F : Nat → Prop) (v : Value) (ps : List (Int × Int)) : Prop :=
  (v = .slice none 0 0 ∧ ps = []) ∨ ∃ b o n cap, v = .slice (some ⟨b, o, none⟩) n cap ∧ n ≤ maxLen ∧ PairsF w F (some ⟨b, o, none⟩) n ps
theorem SlcF.turn {T : Nat → Prop} {w w' : World} {F : Nat → Prop} {v : Value} {ps : List (Int × Int)} (h : SlcF w F v ps) (ht : Turns T w w') (hd : ∀ b, F b → ¬ T b) : SlcF w' F v ps := by
  rcases h with h | ⟨b, o, n, cap, e, hm, hp⟩
  · exact .inl h
  · exact .inr ⟨b, o, n, cap, e, hm, hp.turn ht hd⟩
theorem SlcF.sub {w : World} {F F' : Nat → Prop} {v : Value} {ps : List (Int × Int)} (h : SlcF w F v ps) (hs : ∀ b, F b → F' b) : SlcF w F' v ps := by
  rcases h with h | ⟨b, o, n, cap, e, hm, hp⟩
  · exact .inl h
  · exact .inr ⟨b, o, n, cap, e, hm, hp.1, fun hn b o e => hs b (hp.2 hn b o e)⟩
theorem SlcF.lt {w : World} {F : Nat → Prop} {v : Value} {ps : List (Int × Int)} (h : SlcF w F v ps) : SlcF w (fun b => F b ∧ b < w.heap.size) v ps := by
  rcases h with h | ⟨b, o, n, cap, e, hm, hp⟩
  · exact .inl h
  · refine .inr ⟨b, o, n, cap, e, hm, hp.1, fun hn b' o' e' => ⟨hp.2 hn b' o' e', ?_⟩⟩
    obtain ⟨b2, o2, e2, hb2, _⟩ := hp.1.2 hn
    rw [e'] at e2
    injection e2 with e2
    injection e2 with e2
    subst e2
    exact hb2
theorem SlcF.slc {w : World} {F : Nat → Prop} {v : Value} {ps : List (Int × Int)} (h : SlcF w F v ps) : Slc w v ps := by
  rcases h with h | ⟨b, o, n, cap, e, hm, hp⟩
  · exact .inl h
  · exact .inr ⟨b, o, n, cap, e, hp.1⟩
theorem SlcF.at {w : World} {F : Nat → Prop} {v : Value} {ps : List (Int × Int)} (h : SlcF w F v ps) : ∃ L m mc, v = .slice L m mc ∧ m ≤ maxLen ∧ PairsF w F L m ps := by
  rcases h with ⟨rfl, rfl⟩ | ⟨b, o, n, cap, e, hm, hp⟩
  · exact ⟨none, 0, 0, rfl, Nat.zero_le _, ⟨rfl, fun hn => absurd hn (by omega)⟩, fun hn => absurd hn (by omega)⟩
  · exact ⟨_, n, cap, e, hm, hp⟩
theorem OwnP.somewhere {w : World} {F : Nat → Prop} {v : Value} {ps : List (Int × Int)} (h : OwnP w F v ps) : SlcF w F v ps := by
  have h' := h
  rcases h with h | ⟨g, cap, hg, e, h0, h1, hh⟩
  · exact .inl h
  · obtain ⟨A, c, e', hm, hp, _⟩ := h'.at
    rw [e] at e'
    injection e' with e1 e2 e3
    subst e1
    exact .inr ⟨g, 0, _, cap, e, hm, hp⟩
/-- The records' lists can be read, through blocks of F. -/
def CertsF (w : World) (F : Nat → Prop) (ms : List (RecD × Value)) : Prop := ∀ p ∈ ms, SlcF w F p.2 p.1.ps
theorem CertsF.one {w : World} {F : Nat → Prop} {ms : List (RecD × Value)} (h : CertsF w F ms) : ∀ p ∈ ms, p.2.oneCell' = true := fun p hp => by
  obtain ⟨L, m, mc, e, -⟩ := (h p hp).at
  rw [e]
  rfl
theorem CertsF.turn {T : Nat → Prop} {w w' : World} {F : Nat → Prop} {ms : List (RecD × Value)} (h : CertsF w F ms) (ht : Turns T w w') (hd : ∀ b, F b → ¬ T b) : CertsF w' F ms := fun p hp => (h p hp).turn ht hd
theorem CertsF.later {w w' : World} {F : Nat → Prop} {ms : List (RecD × Value)} (h : CertsF w F ms) (hb : Below w.heap.size w w') : CertsF w' F ms := h.turn (T := fun _ => False) (Turns.of_below hb) (fun _ _ h => h)
theorem CertsF.sub {w : World} {F F' : Nat → Prop} {ms : List (RecD × Value)} (h : CertsF w F ms) (hs : ∀ b, F b → F' b) : CertsF w F' ms := fun p hp => (h p hp).sub hs
theorem CertsF.app {w : World} {F : Nat → Prop} {a b : List (RecD × Value)} (h : CertsF w F a) (h' : CertsF w F b) : CertsF w F (a ++ b) := fun p hp => by
  rcases List.mem_append.1 hp with hp | hp
  · exact h p hp
  · exact h' p hp
/-- Records' cells in a block, from a place on. -/
def CellsAt (w : World) (b o : Nat) (ms : List (RecD × Value)) : Prop := ∀ j x, (flatC ms)[j]? = some x → w.cell? ⟨b, o + j, none⟩ = some x
/-- A list of records somewhere: nil, or at an address. -/
def ListS (ds : List RecD) (w : World) (F : Nat → Prop) (v : Value) : Prop :=
  (v = .slice none 0 0 ∧ ds = []) ∨ ∃ b o c, v = .slice (some ⟨b, o, none⟩) ds.length c ∧ ds.length ≤ c ∧ c ≤ maxLen ∧ (0 < ds.length → F b ∧ b < w.heap.size) ∧ ∃ ms : List (RecD × Value), ms.map (·.1) = ds ∧ CertsF w F ms ∧ CellsAt w b o ms
theorem flatC_lt {ms : List (RecD × Value)} {j : Nat} {x : Value} (h : (flatC ms)[j]? = some x) : j < ms.length * 9 := by
  have := (List.getElem?_eq_some_iff.1 h).1
  rwa [flatC_len] at this
theorem ListS.turn {T : Nat → Prop} {ds : List RecD} {w w' : World} {F : Nat → Prop} {v : Value} (h : ListS ds w F v) (ht : Turns T w w') (hd : ∀ b, F b → ¬ T b) : ListS ds w' F v := by
  rcases h with h | ⟨b, o, c, e, h1, h2, h3, ms, hm, hc, hx⟩
  · exact .inl h
  · refine .inr ⟨b, o, c, e, h1, h2, fun hn => ⟨(h3 hn).1, Nat.lt_of_lt_of_le (h3 hn).2 ht.size⟩, ms, hm, hc.turn ht hd, fun j x hj => ?_⟩
    have hn : 0 < ds.length := by have := flatC_lt hj; rw [← hm, List.length_map]; omega
    exact (ht.cell (h3 hn).2 (hd b (h3 hn).1) _).trans (hx j x hj)
theorem ListS.later {ds : List RecD} {w w' : World} {F : Nat → Prop} {v : Value} (h : ListS ds w F v) (hb : Below w.heap.size w w') : ListS ds w' F v := h.turn (T := fun _ => False) (Turns.of_below hb) (fun _ _ h => h)
theorem ListS.sub {ds : List RecD} {w : World} {F F' : Nat → Prop} {v : Value} (h : ListS ds w F v) (hs : ∀ b, F b → F' b) : ListS ds w F' v := by
  rcases h with h | ⟨b, o, c, e, h1, h2, h3, ms, hm, hc, hx⟩
  · exact .inl h
  · exact .inr ⟨b, o, c, e, h1, h2, fun hn => ⟨hs b (h3 hn).1, (h3 hn).2⟩, ms, hm, hc.sub hs, hx⟩
theorem ListS.lt {ds : List RecD} {w : World} {F : Nat → Prop} {v : Value} (h : ListS ds w F v) : ListS ds w (fun b => F b ∧ b < w.heap.size) v := by
  rcases h with h | ⟨b, o, c, e, h1, h2, h3, ms, hm, hc, hx⟩
  · exact .inl h
  · exact .inr ⟨b, o, c, e, h1, h2, fun hn => ⟨h3 hn, (h3 hn).2⟩, ms, hm, fun p hp => (hc p hp).lt, hx⟩
theorem flatC_row {w : World} {b o : Nat} {ms : List (RecD × Value)} (hx : CellsAt w b o ms) {i : Nat} (hi : i < ms.length) : RecAt w b (o + i * 9) (ms[i]).1 (ms[i]).2 := by
  have C : ∀ j x, j < 9 → ((ms[i]).1.cells (ms[i]).2).toList[j]? = some x → w.cell? ⟨b, o + i * 9 + j, none⟩ = some x := fun j x hj h => by
    have h2 := hx (i * 9 + j) x (by rw [flatC_at hi hj]; exact h)
    rwa [← Nat.add_assoc] at h2
  exact ⟨C 0 _ (by omega) rfl, C 1 _ (by omega) rfl, C 2 _ (by omega) rfl, C 3 _ (by omega) rfl, C 4 _ (by omega) rfl, C 5 _ (by omega) rfl, C 6 _ (by omega) rfl, C 7 _ (by omega) rfl, C 8 _ (by omega) rfl⟩
theorem map_at {ms : List (RecD × Value)} {ds : List RecD} (hm : ms.map (·.1) = ds) {i : Nat} (h : i < ds.length) : ∃ h' : i < ms.length, (ms[i]).1 = ds[i] := by
  subst hm
  have h' : i < ms.length := by rwa [List.length_map] at h
  exact ⟨h', by simp⟩
theorem ListS.at {ds : List RecD} {w : World} {F : Nat → Prop} {v : Value} (h : ListS ds w F v) : ∃ A c, v = .slice A ds.length c ∧ ds.length ≤ maxLen ∧ RecsF ds w F A ds.length := by
  rcases h with ⟨rfl, rfl⟩ | ⟨b, o, c, e, h1, h2, h3, ms, hm, hc, hx⟩
  · exact ⟨none, 0, rfl, Nat.zero_le _, rfl, fun hn => absurd hn (Nat.lt_irrefl _)⟩
  · refine ⟨_, c, e, Nat.le_trans h1 h2, rfl, fun hn => ⟨b, o, rfl, (h3 hn).1, (h3 hn).2, fun i hi => ?_⟩⟩
    obtain ⟨hi', ed⟩ := map_at hm hi
    obtain ⟨L, m, mc, e1, h4, h5⟩ := (hc ms[i] (List.getElem_mem hi')).at
    have hr := flatC_row hx hi'
    rw [ed, e1] at hr
    rw [ed] at h5
    exact ⟨L, m, mc, hr, h4, h5⟩
theorem OwnCS.list {ds : List RecD} {w : World} {F : Nat → Prop} {v : Value} (h : OwnCS ds w F v) : ListS ds w F v := by
  rcases h with h | ⟨G, c, Fs, hG, e, h1, h2, hR, hF⟩
  · exact .inl h
  · have each : ∀ i, i < ds.length → ∃ u : Value, ∀ hi : i < ds.length, w.rangeAt G (i * 9) ((ds[i]).cells u).toList ∧ SlcF w F u (ds[i]).ps := by
      intro i hi
      obtain ⟨u, g1, g2⟩ := hR.row i hi
      rw [recsK_at rfl hi] at g1 g2
      obtain ⟨u', e', ho⟩ := g2
      injection e' with e'
      have hu : u = u' := by simpa [RecD.cells] using e'
      subst hu
      exact ⟨u, fun _ => ⟨g1, (ho.sub (fun b hb => (hF i hi b hb).1)).somewhere⟩⟩
    haveI : Inhabited Value := ⟨.slice none 0 0⟩
    obtain ⟨q, hq⟩ := Go.Deep.choose_lt each
    have hlen : (ds.mapIdx fun i d => (d, q i)).length = ds.length := by simp
    refine .inr ⟨G, 0, c, e, h1, h2, fun _ => ⟨hG, hR.lt⟩, ds.mapIdx fun i d => (d, q i), ?_, fun p hp => ?_, fun j x hj => ?_⟩
    · apply List.ext_getElem
      · simp
      · intro i h1 h2
        simp
    · obtain ⟨i, hi, rfl⟩ := List.mem_iff_getElem.1 hp
      rw [hlen] at hi
      simp only [List.getElem_mapIdx]
      exact (hq i hi hi).2
    · have hjl := flatC_lt hj
      rw [hlen] at hjl
      have hi : j / 9 < ds.length := by omega
      have hjm : j % 9 < 9 := by omega
      have e := flatC_at (ms := ds.mapIdx fun i d => (d, q i)) (i := j / 9) (by rw [hlen]; exact hi) hjm
      rw [show j / 9 * 9 + j % 9 = j by omega, hj] at e
      simp only [List.getElem_mapIdx] at e
      have h3 := (hq (j / 9) hi hi).1 (j % 9) x e.symm
      rwa [show j / 9 * 9 + j % 9 = 0 + j by omega] at h3
theorem ListS.src {ds : List RecD} {w : World} {F : Nat → Prop} {v : Value} (h : ListS ds w F v) : ∃ ms : List (RecD × Value), ms.map (·.1) = ds ∧ CertsF w F ms ∧ Src w v ds.length 9 (flatC ms) := by
  rcases h with ⟨rfl, rfl⟩ | ⟨b, o, c, e, h1, h2, h3, ms, hm, hc, hx⟩
  · exact ⟨[], rfl, fun p hp => absurd hp (List.not_mem_nil), .inl ⟨rfl, rfl, rfl⟩⟩
  · refine ⟨ms, hm, hc, .inr ⟨⟨b, o, none⟩, c, e, ?_, fun j x hj => ?_, flatC_one hc.one⟩⟩
    · rw [flatC_len, ← hm, List.length_map]
    · rw [show (⟨b, o, none⟩ : Addr).add j = ⟨b, o + j, none⟩ by unfold Addr.add; split <;> simp_all]
      exact hx j x hj
/-- A row of one's own, whose records' lists can be read, is a list. -/
theorem row_list {w : World} {base n : Nat} {t : TypeId} {v : Value} {ms : List (RecD × Value)} {F : Nat → Prop} (h : w.ownsRow base t 9 v n (flatC ms)) (hn : ms.length = n) (hc : CertsF w F ms) (hF : ∀ b, base ≤ b → b < w.heap.size → F b) : ListS (ms.map (·.1)) w F v := by
  have hlen : (ms.map (·.1)).length = n := by rw [List.length_map, hn]
  rcases h.2 with ⟨e, h0⟩ | ⟨g, cap, cur, e, hb, hg, h1, h2, -, -⟩
  · refine .inl ⟨e, List.eq_nil_of_length_eq_zero (by rw [hlen, h0])⟩
  · have hgl : g < w.heap.size := (h.lt g (by rw [e]; rfl)).2
    subst e
    refine .inr ⟨g, 0, cap, by rw [hlen], by rw [hlen]; exact h1, h2, fun _ => ⟨hF g hb hgl, hgl⟩, ms, rfl, hc, fun j x hj => ?_⟩
    have := flatC_lt hj
    rw [Nat.zero_add, h.cellAt j (by omega)]
    exact hj
theorem Src.later {w w' : World} {u : Value} {m size : Nat} {news : List Value} (h : Src w u m size news) (hb : Below w.heap.size w w') : Src w' u m size news := by
  rcases h with h | ⟨ad, c, e, h1, h2, h3⟩
  · exact .inl h
  · exact .inr ⟨ad, c, e, h1, fun j x hx => by
      have h4 := h2 j x hx
      exact (hb.cell (p := ad.add j) (block_lt_of_cell h4)).trans h4, h3⟩
end Go.Proofs.YtjdepjpjjgkmbaaGreat

/- The library's Grow and Concat over lists of records: two of them, one behind the other; conditions: the sizes. -/
namespace Go.Proofs.YtjdepjpjjgkmbaaGreat
open Go Go.RowKit

theorem Tryz.infoRecI : (Tryz.prog.info? 46).map (fun i => (i.zero, i.size, i.bytes)) = some (some (.agg #[.int .i64 0, .int .i64 0, .int .i64 0, .int .i64 0, .int .i64 0, .int .i64 0, .int .i64 0, .slice none 0 0, .int .i64 0]), 9, 88) := by kernel_rfl
set_option maxRecDepth 100000 in
set_option maxHeartbeats 1000000 in
theorem growRec_is (n : Nat) (w : World) (hn : n ≤ 4194304) :
    Calls Tryz.prog 179 #[.slice none 0 0, .int .i64 n] w fun e w' => ∃ v, e = .returned v ∧ w'.ownsRow w.heap.size 46 9 v 0 [] ∧ Below w.heap.size w w' := by
  obtain ⟨i0, hi0, hz0, hz1, hz2⟩ := info_parts Tryz.infoRecI
  rcases Nat.eq_zero_or_pos n with rfl | hpos
  · go_enter Tryz.func179, Tryz.ntmps179
    go_wp2
    go_ret
    exact ⟨_, rfl, World.ownsRow_nil w _ _ _, Below.refl _ _⟩
  · have hrz : ∀ ty, (Builtin.append_ #[27, 3] ty #[.slice none 0 0, .int .i64 (n : Int)]).run Tryz.prog w =
        .ok (.slice (some ⟨w.heap.size, 0, none⟩) n (grownCap w n 0 46)) (w.drew.alloc (.cells (#[] ++ Builtin.zeroCells (Value.agg #[.int .i64 0, .int .i64 0, .int .i64 0, .int .i64 0, .int .i64 0, .int .i64 0, .int .i64 0, .slice none 0 0, .int .i64 0]).cells n ++ Builtin.zeroCells (Value.agg #[.int .i64 0, .int .i64 0, .int .i64 0, .int .i64 0, .int .i64 0, .int .i64 0, .int .i64 0, .slice none 0 0, .int .i64 0]).cells (grownCap w n 0 46 - n)) 46)) := fun ty => by
      have h := Lib.run_append_grow_zeros w 27 3 ty 46 i0 _ .i64 .i64 Tryz.underlying27 Tryz.underlying3 hi0 hz0 none 0 0 [] (run_firstCells_none w.drew i0.size 0 0 0) n (by omega) (by omega) (by omega) (by omega)
        (by rw [hz2]; omega) (by rw [Nat.zero_add]; exact growslice_fits hpos (by rw [hz2]; omega))
      simpa using h
    have hGn := grownCap_ge w n 0 46
    have hGm := grownCap_le_maxLen w n 0 46 (by unfold maxLen; omega)
    generalize grownCap w n 0 46 = G at hrz hGn hGm
    have hG := Lib.hid hGm
    unfold maxLen at hGm
    have hp : (0 : Int) < (n : Int) := by omega
    go_enter Tryz.func179, Tryz.ntmps179
    go_wp2_with (at_builtin; refine Lib.wpList_append_run _ rfl _ _ _ _ rfl _ _ rfl rfl _ _ (hrz _) ?_)
    go_ret
    refine ⟨_, rfl, ?_, ((Below.refl _ _).drew).alloc (Nat.le_refl _) _⟩
    exact World.ownsRow_made w.drew _ G (Nat.le_refl _) hG.out (by simp [size_zeroCells]; show n * 9 + (G - n) * 9 = G * 9; omega)

set_option maxRecDepth 100000 in
set_option maxHeartbeats 1000000 in
theorem concatRec_is (q : Nat) (v v' : Value) (n n' : Nat) (xs xs' : List Value) (w : World) (hn : n + n' ≤ 2097152) (Q : Box w q 27 #[v, v']) (h : Src w v n 9 xs) (h' : Src w v' n' 9 xs') :
    Calls Tryz.prog 132 #[.slice (some ⟨q, 0, none⟩) 2 2] w fun e w' => ∃ u, e = .returned u ∧ w'.ownsRow w.heap.size 46 9 u (n + n') (xs ++ xs') ∧ Below w.heap.size w w' := by
  obtain ⟨i0, hi0, hz0, hz1, hz2⟩ := info_parts Tryz.infoRecI
  have hq := Q.lt
  obtain ⟨A, cap, hv⟩ : ∃ (A : Option Addr) (cap : Nat), v = .slice A n cap := by
    rcases h with ⟨rfl, rfl, _⟩ | ⟨ad, c, rfl, _⟩ <;> exact ⟨_, _, rfl⟩
  obtain ⟨A', cap', hv'⟩ : ∃ (A : Option Addr) (cap : Nat), v' = .slice A n' cap := by
    rcases h' with ⟨rfl, rfl, _⟩ | ⟨ad, c, rfl, _⟩ <;> exact ⟨_, _, rfl⟩
  subst hv hv'
  have HQ := Lib.hid Q
  have HS := Lib.hid h
  have HS' := Lib.hid h'
  clear Q h h'
  obtain ⟨s, hs, hs'⟩ : ∃ s : Nat, (n : Int) + (n' : Int) = (s : Int) ∧ n + n' = s := ⟨n + n', by omega, rfl⟩
  have hs' := Lib.hid hs'
  rename_i q1
  clear q1
  go_enter Tryz.func132, Tryz.ntmps132
  go_wp2_with fail
  go_loopw [3, 11] (fun sv iv wr => wr = w ∧ ((sv = .int .i64 0 ∧ iv = .int .i64 0) ∨ (sv = .int .i64 n ∧ iv = .int .i64 1) ∨ (sv = .int .i64 s ∧ iv = .int .i64 2))) (fun _ i _ => 2 - (intOf i).toNat)
  case atStart => exact ⟨rfl, .inl ⟨rfl, rfl⟩⟩
  case round =>
    obtain ⟨rfl, ⟨rfl, rfl⟩ | ⟨rfl, rfl⟩ | ⟨rfl, rfl⟩⟩ := hrel
    · obtain ⟨c0, c1⟩ := HQ.out.two
      go_wp2
      go_roundw
      case rel => exact ⟨trivial, .inr (.inl ⟨by go_num, rfl⟩)⟩
      case measure => simp [intOf]
    · obtain ⟨c0, c1⟩ := HQ.out.two
      go_wp2
      go_roundw
      case rel => exact ⟨trivial, .inr (.inr ⟨rfl, rfl⟩)⟩
      case measure => simp [intOf]
    · go_wp2_with fail
      refine (growRec_is s _ (by have := hs'.out; omega)).mono ?_
      rintro e w1 ⟨u, rfl, hown, hb⟩
      have hown1 := Lib.hid hown
      clear hown
      obtain ⟨w0, rfl⟩ : ∃ w0, w0 = wr := ⟨_, rfl⟩
      go_wp2_with fail
      go_loopw [6, 27] (fun uv iv wr => Below w0.heap.size w0 wr ∧ ((iv = .int .i64 0 ∧ wr.ownsRow w0.heap.size 46 9 uv 0 []) ∨ (iv = .int .i64 1 ∧ wr.ownsRow w0.heap.size 46 9 uv n xs) ∨ (iv = .int .i64 2 ∧ wr.ownsRow w0.heap.size 46 9 uv s (xs ++ xs')))) (fun _ i _ => 2 - (intOf i).toNat)
      case atStart => exact ⟨hb, .inl ⟨rfl, hown1.out⟩⟩
      case round =>
        obtain ⟨hbel, ⟨rfl, hown⟩ | ⟨rfl, hown⟩ | ⟨rfl, hown⟩⟩ := hrel
        · have hc := (HQ.out.later hbel HQ.out.lt |>.two)
          rcases HS.out with ⟨hv, hps, hxs⟩ | ⟨ad, c, hv, hl, hnews, hone⟩
          · injection hv with e1 e2 e3
            subst e1 e2 e3
            have hxs := Lib.hid hxs
            rename_i q1
            clear q1 hps
            go_wp2_with (at_builtin; refine wpList_append_own_none rfl _ _ _ rfl w0.heap.size 46 i0 9 Tryz.underlying27 hi0 u6 0 [] rfl hown rfl ?_)
            go_roundw
            case rel => exact ⟨hbel, .inr (.inl ⟨rfl, by rw [hxs.out]; exact hown⟩)⟩
            case measure => simp [intOf]
          · injection hv with e1 e2 e3
            subst e1 e3
            have hbs := hbel.size
            have hoL := Lib.hid hown
            have hN : ∀ j x, xs[j]? = some x → wr.cell? (ad.add j) = some x := fun j x hx => by
              have := hnews j x hx
              exact (hbel.cell (p := ad.add j) (block_lt_of_cell this)).trans this
            have HN := Lib.hid hN
            have HO := Lib.hid hone
            have HLn := Lib.hid hl
            clear hN hone hl hnews
            go_wp2_with (at_builtin; refine wpList_append_own _ rfl _ _ _ rfl w0.heap.size 46 i0 _ 9 88 Tryz.underlying27 hi0 hz0 hz1 hz2 rfl (by omega) u6 0 [] rfl hown ad n cap xs rfl HLn.out HN.out HO.out (by unfold maxLen; omega) (by omega) hbs ?_; intro u1 w2 hown2 hgrow2 _)
            have E2 := hbel.grown hgrow2 hbs (fun k hk => (hoL.out.lt k hk).1)
            have hown3 := Lib.hid hown2
            clear hown2
            go_roundw
            case rel => exact ⟨E2, .inr (.inl ⟨rfl, by simpa using hown3.out⟩)⟩
            case measure => simp [intOf]
        · have hc := (HQ.out.later hbel HQ.out.lt |>.two)
          rcases HS'.out with ⟨hv, hps, hxs⟩ | ⟨ad, c, hv, hl, hnews, hone⟩
          · injection hv with e1 e2 e3
            subst e1 e2 e3
            have hxs := Lib.hid hxs
            rename_i q1
            clear q1 hps
            go_wp2_with (at_builtin; refine wpList_append_own_none rfl _ _ _ rfl w0.heap.size 46 i0 9 Tryz.underlying27 hi0 u6 n xs rfl hown rfl ?_)
            go_roundw
            case rel => exact ⟨hbel, .inr (.inr ⟨rfl, by rw [hxs.out, List.append_nil, ← hs'.out]; exact hown⟩)⟩
            case measure => simp [intOf]
          · injection hv with e1 e2 e3
            subst e1 e3
            have hbs := hbel.size
            have hoL := Lib.hid hown
            have hN : ∀ j x, xs'[j]? = some x → wr.cell? (ad.add j) = some x := fun j x hx => by
              have := hnews j x hx
              exact (hbel.cell (p := ad.add j) (block_lt_of_cell this)).trans this
            have HN := Lib.hid hN
            have HO := Lib.hid hone
            have HLn := Lib.hid hl
            clear hN hone hl hnews
            go_wp2_with (at_builtin; refine wpList_append_own _ rfl _ _ _ rfl w0.heap.size 46 i0 _ 9 88 Tryz.underlying27 hi0 hz0 hz1 hz2 rfl (by omega) u6 n xs rfl hown ad n' cap' xs' rfl HLn.out HN.out HO.out (by unfold maxLen; omega) (by omega) hbs ?_; intro u1 w2 hown2 hgrow2 _)
            have E2 := hbel.grown hgrow2 hbs (fun k hk => (hoL.out.lt k hk).1)
            have hown3 := Lib.hid hown2
            clear hown2
            go_roundw
            case rel => exact ⟨E2, .inr (.inr ⟨rfl, by rw [← hs'.out]; exact hown3.out⟩)⟩
            case measure => simp [intOf]
        · have hown2 := Lib.hid hown
          clear hown
          go_wp2
          go_ret
          exact ⟨_, rfl, by rw [hs'.out]; exact hown2.out, hbel⟩
end Go.Proofs.YtjdepjpjjgkmbaaGreat

/- Sink's walk inside a fence that asks nothing of a function, in a round or in none: a region that draws its order, no operation of it a defer; no conditions. -/
namespace Go.Proofs.YtjdepjpjjgkmbaaGreat
open Go

/-- A fence that lets every function in, and a region without a defer. -/
def Plain (F : Fence) (ops : Array Oper) : Prop := (∀ f, F.fn f) ∧ ∀ (j : Nat) (o : Oper), ops[j]? = some o → ∀ ρ : Operand → Value, o.semAt F.round ρ = execOp ρ o
def noDefer (ops : Array Oper) : Bool := ops.all fun o => match o.op with | .defer _ => false | _ => true
theorem plain_of {F : Fence} {ops : Array Oper} (hF : ∀ f, F.fn f) (h : noDefer ops = true) : Plain F ops := ⟨hF, fun j o ho ρ => by
  refine Oper.semAt_eq _ _ _ (fun c hc => ?_)
  unfold noDefer at h
  rw [Array.all_eq_true_iff_forall_mem] at h
  have := h o (Array.mem_of_getElem? ho)
  rw [hc] at this
  cases this⟩

section
variable {F : Fence} {n : Nat} {P : Program} {ops : Array Oper} {Q : Exit → Act → World → Prop} {md : Region.Mode} {S T : World → Prop} {z : Nat}

theorem _root_.Go.YieldsIf.wpOpIn (hsem : Plain F ops) {i : Nat} {o : Oper} {v : Value} {a : Act} (hi : ops[i]? = some o) (hy : YieldsIf P ops S o v a)
    {K : Act → World → Prop} {w : World} (hS : S w) (h : K (a.put o.dst v) w) : wpOpIn F n P ops Q i K a w := by
  unfold Go.wpOpIn
  simp only [hi]
  rcases hy with ⟨hw, hv⟩ | ⟨hw, rfl⟩
  · simp only [hw, if_true, Oper.wpIn, hsem.2 i o hi, hv w hS, Oper.uponIn]; exact ⟨fun f _ => hsem.1 f, h⟩
  · simp only [hw, Bool.false_eq_true, if_false]; exact ⟨fun f _ => hsem.1 f, h⟩
theorem wpOpIn_putIf (hsem : Plain F ops) {j : Nat} {oi oj : Oper} {v : Value} (hj : ops[j]? = some oj) (hap : oi.apart ops oj = true)
    (hsi : ∀ cs b, oi.op ≠ .select cs b) (hsj : ∀ cs b, oj.op ≠ .select cs b)
    (hQ : ∀ c a w, Q (.panic c) (a.put oi.dst v) w → Q (.panic c) a w) {K : Act → World → Prop} {a : Act} {w : World}
    (hy : YieldsIf P ops S oi v a) (h : wpOpIn F n P ops Q j K (a.put oi.dst v) w) :
    wpOpIn F n P ops Q j (fun a' w' => YieldsIf P ops S oi v a' ∧ K (a'.put oi.dst v) w') a w := by
  obtain ⟨h1, h2, h3⟩ := Oper.apart_spec hap
  have keep : ∀ (a : Act), YieldsIf P ops S oi v a → ∀ u, YieldsIf P ops S oi v (a.put oj.dst u) := fun a hy u =>
    hy.of_same (execOp_put oi hsi a oj.dst u h3) (wanted_put oi a oj.dst u h3)
  have swap : ∀ {u : Value} {w' : World}, K ((a.put oi.dst v).put oj.dst u) w' → YieldsIf P ops S oi v (a.put oj.dst u) ∧ K ((a.put oj.dst u).put oi.dst v) w' :=
    fun h => ⟨keep a hy _, by rw [← Act.put_comm a v _ h2]; exact h⟩
  have hjs := hsem.2 j oj hj
  have hfn := hsem.1
  unfold wpOpIn at *
  simp only [hj] at h ⊢
  rw [wanted_put oj a oi.dst v h1] at h
  split
  · rename_i hw
    simp only [hw, if_true] at h
    unfold Oper.wpIn at *
    refine ⟨fun f _ => hfn f, ?_⟩
    have h := h.2
    rw [hjs, execOp_put oj hsj a oi.dst v h1] at h
    rw [hjs]
    generalize (execOp a.eval oj).run P w = r at *
    cases r with
    | ok x w' =>
      cases x <;> simp only [Oper.uponIn] at h ⊢
      case value u => exact swap h
      case skip => exact swap h
      case defer d =>
        refine ⟨keep { a with defers := d :: a.defers } (hy.of_same rfl rfl) _, ?_⟩
        rw [← Act.put_comm _ v undef h2, ← Act.put_defers]
        exact h
      case enter f args => exact ⟨h.1, CallsIn.mono h.2 fun e w'' he => by cases e <;> first | exact swap he | exact hQ _ _ _ he | exact he⟩
      case row row args => exact ⟨h.1, RowsIn.mono h.2 fun u w'' he => swap he⟩
      case round l f tmps assign body => exact ⟨h.1, RoundIn.mono h.2 fun e w'' he => by cases e <;> first | exact swap he | exact hQ _ _ _ he | exact he⟩
    | halt x w' =>
      cases x <;> simp only [Oper.uponIn] at h ⊢
      case panic u => exact hQ _ _ _ h
  · rename_i hw
    simp only [hw] at h
    exact ⟨fun f _ => hsem.1 f, swap h.2⟩

/-- Whatever order is picked from here on, and S holds behind every operation till number z has come up. -/
def wpAnyEI (F : Fence) (n : Nat) (P : Program) (md : Region.Mode) (ops : Array Oper) (Q : Exit → Act → World → Prop) (S : World → Prop) (z : Nat) : Nat → Array Bool → Act → World → Prop
  | 0, listed, a, w => Region.ready md ops listed = [] ∧ Q .normal a w
  | fuel + 1, listed, a, w =>
    (Region.ready md ops listed = [] → Q .normal a w) ∧
    ∀ i ∈ Region.ready md ops listed, wpOpIn F n P ops Q i (fun a' w' => (i ≠ z → listed.getD z false = false → S w') ∧ wpAnyEI F n P md ops Q S z fuel (listed.setIfInBounds i true) a' w') a w

theorem wpAnyIn_of_sink : ∀ (fuel : Nat) (listed : Array Bool) (a : Act) (w : World), wpAnyEI F n P md ops Q S z fuel listed a w → wpAnyIn F n P md ops Q fuel listed a w
  | 0, _, _, _, h => h
  | fuel + 1, _, _, _, h => ⟨h.1, fun i hi => wpOpIn_mono (fun a' w' h' => wpAnyIn_of_sink fuel _ a' w' h'.2) (h.2 i hi)⟩

theorem wpAnyEI_first {i : Nat} {oi : Oper} {v : Value} (hsem : Plain F ops) (hi : ops[i]? = some oi) (hsel : ∀ (j : Nat) (o : Oper) cs b, ops[j]? = some o → o.op ≠ .select cs b)
    (hQ : ∀ c a w, Q (.panic c) (a.put oi.dst v) w → Q (.panic c) a w) (hiz : i ≠ z) :
    ∀ (fuel : Nat) (listed : Array Bool) (a : Act) (w : World),
      (∀ j oj, ops[j]? = some oj → j ≠ i → listed.getD j true = false → (∀ e ∈ oj.after, Region.binds md e = true → e.on ≠ i) → oi.apart ops oj = true) →
      i ∈ Region.ready md ops listed → YieldsIf P ops T oi v a → FirstAt md ops S T z i listed → (listed.getD z false = false → S w) →
      wpAnyEI F n P md ops Q S z fuel (listed.setIfInBounds i true) (a.put oi.dst v) w → wpAnyEI F n P md ops Q S z (fuel + 1) listed a w := by
  intro fuel
  induction fuel with
  | zero =>
    intro listed a w _ hr hy hF hS H
    have hT : T w := by
      rcases hF with h | ⟨h, _, hl⟩
      · exact h w
      · exact h w (hS hl)
    refine ⟨fun h => (by rw [h] at hr; cases hr), fun j hj => ?_⟩
    by_cases hji : j = i
    · subst hji; exact hy.wpOpIn hsem hi hT ⟨fun _ h => hS h, H⟩
    · have := ready_mono hj hji
      rw [H.1] at this
      cases this
  | succ fuel ih =>
    intro listed a w hfree hr hy hF hS H
    have hT : T w := by
      rcases hF with h | ⟨h, _, hl⟩
      · exact h w
      · exact h w (hS hl)
    refine ⟨fun h => (by rw [h] at hr; cases hr), fun j hj => ?_⟩
    by_cases hji : j = i
    · subst hji; exact hy.wpOpIn hsem hi hT ⟨fun _ h => hS h, H⟩
    · have h1 := H.2 j (ready_mono hj hji)
      obtain ⟨hjun, oj, hoj, hall⟩ := mem_ready.1 hj
      have hun := (mem_ready.1 hr).1
      have hnot : ∀ e ∈ oj.after, Region.binds md e = true → e.on ≠ i := fun e he hb heq => by
        have h1 := hall e he hb
        rw [heq, getD_both hun] at h1
        cases h1
      have hzset : (listed.setIfInBounds i true).getD z false = listed.getD z false := getD_set_ne false hiz
      have h2 := wpOpIn_putIf hsem hoj (hfree j oj hoj hji hjun hnot) (fun cs b => hsel i oi cs b hi) (fun cs b => hsel j oj cs b hoj) hQ hy h1
      have hfree' : ∀ k ok, ops[k]? = some ok → k ≠ i → (listed.setIfInBounds j true).getD k true = false →
          (∀ e ∈ ok.after, Region.binds md e = true → e.on ≠ i) → oi.apart ops ok = true := fun k ok hk hki hun hno => by
        refine hfree k ok hk hki ?_ hno
        by_cases hjk : j = k
        · subst hjk; exact hjun
        · rw [getD_set_ne true hjk] at hun; exact hun
      have hF' : FirstAt md ops S T z i (listed.setIfInBounds j true) := by
        rcases hF with h | ⟨h, hw, hl⟩
        · exact .inl h
        · refine .inr ⟨h, hw, ?_⟩
          by_cases hjz : j = z
          · subst hjz
            obtain ⟨o', ho', e, he, hb, hon⟩ := Region.waitsFor_spec hw
            have : o' = oj := Option.some.inj (ho'.symm.trans hoj)
            subst this
            exact absurd hon (hnot e he hb)
          · rw [getD_set_ne false hjz]; exact hl
      refine wpOpIn_mono (fun a' w' h3 => ⟨fun hjz hlz => h3.2.1 hjz (hzset.trans hlz), ih (listed.setIfInBounds j true) a' w' hfree' (ready_mono hr (Ne.symm hji)) h3.1 hF' (fun hz' => ?_) ?_⟩) h2
      · by_cases hjz : j = z
        · subst hjz
          have hs : j < listed.size := by
            rcases Nat.lt_or_ge j listed.size with h | h
            · exact h
            · simp [Array.getElem?_eq_none h] at hjun
          simp [hs] at hz'
        · rw [getD_set_ne false hjz] at hz'
          exact h3.2.1 hjz (hzset.trans hz')
      · rw [Array.setIfInBounds_comm _ _ hji]
        exact h3.2.2

/-- Take number i first, which yields in whatever world. -/
theorem wpAnyEI_pure {i : Nat} {oi : Oper} {v : Value} (hsem : Plain F ops) {fuel : Nat} {listed : Array Bool} {a : Act} {w : World} (hi : ops[i]? = some oi)
    (hs : Region.noSelect ops = true) (hf : Region.free md ops listed i = true) (hr : (Region.ready md ops listed).contains i = true)
    (hQ : ∀ c a w, Q (.panic c) (a.put oi.dst v) w → Q (.panic c) a w) (hz : (i == z) = false) (hy : YieldsIf P ops (fun _ => True) oi v a) (hS : S w)
    (h : wpAnyEI F n P md ops Q S z fuel (listed.setIfInBounds i true) (a.put oi.dst v) w) : wpAnyEI F n P md ops Q S z (fuel + 1) listed a w :=
  wpAnyEI_first hsem hi (Region.noSelect_spec hs) hQ (by simpa using hz) fuel listed a w (Region.free_spec hi hf) (by simpa using hr) hy (.inl fun _ => trivial) (fun _ => hS) h
/-- Number i alone can come up, and is not the last: S is to be shown anew. -/
theorem wpAnyEI_one {i : Nat} {o : Oper} {fuel : Nat} {listed : Array Bool} {a : Act} {w : World} (hr : Region.ready md ops listed = [i]) (ho : ops[i]? = some o)
    (h : ∀ K' : Act → World → Prop, Shut (∀ a w, S w → (S w → wpAnyEI F n P md ops Q S z fuel (listed.setIfInBounds i true) a w) → K' a w) → if Region.wanted o (yielded ops a.tmps) = true then Oper.wpIn F n P o a w K' Q else (∀ f, o.about P w a.eval = some f → F.fn f) ∧ K' (a.put o.dst undef) w) : wpAnyEI F n P md ops Q S z (fuel + 1) listed a w := by
  refine ⟨fun h0 => (by rw [hr] at h0; cases h0), fun j hj => ?_⟩
  rw [hr] at hj
  have e : j = i := by simpa using hj
  subst e
  exact wpOpIn_step ho (fun K' hK => h K' (fun a w hS hW => hK a w ⟨fun _ _ => hS, hW hS⟩))
/-- The last one. -/
theorem wpAnyEI_last {o : Oper} {fuel : Nat} {listed : Array Bool} {a : Act} {w : World} (hr : Region.ready md ops listed = [z]) (ho : ops[z]? = some o) (hend : Region.ready md ops (listed.setIfInBounds z true) = [])
    (h : ∀ K' : Act → World → Prop, Shut (∀ a w, Q .normal a w → K' a w) → if Region.wanted o (yielded ops a.tmps) = true then Oper.wpIn F n P o a w K' Q else (∀ f, o.about P w a.eval = some f → F.fn f) ∧ K' (a.put o.dst undef) w) : wpAnyEI F n P md ops Q S z (fuel + 1) listed a w := by
  refine ⟨fun h0 => (by rw [hr] at h0; cases h0), fun j hj => ?_⟩
  rw [hr] at hj
  have e : j = z := by simpa using hj
  subst e
  refine wpOpIn_step ho (fun K' hK => h K' (fun a w hW => hK a w ⟨fun h => absurd rfl h, ?_⟩))
  cases fuel with
  | zero => exact ⟨hend, hW⟩
  | succ f => exact ⟨fun _ => hW, by rw [hend]; simp⟩
theorem wpIn_region_sink {id : Nat} {a : Act} {w : World} (z : Nat) (S : World → Prop) (hm : P.follows .mixedOrders = true) (hS : S w.drew)
    (h : S w.drew → wpAnyEI F n P .any ops Q S z ops.size (Array.replicate ops.size false) a w.drew) : (Code.region id ops true).wpIn F n P Q a w :=
  wpIn_region_any hm (wpAnyIn_of_sink _ _ _ _ (h hS))
/-- A way from i to z: each waits for the one before it. -/
def wayTo (md : Region.Mode) (ops : Array Oper) (z : Nat) : Nat → List Nat → Bool
  | i, [] => Region.waitsFor md ops z i
  | i, p :: ps => Region.waitsFor md ops p i && wayTo md ops z p ps
theorem not_on_way {j : Nat} {listed : Array Bool} (hj : j ∈ Region.ready md ops listed) : ∀ (path : List Nat) (i : Nat), wayTo md ops z i path = true → listed.getD i true = false → (∀ p ∈ z :: path, listed.getD p true = false) → j ∉ z :: path := by
  obtain ⟨hjun, oj, hoj, hall⟩ := mem_ready.1 hj
  have step : ∀ i p, Region.waitsFor md ops p i = true → listed.getD i true = false → j ≠ p := fun i p hw hun e => by
    subst e
    obtain ⟨o', ho', e, he, hb, hon⟩ := Region.waitsFor_spec hw
    have : o' = oj := Option.some.inj (ho'.symm.trans hoj)
    subst this
    have h1 := hall e he hb
    rw [hon, getD_both hun] at h1
    cases h1
  intro path
  induction path with
  | nil =>
    intro i hw hun _ hm
    have e : j = z := by simpa using hm
    exact step i z hw hun e
  | cons p ps ih =>
    intro i hw hun hp hm
    unfold wayTo at hw
    rw [Bool.and_eq_true] at hw
    have hne := step i p hw.1 hun
    have hz := ih p hw.2 (hp p (by simp)) (fun q hq => hp q (by
      rcases List.mem_cons.1 hq with rfl | hq
      · simp
      · simp [hq]))
    rcases List.mem_cons.1 hm with e | hm
    · exact hz (by rw [e]; simp)
    · rcases List.mem_cons.1 hm with e | hm
      · exact hne e
      · exact hz (List.mem_cons_of_mem _ hm)
/-- Take number i first, which yields where S holds, and z comes up behind it only. -/
theorem wpAnyEI_firstP {i : Nat} {oi : Oper} {v : Value} (hsem : Plain F ops) (hi : ops[i]? = some oi) (hsel : ∀ (j : Nat) (o : Oper) cs b, ops[j]? = some o → o.op ≠ .select cs b)
    (hQ : ∀ c a w, Q (.panic c) (a.put oi.dst v) w → Q (.panic c) a w) (hiz : i ≠ z) (path : List Nat) (hway : wayTo md ops z i path = true) :
    ∀ (fuel : Nat) (listed : Array Bool) (a : Act) (w : World),
      (∀ j oj, ops[j]? = some oj → j ≠ i → listed.getD j true = false → (∀ e ∈ oj.after, Region.binds md e = true → e.on ≠ i) → oi.apart ops oj = true) →
      i ∈ Region.ready md ops listed → YieldsIf P ops S oi v a → (∀ p ∈ z :: path, listed.getD p true = false) → S w →
      wpAnyEI F n P md ops Q S z fuel (listed.setIfInBounds i true) (a.put oi.dst v) w → wpAnyEI F n P md ops Q S z (fuel + 1) listed a w := by
  intro fuel
  induction fuel with
  | zero =>
    intro listed a w _ hr hy _ hS H
    refine ⟨fun h => (by rw [h] at hr; cases hr), fun j hj => ?_⟩
    by_cases hji : j = i
    · subst hji; exact hy.wpOpIn hsem hi hS ⟨fun _ _ => hS, H⟩
    · have := ready_mono hj hji
      rw [H.1] at this
      cases this
  | succ fuel ih =>
    intro listed a w hfree hr hy hl hS H
    refine ⟨fun h => (by rw [h] at hr; cases hr), fun j hj => ?_⟩
    by_cases hji : j = i
    · subst hji; exact hy.wpOpIn hsem hi hS ⟨fun _ _ => hS, H⟩
    · have h1 := H.2 j (ready_mono hj hji)
      have hun := (mem_ready.1 hr).1
      have hnw := not_on_way hj path i hway hun hl
      obtain ⟨hjun, oj, hoj, hall⟩ := mem_ready.1 hj
      have hjz : j ≠ z := fun e => hnw (by rw [e]; simp)
      have hnot : ∀ e ∈ oj.after, Region.binds md e = true → e.on ≠ i := fun e he hb heq => by
        have h1 := hall e he hb
        rw [heq, getD_both hun] at h1
        cases h1
      have hzset : (listed.setIfInBounds i true).getD z false = false := by rw [getD_set_ne false hiz]; exact getD_both (hl z (by simp))
      have h2 := wpOpIn_putIf hsem hoj (hfree j oj hoj hji hjun hnot) (fun cs b => hsel i oi cs b hi) (fun cs b => hsel j oj cs b hoj) hQ hy h1
      have hfree' : ∀ k ok, ops[k]? = some ok → k ≠ i → (listed.setIfInBounds j true).getD k true = false →
          (∀ e ∈ ok.after, Region.binds md e = true → e.on ≠ i) → oi.apart ops ok = true := fun k ok hk hki hun hno => by
        refine hfree k ok hk hki ?_ hno
        by_cases hjk : j = k
        · subst hjk; exact hjun
        · rw [getD_set_ne true hjk] at hun; exact hun
      refine wpOpIn_mono (fun a' w' h3 => ⟨fun hjz' _ => h3.2.1 hjz' hzset, ih (listed.setIfInBounds j true) a' w' hfree' (ready_mono hr (Ne.symm hji)) h3.1 (fun p hp => ?_) (h3.2.1 hjz hzset) ?_⟩) h2
      · rw [getD_set_ne true (fun e => hnw (by rw [e]; exact hp))]; exact hl p hp
      · rw [Array.setIfInBounds_comm _ _ hji]
        exact h3.2.2
theorem wpAnyEI_takeP {i : Nat} {oi : Oper} {v : Value} (path : List Nat) (hsem : Plain F ops) {fuel : Nat} {listed : Array Bool} {a : Act} {w : World} (hi : ops[i]? = some oi)
    (hs : Region.noSelect ops = true) (hf : Region.free md ops listed i = true) (hr : (Region.ready md ops listed).contains i = true)
    (hQ : ∀ c a w, Q (.panic c) (a.put oi.dst v) w → Q (.panic c) a w) (hz : ((z :: path).all (fun p => !listed.getD p true) && wayTo md ops z i path && !(i == z)) = true) (hy : YieldsIf P ops S oi v a) (hS : S w)
    (h : wpAnyEI F n P md ops Q S z fuel (listed.setIfInBounds i true) (a.put oi.dst v) w) : wpAnyEI F n P md ops Q S z (fuel + 1) listed a w := by
  simp only [Bool.and_eq_true, Bool.not_eq_true', beq_eq_false_iff_ne, List.all_eq_true] at hz
  exact wpAnyEI_firstP hsem hi (Region.noSelect_spec hs) hQ hz.2 path hz.1.2 fuel listed a w (Region.free_spec hi hf) (by simpa using hr) hy (fun p hp => by simpa using hz.1.1 p hp) hS h
/-- Number i alone can come up, and z has come or comes now: S is not asked any more. -/
theorem wpAnyEI_any {i : Nat} {o : Oper} {fuel : Nat} {listed : Array Bool} {a : Act} {w : World} (hr : Region.ready md ops listed = [i]) (ho : ops[i]? = some o) (hz : (i == z || listed.getD z false) = true)
    (h : ∀ K' : Act → World → Prop, Shut (∀ a w, wpAnyEI F n P md ops Q S z fuel (listed.setIfInBounds i true) a w → K' a w) → if Region.wanted o (yielded ops a.tmps) = true then Oper.wpIn F n P o a w K' Q else (∀ f, o.about P w a.eval = some f → F.fn f) ∧ K' (a.put o.dst undef) w) : wpAnyEI F n P md ops Q S z (fuel + 1) listed a w := by
  refine ⟨fun h0 => (by rw [hr] at h0; cases h0), fun j hj => ?_⟩
  rw [hr] at hj
  have e : j = i := by simpa using hj
  subst e
  refine wpOpIn_step ho (fun K' hK => h K' (fun a w hW => hK a w ⟨fun h1 h2 => ?_, hW⟩))
  rw [Bool.or_eq_true, beq_iff_eq] at hz
  rcases hz with e | e
  · exact absurd e h1
  · rw [h2] at e; cases e
theorem wpAnyEI_nil {fuel : Nat} {listed : Array Bool} {a : Act} {w : World} (hr : Region.ready md ops listed = []) (h : Q .normal a w) : wpAnyEI F n P md ops Q S z fuel listed a w := by
  cases fuel with
  | zero => exact ⟨hr, h⟩
  | succ f => exact ⟨fun _ => h, by rw [hr]; simp⟩
end

end Go.Proofs.YtjdepjpjjgkmbaaGreat

/- Rows stored and loaded whole inside a fence; a list of records with its lists named; what a function's iterator is handed; no conditions. -/
namespace Go.Proofs.YtjdepjpjjgkmbaaGreat
open Go Go.RowKit Go.Shelf

section
variable {F : Fence} {n : Nat} {P : Program} {ops : Array Oper} {rest : List Oper} {o : Oper} {a : Act} {w : World} {Q : Exit → Act → World → Prop}
theorem wpIn_store_row {K : Act → World → Prop} (hF : ∀ f, F.fn f) (ty : TypeId) (x y : Operand) (ho : o.op = .store ty x y)
    (g : Nat) (cells : Array Value) (hx : a.eval x = .pointer (some ⟨g, 0, none⟩)) (hy : a.eval y = .agg cells)
    (t : TypeId) (old : Array Value) (hg : Box w g t old) (hi : (P.info? ty).map (·.size) = some cells.size)
    (hold : old.size = cells.size) (h1 : cells.all (·.oneCell') = true)
    (h : K (a.put o.dst undef) (w.setRow g cells)) : o.wpIn F n P a w K Q := by
  unfold Oper.wpIn
  refine ⟨fun f _ => hF f, ?_⟩
  rw [Oper.semAt_plain F _ _ (by rw [ho]; intro c hc; cases hc)]
  unfold execOp
  simp only [ho, hx, hy, Instr.storeAt, Instr.sureAddr, Sem.run_bind, Sem.run_pure, Result.andThen_ok, run_storeVar_row w g t ty old cells hg hi hold h1]
  exact h
theorem wpListIn_store_row (hF : ∀ f, F.fn f) (hgd : o.guard = none) (ty : TypeId) (x y : Operand) (ho : o.op = .store ty x y)
    (g : Nat) (cells : Array Value) (hx : a.eval x = .pointer (some ⟨g, 0, none⟩)) (hy : a.eval y = .agg cells)
    (t : TypeId) (old : Array Value) (hg : Box w g t old) (hi : (P.info? ty).map (·.size) = some cells.size)
    (hold : old.size = cells.size) (h1 : cells.all (·.oneCell') = true)
    (h : wpListIn F n P ops Q rest (a.put o.dst undef) (w.setRow g cells)) : wpListIn F n P ops Q (o :: rest) a w :=
  wpListIn_plain hgd fun _ hK => wpIn_store_row hF ty x y ho g cells hx hy t old hg hi hold h1 (hK _ _ h)
end

/-- A list of records, its lists named. -/
def RecsV (ds : List RecD) (w : World) (F : Nat → Prop) (A : Option Addr) (n : Nat) (L : Nat → Option Addr) (m mc : Nat → Nat) : Prop :=
  ds.length = n ∧ (0 < n → ∃ b o, A = some ⟨b, o, none⟩ ∧ F b ∧ b < w.heap.size ∧ ∀ i (h : i < ds.length), RecAt w b (o + i * 9) ds[i] (.slice (L i) (m i) (mc i)) ∧ m i ≤ maxLen ∧ PairsF w F (L i) (m i) (ds[i]).ps)
theorem RecsV.turn {T : Nat → Prop} {w w' : World} {F : Nat → Prop} {A : Option Addr} {n : Nat} {ds : List RecD} {L : Nat → Option Addr} {m mc : Nat → Nat} (h : RecsV ds w F A n L m mc) (ht : Turns T w w') (hd : ∀ b, F b → ¬ T b) : RecsV ds w' F A n L m mc := by
  refine ⟨h.1, fun hn => ?_⟩
  obtain ⟨b, o, hA, hF, hb, hc⟩ := h.2 hn
  refine ⟨b, o, hA, hF, Nat.lt_of_lt_of_le hb ht.size, fun i hi => ?_⟩
  obtain ⟨h1, h2, h3⟩ := hc i hi
  exact ⟨h1.turn hb ht (hd b hF), h2, h3.turn ht hd⟩
theorem RecsF.vals {ds : List RecD} {w : World} {F : Nat → Prop} {A : Option Addr} {n : Nat} (h : RecsF ds w F A n) : ∃ L m mc, RecsV ds w F A n L m mc := by
  by_cases hn : 0 < n
  · obtain ⟨b, o, hA, hF, hb, hc⟩ := h.2 hn
    have hc' : ∀ i, ∃ p : Option Addr × Nat × Nat, ∀ hi : i < ds.length, RecAt w b (o + i * 9) ds[i] (.slice p.1 p.2.1 p.2.2) ∧ p.2.1 ≤ maxLen ∧ PairsF w F p.1 p.2.1 (ds[i]).ps := fun i => by
      by_cases hi : i < ds.length
      · obtain ⟨L, m, mc, h1, h2, h3⟩ := hc i hi
        exact ⟨(L, m, mc), fun _ => ⟨h1, h2, h3⟩⟩
      · exact ⟨(none, 0, 0), fun h => absurd h hi⟩
    exact ⟨fun i => (Classical.choose (hc' i)).1, fun i => (Classical.choose (hc' i)).2.1, fun i => (Classical.choose (hc' i)).2.2, h.1, fun _ => ⟨b, o, hA, hF, hb, fun i hi => Classical.choose_spec (hc' i) hi⟩⟩
  · exact ⟨fun _ => none, fun _ => 0, fun _ => 0, h.1, fun h => absurd h hn⟩
/-- A record's cells, its list at this place. -/
def cellsC (d : RecD) (L : Option Addr) (m mc : Nat) : Array Value := #[.int .i64 d.r1, .int .i64 d.r2, .int .i64 d.r3, .int .i64 d.r4, .int .i64 d.r5, .int .i64 d.r6, .int .i64 d.r7, .slice L m mc, .int .i64 d.r8]
/-- The numbers below k, below n. -/
def firsts (n k : Nat) : List (Fin n) := (List.finRange n).take k
theorem firsts_snoc (n k : Nat) (h : k < n) : firsts n (k + 1) = firsts n k ++ [⟨k, h⟩] := by
  unfold firsts
  rw [List.take_succ_eq_append_getElem (by simpa using h)]
  simp
theorem firsts_all (n : Nat) : firsts n n = List.finRange n := by
  unfold firsts
  exact List.take_of_length_le (by simp)
theorem firsts_pre (n k : Nat) : firsts n k <+: List.finRange n := List.take_prefix _ _
theorem firsts_len (n k : Nat) (h : k ≤ n) : (firsts n k).length = k := by
  unfold firsts
  simp only [List.length_take, List.length_finRange]
  omega
/-- New blocks alone. -/
theorem grown_none {a b : World} (h : Below a.heap.size a b) : a.grownBy b none := ⟨h.os, h.tape, h.output, h.size, fun i hi _ => h.block i hi⟩
/-- Whatever abides growth abides new blocks. -/
theorem AbidesFrom.later {β : Type} {B : Nat} {J : β → World → Prop} (h : AbidesFrom B J) {s : β} {w w' : World} (hj : J s w) (hb : Below w.heap.size w w') : J s w' :=
  h s w w' none hj (grown_none hb) (fun r e => by cases e)
/-- What a round keeps: whatever lay below N, and whatever is cells, but for the block G. -/
structure KeepC (G N : Nat) (w w' : World) : Prop where
  os : w'.os = w.os
  tape : w'.tape = w.tape
  output : w'.output = w.output
  size : w.heap.size ≤ w'.heap.size
  block : ∀ i o, w.heap[i]? = some o → i ≠ G → (i < N ∨ o.isCells = true) → w'.heap[i]? = some o
/-- The blocks that may have turned. -/
def TurnC (G N : Nat) (w : World) : Nat → Prop := fun i => i = G ∨ (N ≤ i ∧ ∃ o, w.heap[i]? = some o ∧ o.isCells = false)
theorem KeepC.turns {G N : Nat} {w w' : World} (h : KeepC G N w w') : Turns (TurnC G N w) w w' := ⟨h.os, h.tape, h.output, h.size, fun i hi hT => by
  have e : w.heap[i]? = some w.heap[i] := Array.getElem?_eq_getElem hi
  rw [e]
  refine h.block i _ e (fun hG => hT (.inl hG)) ?_
  by_cases hN : i < N
  · exact .inl hN
  · refine .inr ?_
    rcases hc : (w.heap[i]).isCells with _ | _
    · exact absurd (.inr ⟨by omega, _, e, hc⟩) hT
    · rfl⟩
theorem KeepC.trans {G N : Nat} {a b c : World} (h : KeepC G N a b) (k : KeepC G N b c) : KeepC G N a c :=
  ⟨k.os.trans h.os, k.tape.trans h.tape, k.output.trans h.output, Nat.le_trans h.size k.size, fun i o hi hG hN => k.block i o (h.block i o hi hG hN) hG hN⟩
theorem KeepC.of_below {G N : Nat} {a b : World} (h : Below a.heap.size a b) : KeepC G N a b :=
  ⟨h.os, h.tape, h.output, h.size, fun i _ hi _ _ => (h.block i (Array.getElem?_eq_some_iff.1 hi).1).trans hi⟩
theorem KeepC.of_turns {G N : Nat} {T : Nat → Prop} {a b : World} (h : Turns T a b) (hT : ∀ i, T i → i = G) : KeepC G N a b :=
  ⟨h.os, h.tape, h.output, h.size, fun i _ hi hG _ => (h.block i (Array.getElem?_eq_some_iff.1 hi).1 (fun ht => hG (hT i ht))).trans hi⟩
theorem KeepC.refl {G N : Nat} (w : World) : KeepC G N w w := KeepC.of_below (Below.refl _ _)
theorem keepC_put {G N : Nat} (W : World) (l : Nat) (o o' : Obj) (hl : N ≤ l) (h : W.heap[l]? = some o) (hc : o.isCells = false) : KeepC G N W (W.putObj l o') :=
  ⟨rfl, rfl, rfl, by simp [World.putObj], fun i x hi _ hx => by
    have hne : i ≠ l := fun e => by
      subst e
      rw [h] at hi
      injection hi with hi
      subst hi
      rcases hx with hx | hx
      · omega
      · rw [hc] at hx; cases hx
    exact (World.putObj_heap_other hne).trans hi⟩
theorem notC_box {G N : Nat} {w : World} {g : Nat} {t : TypeId} {cs : Array Value} (hx : Box w g t cs) (hg : g ≠ G) : ¬ TurnC G N w g := fun h => by
  rcases h with h | ⟨_, o, ho, hc⟩
  · exact hg h
  · rw [show w.heap[g]? = some (.cells cs t (0, 0)) from hx] at ho
    injection ho with ho
    subst ho
    cases hc
theorem notC_low {G N : Nat} {w : World} {b : Nat} (hb : b < N) (hg : b ≠ G) : ¬ TurnC G N w b := fun h => by
  rcases h with h | ⟨h, _⟩
  · exact hg h
  · omega
theorem Box.keepC {G N : Nat} {w w' : World} {g : Nat} {t : TypeId} {cs : Array Value} (hx : Box w g t cs) (h : KeepC G N w w') (hg : g ≠ G) : Box w' g t cs := hx.turn h.turns (notC_box hx hg)
end Go.Proofs.YtjdepjpjjgkmbaaGreat

/- The program's iterator over a list of records, each with whether it is right where it stands (written by iter9.py); conditions: the sizes. -/
namespace Go.Proofs.YtjdepjpjjgkmbaaGreat
open Go Go.RowKit Go.Shelf

attribute [local go_sem] Oper.semAt_some

/-- What a round is handed. -/
def encC (g : GrpD) (ds : List RecD) (L : Nat → Option Addr) (m mc : Nat → Nat) (k : Fin ds.length) : Array Value := #[.agg (cellsC ds[k.val] (L k.val) (m k.val) (mc k.val)), .bool (isAt g ds k.val)]

set_option maxRecDepth 100000 in
set_option maxHeartbeats 16000000 in
theorem recsIter_stops (g : GrpD) (ds : List RecD) (A : Option Addr) (n cap : Nat) (LA : Option Addr) (ln lc : Nat) (L : Nat → Option Addr) (m mc : Nat → Nat) (B1 B2 G N : Nat) (F : Nat → Prop) (w : World)
    (hG1 : B1 ≠ G) (hG2 : B2 ≠ G) (hF : ∀ b, F b → b < N ∧ b ≠ G) (h1 : Box w B1 27 #[.slice LA ln lc]) (h2 : Box w B2 26 #[.int .i64 g.s, .int .i64 g.l, .int .i64 g.c, .int .i64 g.sh, .slice A n cap]) (hm : n ≤ maxLen) (hR : RowF w F A n g.zs) (hD : RecsV ds w F LA ln L m mc) (hln : ln ≤ 1048576) (hmk : ∀ k, k < ds.length → m k ≤ 4194304) :
    SeqStopsK Fence.wide 2 Tryz.prog 217 #[.pointer (some ⟨B1, 0, none⟩), .pointer (some ⟨B2, 0, none⟩)] (encC g ds L m mc) (KeepC G N) (fun ys => ys = List.finRange ds.length) (fun pre => pre <+: List.finRange ds.length) ds.length w := by
  intro l J Jx W hW hJ hJx hY h0
  show CallsIn Fence.wide 2 Tryz.prog 217 #[.func (.yield l) #[] #[], .pointer (some ⟨B1, 0, none⟩), .pointer (some ⟨B2, 0, none⟩)] W _
  replace h1 := Lib.hid (h1.later hW h1.lt)
  replace h2 := Lib.hid (h2.later hW h2.lt)
  replace hR := Lib.hid (hR.turn (T := fun _ => False) (Turns.of_below hW) (fun _ _ h => h))
  replace hD := Lib.hid (hD.turn (T := fun _ => False) (Turns.of_below hW) (fun _ _ h => h))
  have HL := Lib.hid hD.out.1
  have HJ := Lib.hid hJ
  have HM := Lib.hid hm
  have HF := Lib.hid hF
  have HG1 := Lib.hid hG1
  have HG2 := Lib.hid hG2
  have HMK := Lib.hid hmk
  clear hW w hJ hJx hm hF hG1 hG2 hmk
  refine callsIn_of_wp Tryz.func217 rfl trivial ?_ rfl
  simp only [Tryz.ntmps217, List.size_toArray, List.length_cons, List.length_nil, Nat.reduceAdd, Nat.reduceSub, Array.replicate_succ, Array.replicate_zero, List.push_toArray, List.append_toArray, List.nil_append, List.cons_append]
  have c1 : W.cell? ⟨B1, 0, none⟩ = some (.slice LA ln lc) := h1.out.cell 0
  gi_wp2
  gi_loopw [8] (fun i wr => ∃ k : Nat, k ≤ ln ∧ i = .int .i64 k ∧ J (firsts ds.length k) wr ∧ KeepC G N W wr) (fun i _ => ln - (intOf i).toNat)
  case atStart => exact ⟨0, Nat.zero_le _, rfl, h0, KeepC.refl _⟩
  case round =>
    clear c1 h0
    obtain ⟨k, hk, rfl, hJk, ht⟩ := hrel
    have HJk := Lib.hid hJk
    have HT := Lib.hid ht
    clear hJk ht
    by_cases hlt : k < ln
    · skip
      have hkd : k < ds.length := by have := HL.out; omega
      have hDk := hD.out.turn HT.out.turns (fun b hb => notC_low (HF.out b hb).1 (HF.out b hb).2)
      obtain ⟨b, o, hA, hbF, hbl, hcell⟩ := hDk.2 (by omega)
      subst hA
      obtain ⟨hrec, hmm, hps⟩ := hcell k hkd
      clear hcell hDk
      have HRw := Lib.hid (hR.out.turn HT.out.turns (fun b hb => notC_low (HF.out b hb).1 (HF.out b hb).2)).1
      have HX2 := Lib.hid (h2.out.keepC HT.out HG2.out)
      have hIs := isAt_lt (g := g) hkd
      have hmk4 := HMK.out k hkd
      have hYk := fun W1 h => hY (firsts ds.length k) ⟨k, hkd⟩ W1 h (by rw [firsts_len _ _ (by omega)]; exact hkd)
      unfold encC at hYk
      rw [← firsts_snoc] at hYk
      dsimp only at hYk
      obtain ⟨d, hd⟩ : ∃ d : RecD, ds[k] = d := ⟨_, rfl⟩
      rw [hd] at hrec hps hIs hYk
      obtain ⟨Lk, hLk⟩ : ∃ x, L k = x := ⟨_, rfl⟩
      obtain ⟨mk, hmkk⟩ : ∃ x, m k = x := ⟨_, rfl⟩
      obtain ⟨mck, hmck⟩ : ∃ x, mc k = x := ⟨_, rfl⟩
      rw [hLk, hmkk] at hps
      rw [hLk, hmkk, hmck] at hrec hYk
      rw [hmkk] at hmm hmk4
      unfold cellsC at hYk
      have HPw := Lib.hid hps.1
      have HA := Lib.hid hIs
      have HY := Lib.hid hYk
      clear hd hIs hLk hmkk hmck hps hYk
      obtain ⟨c0, c1, c2, c3, c4, c5, c6, c7, c8⟩ := hrec
      have hltI : (k : Int) < (ln : Int) := by omega
      have hkw : IntKind.i64.wrap ((k : Int) + 1) = (k : Int) + 1 := IntWalk.i64_in _ (by omega)
      have ZB := Box.new wr 46 #[.int .i64 0, .int .i64 0, .int .i64 0, .int .i64 0, .int .i64 0, .int .i64 0, .int .i64 0, .slice none 0 0, .int .i64 0]
      have hn := bel_new_row wr #[.int .i64 0, .int .i64 0, .int .i64 0, .int .i64 0, .int .i64 0, .int .i64 0, .int .i64 0, .slice none 0 0, .int .i64 0] 46 #[.int .i64 d.r1, .int .i64 d.r2, .int .i64 d.r3, .int .i64 d.r4, .int .i64 d.r5, .int .i64 d.r6, .int .i64 d.r7, .slice Lk mk mck, .int .i64 d.r8]
      have X := (Box.new wr 46 #[.int .i64 0, .int .i64 0, .int .i64 0, .int .i64 0, .int .i64 0, .int .i64 0, .int .i64 0, .slice none 0 0, .int .i64 0]).setRow #[.int .i64 d.r1, .int .i64 d.r2, .int .i64 d.r3, .int .i64 d.r4, .int .i64 d.r5, .int .i64 d.r6, .int .i64 d.r7, .slice Lk mk mck, .int .i64 d.r8]
      gi_upto_region 3 with (refine wpListIn_store_row (fun _ => trivial) rfl 46 _ _ rfl wr.heap.size _ rfl rfl 46 #[.int .i64 0, .int .i64 0, .int .i64 0, .int .i64 0, .int .i64 0, .int .i64 0, .int .i64 0, .slice none 0 0, .int .i64 0] ZB (by kernel_rfl) rfl (by simp [Value.oneCell']) ?_)
      clear ZB c0 c1 c2 c3 c4 c5 c6 c7 c8 hbl
      try simp only [Act.put]
      have E := hn
      have HX := Lib.hid (HX2.out.later hn HX2.out.lt)
      clear hn HX2
      generalize ((wr.alloc _).setRow _ _ : World) = w1 at E X HX ⊢
      have hV : wr.heap.size = wr.heap.size := rfl
      obtain ⟨V, hVV⟩ : ∃ V, wr.heap.size = V := ⟨_, rfl⟩
      have HE := Lib.hid E
      clear hV E
      rw [hVV] at X ⊢
      have HV := Lib.hid hVV
      clear hVV
      have HK1 := Lib.hid (show True from trivial)
      clear HK1
      by_cases hno : d.r1 = (k : Int) + 1
      rotate_left
      · skip
        have hne : (d.r1 == (k : Int) + 1) = false := by simpa using hno
        have hf : isAt g ds k = false := by rw [HA.out]; simp [hno]
        rw [hf] at HY
        clear hf hno
        refine wpIn_region_sink 12 (fun w' => Box w' V 46 #[.int .i64 d.r1, .int .i64 d.r2, .int .i64 d.r3, .int .i64 d.r4, .int .i64 d.r5, .int .i64 d.r6, .int .i64 d.r7, .slice Lk mk mck, .int .i64 d.r8] ∧ Box w' B2 26 #[.int .i64 g.s, .int .i64 g.l, .int .i64 g.c, .int .i64 g.sh, .slice A n cap]) (by kernel_rfl) ⟨X.later ((Below.refl w1.heap.size w1).drew) X.lt, HX.out.later ((Below.refl w1.heap.size w1).drew) HX.out.lt⟩ (fun hH => ?_)
        replace HE := Lib.hid (bel_trans HE.out (Below.refl w1.heap.size w1).drew)
        clear X HX
        generalize w1.drew = w2 at HE hH ⊢
        refine wpAnyEI_pure (plain_of (fun _ => trivial) (by kernel_rfl)) (i := 0) (v := ?vu0_1) (by simp only [List.getElem?_toArray, List.getElem?_cons_zero]; rfl) (by kernel_rfl) (by kernel_rfl) (by kernel_rfl) (by exact fun _ _ _ h => h) (by kernel_rfl) (Or.inl ⟨by rfl, ?yu0_1⟩) hH ?_
        case yu0_1 => (intro w' hSw; (try dsimp only at hSw); go_simp; try with_reducible rfl)
        try simp only [Act.put, List.setIfInBounds_toArray, List.set_cons_zero, List.set_cons_succ]
        refine wpAnyEI_takeP [] (plain_of (fun _ => trivial) (by kernel_rfl)) (i := 1) (v := .agg #[.int .i64 d.r1, .int .i64 d.r2, .int .i64 d.r3, .int .i64 d.r4, .int .i64 d.r5, .int .i64 d.r6, .int .i64 d.r7, .slice Lk mk mck, .int .i64 d.r8]) (by simp only [List.getElem?_toArray, List.getElem?_cons_succ, List.getElem?_cons_zero]; rfl) (by kernel_rfl) (by kernel_rfl) (by kernel_rfl) (by exact fun _ _ _ h => h) (by kernel_rfl) ?y1 hH ?_
        case y1 => exact yields_box 46 _ rfl (V) rfl 46 #[.int .i64 d.r1, .int .i64 d.r2, .int .i64 d.r3, .int .i64 d.r4, .int .i64 d.r5, .int .i64 d.r6, .int .i64 d.r7, .slice Lk mk mck, .int .i64 d.r8] (fun _ h => h.1) _ Tryz.underlying46 rfl (by kernel_rfl) (by first | rfl | simp [Region.wanted, yielded] | (simp [Region.wanted, yielded, Act.put] <;> omega))
        try simp only [Act.put, List.setIfInBounds_toArray, List.set_cons_zero, List.set_cons_succ]
        refine wpAnyEI_pure (plain_of (fun _ => trivial) (by kernel_rfl)) (i := 2) (v := ?vu2_2) (by simp only [List.getElem?_toArray, List.getElem?_cons_succ, List.getElem?_cons_zero]; rfl) (by kernel_rfl) (by kernel_rfl) (by kernel_rfl) (by exact fun _ _ _ h => h) (by kernel_rfl) (Or.inl ⟨by rfl, ?yu2_2⟩) hH ?_
        case yu2_2 => (intro w' hSw; (try dsimp only at hSw); go_simp; try with_reducible rfl)
        try simp only [Act.put, List.setIfInBounds_toArray, List.set_cons_zero, List.set_cons_succ]
        refine wpAnyEI_takeP [6, 7, 11] (plain_of (fun _ => trivial) (by kernel_rfl)) (i := 3) (v := .int .i64 d.r1) (by simp only [List.getElem?_toArray, List.getElem?_cons_succ, List.getElem?_cons_zero]; rfl) (by kernel_rfl) (by kernel_rfl) (by kernel_rfl) (by exact fun _ _ _ h => h) (by kernel_rfl) (Or.inl ⟨(by first | rfl | simp [Region.wanted, yielded] | (simp [Region.wanted, yielded, Act.put] <;> omega)), ?y3⟩) hH ?_
        case y3 => (intro w' hSw; have hc0 : w'.cell? ⟨V, 0, none⟩ = some (.int .i64 d.r1) := hSw.1.cell 0; clear hSw; go_simp; try with_reducible rfl)
        try simp only [Act.put, List.setIfInBounds_toArray, List.set_cons_zero, List.set_cons_succ]
        refine wpAnyEI_pure (plain_of (fun _ => trivial) (by kernel_rfl)) (i := 4) (v := ?vu4_3) (by simp only [List.getElem?_toArray, List.getElem?_cons_succ, List.getElem?_cons_zero]; rfl) (by kernel_rfl) (by kernel_rfl) (by kernel_rfl) (by exact fun _ _ _ h => h) (by kernel_rfl) (Or.inl ⟨by rfl, ?yu4_3⟩) hH ?_
        case yu4_3 => (intro w' hSw; (try dsimp only at hSw); go_simp; try with_reducible rfl)
        try simp only [Act.put, List.setIfInBounds_toArray, List.set_cons_zero, List.set_cons_succ]
        refine wpAnyEI_pure (plain_of (fun _ => trivial) (by kernel_rfl)) (i := 5) (v := ?vu5_4) (by simp only [List.getElem?_toArray, List.getElem?_cons_succ, List.getElem?_cons_zero]; rfl) (by kernel_rfl) (by kernel_rfl) (by kernel_rfl) (by exact fun _ _ _ h => h) (by kernel_rfl) (Or.inl ⟨by rfl, ?yu5_4⟩) hH ?_
        case yu5_4 => (intro w' hSw; (try dsimp only at hSw); go_simp; try with_reducible rfl)
        try simp only [Act.put, List.setIfInBounds_toArray, List.set_cons_zero, List.set_cons_succ]
        refine wpAnyEI_pure (plain_of (fun _ => trivial) (by kernel_rfl)) (i := 6) (v := ?vu6_5) (by simp only [List.getElem?_toArray, List.getElem?_cons_succ, List.getElem?_cons_zero]; rfl) (by kernel_rfl) (by kernel_rfl) (by kernel_rfl) (by exact fun _ _ _ h => h) (by kernel_rfl) (Or.inl ⟨by rfl, ?yu6_5⟩) hH ?_
        case yu6_5 => (intro w' hSw; (try dsimp only at hSw); go_simp; try with_reducible rfl)
        try simp only [Act.put, List.setIfInBounds_toArray, List.set_cons_zero, List.set_cons_succ]
        refine wpAnyEI_pure (plain_of (fun _ => trivial) (by kernel_rfl)) (i := 7) (v := ?vu7_6) (by simp only [List.getElem?_toArray, List.getElem?_cons_succ, List.getElem?_cons_zero]; rfl) (by kernel_rfl) (by kernel_rfl) (by kernel_rfl) (by exact fun _ _ _ h => h) (by kernel_rfl) (Or.inl ⟨by rfl, ?yu7_6⟩) hH ?_
        case yu7_6 => (intro w' hSw; (try dsimp only at hSw); go_simp; try with_reducible rfl)
        try simp only [Act.put, List.setIfInBounds_toArray, List.set_cons_zero, List.set_cons_succ]
        refine wpAnyEI_pure (plain_of (fun _ => trivial) (by kernel_rfl)) (i := 8) (v := undef) (by simp only [List.getElem?_toArray, List.getElem?_cons_succ, List.getElem?_cons_zero]; rfl) (by kernel_rfl) (by kernel_rfl) (by kernel_rfl) (by exact fun _ _ _ h => h) (by kernel_rfl) (Or.inr ⟨(by first | rfl | simp [Region.wanted, yielded] | (simp [Region.wanted, yielded, Act.put] <;> omega)), rfl⟩) hH ?_
        try simp only [Act.put, List.setIfInBounds_toArray, List.set_cons_zero, List.set_cons_succ]
        refine wpAnyEI_pure (plain_of (fun _ => trivial) (by kernel_rfl)) (i := 9) (v := undef) (by simp only [List.getElem?_toArray, List.getElem?_cons_succ, List.getElem?_cons_zero]; rfl) (by kernel_rfl) (by kernel_rfl) (by kernel_rfl) (by exact fun _ _ _ h => h) (by kernel_rfl) (Or.inr ⟨(by first | rfl | simp [Region.wanted, yielded] | (simp [Region.wanted, yielded, Act.put] <;> omega)), rfl⟩) hH ?_
        try simp only [Act.put, List.setIfInBounds_toArray, List.set_cons_zero, List.set_cons_succ]
        refine wpAnyEI_pure (plain_of (fun _ => trivial) (by kernel_rfl)) (i := 10) (v := undef) (by simp only [List.getElem?_toArray, List.getElem?_cons_succ, List.getElem?_cons_zero]; rfl) (by kernel_rfl) (by kernel_rfl) (by kernel_rfl) (by exact fun _ _ _ h => h) (by kernel_rfl) (Or.inr ⟨(by first | rfl | simp [Region.wanted, yielded] | (simp [Region.wanted, yielded, Act.put] <;> omega)), rfl⟩) hH ?_
        try simp only [Act.put, List.setIfInBounds_toArray, List.set_cons_zero, List.set_cons_succ]
        refine wpAnyEI_pure (plain_of (fun _ => trivial) (by kernel_rfl)) (i := 11) (v := ?vu11_7) (by simp only [List.getElem?_toArray, List.getElem?_cons_succ, List.getElem?_cons_zero]; rfl) (by kernel_rfl) (by kernel_rfl) (by kernel_rfl) (by exact fun _ _ _ h => h) (by kernel_rfl) (Or.inl ⟨by rfl, ?yu11_7⟩) hH ?_
        case yu11_7 => (intro w' hSw; (try dsimp only at hSw); go_simp; try with_reducible rfl)
        try simp only [Act.put, List.setIfInBounds_toArray, List.set_cons_zero, List.set_cons_succ]
        obtain ⟨fnY, tmpsY, assignY, bodyY, hy, hRd⟩ := HY.out w2 (AbidesFrom.later HJ.out HJk.out HE.out)
        refine wpAnyEI_any (i := 12) (by kernel_rfl) (by simp only [List.getElem?_toArray, List.getElem?_cons_succ, List.getElem?_cons_zero]; rfl) (by kernel_rfl) (fun K' hK => ?_)
        clear hH
        go_simp
        refine hRd.mono ?_
        rintro e W3 (⟨rfl, hJ3, hk3⟩ | ⟨rfl, hJx3⟩)
        · skip
          refine hK.out _ _ ?_
          clear hK K' hy hRd
          try simp only [Act.put, List.setIfInBounds_toArray, List.set_cons_zero, List.set_cons_succ]
          refine wpAnyEI_any (i := 13) (by kernel_rfl) (by simp only [List.getElem?_toArray, List.getElem?_cons_succ, List.getElem?_cons_zero]; rfl) (by kernel_rfl) (fun K' hK => ?_)
          go_simp
          refine hK.out _ _ (wpAnyEI_nil (by kernel_rfl) ?_)
          clear hK K'
          try simp only [Act.put, List.setIfInBounds_toArray, List.set_cons_zero, List.set_cons_succ]
          have HK3 := Lib.hid ((KeepC.of_below (G := G) (N := N) HE.out).trans hk3)
          have HJ3 := Lib.hid hJ3
          clear hJ3 hk3 HE
          gi_wp2
          go_roundw
          case rel => exact ⟨k + 1, by omega, by go_num, HJ3.out, HT.out.trans HK3.out⟩
          case measure => simp [intOf]; omega
        · skip
          refine hK.out _ _ ?_
          clear hK K' hy hRd
          try simp only [Act.put, List.setIfInBounds_toArray, List.set_cons_zero, List.set_cons_succ]
          refine wpAnyEI_any (i := 13) (by kernel_rfl) (by simp only [List.getElem?_toArray, List.getElem?_cons_succ, List.getElem?_cons_zero]; rfl) (by kernel_rfl) (fun K' hK => ?_)
          go_simp
          refine hK.out _ _ (wpAnyEI_nil (by kernel_rfl) ?_)
          clear hK K'
          try simp only [Act.put, List.setIfInBounds_toArray, List.set_cons_zero, List.set_cons_succ]
          have HJ3 := Lib.hid hJx3
          clear hJx3 HE
          gi_wp2
          refine bodyPost_ret (results_none rfl _ _ _) rfl ?_
          exact ⟨⟨_, rfl⟩, .inr ⟨firsts ds.length (k + 1), firsts_pre _ _, HJ3.out⟩⟩
      have hne : (d.r1 == (k : Int) + 1) = true := by simpa using hno
      obtain ⟨z, hz⟩ : ∃ z, rokD g d = z := ⟨_, rfl⟩
      have hf : isAt g ds k = z := by rw [HA.out, hz]; simp [hno]
      rw [hf] at HY
      have HB : Hid (rokB g.s g.l g.c g.sh g.zs d.r1 d.r2 d.r3 d.r4 d.r5 d.r6 d.r7 d.ps d.r8 = z) := Lib.hid hz
      clear hf hno hz HA
      refine wpIn_region_sink 12 (fun w' => Box w' V 46 #[.int .i64 d.r1, .int .i64 d.r2, .int .i64 d.r3, .int .i64 d.r4, .int .i64 d.r5, .int .i64 d.r6, .int .i64 d.r7, .slice Lk mk mck, .int .i64 d.r8] ∧ Box w' B2 26 #[.int .i64 g.s, .int .i64 g.l, .int .i64 g.c, .int .i64 g.sh, .slice A n cap]) (by kernel_rfl) ⟨X.later ((Below.refl w1.heap.size w1).drew) X.lt, HX.out.later ((Below.refl w1.heap.size w1).drew) HX.out.lt⟩ (fun hH => ?_)
      replace HE := Lib.hid (bel_trans HE.out (Below.refl w1.heap.size w1).drew)
      clear X HX
      generalize w1.drew = w2 at HE hH ⊢
      refine wpAnyEI_pure (plain_of (fun _ => trivial) (by kernel_rfl)) (i := 0) (v := ?vu0_8) (by simp only [List.getElem?_toArray, List.getElem?_cons_zero]; rfl) (by kernel_rfl) (by kernel_rfl) (by kernel_rfl) (by exact fun _ _ _ h => h) (by kernel_rfl) (Or.inl ⟨by rfl, ?yu0_8⟩) hH ?_
      case yu0_8 => (intro w' hSw; (try dsimp only at hSw); go_simp; try with_reducible rfl)
      try simp only [Act.put, List.setIfInBounds_toArray, List.set_cons_zero, List.set_cons_succ]
      refine wpAnyEI_takeP [] (plain_of (fun _ => trivial) (by kernel_rfl)) (i := 1) (v := .agg #[.int .i64 d.r1, .int .i64 d.r2, .int .i64 d.r3, .int .i64 d.r4, .int .i64 d.r5, .int .i64 d.r6, .int .i64 d.r7, .slice Lk mk mck, .int .i64 d.r8]) (by simp only [List.getElem?_toArray, List.getElem?_cons_succ, List.getElem?_cons_zero]; rfl) (by kernel_rfl) (by kernel_rfl) (by kernel_rfl) (by exact fun _ _ _ h => h) (by kernel_rfl) ?y1 hH ?_
      case y1 => exact yields_box 46 _ rfl (V) rfl 46 #[.int .i64 d.r1, .int .i64 d.r2, .int .i64 d.r3, .int .i64 d.r4, .int .i64 d.r5, .int .i64 d.r6, .int .i64 d.r7, .slice Lk mk mck, .int .i64 d.r8] (fun _ h => h.1) _ Tryz.underlying46 rfl (by kernel_rfl) (by first | rfl | simp [Region.wanted, yielded] | (simp [Region.wanted, yielded, Act.put] <;> omega))
      try simp only [Act.put, List.setIfInBounds_toArray, List.set_cons_zero, List.set_cons_succ]
      refine wpAnyEI_pure (plain_of (fun _ => trivial) (by kernel_rfl)) (i := 2) (v := ?vu2_9) (by simp only [List.getElem?_toArray, List.getElem?_cons_succ, List.getElem?_cons_zero]; rfl) (by kernel_rfl) (by kernel_rfl) (by kernel_rfl) (by exact fun _ _ _ h => h) (by kernel_rfl) (Or.inl ⟨by rfl, ?yu2_9⟩) hH ?_
      case yu2_9 => (intro w' hSw; (try dsimp only at hSw); go_simp; try with_reducible rfl)
      try simp only [Act.put, List.setIfInBounds_toArray, List.set_cons_zero, List.set_cons_succ]
      refine wpAnyEI_takeP [6, 7, 11] (plain_of (fun _ => trivial) (by kernel_rfl)) (i := 3) (v := .int .i64 d.r1) (by simp only [List.getElem?_toArray, List.getElem?_cons_succ, List.getElem?_cons_zero]; rfl) (by kernel_rfl) (by kernel_rfl) (by kernel_rfl) (by exact fun _ _ _ h => h) (by kernel_rfl) (Or.inl ⟨(by first | rfl | simp [Region.wanted, yielded] | (simp [Region.wanted, yielded, Act.put] <;> omega)), ?y3⟩) hH ?_
      case y3 => (intro w' hSw; have hc0 : w'.cell? ⟨V, 0, none⟩ = some (.int .i64 d.r1) := hSw.1.cell 0; clear hSw; go_simp; try with_reducible rfl)
      try simp only [Act.put, List.setIfInBounds_toArray, List.set_cons_zero, List.set_cons_succ]
      refine wpAnyEI_pure (plain_of (fun _ => trivial) (by kernel_rfl)) (i := 4) (v := ?vu4_10) (by simp only [List.getElem?_toArray, List.getElem?_cons_succ, List.getElem?_cons_zero]; rfl) (by kernel_rfl) (by kernel_rfl) (by kernel_rfl) (by exact fun _ _ _ h => h) (by kernel_rfl) (Or.inl ⟨by rfl, ?yu4_10⟩) hH ?_
      case yu4_10 => (intro w' hSw; (try dsimp only at hSw); go_simp; try with_reducible rfl)
      try simp only [Act.put, List.setIfInBounds_toArray, List.set_cons_zero, List.set_cons_succ]
      refine wpAnyEI_pure (plain_of (fun _ => trivial) (by kernel_rfl)) (i := 5) (v := ?vu5_11) (by simp only [List.getElem?_toArray, List.getElem?_cons_succ, List.getElem?_cons_zero]; rfl) (by kernel_rfl) (by kernel_rfl) (by kernel_rfl) (by exact fun _ _ _ h => h) (by kernel_rfl) (Or.inl ⟨by rfl, ?yu5_11⟩) hH ?_
      case yu5_11 => (intro w' hSw; (try dsimp only at hSw); go_simp; try with_reducible rfl)
      try simp only [Act.put, List.setIfInBounds_toArray, List.set_cons_zero, List.set_cons_succ]
      refine wpAnyEI_pure (plain_of (fun _ => trivial) (by kernel_rfl)) (i := 6) (v := ?vu6_12) (by simp only [List.getElem?_toArray, List.getElem?_cons_succ, List.getElem?_cons_zero]; rfl) (by kernel_rfl) (by kernel_rfl) (by kernel_rfl) (by exact fun _ _ _ h => h) (by kernel_rfl) (Or.inl ⟨by rfl, ?yu6_12⟩) hH ?_
      case yu6_12 => (intro w' hSw; (try dsimp only at hSw); go_simp; try with_reducible rfl)
      try simp only [Act.put, List.setIfInBounds_toArray, List.set_cons_zero, List.set_cons_succ]
      refine wpAnyEI_pure (plain_of (fun _ => trivial) (by kernel_rfl)) (i := 7) (v := ?vu7_13) (by simp only [List.getElem?_toArray, List.getElem?_cons_succ, List.getElem?_cons_zero]; rfl) (by kernel_rfl) (by kernel_rfl) (by kernel_rfl) (by exact fun _ _ _ h => h) (by kernel_rfl) (Or.inl ⟨by rfl, ?yu7_13⟩) hH ?_
      case yu7_13 => (intro w' hSw; (try dsimp only at hSw); go_simp; try with_reducible rfl)
      try simp only [Act.put, List.setIfInBounds_toArray, List.set_cons_zero, List.set_cons_succ]
      refine wpAnyEI_takeP [10, 11] (plain_of (fun _ => trivial) (by kernel_rfl)) (i := 8) (v := .agg #[.int .i64 g.s, .int .i64 g.l, .int .i64 g.c, .int .i64 g.sh, .slice A n cap]) (by simp only [List.getElem?_toArray, List.getElem?_cons_succ, List.getElem?_cons_zero]; rfl) (by kernel_rfl) (by kernel_rfl) (by kernel_rfl) (by exact fun _ _ _ h => h) (by kernel_rfl) ?y8 hH ?_
      case y8 => exact yields_box 26 _ rfl (B2) rfl 26 #[.int .i64 g.s, .int .i64 g.l, .int .i64 g.c, .int .i64 g.sh, .slice A n cap] (fun _ h => h.2) _ Tryz.underlying26 rfl (by kernel_rfl) (by first | rfl | simp [Region.wanted, yielded] | (simp [Region.wanted, yielded, Act.put] <;> omega))
      try simp only [Act.put, List.setIfInBounds_toArray, List.set_cons_zero, List.set_cons_succ]
      refine wpAnyEI_takeP [10, 11] (plain_of (fun _ => trivial) (by kernel_rfl)) (i := 9) (v := .agg #[.int .i64 d.r1, .int .i64 d.r2, .int .i64 d.r3, .int .i64 d.r4, .int .i64 d.r5, .int .i64 d.r6, .int .i64 d.r7, .slice Lk mk mck, .int .i64 d.r8]) (by simp only [List.getElem?_toArray, List.getElem?_cons_succ, List.getElem?_cons_zero]; rfl) (by kernel_rfl) (by kernel_rfl) (by kernel_rfl) (by exact fun _ _ _ h => h) (by kernel_rfl) ?y9 hH ?_
      case y9 => exact yields_box 46 _ rfl (V) rfl 46 #[.int .i64 d.r1, .int .i64 d.r2, .int .i64 d.r3, .int .i64 d.r4, .int .i64 d.r5, .int .i64 d.r6, .int .i64 d.r7, .slice Lk mk mck, .int .i64 d.r8] (fun _ h => h.1) _ Tryz.underlying46 rfl (by kernel_rfl) (by first | rfl | simp [Region.wanted, yielded] | (simp [Region.wanted, yielded, Act.put] <;> omega))
      try simp only [Act.put, List.setIfInBounds_toArray, List.set_cons_zero, List.set_cons_succ]
      refine wpAnyEI_one (i := 10) (by kernel_rfl) (by simp only [List.getElem?_toArray, List.getElem?_cons_succ, List.getElem?_cons_zero]; rfl) (fun K' hK => ?_)
      have HH := Lib.hid hH
      clear hH
      go_simp
      refine ⟨trivial, ?_⟩
      refine (callsIn_wide.2 (recOk_is HB.out A n cap Lk mk mck w2 HM.out ((HRw.out.below HE.out (Nat.le_refl _)).more HE.out.size) hmk4 (HPw.out.later HE.out))).mono ?_
      rintro e w3 ⟨rfl, hb⟩
      replace HE := Lib.hid (bel_trans HE.out hb)
      refine hK.out _ _ ⟨HH.out.1.later hb HH.out.1.lt, HH.out.2.later hb HH.out.2.lt⟩ (fun hH => ?_)
      clear hK K' HH hb
      try simp only [Act.put, List.setIfInBounds_toArray, List.set_cons_zero, List.set_cons_succ]
      refine wpAnyEI_pure (plain_of (fun _ => trivial) (by kernel_rfl)) (i := 11) (v := ?vu11_14) (by simp only [List.getElem?_toArray, List.getElem?_cons_succ, List.getElem?_cons_zero]; rfl) (by kernel_rfl) (by kernel_rfl) (by kernel_rfl) (by exact fun _ _ _ h => h) (by kernel_rfl) (Or.inl ⟨by rfl, ?yu11_14⟩) hH ?_
      case yu11_14 => (intro w' hSw; (try dsimp only at hSw); go_simp; try with_reducible rfl)
      try simp only [Act.put, List.setIfInBounds_toArray, List.set_cons_zero, List.set_cons_succ]
      obtain ⟨fnY, tmpsY, assignY, bodyY, hy, hRd⟩ := HY.out w3 (AbidesFrom.later HJ.out HJk.out HE.out)
      refine wpAnyEI_any (i := 12) (by kernel_rfl) (by simp only [List.getElem?_toArray, List.getElem?_cons_succ, List.getElem?_cons_zero]; rfl) (by kernel_rfl) (fun K' hK => ?_)
      clear hH
      go_simp
      refine hRd.mono ?_
      rintro e W3 (⟨rfl, hJ3, hk3⟩ | ⟨rfl, hJx3⟩)
      · skip
        refine hK.out _ _ ?_
        clear hK K' hy hRd
        try simp only [Act.put, List.setIfInBounds_toArray, List.set_cons_zero, List.set_cons_succ]
        refine wpAnyEI_any (i := 13) (by kernel_rfl) (by simp only [List.getElem?_toArray, List.getElem?_cons_succ, List.getElem?_cons_zero]; rfl) (by kernel_rfl) (fun K' hK => ?_)
        go_simp
        refine hK.out _ _ (wpAnyEI_nil (by kernel_rfl) ?_)
        clear hK K'
        try simp only [Act.put, List.setIfInBounds_toArray, List.set_cons_zero, List.set_cons_succ]
        have HK3 := Lib.hid ((KeepC.of_below (G := G) (N := N) HE.out).trans hk3)
        have HJ3 := Lib.hid hJ3
        clear hJ3 hk3 HE
        gi_wp2
        go_roundw
        case rel => exact ⟨k + 1, by omega, by go_num, HJ3.out, HT.out.trans HK3.out⟩
        case measure => simp [intOf]; omega
      · skip
        refine hK.out _ _ ?_
        clear hK K' hy hRd
        try simp only [Act.put, List.setIfInBounds_toArray, List.set_cons_zero, List.set_cons_succ]
        refine wpAnyEI_any (i := 13) (by kernel_rfl) (by simp only [List.getElem?_toArray, List.getElem?_cons_succ, List.getElem?_cons_zero]; rfl) (by kernel_rfl) (fun K' hK => ?_)
        go_simp
        refine hK.out _ _ (wpAnyEI_nil (by kernel_rfl) ?_)
        clear hK K'
        try simp only [Act.put, List.setIfInBounds_toArray, List.set_cons_zero, List.set_cons_succ]
        have HJ3 := Lib.hid hJx3
        clear hJx3 HE
        gi_wp2
        refine bodyPost_ret (results_none rfl _ _ _) rfl ?_
        exact ⟨⟨_, rfl⟩, .inr ⟨firsts ds.length (k + 1), firsts_pre _ _, HJ3.out⟩⟩
    have hkn : k = ln := by omega
    subst hkn
    gi_wp2
    go_end0
    exact ⟨⟨_, rfl⟩, .inl ⟨_, by rw [← firsts_all, HL.out], HJk.out⟩⟩

end Go.Proofs.YtjdepjpjjgkmbaaGreat

/- A block of shelves of one's own: each with its lists in blocks of its own; read, written, made anew; no conditions. -/
namespace Go.Proofs.YtjdepjpjjgkmbaaGreat
open Go Go.RowKit

theorem turns_cell5 (w : World) (g o : Nat) (u : Value) : Turns (· = g) w (w.setCell ⟨g, o, none⟩ u) :=
  ⟨rfl, rfl, rfl, by rw [size_set]; exact Nat.le_refl _, fun i _ hne => Below.heap_setCell w ⟨g, o, none⟩ u i hne⟩
/-- The block g holds these shelves; the lists of the one at place i lie in blocks of Fs i, apart from all others'. -/
structure RegsAt (P : RegD → World → (Nat → Prop) → Value → Prop) (w : World) (g : Nat) (rs : List RegD) (Fs : Nat → Nat → Prop) : Prop where
  blk : ∃ cs, Box w g 80 cs ∧ cs.size = rs.length * 5 ∧ ∀ i (h : i < rs.length), ∃ u v, cs[i * 5]? = some (.int .i64 (rs[i]).t) ∧ cs[i * 5 + 1]? = some (.int .i64 (rs[i]).q) ∧ cs[i * 5 + 2]? = some (.int .i64 (rs[i]).v) ∧ cs[i * 5 + 3]? = some u ∧ cs[i * 5 + 4]? = some v ∧
    P rs[i] w (Fs i) (.agg #[.int .i64 (rs[i]).t, .int .i64 (rs[i]).q, .int .i64 (rs[i]).v, u, v])
  apart : ∀ i, i < rs.length → ∀ b, Fs i b → b ≠ g
  two : ∀ i j, i < rs.length → j < rs.length → i ≠ j → ∀ b, Fs i b → ¬ Fs j b
section
variable {P : RegD → World → (Nat → Prop) → Value → Prop}
theorem RegsAt.lt {w : World} {g : Nat} {rs : List RegD} {Fs : Nat → Nat → Prop} (h : RegsAt P w g rs Fs) : g < w.heap.size := by
  obtain ⟨cs, hb, _⟩ := h.blk
  exact hb.lt
variable (kp : ∀ d, Keeps (P d))
include kp in
theorem RegsAt.turn {w w' : World} {g : Nat} {rs : List RegD} {Fs : Nat → Nat → Prop} {T : Nat → Prop} (h : RegsAt P w g rs Fs) (ht : Turns T w w') (hg : ¬ T g) (hF : ∀ i, i < rs.length → ∀ b, Fs i b → ¬ T b) : RegsAt P w' g rs Fs := by
  obtain ⟨cs, hb, hs, hc⟩ := h.blk
  refine ⟨⟨cs, hb.turn ht hg, hs, fun i hi => ?_⟩, h.apart, h.two⟩
  obtain ⟨u, v, c0, c1, c2, c3, c4, hL⟩ := hc i hi
  exact ⟨u, v, c0, c1, c2, c3, c4, (kp _).turn hL ht (hF i hi)⟩
include kp in
theorem RegsAt.later {w w' : World} {g : Nat} {rs : List RegD} {Fs : Nat → Nat → Prop} (h : RegsAt P w g rs Fs) (hb : Below w.heap.size w w') : RegsAt P w' g rs Fs :=
  RegsAt.turn kp h (T := fun _ => False) (Turns.of_below hb) (fun h => h) (fun _ _ _ _ h => h)
/-- One of them, read: its cells, and what they are. -/
theorem RegsAt.get {w : World} {g : Nat} {rs : List RegD} {Fs : Nat → Nat → Prop} (h : RegsAt P w g rs Fs) {i : Nat} (hi : i < rs.length) :
    ∃ u v, w.cell? ⟨g, i * 5, none⟩ = some (.int .i64 (rs[i]).t) ∧ w.cell? ⟨g, i * 5 + 1, none⟩ = some (.int .i64 (rs[i]).q) ∧ w.cell? ⟨g, i * 5 + 2, none⟩ = some (.int .i64 (rs[i]).v) ∧ w.cell? ⟨g, i * 5 + 3, none⟩ = some u ∧ w.cell? ⟨g, i * 5 + 4, none⟩ = some v ∧
      P rs[i] w (Fs i) (.agg #[.int .i64 (rs[i]).t, .int .i64 (rs[i]).q, .int .i64 (rs[i]).v, u, v]) := by
  obtain ⟨cs, hb, hs, hc⟩ := h.blk
  obtain ⟨u, v, c0, c1, c2, c3, c4, hL⟩ := hc i hi
  exact ⟨u, v, (hb.cell _).trans c0, (hb.cell _).trans c1, (hb.cell _).trans c2, (hb.cell _).trans c3, (hb.cell _).trans c4, hL⟩
theorem RegsAt.frozen {w : World} {g : Nat} {rs : List RegD} {Fs : Nat → Nat → Prop} (h : RegsAt P w g rs Fs) (o : Nat) : w.frozen? ⟨g, o, none⟩ = false := by
  obtain ⟨cs, hb, _⟩ := h.blk
  exact hb.frozen o
theorem set5 (cs : Array Value) (i : Nat) (x0 x1 x2 x3 x4 : Value) (h : i * 5 + 4 < cs.size) (cs' : Array Value) (hcs : cs' = ((((cs.setIfInBounds (i * 5) x0).setIfInBounds (i * 5 + 1) x1).setIfInBounds (i * 5 + 2) x2).setIfInBounds (i * 5 + 3) x3).setIfInBounds (i * 5 + 4) x4) :
    cs'.size = cs.size ∧ (cs'[i * 5]? = some x0 ∧ cs'[i * 5 + 1]? = some x1 ∧ cs'[i * 5 + 2]? = some x2 ∧ cs'[i * 5 + 3]? = some x3 ∧ cs'[i * 5 + 4]? = some x4) ∧ ∀ k, (k < i * 5 ∨ i * 5 + 4 < k) → cs'[k]? = cs[k]? := by
  subst hcs
  refine ⟨by simp, ⟨?_, ?_, ?_, ?_, ?_⟩, fun k hk => ?_⟩
  all_goals simp only [Array.getElem?_setIfInBounds, Array.size_setIfInBounds]
  · rw [if_neg (by omega), if_neg (by omega), if_neg (by omega), if_neg (by omega), if_pos trivial, if_pos (by omega)]
  · rw [if_neg (by omega), if_neg (by omega), if_neg (by omega), if_pos trivial, if_pos (by omega)]
  · rw [if_neg (by omega), if_neg (by omega), if_pos trivial, if_pos (by omega)]
  · rw [if_neg (by omega), if_pos trivial, if_pos (by omega)]
  · rw [if_pos trivial, if_pos (by omega)]
  · rw [if_neg (by omega), if_neg (by omega), if_neg (by omega), if_neg (by omega), if_neg (by omega)]
def upF (Fs : Nat → Nat → Prop) (i : Nat) (F : Nat → Prop) : Nat → Nat → Prop := fun j => if j = i then F else Fs j
include kp in
/-- One of them is written anew. -/
theorem RegsAt.put {w : World} {g : Nat} {rs : List RegD} {Fs : Nat → Nat → Prop} (h : RegsAt P w g rs Fs) {i : Nat} (hi : i < rs.length) {d : RegD} {F : Nat → Prop} {u v : Value} (hL : P d w F (.agg #[.int .i64 d.t, .int .i64 d.q, .int .i64 d.v, u, v])) (hg : ∀ b, F b → b ≠ g) (ho : ∀ j, j < rs.length → j ≠ i → ∀ b, F b → ¬ Fs j b) :
    RegsAt P (((((w.setCell ⟨g, i * 5, none⟩ (.int .i64 d.t)).setCell ⟨g, i * 5 + 1, none⟩ (.int .i64 d.q)).setCell ⟨g, i * 5 + 2, none⟩ (.int .i64 d.v)).setCell ⟨g, i * 5 + 3, none⟩ u).setCell ⟨g, i * 5 + 4, none⟩ v) g (rs.set i d) (upF Fs i F) := by
  obtain ⟨cs, hb, hs, hc⟩ := h.blk
  have hb' := ((((hb.set (i * 5) (.int .i64 d.t)).set (i * 5 + 1) (.int .i64 d.q)).set (i * 5 + 2) (.int .i64 d.v)).set (i * 5 + 3) u).set (i * 5 + 4) v
  obtain ⟨s1, ⟨n0, n1, n2, n3, n4⟩, s3⟩ := set5 cs i (.int .i64 d.t) (.int .i64 d.q) (.int .i64 d.v) u v (by omega) _ rfl
  have t5 : Turns (· = g) w (((((w.setCell ⟨g, i * 5, none⟩ (.int .i64 d.t)).setCell ⟨g, i * 5 + 1, none⟩ (.int .i64 d.q)).setCell ⟨g, i * 5 + 2, none⟩ (.int .i64 d.v)).setCell ⟨g, i * 5 + 3, none⟩ u).setCell ⟨g, i * 5 + 4, none⟩ v) :=
    ((((turns_cell5 w g _ _).trans (turns_cell5 _ g _ _)).trans (turns_cell5 _ g _ _)).trans (turns_cell5 _ g _ _)).trans (turns_cell5 _ g _ _)
  refine ⟨⟨_, hb', by rw [s1, hs, List.length_set], fun j hj => ?_⟩, fun j hj b hbj => ?_, fun j k hj hk hjk b hbj hbk => ?_⟩
  · rw [List.length_set] at hj
    by_cases e : j = i
    · subst e
      simp only [List.getElem_set_self]
      refine ⟨u, v, n0, n1, n2, n3, n4, ?_⟩
      simp only [upF, if_true]
      exact (kp d).turn hL t5 hg
    · simp only [List.getElem_set_ne (Ne.symm e)]
      obtain ⟨u', v', c0, c1, c2, c3, c4, hLj⟩ := hc j hj
      refine ⟨u', v', (s3 _ (by omega)).trans c0, (s3 _ (by omega)).trans c1, (s3 _ (by omega)).trans c2, (s3 _ (by omega)).trans c3, (s3 _ (by omega)).trans c4, ?_⟩
      simp only [upF, if_neg e]
      exact (kp _).turn hLj t5 (h.apart j hj)
  · rw [List.length_set] at hj
    unfold upF at hbj
    split at hbj
    · exact hg b hbj
    · exact h.apart j hj b hbj
  · rw [List.length_set] at hj hk
    unfold upF at hbj hbk
    split at hbj <;> split at hbk
    · omega
    · exact ho k hk (by assumption) b hbj hbk
    · exact ho j hj (by assumption) b hbk hbj
    · exact h.two j k hj hk hjk b hbj hbk
/-- Shelves of one's own behind lo: no list lies below it. -/
def RegsOwn (P : RegD → World → (Nat → Prop) → Value → Prop) (w : World) (g lo : Nat) (rs : List RegD) : Prop :=
  lo ≤ g ∧ ∃ Fs, RegsAt P w g rs Fs ∧ ∀ i, i < rs.length → ∀ b, Fs i b → lo ≤ b ∧ b < w.heap.size
include kp in
theorem RegsOwn.turn {w w' : World} {g lo : Nat} {rs : List RegD} {T : Nat → Prop} (h : RegsOwn P w g lo rs) (ht : Turns T w w') (hT : ∀ b, T b → b < lo) : RegsOwn P w' g lo rs := by
  obtain ⟨hg, Fs, hR, hF⟩ := h
  exact ⟨hg, Fs, RegsAt.turn kp hR ht (fun h => by have := hT _ h; omega) (fun i hi b hb hb2 => by have := hT b hb2; have := (hF i hi b hb).1; omega), fun i hi b hb => ⟨(hF i hi b hb).1, Nat.lt_of_lt_of_le (hF i hi b hb).2 ht.size⟩⟩
include kp in
theorem RegsOwn.later {w w' : World} {g lo : Nat} {rs : List RegD} (h : RegsOwn P w g lo rs) (hb : Below w.heap.size w w') : RegsOwn P w' g lo rs := RegsOwn.turn kp h (T := fun _ => False) (Turns.of_below hb) (fun _ h => h.elim)
include kp in
/-- One of them is written anew, with new lists. -/
theorem RegsOwn.put {w w1 : World} {g lo : Nat} {rs : List RegD} (h : RegsOwn P w g lo rs) (hb : Below w.heap.size w w1) {i : Nat} (hi : i < rs.length) {d : RegD} {u v : Value} (hL : P d w1 (Iv w.heap.size w1.heap.size) (.agg #[.int .i64 d.t, .int .i64 d.q, .int .i64 d.v, u, v])) :
    RegsOwn P (((((w1.setCell ⟨g, i * 5, none⟩ (.int .i64 d.t)).setCell ⟨g, i * 5 + 1, none⟩ (.int .i64 d.q)).setCell ⟨g, i * 5 + 2, none⟩ (.int .i64 d.v)).setCell ⟨g, i * 5 + 3, none⟩ u).setCell ⟨g, i * 5 + 4, none⟩ v) g lo (rs.set i d) := by
  obtain ⟨hg, Fs, hR, hF⟩ := h
  have hlt := hR.lt
  have hR1 := RegsAt.later kp hR hb
  refine ⟨hg, _, RegsAt.put kp hR1 hi hL (fun b hb1 => by have := hb1.1; omega) (fun j hj _ b hb1 hb2 => by have := hb1.1; have := (hF j hj b hb2).2; omega), fun j hj b hb1 => ?_⟩
  rw [List.length_set] at hj
  simp only [size_set]
  unfold upF at hb1
  split at hb1
  · exact ⟨by have := hb1.1; omega, hb1.2⟩
  · have := hF j hj b hb1
    have := hb.size
    omega
end
/-- A value reads as a shelf, whose lists the model can take parts of. -/
def AtW (d : RegD) (w : World) (F : Nat → Prop) (v : Value) : Prop :=
  ∃ (A : Option Addr) (n cap : Nat) (A' : Option Addr) (n' cap' : Nat), v = .agg #[.int .i64 d.t, .int .i64 d.q, .int .i64 d.v, .slice A n cap, .slice A' n' cap'] ∧ n ≤ maxLen ∧ n' ≤ maxLen ∧ PairsF w F A n d.ps ∧ QuadsF w F A' n' d.os ∧
    ((∃ b o, A = some ⟨b, o, none⟩) ∨ (A = none ∧ n = 0 ∧ cap = 0)) ∧ ((∃ b o, A' = some ⟨b, o, none⟩ ∧ n' ≤ cap' ∧ cap' ≤ maxLen) ∨ (A' = none ∧ n' = 0 ∧ cap' = 0))
theorem AtW.at {d : RegD} {w : World} {F : Nat → Prop} {v : Value} (h : AtW d w F v) : AtR d w F v := by
  obtain ⟨A, n, cap, A', n', cap', e, h1, h2, h3, h4, -⟩ := h
  exact ⟨A, n, cap, A', n', cap', e, h1, h2, h3, h4⟩
theorem keepsW (d : RegD) : Keeps (AtW d) :=
  ⟨fun ⟨A, n, c, A', n', c', e, h1, h2, h3, h4, h5⟩ ht hd => ⟨A, n, c, A', n', c', e, h1, h2, h3.turn ht hd, h4.turn ht hd, h5⟩, fun ⟨A, n, c, A', n', c', e, h1, h2, h3, h4, h5⟩ hs => ⟨A, n, c, A', n', c', e, h1, h2, ⟨h3.1, fun hn b o e => hs b (h3.2 hn b o e)⟩, ⟨h4.1, fun hn b o e => hs b (h4.2 hn b o e)⟩, h5⟩⟩
theorem AtW.slc {d : RegD} {w : World} {F : Nat → Prop} {u v : Value} (h : AtW d w F (.agg #[.int .i64 d.t, .int .i64 d.q, .int .i64 d.v, u, v])) : ∃ (A : Option Addr) (n c : Nat) (A' : Option Addr) (n' c' : Nat), u = .slice A n c ∧ v = .slice A' n' c' ∧ Slc w (.slice A n c) d.ps ∧ SlcQ w (.slice A' n' c') d.os ∧ d.ps.length = n ∧ d.os.length = n' := by
  obtain ⟨A, n, c, A', n', c', e, h1, h2, h3, h4, h5, h6⟩ := h
  have l1 : d.ps.length = n := h3.1.1
  have l2 : d.os.length = n' := h4.1.1
  injection e with e
  injection e with e
  simp only [List.cons.injEq, and_true, true_and] at e
  refine ⟨A, n, c, A', n', c', e.1, e.2, ?_, ?_, l1, l2⟩
  · rcases h5 with ⟨b, o, rfl⟩ | ⟨rfl, rfl, rfl⟩
    · exact .inr ⟨b, o, n, c, rfl, h3.1⟩
    · exact .inl ⟨rfl, List.eq_nil_of_length_eq_zero l1⟩
  · rcases h6 with ⟨b, o, rfl, h7, h8⟩ | ⟨rfl, rfl, rfl⟩
    · exact .inr ⟨b, o, n', c', rfl, h7, h8, h4.1⟩
    · exact .inl ⟨rfl, List.eq_nil_of_length_eq_zero l2⟩
/-- Shelves that nothing was done to yet. -/
theorem regs_new (P : RegD → World → (Nat → Prop) → Value → Prop) (hz : ∀ w, P ⟨0, 0, 0, [], []⟩ w (fun _ => False) (.agg #[.int .i64 0, .int .i64 0, .int .i64 0, .slice none 0 0, .slice none 0 0])) (w : World) (n : Nat) :
    RegsOwn P (w.alloc (.cells (madeCells #[.int .i64 0, .int .i64 0, .int .i64 0, .slice none 0 0, .slice none 0 0] (n * 5)) 80)) w.heap.size w.heap.size (List.replicate n ⟨0, 0, 0, [], []⟩) := by
  refine ⟨Nat.le_refl _, fun _ _ => False, ⟨⟨_, Box.new w _ _, by simp [size_madeCells], fun i hi => ?_⟩, fun _ _ _ h => h.elim, fun _ _ _ _ _ _ h => h.elim⟩, fun _ _ _ h => h.elim⟩
  rw [List.length_replicate] at hi
  simp only [List.getElem_replicate]
  refine ⟨.slice none 0 0, .slice none 0 0, ?_, ?_, ?_, ?_, ?_, hz _⟩
  · simp [madeCells, show i * 5 < n * 5 by omega]
  · simp [madeCells, show i * 5 + 1 < n * 5 by omega, show (i * 5 + 1) % 5 = 1 by omega]
  · simp [madeCells, show i * 5 + 2 < n * 5 by omega, show (i * 5 + 2) % 5 = 2 by omega]
  · simp [madeCells, show i * 5 + 3 < n * 5 by omega, show (i * 5 + 3) % 5 = 3 by omega]
  · simp [madeCells, show i * 5 + 4 < n * 5 by omega, show (i * 5 + 4) % 5 = 4 by omega]
theorem zeroW (w : World) : AtW ⟨0, 0, 0, [], []⟩ w (fun _ => False) (.agg #[.int .i64 0, .int .i64 0, .int .i64 0, .slice none 0 0, .slice none 0 0]) :=
  ⟨none, 0, 0, none, 0, 0, rfl, Nat.zero_le _, Nat.zero_le _, ⟨⟨rfl, fun h => absurd h (by omega)⟩, fun h => absurd h (by omega)⟩, ⟨⟨rfl, fun h => absurd h (by omega)⟩, fun h => absurd h (by omega)⟩, .inr ⟨rfl, rfl, rfl⟩, .inr ⟨rfl, rfl, rfl⟩⟩
theorem zeroL (w : World) : LieR ⟨0, 0, 0, [], []⟩ w (fun _ => False) (.agg #[.int .i64 0, .int .i64 0, .int .i64 0, .slice none 0 0, .slice none 0 0]) :=
  ⟨none, 0, 0, none, 0, 0, 0, 0, 0, rfl, .inl ⟨rfl, rfl⟩, .inl ⟨rfl, rfl⟩, Nat.le_refl _, Nat.le_refl _, Nat.zero_le _, fun b hb => by unfold Iv at hb; omega⟩
end Go.Proofs.YtjdepjpjjgkmbaaGreat

/- What the program's Replayed carries from round to round: shelves that abide whatever a loop over a function does to its own blocks; how long they can get; no conditions. -/
namespace Go.Proofs.YtjdepjpjjgkmbaaGreat
open Go Go.RowKit Go.Shelf

/-- Whatever was cells lies as it lay. -/
structure CellsK (w w' : World) : Prop where
  size : w.heap.size ≤ w'.heap.size
  block : ∀ (i : Nat) (o : Obj), w.heap[i]? = some o → o.isCells = true → w'.heap[i]? = some o
theorem CellsK.same {w w' : World} (h : CellsK w w') {a : Addr} {v : Value} (hc : w.cell? a = some v) : w'.heap[a.block]? = w.heap[a.block]? := by
  unfold World.cell? at hc
  rcases ho : w.heap[a.block]? with _ | o
  · rw [ho] at hc; cases hc
  · rw [ho] at hc
    cases o with
    | cells c e f => exact h.block _ _ ho rfl
    | _ => simp at hc
theorem CellsK.cell {w w' : World} (h : CellsK w w') {a : Addr} {v : Value} (hc : w.cell? a = some v) : w'.cell? a = some v := (World.cell?_of_block (h.same hc)).trans hc
theorem CellsK.box {w w' : World} (h : CellsK w w') {g : Nat} {t : TypeId} {cs : Array Value} (hx : Box w g t cs) : Box w' g t cs := h.block g _ hx rfl
theorem CellsK.held {w w' : World} (h : CellsK w w') {g : Nat} {d : List (Int × Int)} (hx : Held w g d) (hd : 0 < d.length) : Held w' g d := by
  have hs := h.same (hx.at0 0 hd)
  exact ⟨Nat.lt_of_lt_of_le hx.lt h.size, fun o => (World.frozen?_of_block (a := ⟨g, o, none⟩) hs).trans (hx.fr o), fun i hi => (World.cell?_of_block (a := ⟨g, i * 2, none⟩) hs).trans (hx.at0 i hi), fun i hi => (World.cell?_of_block (a := ⟨g, i * 2 + 1, none⟩) hs).trans (hx.at1 i hi)⟩
theorem CellsK.heldQ {w w' : World} (h : CellsK w w') {g : Nat} {d : List Opn} (hx : HeldQ w g d) (hd : 0 < d.length) : HeldQ w' g d := by
  have hs := h.same (hx.cs 0 hd).1
  exact hx.keep (Nat.lt_of_lt_of_le hx.lt h.size) (fun o => World.frozen?_of_block (a := ⟨g, o, none⟩) hs) (fun o => World.cell?_of_block (a := ⟨g, o, none⟩) hs)
theorem cellsK_own {w w' : World} {row : Option Nat} (hg : w.grownBy w' row) (hr : ∀ r, row = some r → ∃ o : Obj, w.heap[r]? = some o ∧ o.isCells = false) : CellsK w w' :=
  ⟨hg.size, fun i o hi hc => (hg.block i (Array.getElem?_eq_some_iff.1 hi).1 (fun e => by
    obtain ⟨o', ho, hc'⟩ := hr i e.symm
    rw [hi] at ho
    injection ho with ho
    subst ho
    rw [hc] at hc'
    cases hc')).trans hi⟩

/-- A list in a block of its own, or an empty one. -/
def ResE (w : World) (lo hi : Nat) (u : Value) (D : List (Int × Int)) : Prop :=
  (u = .slice none 0 0 ∧ D = []) ∨ ∃ g cap, lo ≤ g ∧ g < hi ∧ u = .slice (some ⟨g, 0, none⟩) D.length cap ∧ D.length ≤ cap ∧ cap ≤ maxLen ∧ (0 < D.length → Held w g D)
def ResEQ (w : World) (lo hi : Nat) (u : Value) (D : List Opn) : Prop :=
  (u = .slice none 0 0 ∧ D = []) ∨ ∃ g cap, lo ≤ g ∧ g < hi ∧ u = .slice (some ⟨g, 0, none⟩) D.length cap ∧ D.length ≤ cap ∧ cap ≤ maxLen ∧ (0 < D.length → HeldQ w g D)
theorem ResE.turn {T : Nat → Prop} {w w' : World} {lo hi : Nat} {v : Value} {ps : List (Int × Int)} (h : ResE w lo hi v ps) (ht : Turns T w w') (hd : ∀ b, Iv lo hi b → ¬ T b) : ResE w' lo hi v ps := by
  rcases h with h | ⟨g, cap, h0, h0', h1, h2, h3, h4⟩
  · exact .inl h
  · exact .inr ⟨g, cap, h0, h0', h1, h2, h3, fun hp => (h4 hp).turn ht (hd g ⟨h0, h0'⟩)⟩
theorem ResEQ.turn {T : Nat → Prop} {w w' : World} {lo hi : Nat} {v : Value} {ps : List Opn} (h : ResEQ w lo hi v ps) (ht : Turns T w w') (hd : ∀ b, Iv lo hi b → ¬ T b) : ResEQ w' lo hi v ps := by
  rcases h with h | ⟨g, cap, h0, h0', h1, h2, h3, h4⟩
  · exact .inl h
  · exact .inr ⟨g, cap, h0, h0', h1, h2, h3, fun hp => (h4 hp).turn ht (hd g ⟨h0, h0'⟩)⟩
theorem ResE.cells {w w' : World} {lo hi : Nat} {v : Value} {ps : List (Int × Int)} (h : ResE w lo hi v ps) (hk : CellsK w w') : ResE w' lo hi v ps := by
  rcases h with h | ⟨g, cap, h0, h0', h1, h2, h3, h4⟩
  · exact .inl h
  · exact .inr ⟨g, cap, h0, h0', h1, h2, h3, fun hp => hk.held (h4 hp) hp⟩
theorem ResEQ.cells {w w' : World} {lo hi : Nat} {v : Value} {ps : List Opn} (h : ResEQ w lo hi v ps) (hk : CellsK w w') : ResEQ w' lo hi v ps := by
  rcases h with h | ⟨g, cap, h0, h0', h1, h2, h3, h4⟩
  · exact .inl h
  · exact .inr ⟨g, cap, h0, h0', h1, h2, h3, fun hp => hk.heldQ (h4 hp) hp⟩
theorem ResE.slc {w : World} {lo hi : Nat} {A : Option Addr} {n c : Nat} {ps : List (Int × Int)} (h : ResE w lo hi (.slice A n c) ps) : Slc w (.slice A n c) ps ∧ ps.length = n := by
  rcases h with ⟨h, rfl⟩ | ⟨g, cap, h0, h0', h1, h2, h3, h4⟩
  · injection h with h1 h2 h3
    exact ⟨.inl ⟨by rw [h1, h2, h3], rfl⟩, h2.symm⟩
  · injection h1 with e1 e2 e3
    subst e1 e2 e3
    refine ⟨.inr ⟨g, 0, _, _, rfl, ?_⟩, rfl⟩
    by_cases hp : 0 < ps.length
    · exact (h4 hp).pairs
    · exact ⟨rfl, fun h => absurd h hp⟩
theorem ResEQ.slc {w : World} {lo hi : Nat} {A : Option Addr} {n c : Nat} {ps : List Opn} (h : ResEQ w lo hi (.slice A n c) ps) : SlcQ w (.slice A n c) ps ∧ ps.length = n := by
  rcases h with ⟨h, rfl⟩ | ⟨g, cap, h0, h0', h1, h2, h3, h4⟩
  · injection h with h1 h2 h3
    exact ⟨.inl ⟨by rw [h1, h2, h3], rfl⟩, h2.symm⟩
  · injection h1 with e1 e2 e3
    subst e1 e2 e3
    refine ⟨.inr ⟨g, 0, _, _, rfl, h2, h3, ?_⟩, rfl⟩
    by_cases hp : 0 < ps.length
    · exact (h4 hp).quads
    · exact ⟨rfl, fun h => absurd h hp⟩
/-- A shelf of one's own, but for empty lists. -/
def LieE (d : RegD) (w : World) (F : Nat → Prop) (v : Value) : Prop := ∃ (A : Option Addr) (n c : Nat) (A' : Option Addr) (n' c' lo B hi : Nat), v = .agg #[.int .i64 d.t, .int .i64 d.q, .int .i64 d.v, .slice A n c, .slice A' n' c'] ∧ ResE w lo B (.slice A n c) d.ps ∧ ResEQ w B hi (.slice A' n' c') d.os ∧ lo ≤ B ∧ B ≤ hi ∧ hi ≤ w.heap.size ∧ ∀ b, Iv lo hi b → F b
theorem keepsLE (d : RegD) : Keeps (LieE d) :=
  ⟨fun ⟨A, n, c, A', n', c', lo, B, hi, e, h1, h2, o1, o2, o3, hF⟩ ht hd => ⟨A, n, c, A', n', c', lo, B, hi, e, h1.turn ht (fun b hb => hd b (hF b (iv_sub (Nat.le_refl _) o2 b hb))), h2.turn ht (fun b hb => hd b (hF b (iv_sub o1 (Nat.le_refl _) b hb))), o1, o2, Nat.le_trans o3 ht.size, hF⟩,
   fun ⟨A, n, c, A', n', c', lo, B, hi, e, h1, h2, o1, o2, o3, hF⟩ hs => ⟨A, n, c, A', n', c', lo, B, hi, e, h1, h2, o1, o2, o3, fun b hb => hs b (hF b hb)⟩⟩
theorem LieE.cells {d : RegD} {w w' : World} {F : Nat → Prop} {v : Value} (h : LieE d w F v) (hk : CellsK w w') : LieE d w' F v := by
  obtain ⟨A, n, c, A', n', c', lo, B, hi, e, h1, h2, o1, o2, o3, hF⟩ := h
  exact ⟨A, n, c, A', n', c', lo, B, hi, e, h1.cells hk, h2.cells hk, o1, o2, Nat.le_trans o3 hk.size, hF⟩
theorem LieR.lieE {d : RegD} {w : World} {F : Nat → Prop} {v : Value} (h : LieR d w F v) : LieE d w F v := by
  obtain ⟨A, n, c, A', n', c', lo, B, hi, e, h1, h2, o1, o2, o3, hF⟩ := h
  refine ⟨A, n, c, A', n', c', lo, B, hi, e, ?_, ?_, o1, o2, o3, hF⟩
  · rcases h1 with h | ⟨g, cap, h0, h0', h1, h2, h3, h4⟩
    · exact .inl h
    · exact .inr ⟨g, cap, h0, h0', h1, h2, h3, fun _ => h4⟩
  · rcases h2 with h | ⟨g, cap, h0, h0', h1, h2, h3, h4⟩
    · exact .inl h
    · exact .inr ⟨g, cap, h0, h0', h1, h2, h3, fun _ => h4⟩
theorem zeroE (w : World) : LieE ⟨0, 0, 0, [], []⟩ w (fun _ => False) (.agg #[.int .i64 0, .int .i64 0, .int .i64 0, .slice none 0 0, .slice none 0 0]) := (zeroL w).lieE
theorem LieE.slc {d : RegD} {w : World} {F : Nat → Prop} {u v : Value} (h : LieE d w F (.agg #[.int .i64 d.t, .int .i64 d.q, .int .i64 d.v, u, v])) : ∃ (A : Option Addr) (n c : Nat) (A' : Option Addr) (n' c' : Nat), u = .slice A n c ∧ v = .slice A' n' c' ∧ Slc w (.slice A n c) d.ps ∧ SlcQ w (.slice A' n' c') d.os ∧ d.ps.length = n ∧ d.os.length = n' := by
  obtain ⟨A, n, c, A', n', c', lo, B, hi, e, h1, h2, -⟩ := h
  injection e with e
  injection e with e
  simp only [List.cons.injEq, and_true, true_and] at e
  exact ⟨A, n, c, A', n', c', e.1, e.2, h1.slc.1, h2.slc.1, h1.slc.2, h2.slc.2⟩
theorem RegsOwn.cells {w w' : World} {G lo : Nat} {rs : List RegD} (h : RegsOwn LieE w G lo rs) (hk : CellsK w w') : RegsOwn LieE w' G lo rs := by
  obtain ⟨hg, Fs, hR, hF⟩ := h
  refine ⟨hg, Fs, ⟨?_, hR.apart, hR.two⟩, fun i hi b hb => ⟨(hF i hi b hb).1, Nat.lt_of_lt_of_le (hF i hi b hb).2 hk.size⟩⟩
  obtain ⟨cs, hb, hs, hc⟩ := hR.blk
  refine ⟨cs, hk.box hb, hs, fun i hi => ?_⟩
  obtain ⟨u, v, c0, c1, c2, c3, c4, hL⟩ := hc i hi
  exact ⟨u, v, c0, c1, c2, c3, c4, hL.cells hk⟩

/-- The shelves behind these rounds, in whatever order they came. -/
def shI (g : GrpD) (ds : List RecD) (pre : List (Fin ds.length)) : List RegD := pre.foldl (fun rs k => stepR g rs ds[k.val]) (List.replicate g.sh.toNat zeroR)
theorem shI_snoc (g : GrpD) (ds : List RecD) (pre : List (Fin ds.length)) (x : Fin ds.length) : shI g ds (pre ++ [x]) = stepR g (shI g ds pre) ds[x.val] := by
  unfold shI
  rw [List.foldl_append, List.foldl_cons, List.foldl_nil]
theorem shI_len (g : GrpD) (ds : List RecD) (pre : List (Fin ds.length)) : (shI g ds pre).length = g.sh.toNat := by
  have key : ∀ (pre : List (Fin ds.length)) (rs : List RegD), (pre.foldl (fun rs k => stepR g rs ds[k.val]) rs).length = rs.length := by
    intro pre
    induction pre with
    | nil => intro rs; rfl
    | cons d pre ih => intro rs; rw [List.foldl_cons, ih, stepR_len]
  unfold shI
  rw [key, List.length_replicate]
theorem shI_all (g : GrpD) (ds : List RecD) : shI g ds (List.finRange ds.length) = shelves g ds := by
  have key : ∀ k, k ≤ ds.length → shI g ds (firsts ds.length k) = shelves g (ds.take k) := by
    intro k
    induction k with
    | zero => intro _; rfl
    | succ k ih => intro hk; rw [firsts_snoc _ _ (by omega), shI_snoc, ih (by omega), shelves_snoc g ds (by omega)]
  have h := key ds.length (Nat.le_refl _)
  rw [firsts_all, List.take_length] at h
  exact h
theorem onto_len2 (g : GrpD) (d : RecD) (r : RegD) {M n : Nat} (h1 : r.ps.length ≤ M) (h2 : d.ps.length ≤ M) (h3 : r.os.length ≤ n) : (ontoD g d r).ps.length ≤ M ∧ (ontoD g d r).os.length ≤ n + 1 := by
  unfold ontoD
  split
  · have := withO_len r.os (d.r4, d.r5, d.r6, d.r7)
    show r.ps.length ≤ M ∧ (withO r.os (d.r4, d.r5, d.r6, d.r7)).length ≤ n + 1
    omega
  · unfold outW
    simp only
    split
    · simp
    split
    · exact ⟨h1, show r.os.length ≤ n + 1 by omega⟩
    split
    · have := goodP_le (rB g.s g.l g.c g.sh g.zs 1 d.r3 d.r5 d.r6 d.r7) d.ps
      show (goodP (rB g.s g.l g.c g.sh g.zs 1 d.r3 d.r5 d.r6 d.r7) d.ps).length ≤ M ∧ r.os.length ≤ n + 1
      omega
    · exact ⟨h1, show r.os.length ≤ n + 1 by omega⟩
theorem regOf_step (g : GrpD) (rs : List RegD) (d : RecD) (i : Nat) : regOf (stepR g rs d) i = regOf rs i ∨ regOf (stepR g rs d) i = ontoD g d (regOf rs i) := by
  unfold stepR
  by_cases hi : d.r3.toNat = i
  · subst hi
    by_cases hl : d.r3.toNat < rs.length
    · exact .inr (by simp [regOf, hl])
    · exact .inl (by rw [List.set_eq_of_length_le (by omega)])
  · exact .inl (by simp [regOf, hi])
theorem shI_sz (g : GrpD) (ds : List RecD) {M : Nat} (hM : ∀ k (h : k < ds.length), (ds[k]).ps.length ≤ M) (pre : List (Fin ds.length)) (i : Nat) : (regOf (shI g ds pre) i).ps.length ≤ M ∧ (regOf (shI g ds pre) i).os.length ≤ pre.length := by
  have key : ∀ (pre : List (Fin ds.length)) (rs : List RegD) (n : Nat), (∀ i, (regOf rs i).ps.length ≤ M ∧ (regOf rs i).os.length ≤ n) → ∀ i, (regOf (pre.foldl (fun rs k => stepR g rs ds[k.val]) rs) i).ps.length ≤ M ∧ (regOf (pre.foldl (fun rs k => stepR g rs ds[k.val]) rs) i).os.length ≤ n + pre.length := by
    intro pre
    induction pre with
    | nil => intro rs n h i; exact h i
    | cons k pre ih =>
      intro rs n h i
      have := ih (stepR g rs ds[k.val]) (n + 1) (fun i => by
        rcases regOf_step g rs ds[k.val] i with e | e
        · rw [e]; have := h i; omega
        · rw [e]; exact onto_len2 g _ _ (h i).1 (hM k.val k.isLt) (h i).2) i
      rw [List.foldl_cons, List.length_cons]
      omega
  have := key pre (List.replicate g.sh.toNat zeroR) 0 (fun i => by
    have h : regOf (List.replicate g.sh.toNat zeroR) i = zeroR := by
      unfold regOf
      simp only [List.getD_eq_getElem?_getD, List.getElem?_replicate]
      split <;> rfl
    rw [h]
    exact ⟨Nat.zero_le _, Nat.le_refl _⟩) i
  rw [Nat.zero_add] at this
  exact this
end Go.Proofs.YtjdepjpjjgkmbaaGreat

/- What the model's draw of a right group leaves: a right group with keys of its own; the cursor is a right one. -/
namespace Go.Proofs.YtjdepjpjjgkmbaaGreat
open Go.RowKit

end Go.Proofs.YtjdepjpjjgkmbaaGreat

/- What the model's draw of any group leaves: a group whose keys can be read; the cursor is a right one. -/
namespace Go.Proofs.YtjdepjpjjgkmbaaGreat
open Go.RowKit

theorem Row.kept {w w' : World} {q o n : Nat} {zs : List Int} {r : Option Nat} (h : Row w w.heap.size (some ⟨q, o, none⟩) n zs) (hg : w.grownBy w' r) (hr : r ≠ some q) : Row w' w'.heap.size (some ⟨q, o, none⟩) n zs := by
  refine ⟨h.1, fun hn => ?_⟩
  obtain ⟨b, o', hA, hb, hc⟩ := h.2 hn
  cases hA
  exact ⟨_, _, rfl, Nat.lt_of_lt_of_le hb hg.size, fun i hi => (World.cell?_of_block (a := ⟨q, o + i, none⟩) (hg.block q hb (fun e => hr e.symm))).trans (hc i hi)⟩
theorem Row.put {w : World} {q n : Nat} {zs : List Int} (h : Row w w.heap.size (some ⟨q, 0, none⟩) n zs) (y : Int) : Row (w.setCell ⟨q, 0, none⟩ (.int .i64 y)) (w.setCell ⟨q, 0, none⟩ (.int .i64 y)).heap.size (some ⟨q, 0, none⟩) n (zs.set 0 y) := by
  refine ⟨by rw [List.length_set]; exact h.1, fun hn => ?_⟩
  obtain ⟨b, o', hA, hb, hc⟩ := h.2 hn
  cases hA
  refine ⟨_, _, rfl, by rw [size_set]; exact hb, fun i hi => ?_⟩
  have hl := h.1
  rcases i with _ | i
  · have h0 := hc 0 hn
    have h1 := World.cell?_setCell_same' w ⟨q, 0, none⟩ (.int .i64 y) (by rw [show (⟨q, 0, none⟩ : Addr) = ⟨q, 0 + 0, none⟩ from rfl, h0]; rfl)
    rw [show nth (zs.set 0 y) 0 = y by simp [nth, show 0 < zs.length by omega]]
    exact h1
  · rw [World.cell?_setCell_other _ _ _ _ (by intro e; injection e with _ e; omega), hc (i + 1) hi]
    simp [nth]

end Go.Proofs.YtjdepjpjjgkmbaaGreat

namespace Go.Proofs.YtjdepjpjjgkmbaaGreat
open Go.RowKit

theorem Row.keptB {w w' : World} {B q o n : Nat} {zs : List Int} {r : Option Nat} (h : Row w B (some ⟨q, o, none⟩) n zs) (hB : B ≤ w.heap.size) (hg : w.grownBy w' r) (hr : ∀ k, r = some k → B ≤ k ∨ k ≠ q) : Row w' B (some ⟨q, o, none⟩) n zs := by
  refine ⟨h.1, fun hn => ?_⟩
  obtain ⟨b, o', hA, hb, hc⟩ := h.2 hn
  cases hA
  refine ⟨_, _, rfl, hb, fun i hi => (World.cell?_of_block (a := ⟨q, o + i, none⟩) (hg.block q (by omega) (fun e => ?_))).trans (hc i hi)⟩
  rcases hr _ e.symm with h | h
  · omega
  · exact h rfl
theorem Box.far5 {w : World} {g R : Nat} {t : TypeId} {cs : Array Value} (h : Box w g t cs) (hR : R ≠ g) (u0 u1 u2 u3 u4 : Value) : Box (((((w.setCell ⟨R, 0, none⟩ u0).setCell ⟨R, 1, none⟩ u1).setCell ⟨R, 2, none⟩ u2).setCell ⟨R, 3, none⟩ u3).setCell ⟨R, 4, none⟩ u4) g t cs :=
  ((((h.far (p := ⟨R, 0, none⟩) hR u0).far (p := ⟨R, 1, none⟩) hR u1).far (p := ⟨R, 2, none⟩) hR u2).far (p := ⟨R, 3, none⟩) hR u3).far (p := ⟨R, 4, none⟩) hR u4
theorem Row.far {w : World} {B q o n : Nat} {zs : List Int} (h : Row w B (some ⟨q, o, none⟩) n zs) {p : Addr} (hp : B ≤ p.block) (u : Value) : Row (w.setCell p u) B (some ⟨q, o, none⟩) n zs :=
  h.keep fun a ha => World.cell?_setCell_other _ _ _ _ (fun e => by rw [e] at hp; omega)

/-- A group, a claim and a seal, drawn, in variables of their own; the results' places are still empty. -/
structure Three (w0 w : World) (P Q S q o m cap' : Nat) (s l c sh : Int) (zs : List Int) (ck ch ct cq cv x t : Int) : Prop where
  gr : Box w P 26 #[.int .i64 s, .int .i64 l, .int .i64 c, .int .i64 sh, .slice (some ⟨q, o, none⟩) m cap']
  cl : Box w Q 180 #[.int .i64 ck, .int .i64 ch, .int .i64 ct, .int .i64 cq, .int .i64 cv]
  se : Box w S 136 #[.int .i64 x, .int .i64 t]
  r1 : Box w w0.heap.size 26 #[.int .i64 0, .int .i64 0, .int .i64 0, .int .i64 0, .slice none 0 0]
  r2 : Box w (w0.heap.size + 1) 180 #[.int .i64 0, .int .i64 0, .int .i64 0, .int .i64 0, .int .i64 0]
  r3 : Box w (w0.heap.size + 1 + 1) 136 #[.int .i64 0, .int .i64 0]
  row : Row w P (some ⟨q, o, none⟩) m zs
  bel : Below w0.heap.size w0 w
  h1 : w0.heap.size + 1 + 1 < P
  h2 : P < Q
  h3 : Q < S

theorem Three.kept {w0 w w' : World} {P Q S q o m cap' g : Nat} {s l c sh : Int} {zs : List Int} {ck ch ct cq cv x t : Int} (h : Three w0 w P Q S q o m cap' s l c sh zs ck ch ct cq cv x t)
    (hg : w.grownBy w' (some g)) (h1 : w0.heap.size + 1 + 1 < g) (h2 : g < P) (h3 : g ≠ q) : Three w0 w' P Q S q o m cap' s l c sh zs ck ch ct cq cv x t := by
  have a1 := h.h1
  have a2 := h.h2
  have a3 := h.h3
  have a4 := h.gr.lt
  exact ⟨h.gr.kept hg (by intro e; injection e with e; omega), h.cl.kept hg (by intro e; injection e with e; omega), h.se.kept hg (by intro e; injection e with e; omega), h.r1.kept hg (by intro e; injection e with e; omega), h.r2.kept hg (by intro e; injection e with e; omega), h.r3.kept hg (by intro e; injection e with e; omega),
    h.row.keptB (by omega) hg (fun k hk => by injection hk with hk; exact .inr (by omega)), bel_grown h.bel hg (by omega), a1, a2, a3⟩
theorem Three.who {w0 w : World} {P Q S q o m cap' : Nat} {s l c sh : Int} {zs : List Int} {ck ch ct cq cv x t : Int} (h : Three w0 w P Q S q o m cap' s l c sh zs ck ch ct cq cv x t) (y : Int) :
    Three w0 (w.setCell ⟨S, 0, none⟩ (.int .i64 y)) P Q S q o m cap' s l c sh zs ck ch ct cq cv y t := by
  have a1 := h.h1
  have a2 := h.h2
  have a3 := h.h3
  exact ⟨h.gr.far (p := ⟨S, 0, none⟩) (by show S ≠ _; omega) _, h.cl.far (p := ⟨S, 0, none⟩) (by show S ≠ _; omega) _, h.se.set 0 _, h.r1.far (p := ⟨S, 0, none⟩) (by show S ≠ _; omega) _, h.r2.far (p := ⟨S, 0, none⟩) (by show S ≠ _; omega) _, h.r3.far (p := ⟨S, 0, none⟩) (by show S ≠ _; omega) _,
    h.row.far (p := ⟨S, 0, none⟩) (by show P ≤ S; omega) _, h.bel.setCell (p := ⟨S, 0, none⟩) (by show _ ≤ S; omega) _, a1, a2, a3⟩
theorem Three.value {w0 w : World} {P Q S q o m cap' : Nat} {s l c sh : Int} {zs : List Int} {ck ch ct cq cv x t : Int} (h : Three w0 w P Q S q o m cap' s l c sh zs ck ch ct cq cv x t) (y : Int) :
    Three w0 (w.setCell ⟨Q, 4, none⟩ (.int .i64 y)) P Q S q o m cap' s l c sh zs ck ch ct cq y x t := by
  have a1 := h.h1
  have a2 := h.h2
  have a3 := h.h3
  exact ⟨h.gr.far (p := ⟨Q, 4, none⟩) (by show Q ≠ _; omega) _, h.cl.set 4 _, h.se.far (p := ⟨Q, 4, none⟩) (by show Q ≠ _; omega) _, h.r1.far (p := ⟨Q, 4, none⟩) (by show Q ≠ _; omega) _, h.r2.far (p := ⟨Q, 4, none⟩) (by show Q ≠ _; omega) _, h.r3.far (p := ⟨Q, 4, none⟩) (by show Q ≠ _; omega) _,
    h.row.far (p := ⟨Q, 4, none⟩) (by show P ≤ Q; omega) _, h.bel.setCell (p := ⟨Q, 4, none⟩) (by show _ ≤ Q; omega) _, a1, a2, a3⟩

end Go.Proofs.YtjdepjpjjgkmbaaGreat

/- What the model's draw of seals out of the code leaves: at most twenty of them; the bytes can be read. -/
namespace Go.Proofs.YtjdepjpjjgkmbaaGreat
open Go.RowKit

/-- What the drawing of seals keeps: the cursor, the group, the claim, the seals so far. -/
structure SealsAt (w wr : World) (g : Nat) (A : Option Addr) (n cap : Nat) (s l c sh : Int) (q o m cap' : Nat) (zs : List Int) (ck ch ct cq cv : Int) (p pc : Nat) (ps : List (Int × Int)) : Prop where
  cur : Cur wr 169 .i64 g A n cap
  grw : w.grownBy wr (some g)
  gr : Box wr w.heap.size 26 #[.int .i64 s, .int .i64 l, .int .i64 c, .int .i64 sh, .slice (some ⟨q, o, none⟩) m cap']
  cl : Box wr (w.heap.size + 1) 180 #[.int .i64 ck, .int .i64 ch, .int .i64 ct, .int .i64 cq, .int .i64 cv]
  own : wr.ownsRow (w.heap.size + 2) 136 2 (.slice (some ⟨p, 0, none⟩) ps.length pc) ps.length (flatP ps)
  row : Row wr w.heap.size (some ⟨q, o, none⟩) m zs
section
variable {w wr w' : World} {g : Nat} {A : Option Addr} {n cap : Nat} {s l c sh : Int} {q o m cap' : Nat} {zs : List Int} {ck ch ct cq cv : Int} {p pc : Nat} {ps : List (Int × Int)}
theorem SealsAt.later (h : SealsAt w wr g A n cap s l c sh q o m cap' zs ck ch ct cq cv p pc ps) (hb : Below wr.heap.size wr w') : SealsAt w w' g A n cap s l c sh q o m cap' zs ck ch ct cq cv p pc ps :=
  ⟨h.cur.kept (grown_bel hb none) (fun q hq => by cases hq), grown_trans h.grw (grown_bel hb _), h.gr.later hb h.gr.lt, h.cl.later hb h.cl.lt, h.own.kept (grown_bel hb none) (by simp [Value.ownBlock]), h.row.below hb h.grw.size⟩
theorem SealsAt.push {a b : Int} {ob : Obj} {gg cap2 : Nat} (h : SealsAt w wr g A n cap s l c sh q o m cap' zs ck ch ct cq cv p pc ps)
    (hown : w'.ownsRow (w.heap.size + 2) 136 2 (.slice (some ⟨gg, 0, none⟩) (ps.length + 1) cap2) (ps.length + 1) (flatP ps ++ [.int .i64 a, .int .i64 b])) (hg : (wr.alloc ob).grownBy w' (Value.ownBlock (.slice (some ⟨p, 0, none⟩) ps.length pc))) (hgl : g < w.heap.size) : SealsAt w w' g A n cap s l c sh q o m cap' zs ck ch ct cq cv gg cap2 (ps ++ [(a, b)]) := by
  have hp := (h.own.lt p rfl).1
  have hg : (wr.alloc ob).grownBy w' (some p) := hg
  have h2 := h.later (bel_alloc wr ob)
  have hs := h.grw.size
  refine ⟨h2.cur.kept hg (fun r hr => by injection hr with hr; omega), ⟨hg.os.trans h2.grw.os, hg.tape.trans h2.grw.tape, hg.output.trans h2.grw.output, Nat.le_trans h2.grw.size hg.size, fun k hk hne => (hg.block k (Nat.lt_of_lt_of_le hk h2.grw.size) (by intro e; injection e with e; omega)).trans (h2.grw.block k hk hne)⟩,
    h2.gr.kept hg (by intro e; injection e with e; omega), h2.cl.kept hg (by intro e; injection e with e; omega), ?_, h2.row.keptB h2.grw.size hg (fun k hk => by injection hk with hk; exact .inl (by omega))⟩
  rw [flatP_snoc]
  simpa using hown
end
end Go.Proofs.YtjdepjpjjgkmbaaGreat
