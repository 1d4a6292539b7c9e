/- What the exact law of ReadNote is built of: copies of bytes, marks of a note that was read, and what both ReadNotes leave in one form. -/
import Derived.Test.YtgjbebfcbpfngaaDoorWire11
import Derived.Test.YtgjbebfcbpfngaaDoorSpecWire5
import Derived.Test.YtgjbebfcbpfngaaDoorLawsAnswer
import Derived.Test.YtgjbebfcbpfngaaDoorCopiesMark
import Derived.Test.YtgjbebfcbpfngaaDoorWire3
namespace Go.Proofs.YtgjbebfcbpfngaaDoor
open Go.RowKit

theorem Tryd.infoB6 : (Tryd.prog.info? 5).map (fun i => (i.zero, i.size, i.bytes)) = some (some (.int .u8 0), 1, 1) := by kernel_rfl
/-- The first k are copied. -/
def uptoB (bs : List Int) (k j : Nat) : Value := if j < k then .int .u8 (nth bs j) else .int .u8 0
theorem uptoB_succ {w : World} {b n k : Nat} {bs : List Int} (h : w.rowIs b 5 n (uptoB bs k)) : (w.setCell ⟨b, k, none⟩ (.int .u8 (nth bs k))).rowIs b 5 n (uptoB bs (k + 1)) :=
  (h.set k _).congr fun i _ => by
    unfold uptoB
    by_cases e : i = k
    · subst e; simp
    · by_cases f : i < k
      · simp [e, f, show i < k + 1 by omega]
      · simp [e, f, show ¬ i < k + 1 by omega]
/-- What a copy of bytes leaves. -/
def MadeB (w : World) (n : Nat) (bs : List Int) (e : Ending) (w' : World) : Prop := ∃ g, w.heap.size ≤ g ∧ e = .returned (.slice (some ⟨g, 0, none⟩) n n) ∧ BHeld w' g bs ∧ Below w.heap.size w w'
set_option maxHeartbeats 1000000 in
theorem toBytes_any (A : Option Addr) (n cap : Nat) (bs : List Int) (w : World) (hm : n ≤ 1048576) (hr : BRow w w.heap.size A n bs) :
    Calls Tryd.prog 17 #[.slice A n cap] w (MadeB w n bs) := by
  have hmk := fun W => run_make_row' (P := Tryd.prog) 22 5 (.int .u8 0) 1 Tryd.underlying22 Tryd.infoB6 rfl .i64 .i64 n (by omega) (by omega) W
  have HR := Lib.hid hr
  clear hr
  go_enter Tryd.func17, Tryd.ntmps17
  go_wp2_with fail
  go_loopw [4] (fun i wr => ∃ k : Nat, k ≤ n ∧ i = .int .i64 k ∧ wr.rowIs w.heap.size 5 n (uptoB bs k) ∧ Below w.heap.size w wr) (fun i _ => n - (intOf i).toNat)
  case atStart => exact ⟨0, Nat.zero_le _, rfl, (World.rowIs_made w (.int .u8 0) n 5).congr (fun i _ => by simp [uptoB]), bel_alloc _ _⟩
  case round =>
    obtain ⟨k, hk, rfl, hrow, hb⟩ := hrel
    by_cases hlt : k < n
    · obtain ⟨b, o, hA, hbB, hcell⟩ := HR.out.2 (by omega)
      subst hA
      have g := (hb.cell (p := ⟨b, o + k, none⟩) hbB).trans (hcell k hlt)
      have g1 := hrow.cell hlt
      have g2 := hrow.frozen k
      have HS := Lib.hid (uptoB_succ hrow)
      have HB := Lib.hid (hb.setCell (p := ⟨w.heap.size, k, none⟩) (Nat.le_refl _) (.int .u8 (nth bs k)))
      clear hcell hrow hb
      go_wp2
      go_roundw
      case rel => exact ⟨k + 1, by omega, by go_num, HS.out, HB.out⟩
      case measure => simp [intOf]; omega
    · have hkn : k = n := by omega
      subst hkn
      have hz := HR.out.1
      go_wp2
      go_ret
      exact ⟨_, Nat.le_refl _, rfl, ⟨hrow.lt, fun o => hrow.frozen o, fun i hi => by rw [hrow.cell (by omega)]; simp [uptoB, show i < k by omega]⟩, hb⟩

/-- A list of seals in a block of its own from B on, or nil. -/
def LstD (w : World) (B : Nat) (U : Option Addr) (n : Nat) (D : List (Int × Int)) : Prop := (U = none ∧ n = 0 ∧ D = []) ∨ ∃ g, U = some ⟨g, 0, none⟩ ∧ D.length = n ∧ B ≤ g ∧ Held w g D
theorem LstD.len {w : World} {B : Nat} {U : Option Addr} {n : Nat} {D : List (Int × Int)} (h : LstD w B U n D) : D.length = n := by
  rcases h with ⟨_, h2, h3⟩ | ⟨_, _, h2, _⟩
  · rw [h3, h2]; rfl
  · exact h2
theorem LstD.later {w w' : World} {B : Nat} {U : Option Addr} {n : Nat} {D : List (Int × Int)} (h : LstD w B U n D) (hb : Below w.heap.size w w') : LstD w' B U n D := by
  rcases h with h | ⟨g, h1, h2, h3, h4⟩
  · exact .inl h
  · exact .inr ⟨g, h1, h2, h3, h4.later hb⟩
theorem Held.kept6 {w w' : World} {g : Nat} {d : List (Int × Int)} {r : Option Nat} (h : Held w g d) (hg : w.grownBy w' r) (hne : r ≠ some g) : Held w' g d := by
  have e := hg.block g h.lt (fun e => hne e.symm)
  exact ⟨Nat.lt_of_lt_of_le h.lt hg.size, fun o => (World.frozen?_of_block (w := w) (w' := w') (a := ⟨g, o, none⟩) e).trans (h.fr o), fun i hi => (World.cell?_of_block (w := w) (w' := w') (a := ⟨g, i * 2, none⟩) e).trans (h.at0 i hi), fun i hi => (World.cell?_of_block (w := w) (w' := w') (a := ⟨g, i * 2 + 1, none⟩) e).trans (h.at1 i hi)⟩
theorem LstD.kept {w w' : World} {B : Nat} {U : Option Addr} {n : Nat} {D : List (Int × Int)} {r : Option Nat} (h : LstD w B U n D) (hg : w.grownBy w' r) (hne : ∀ g, U = some ⟨g, 0, none⟩ → r ≠ some g) : LstD w' B U n D := by
  rcases h with h | ⟨g, h1, h2, h3, h4⟩
  · exact .inl h
  · exact .inr ⟨g, h1, h2, h3, h4.kept6 hg (hne g h1)⟩
theorem LstD.pairs {w : World} {B : Nat} {U : Option Addr} {n : Nat} {D : List (Int × Int)} (h : LstD w B U n D) : Pairs w w.heap.size U n D := by
  rcases h with ⟨rfl, rfl, rfl⟩ | ⟨g, rfl, h2, _, h4⟩
  · exact ⟨rfl, fun h => absurd h (by omega)⟩
  · exact h2 ▸ h4.pairs
theorem markL_is {w : World} {B : Nat} {U : Option Addr} {n : Nat} {D : List (Int × Int)} (k : Int) (h : LstD w B U n D) (hn : n ≤ 4194304) (hk0 : 0 ≤ k) (hk1 : k ≤ 100000000) :
    Calls Tryd.prog 62 #[.slice U n n, .int .i64 k] w fun e w' => e = .returned (.int .i64 (k + 2 * n)) ∧ ∃ D', Marked k D' ∧ LstD w' B U n D' ∧ w.grownBy w' (U.map (·.block)) := by
  rcases h with ⟨rfl, rfl, rfl⟩ | ⟨g, rfl, h2, h3, h4⟩
  · refine (mark_nil k w).mono ?_
    rintro e w' ⟨rfl, rfl⟩
    exact ⟨by simp, [], fun j hj => by simp at hj, .inl ⟨rfl, rfl, rfl⟩, grown_refl _ _⟩
  · refine (mark_is g n n k D w hn hk0 hk1 h2 h4).mono ?_
    rintro e w' ⟨rfl, d', hl, hM, hH, hg⟩
    exact ⟨rfl, d', hM, .inr ⟨g, rfl, hl, h3, hH⟩, hg⟩
theorem heldL_is {w : World} {B : Nat} {U : Option Addr} {n : Nat} {D : List (Int × Int)} (k : Int) (h : LstD w B U n D) (hM : Marked k D) (hn : n ≤ 4194304) (hk0 : 0 ≤ k) (hk1 : k ≤ 100000000) :
    Calls Tryd.prog 63 #[.slice U n n, .int .i64 k] w fun e w' => e = .returned (.int .i64 (k + 2 * n)) ∧ w = w' := by
  rcases h with ⟨rfl, rfl, rfl⟩ | ⟨g, rfl, h2, h3, h4⟩
  · refine (held_nil k w).mono ?_
    rintro e w' ⟨rfl, rfl⟩
    exact ⟨by simp, rfl⟩
  · exact held_is g n n k D w hn hk0 hk1 h2 hM h4

/-- What marks of a note that was read leave. -/
def NoteMarked (w : World) (B : Nat) (U V : Option Addr) (un vn : Nat) (k : Int) (e : Ending) (w' : World) : Prop :=
  e = .returned (.int .i64 (k + 2 * un + 2 * vn)) ∧ ∃ (D1 D2 : List (Int × Int)) (w1 : World), Marked k D1 ∧ Marked (k + 2 * un) D2 ∧ LstD w' B U un D1 ∧ LstD w' B V vn D2 ∧ w.grownBy w1 (U.map (·.block)) ∧ w1.grownBy w' (V.map (·.block))
set_option maxHeartbeats 2000000 in
theorem markRead_is {N : Array Value} {X : List Int} {U V : Option Addr} {un vn B : Nat} {ps qs : List (Int × Int)} (hN : N = noteA X (.slice U un un) (.slice V vn vn)) (k : Int) (w : World) (hu : un ≤ 1048576) (hv : vn ≤ 1048576) (hk0 : 0 ≤ k) (hk1 : k ≤ 10000000) (h1 : LstD w B U un ps) (h2 : LstD w B V vn qs)
    (hap : ∀ g g', U = some ⟨g, 0, none⟩ → V = some ⟨g', 0, none⟩ → g ≠ g') :
    Calls Tryd.prog 23 #[.agg N, .int .i64 k] w (NoteMarked w B U V un vn k) := by
  have B0 := Box.new w 31 N
  have E0 := bel_alloc w (.cells N 31)
  have cN := B0.cell
  have n11 : N[11]? = some (.slice U un un) := by rw [hN]; rfl
  have n12 : N[12]? = some (.slice V vn vn) := by rw [hN]; rfl
  have hU : ∀ g, U = some ⟨g, 0, none⟩ → g < w.heap.size := by
    rintro g rfl
    rcases h1 with ⟨e, _⟩ | ⟨g', e, _, _, h4⟩
    · cases e
    · cases e; exact h4.lt
  replace h1 := Lib.hid (h1.later E0)
  replace h2 := Lib.hid (h2.later E0)
  replace hap := Lib.hid hap
  replace hU := Lib.hid hU
  clear hN
  go_enter Tryd.func23, Tryd.ntmps23
  go_wp2_with fail
  generalize (w.alloc _ : World) = w0 at B0 E0 cN h1 h2 ⊢
  refine (markL_is k h1.out (by omega) hk0 (by omega)).mono ?_
  rintro e w1 ⟨rfl, D1, hM1, hL1, hg1⟩
  have hUw : ∀ r, U.map (·.block) = some r → r ≠ w.heap.size := by
    intro r hr
    rcases h1.out with ⟨rfl, _⟩ | ⟨g, rfl, _⟩
    · cases hr
    · cases hr; have := hU.out g rfl; show g ≠ w.heap.size; omega
  have B1 := B0.kept hg1 (fun e => hUw _ e rfl)
  have cN := B1.cell
  have h2' := Lib.hid (h2.out.kept hg1 (by
    intro g' hg' e
    rcases h1.out with ⟨rfl, _⟩ | ⟨g, rfl, _⟩
    · cases e
    · cases e; exact hap.out g g rfl hg' rfl))
  replace hM1 := Lib.hid hM1
  replace hL1 := Lib.hid hL1
  replace hUw := Lib.hid hUw
  clear B0
  go_wp2_with fail
  refine (markL_is (k + 2 * un) h2'.out (by omega) (by omega) (by omega)).mono ?_
  rintro e w2 ⟨rfl, D2, hM2, hL2, hg2⟩
  have HL1 := Lib.hid (hL1.out.kept hg2 (by
    intro g hg e
    rcases h2.out with ⟨rfl, _⟩ | ⟨g', rfl, _⟩
    · cases e
    · cases e; exact hap.out _ _ hg rfl rfl))
  have HG := Lib.hid (grown_trans (grown_bel E0 (U.map (·.block))) hg1)
  replace hg2 := Lib.hid hg2
  replace hM2 := Lib.hid hM2
  replace hL2 := Lib.hid hL2
  clear hg1 B1 cN
  go_wp2
  go_ret
  exact ⟨rfl, D1, D2, w1, hM1.out, hM2.out, HL1.out, hL2.out, HG.out, hg2.out⟩
set_option maxHeartbeats 2000000 in
theorem heldRead_is {N : Array Value} {X : List Int} {U V : Option Addr} {un vn B : Nat} {D1 D2 : List (Int × Int)} (hN : N = noteA X (.slice U un un) (.slice V vn vn)) (k : Int) (w : World) (hu : un ≤ 1048576) (hv : vn ≤ 1048576) (hk0 : 0 ≤ k) (hk1 : k ≤ 10000000) (h1 : LstD w B U un D1) (h2 : LstD w B V vn D2) (hM1 : Marked k D1) (hM2 : Marked (k + 2 * un) D2) :
    Calls Tryd.prog 24 #[.agg N, .int .i64 k] w fun e w' => e = .returned (.int .i64 (k + 2 * un + 2 * vn)) ∧ Below w.heap.size w w' := by
  have B0 := Box.new w 31 N
  have E0 := bel_alloc w (.cells N 31)
  have cN := B0.cell
  have n11 : N[11]? = some (.slice U un un) := by rw [hN]; rfl
  have n12 : N[12]? = some (.slice V vn vn) := by rw [hN]; rfl
  have hn1 : ¬ (k + 2 * un < 0) := by omega
  have hn2 : ¬ (k + 2 * un + 2 * vn < 0) := by omega
  replace h1 := Lib.hid (h1.later E0)
  replace h2 := Lib.hid (h2.later E0)
  replace hM1 := Lib.hid hM1
  replace hM2 := Lib.hid hM2
  clear hN
  go_enter Tryd.func24, Tryd.ntmps24
  go_wp2_with fail
  generalize (w.alloc _ : World) = w0 at B0 E0 cN h1 h2 ⊢
  refine (heldL_is k h1.out hM1.out (by omega) hk0 (by omega)).mono ?_
  rintro e w1 ⟨rfl, rfl⟩
  go_wp2_with fail
  refine (heldL_is (k + 2 * un) h2.out hM2.out (by omega) (by omega) (by omega)).mono ?_
  rintro e w1 ⟨rfl, rfl⟩
  replace E0 := Lib.hid E0
  go_wp2
  go_ret
  exact ⟨rfl, E0.out⟩

theorem eqRead_is {N1 N0 : Array Value} {X : List Int} {U V : Option Addr} {un vn : Nat} {U0 V0 : Option Addr} {uc vc uc' vc' : Nat} {ps qs : List (Int × Int)} (h1 : N1 = noteA X (.slice U un uc) (.slice V vn vc)) (h0 : N0 = noteA X (.slice U0 un uc') (.slice V0 vn vc')) (w : World) (hu : un ≤ 1048576) (hv : vn ≤ 1048576)
    (hp : Pairs w w.heap.size U un ps) (hq : Pairs w w.heap.size V vn qs) (hp' : Pairs w w.heap.size U0 un ps) (hq' : Pairs w w.heap.size V0 vn qs) :
    Calls Tryd.prog 18 #[.agg N1, .agg N0] w fun e w' => e = .returned (.bool true) ∧ Below w.heap.size w w' := by
  subst h1 h0
  exact eqNote_same (nth X 0) (nth X 1) (nth X 2) (nth X 3) (nth X 4) (nth X 5) (nth X 6) (nth X 7) (nth X 8) (nth X 9) (nth X 10) U un uc V vn vc (nth X 11) (nth X 12) (nth X 13) U0 uc' V0 vc' ps qs w hu hv hp hq hp' hq'

/-- What both ReadNotes answer: numbers, lists. -/
def XR (s l c sh : Int) (zs bs : List Int) : List Int := if okR s l c sh zs bs = true then (rdNote bs).1 else [0, 0, 0, 0, 0, 0, 0, 0, 0, 0, 0, 0, 0, 0]
def PR (s l c sh : Int) (zs bs : List Int) : List (Int × Int) := if okR s l c sh zs bs = true then (rdNote bs).2.1 else []
def QR (s l c sh : Int) (zs bs : List Int) : List (Int × Int) := if okR s l c sh zs bs = true then (rdNote bs).2.2.1 else []
theorem zn_note : ZN = noteA [0, 0, 0, 0, 0, 0, 0, 0, 0, 0, 0, 0, 0, 0] (.slice none 0 0) (.slice none 0 0) := rfl
theorem PR_len {s l c sh : Int} {zs bs : List Int} (hB : Bys bs) : (PR s l c sh zs bs).length ≤ 20 ∧ (QR s l c sh zs bs).length ≤ 20 := by
  have b0 : SBys (some bs) := hB
  have a3 := askSeals_len (asks_bys 14 b0)
  have a4 := askSeals_len (askSeals_bys (asks_bys 14 b0))
  unfold PR QR
  split
  · exact ⟨a3, a4⟩
  · exact ⟨by simp, by simp⟩
/-- What ReadNote of the program leaves, in one form. -/
def ReadOut (w : World) (b : Bool) (X : List Int) (ps qs : List (Int × Int)) (e : Ending) (w' : World) : Prop :=
  ∃ (U V : Option Addr) (un vn : Nat), e = .returned (.tuple #[.agg (noteA X (.slice U un un) (.slice V vn vn)), .bool b]) ∧ LstD w' w.heap.size U un ps ∧ LstD w' w.heap.size V vn qs ∧ (∀ g g', U = some ⟨g, 0, none⟩ → V = some ⟨g', 0, none⟩ → g ≠ g') ∧ Below w.heap.size w w'
theorem reads_out {w w' : World} {s l c sh : Int} {zs bs : List Int} {e : Ending} (h : Reads w s l c sh zs bs e w') : ReadOut w (okR s l c sh zs bs) (XR s l c sh zs bs) (PR s l c sh zs bs) (QR s l c sh zs bs) e w' := by
  obtain ⟨hb, ⟨hok, g1, g2, n1, n2, he, l1, l2, b1, b2, hne, h1, h2⟩ | ⟨hok, he⟩⟩ := h
  · refine ⟨some ⟨g1, 0, none⟩, some ⟨g2, 0, none⟩, n1, n2, ?_, .inr ⟨g1, rfl, ?_, b1, ?_⟩, .inr ⟨g2, rfl, ?_, b2, ?_⟩, ?_, hb⟩
    · rw [he, hok]; simp [XR, hok]
    · simp [PR, hok, l1]
    · simpa [PR, hok] using h1
    · simp [QR, hok, l2]
    · simpa [QR, hok] using h2
    · rintro g g' e e'; cases e; cases e'; exact hne
  · refine ⟨none, none, 0, 0, ?_, .inl ⟨rfl, rfl, ?_⟩, .inl ⟨rfl, rfl, ?_⟩, ?_, hb⟩
    · rw [he, hok, zn_note]; simp [XR, hok]
    · simp [PR, hok]
    · simp [QR, hok]
    · rintro g g' e; cases e
/-- What ReadNote of the model leaves, in one form. -/
def SReadOut (w : World) (b : Bool) (X : List Int) (ps qs : List (Int × Int)) (e : Ending) (w' : World) : Prop :=
  ∃ (U V : Option Addr) (uc vc : Nat), e = .returned (.tuple #[.agg (noteA X (.slice U ps.length uc) (.slice V qs.length vc)), .bool b]) ∧ Pairs w' w'.heap.size U ps.length ps ∧ Pairs w' w'.heap.size V qs.length qs ∧ Below w.heap.size w w'
theorem sreads_out {w w' : World} {s l c sh : Int} {zs bs : List Int} {e : Ending} (h : SReads w s l c sh zs bs e w') : SReadOut w (okR s l c sh zs bs) (XR s l c sh zs bs) (PR s l c sh zs bs) (QR s l c sh zs bs) e w' := by
  obtain ⟨hb, ⟨hok, g1, g2, c1, c2, he, _, _, h1, h2⟩ | ⟨hok, he⟩⟩ := h
  · have e1 : PR s l c sh zs bs = (rdNote bs).2.1 := by simp [PR, hok]
    have e2 : QR s l c sh zs bs = (rdNote bs).2.2.1 := by simp [QR, hok]
    have e3 : XR s l c sh zs bs = (rdNote bs).1 := by simp [XR, hok]
    rw [e1, e2, e3, hok]
    exact ⟨_, _, c1, c2, he, h1.pairs, h2.pairs, hb⟩
  · have e1 : PR s l c sh zs bs = [] := by simp [PR, hok]
    have e2 : QR s l c sh zs bs = [] := by simp [QR, hok]
    have e3 : XR s l c sh zs bs = [0, 0, 0, 0, 0, 0, 0, 0, 0, 0, 0, 0, 0, 0] := by simp [XR, hok]
    rw [e1, e2, e3, hok]
    exact ⟨none, none, 0, 0, by rw [he, zn_note]; rfl, ⟨rfl, fun h => absurd h (by simp)⟩, ⟨rfl, fun h => absurd h (by simp)⟩, hb⟩

end Go.Proofs.YtgjbebfcbpfngaaDoor
