/- What the model's draws of chapter 1 leave: contracts of each function of l01_draw.go that the laws reach. -/
import Derived.Test.YtdkmbcmenomecaaChecked
import Derived.Test.YtdkmbcmenomecaaBase
import Derived.WalkKit
import Derived.OwnWalk
import Derived.Outline
import Derived.Deep.QuietTactic
import Derived.BigQuiet
import Derived.Deep.RegionHeld3
import Derived.IntWalk
import Derived.Test.YtdkmbcmenomecaaStampBase
import Derived.Deep.AppendLies
import Derived.Laws.Pointers
import Derived.Deep.RegionLaw
import Derived.RegionTactic
namespace Go.Proofs.Ytdkmbcmenomecaa
open Go.RowKit

/-- A draw that answers yes or no. -/
def DrawnB (t : TypeId) (k : IntKind) (g : Nat) (A : Option Addr) (n cap : Nat) (w : World) (e : Ending) (w' : World) : Prop :=
  ∃ b : Bool, e = .returned (.bool b) ∧ Cur w' t k g A n cap ∧ w.grownBy w' (some g)

/-- What makes a cursor leaves: a new one, over the same bytes. -/
def MadeCur (t : TypeId) (k : IntKind) (A : Option Addr) (n cap : Nat) (w : World) (e : Ending) (w' : World) : Prop :=
  ∃ g, w.heap.size ≤ g ∧ e = .returned (.pointer (some ⟨g, 0, none⟩)) ∧ Cur w' t k g A n cap ∧ Below w.heap.size w w'

end Go.Proofs.Ytdkmbcmenomecaa

/- What the model's draws of stamps leave: a stamp, two of them, a stamp and a number, a list of stamps; the cursor, or the bytes, can be read. -/
namespace Go.Proofs.Ytdkmbcmenomecaa
open Go.RowKit

theorem grown2 (w : World) (R : Nat) (v0 v1 : Value) : w.grownBy ((w.setCell ⟨R, 0, none⟩ v0).setCell ⟨R, 1, none⟩ v1) (some R) := grown_set (grown_set (grown_refl w (some R)) 0 v0) 1 v1

/-- What the draw of a stamp leaves. -/
def DrawnStamp (t : TypeId) (kd : IntKind) (g : Nat) (A : Option Addr) (n cap : Nat) (w : World) (e : Ending) (w' : World) : Prop :=
  ∃ c k : Int, e = .returned (.agg #[.int .i64 c, .int .i64 k]) ∧ Cur w' t kd g A n cap ∧ w.grownBy w' (some g)

end Go.Proofs.Ytdkmbcmenomecaa

/- A variable made ahead of a call whose contract speaks of a world: what is known then; no conditions. -/
namespace Go.Proofs.Ytdkmbcmenomecaa
open Go.RowKit

theorem rowNew {w : World} {A : Option Addr} {n : Nat} {zs : List Int} (h : Row w w.heap.size A n zs) (o : Obj) : Row (w.alloc o) (w.alloc o).heap.size A n zs :=
  (h.below (bel_alloc w o) (Nat.le_refl _)).more (bel_alloc w o).size
theorem bel_of_alloc {w w' : World} {o : Obj} (h : Below (w.alloc o).heap.size (w.alloc o) w') : Below w.heap.size w w' := bel_trans (bel_alloc w o) h
theorem box_of_alloc {w w' : World} {t : TypeId} {cs : Array Value} (h : Below (w.alloc (.cells cs t)).heap.size (w.alloc (.cells cs t)) w') : Box w' w.heap.size t cs :=
  (Box.new w t cs).later h (by simp)
/-- A variable of two cells, written. -/
theorem Box.put2 {w : World} {g : Nat} {t : TypeId} {a b : Value} (h : Box w g t #[a, b]) (u v : Value) : Box ((w.setCell ⟨g, 0, none⟩ u).setCell ⟨g, 1, none⟩ v) g t #[u, v] := (h.set 0 u).set 1 v
theorem Box.put5 {w : World} {g : Nat} {t : TypeId} {a b c d e : Value} (h : Box w g t #[a, b, c, d, e]) (u0 u1 u2 u3 u4 : Value) : Box (((((w.setCell ⟨g, 0, none⟩ u0).setCell ⟨g, 1, none⟩ u1).setCell ⟨g, 2, none⟩ u2).setCell ⟨g, 3, none⟩ u3).setCell ⟨g, 4, none⟩ u4) g t #[u0, u1, u2, u3, u4] := ((((h.set 0 u0).set 1 u1).set 2 u2).set 3 u3).set 4 u4
theorem bel_put2 {w w' : World} {B g : Nat} (h : Below B w w') (hg : B ≤ g) (u v : Value) : Below B w ((w'.setCell ⟨g, 0, none⟩ u).setCell ⟨g, 1, none⟩ v) := (h.setCell hg u).setCell hg v
theorem Box.far2 {w : World} {g R : Nat} {t : TypeId} {cs : Array Value} (h : Box w g t cs) (hR : R ≠ g) (u v : Value) : Box ((w.setCell ⟨R, 0, none⟩ u).setCell ⟨R, 1, none⟩ v) g t cs :=
  (h.far (p := ⟨R, 0, none⟩) hR u).far (p := ⟨R, 1, none⟩) hR v

theorem twelve {w : World} {g g' g'' : Nat} {t t' t'' : TypeId} {v0 v1 v2 v3 v4 u0 u1 u2 u3 u4 y0 y1 : Value} (h : Box w g t #[v0, v1, v2, v3, v4]) (h' : Box w g' t' #[u0, u1, u2, u3, u4]) (h'' : Box w g'' t'' #[y0, y1]) :
    w.cell? ⟨g, 0, none⟩ = some v0 ∧ w.cell? ⟨g, 1, none⟩ = some v1 ∧ w.cell? ⟨g, 2, none⟩ = some v2 ∧ w.cell? ⟨g, 3, none⟩ = some v3 ∧ w.cell? ⟨g, 4, none⟩ = some v4 ∧
    w.cell? ⟨g', 0, none⟩ = some u0 ∧ w.cell? ⟨g', 1, none⟩ = some u1 ∧ w.cell? ⟨g', 2, none⟩ = some u2 ∧ w.cell? ⟨g', 3, none⟩ = some u3 ∧ w.cell? ⟨g', 4, none⟩ = some u4 ∧ w.cell? ⟨g'', 0, none⟩ = some y0 ∧ w.cell? ⟨g'', 1, none⟩ = some y1 :=
  ⟨h.cell 0, h.cell 1, h.cell 2, h.cell 3, h.cell 4, h'.cell 0, h'.cell 1, h'.cell 2, h'.cell 3, h'.cell 4, h''.cell 0, h''.cell 1⟩

end Go.Proofs.Ytdkmbcmenomecaa

/- What the model's draws of claims leave: a claim, and the cursor further on; the cursor is a right one. -/
namespace Go.Proofs.Ytdkmbcmenomecaa
open Go.RowKit

/-- What the draw of a claim leaves. -/
def DrawnClaim (t : TypeId) (kd : IntKind) (g : Nat) (A : Option Addr) (n cap : Nat) (w : World) (e : Ending) (w' : World) : Prop :=
  ∃ ck ch ct cq cv : Int, e = .returned (.agg #[.int .i64 ck, .int .i64 ch, .int .i64 ct, .int .i64 cq, .int .i64 cv]) ∧ Cur w' t kd g A n cap ∧ w.grownBy w' (some g)

end Go.Proofs.Ytdkmbcmenomecaa

/- What the model's draws out of the code leave, chapter 2: two stamps, a stamp and a client, a list of stamps; the bytes can be read. -/
namespace Go.Proofs.Ytdkmbcmenomecaa
open Go.RowKit

/-- Two stamps. -/
def MadeTwo (w : World) (e : Ending) (w' : World) : Prop :=
  ∃ a b c d : Int, e = .returned (.tuple #[.agg #[.int .i64 a, .int .i64 b], .agg #[.int .i64 c, .int .i64 d]]) ∧ Below w.heap.size w w'

/-- A stamp and a number. -/
def MadeOneNum (w : World) (e : Ending) (w' : World) : Prop :=
  ∃ a b x : Int, e = .returned (.tuple #[.agg #[.int .i64 a, .int .i64 b], .int .i64 x]) ∧ Below w.heap.size w w'

/-- The cells of a list of pairs. -/
def flatP (ps : List (Int × Int)) : List Value := ps.flatMap fun p => [.int .i64 p.1, .int .i64 p.2]
theorem flatP_len (ps : List (Int × Int)) : (flatP ps).length = ps.length * 2 := by
  induction ps with
  | nil => rfl
  | cons p ps ih => show (flatP ps).length + 1 + 1 = _; rw [ih, List.length_cons]; omega
theorem flatP_snoc (ps : List (Int × Int)) (x y : Int) : flatP (ps ++ [(x, y)]) = flatP ps ++ [.int .i64 x, .int .i64 y] := by simp [flatP]
theorem flatP_at {ps : List (Int × Int)} {i : Nat} (h : i < ps.length) : (flatP ps)[i * 2]? = some (.int .i64 (pth ps i).1) ∧ (flatP ps)[i * 2 + 1]? = some (.int .i64 (pth ps i).2) := by
  induction ps generalizing i with
  | nil => simp at h
  | cons p ps ih =>
    have e : flatP (p :: ps) = .int .i64 p.1 :: .int .i64 p.2 :: flatP ps := rfl
    rcases i with _ | i
    · exact ⟨rfl, rfl⟩
    · have := ih (i := i) (by simpa using h)
      rw [e, show (i + 1) * 2 = i * 2 + 1 + 1 by omega]
      simp only [List.getElem?_cons_succ]
      have ep : pth (p :: ps) (i + 1) = pth ps i := by simp [pth]
      rw [ep]
      exact this
theorem own_pairs {w : World} {base : Nat} {e : TypeId} {q cap : Nat} {ps : List (Int × Int)} (h : w.ownsRow base e 2 (.slice (some ⟨q, 0, none⟩) ps.length cap) ps.length (flatP ps)) : Pairs w w.heap.size (some ⟨q, 0, none⟩) ps.length ps := by
  refine ⟨rfl, fun _ => ⟨q, 0, rfl, (h.lt q rfl).2, fun i hi => ?_⟩⟩
  rw [Nat.zero_add, h.cellAt (i * 2) (by omega), h.cellAt (i * 2 + 1) (by omega)]
  exact flatP_at hi

theorem Try.infoStampI : (Try.prog.info? 33).map (fun i => (i.zero, i.size, i.bytes)) = some (some (.agg #[.int .i64 0, .int .i64 0]), 2, 16) := by kernel_rfl

/-- A list of at most m pairs, made anew. -/
def MadeList (m : Nat) (w : World) (e : Ending) (w' : World) : Prop :=
  ∃ (q cap' : Nat) (ps : List (Int × Int)), e = .returned (.slice (some ⟨q, 0, none⟩) ps.length cap') ∧ Pairs w' w'.heap.size (some ⟨q, 0, none⟩) ps.length ps ∧ ps.length ≤ m ∧ Below w.heap.size w w'

/-- The loop's state: at most k more are drawn. -/
def StampsUp (w wr : World) (t tc : TypeId) (g : Nat) (A : Option Addr) (n cap k : Nat) (v : Value) : Prop :=
  ∃ (q cap' : Nat) (ps : List (Int × Int)), v = .slice (some ⟨q, 0, none⟩) ps.length cap' ∧ ps.length + k ≤ 5 ∧ Cur wr tc .i64 g A n cap ∧ wr.ownsRow (g + 1) t 2 (.slice (some ⟨q, 0, none⟩) ps.length cap') ps.length (flatP ps) ∧ Below w.heap.size w wr

end Go.Proofs.Ytdkmbcmenomecaa

/- The cells of a list of pairs, one behind the other; no conditions. -/
namespace Go.Proofs.Ytdkmbcmenomecaa
open Go.RowKit

theorem Try.infoSealI : (Try.prog.info? 59).map (fun i => (i.zero, i.size, i.bytes)) = some (some (.agg #[.int .i64 0, .int .i64 0]), 2, 16) := by kernel_rfl

/-- The cells of a slice of pairs. -/
theorem pairs_news {w : World} {B : Nat} {b o n : Nat} {ps : List (Int × Int)} (h : Pairs w B (some ⟨b, o, none⟩) n ps) : ∀ j u, (flatP ps)[j]? = some u → w.cell? ((⟨b, o, none⟩ : Addr).add j) = some u := by
  intro j u hu
  have hj : j < ps.length * 2 := by
    rw [← flatP_len]
    rcases Nat.lt_or_ge j (flatP ps).length with h' | h'
    · exact h'
    · rw [List.getElem?_eq_none h'] at hu; cases hu
  rw [h.1] at hj
  obtain ⟨b', o', hA, _, hc⟩ := h.2 (by omega)
  cases hA
  rw [show (⟨b, o, none⟩ : Addr).add j = ⟨b, o + j, none⟩ by unfold Addr.add; split <;> simp_all]
  have h2 : j % 2 = 0 ∨ j % 2 = 1 := by omega
  rcases h2 with h2 | h2
  · obtain ⟨k, rfl⟩ : ∃ k, j = k * 2 := ⟨j / 2, by omega⟩
    rw [(hc k (by omega)).1]
    rw [(flatP_at (by rw [h.1]; omega)).1] at hu
    exact hu
  · obtain ⟨k, rfl⟩ : ∃ k, j = k * 2 + 1 := ⟨j / 2, by omega⟩
    rw [← Nat.add_assoc, (hc k (by omega)).2]
    rw [(flatP_at (by rw [h.1]; omega)).2] at hu
    exact hu
theorem flatP_one (ps : List (Int × Int)) : ∀ u ∈ flatP ps, u.oneCell' = true := by
  intro u hu
  simp only [flatP, List.mem_flatMap] at hu
  obtain ⟨p, _, hp⟩ := hu
  simp only [List.mem_cons, List.not_mem_nil, or_false] at hp
  rcases hp with rfl | rfl <;> rfl
theorem flatP_app (a b : List (Int × Int)) : flatP (a ++ b) = flatP a ++ flatP b := by simp [flatP]

end Go.Proofs.Ytdkmbcmenomecaa
