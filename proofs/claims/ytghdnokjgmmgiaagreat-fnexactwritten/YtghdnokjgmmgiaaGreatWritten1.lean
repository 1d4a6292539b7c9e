/- Written: the program's and the model's: contracts of each of them. -/
import Derived.Test.YtghdnokjgmmgiaaGreatSpecReg4
namespace Go.Proofs.YtghdnokjgmmgiaaGreat
open Go.RowKit

theorem slc_pairs {w : World} {P : Option Addr} {p pc : Nat} {ps : List (Int × Int)} (h : Slc w (.slice P p pc) ps) : Pairs w w.heap.size P p ps := by
  rcases h with ⟨e, rfl⟩ | ⟨b, o, n, cap, e, hp⟩
  · injection e with e1 e2 _
    subst e1 e2
    exact ⟨rfl, fun h => absurd h (by omega)⟩
  · injection e with e1 e2 _
    subst e1 e2
    exact hp
theorem slcQ_quads {w : World} {P : Option Addr} {p pc : Nat} {os : List Opn} (h : SlcQ w (.slice P p pc) os) : Quads w w.heap.size P p os := by
  rcases h with ⟨e, rfl⟩ | ⟨b, o, n, cap, e, _, _, hp⟩
  · injection e with e1 e2 _
    subst e1 e2
    exact quads_nil _ _ _
  · injection e with e1 e2 _
    subst e1 e2
    exact hp

/-- What Written answers: a stamp, a value, seals, opens, a flag. -/
structure Out where
  t : Int
  q : Int
  v : Int
  cs : List (Int × Int)
  os : List Opn
  f : Bool
def outW (s l c sh : Int) (zs : List Int) (x rt rq rv : Int) (ps : List (Int × Int)) (os : List Opn) (ct cq v : Int) (cs : List (Int × Int)) : Out :=
  if regB s l c sh zs x rt rq rv ps os = false then ⟨0, 0, 0, [], [], false⟩
  else if wrtB s l c sh zs x ct cq v cs = false then ⟨rt, rq, rv, ps, os, false⟩
  else if cmpN ct cq rt rq = 1 then ⟨ct, cq, v, goodP (rB s l c sh zs 1 x ct cq v) cs, os, true⟩
  else ⟨rt, rq, rv, ps, os, true⟩
theorem reg_stamp {s l c sh : Int} {zs : List Int} {x rt rq rv : Int} {ps : List (Int × Int)} {os : List Opn} (h : regB s l c sh zs x rt rq rv ps os = true) : stB rt rq = true := by
  unfold regB at h
  rw [Bool.and_eq_true, ← lefB_spec] at h
  have := h.1
  unfold spcB at this
  simp only [Bool.and_eq_true] at this
  exact this.1.1.1
theorem cmp_pos {a b c d : Int} (h1 : stB a b = true) (h2 : stB c d = true) : 0 < cmpN a b c d ↔ cmpN a b c d = 1 := by
  rw [cmpN_yes h1 h2]
  have g1 := sgn_bd a c
  have g2 := sgn_bd b d
  unfold orN
  split <;> omega
/-- A shelf and a flag that are answered: its lists lie in blocks of their own. -/
def WrR (w : World) (o : Out) (e : Ending) (w' : World) : Prop :=
  ∃ (B : Nat) (A : Option Addr) (n c : Nat) (A' : Option Addr) (n' c' : Nat), w.heap.size ≤ B ∧ B ≤ w'.heap.size ∧ e = .returned (.tuple #[.agg #[.int .i64 o.t, .int .i64 o.q, .int .i64 o.v, .slice A n c, .slice A' n' c'], .bool o.f]) ∧ ResP w' w.heap.size B (.slice A n c) o.cs ∧ ResO w' B (.slice A' n' c') o.os ∧ Below w.heap.size w w'

set_option maxRecDepth 100000 in
set_option maxHeartbeats 1000000 in
theorem canWrite_is {s l c sh : Int} {zs : List Int} {x ct cq v : Int} {cs : List (Int × Int)} {b : Bool} (hW : wrtB s l c sh zs x ct cq v cs = b) (A : Option Addr) (n cap : Nat) (L : Option Addr) (m mc : Nat) (w : World) (hm : n ≤ maxLen) (hr : Row w w.heap.size A n zs) (hn : m ≤ 4194304) (h : Pairs w w.heap.size L m cs) :
    Calls Tryz.prog 38 #[.agg #[.int .i64 ct, .int .i64 cq, .int .i64 v, .slice L m mc], .agg #[.int .i64 s, .int .i64 l, .int .i64 c, .int .i64 sh, .slice A n cap], .int .i64 x] w fun e w' => e = .returned (.bool b) ∧ Below w.heap.size w w' := by
  have D := (Box.new w 73 #[.int .i64 ct, .int .i64 cq, .int .i64 v, .slice L m mc]).alloc (.cells #[.int .i64 s, .int .i64 l, .int .i64 c, .int .i64 sh, .slice A n cap] 26)
  have G := Box.new (w.alloc (.cells #[.int .i64 ct, .int .i64 cq, .int .i64 v, .slice L m mc] 73)) 26 #[.int .i64 s, .int .i64 l, .int .i64 c, .int .i64 sh, .slice A n cap]
  have E := bel_trans (bel_alloc w (.cells #[.int .i64 ct, .int .i64 cq, .int .i64 v, .slice L m mc] 73)) (bel_alloc _ (.cells #[.int .i64 s, .int .i64 l, .int .i64 c, .int .i64 sh, .slice A n cap] 26))
  simp only [World.size_alloc] at G
  have HR := Lib.hid ((hr.below E (Nat.le_refl _)).more E.size)
  have HP := Lib.hid (h.later E)
  have HM := Lib.hid hm
  have HW := Lib.hid hW
  clear hr hm h hW
  rcases zero_cases ct cq with ⟨rfl, rfl⟩ | ⟨hcase, hnz⟩
  · have HB : Hid (b = false) := Lib.hid (by rw [← HW.out]; exact wrt_zero _ _ _ _ _ _ _ _)
    go_enter Tryz.func38, Tryz.ntmps38
    go_wp2
    go_ret
    exact ⟨by rw [HB.out]; rfl, E⟩
  · have HPB : Hid (proB s l c sh zs x ct cq v cs = b) := Lib.hid (by rw [← HW.out]; unfold wrtB; simp [hnz])
    clear hnz
    rcases hcase with h1 | ⟨h1, h2⟩
    all_goals
      go_enter Tryz.func38, Tryz.ntmps38
      go_wp2_with fail
      generalize ((w.alloc _).alloc _ : World) = w0 at D G E HR HP ⊢
      refine (provenR_is HPB.out A n cap L m mc w0 HM.out HR.out hn HP.out).mono ?_
      rintro e w1 ⟨rfl, hb1⟩
      have E1 := bel_trans E hb1
      go_wp2
      go_ret
      exact ⟨rfl, E1⟩

end Go.Proofs.YtghdnokjgmmgiaaGreat
