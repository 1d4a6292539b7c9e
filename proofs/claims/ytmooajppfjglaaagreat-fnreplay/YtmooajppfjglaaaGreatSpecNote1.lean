/- The parts of the model's NoteOk: values, seals that can be sent, what a kind has not; what the model answers: contracts of each of them. -/
import Derived.Test.YtmooajppfjglaaaGreatNoteShape
import Derived.Test.YtmooajppfjglaaaGreatSpecStamp
import Derived.Deep.CutBlock
namespace Go.Proofs.YtmooajppfjglaaaGreat
open Go.RowKit

theorem specValue_any (x : Int) (w : World) :
    Calls Tryz.prog 145 #[.int .i64 x] w fun e w' => e = .returned (.bool (valB x)) ∧ w = w' := by
  go_enter Tryz.func145, Tryz.ntmps145
  go_wp2_with (go_at_call 111; refine (l1In_any _ _ _ _).mono ?_; rintro e w' ⟨rfl, rfl⟩)
  go_ret
  exact ⟨rfl, rfl⟩
theorem l3M_any (w : World) : Calls Tryz.prog 158 #[] w fun e w' => e = .returned (.int .i64 2147483647) ∧ w = w' := by
  go_enter Tryz.func158, Tryz.ntmps158
  go_wp2
  go_ret
  exact ⟨rfl, rfl⟩
theorem l1InB_is {x lo hi : Int} {b : Bool} (h : inB x lo hi = b) (w : World) : Calls Tryz.prog 111 #[.int .i64 x, .int .i64 lo, .int .i64 hi] w fun e w' => e = .returned (.bool b) ∧ w = w' := h ▸ l1In_any x lo hi w
theorem specStampB_is {c k : Int} {b : Bool} (h : stB c k = b) (w : World) : Calls Tryz.prog 144 #[.agg #[.int .i64 c, .int .i64 k]] w fun e w' => e = .returned (.bool b) ∧ Below w.heap.size w w' := h ▸ specStampOk_any c k w
theorem specServerB_is {s l c sh : Int} {zs : List Int} {x : Int} {b : Bool} (h : srvB s l c sh zs x = b) (A : Option Addr) (n cap : Nat) (w : World) (hm : n ≤ maxLen) (hr : Row w w.heap.size A n zs) :
    Calls Tryz.prog 168 #[.agg #[.int .i64 s, .int .i64 l, .int .i64 c, .int .i64 sh, .slice A n cap], .int .i64 x] w fun e w' => e = .returned (.bool b) ∧ Below w.heap.size w w' := h ▸ specServer_any s l c sh A n cap zs x w hm hr
theorem specClientB_is {s l c sh : Int} {zs : List Int} {x : Int} {b : Bool} (h : cliB s l c sh zs x = b) (A : Option Addr) (n cap : Nat) (w : World) (hm : n ≤ maxLen) (hr : Row w w.heap.size A n zs) :
    Calls Tryz.prog 143 #[.agg #[.int .i64 s, .int .i64 l, .int .i64 c, .int .i64 sh, .slice A n cap], .int .i64 x] w fun e w' => e = .returned (.bool b) ∧ Below w.heap.size w w' := h ▸ specClient_any s l c sh A n cap zs x w hm hr

/-- The answer of l4Zero, whatever the stamp. -/
theorem zero_is (a b : Int) (w : World) : Calls Tryz.prog 113 #[.agg #[.int .i64 a, .int .i64 b]] w fun e w' => e = .returned (.bool (z2B a b)) ∧ Below w.heap.size w w' := by
  rcases z2_cases a b with ⟨rfl, rfl, hz⟩ | ⟨hz, h⟩
  · exact hz ▸ l4Zero_yes w
  · exact hz ▸ l4Zero_no a b h w
theorem zeroB_is {a b : Int} {r : Bool} (h : z2B a b = r) (w : World) : Calls Tryz.prog 113 #[.agg #[.int .i64 a, .int .i64 b]] w fun e w' => e = .returned (.bool r) ∧ Below w.heap.size w w' := h ▸ zero_is a b w

/-- Has a note nothing that its kind has not? -/
def emB (k1 : Int) (hv hp : Bool) : Bool := if k1 = 1 then !hv && !hp else if k1 = 3 then true else !hp

theorem em_1 {t1 t2 v1 o1 o2 v2 l1 l2 v3 : Int} {p q : Nat} {b3 b4 : Bool} (h3 : b3 = (z2B o1 o2 && z1B v2)) (h4 : b4 = (z2B l1 l2 && z1B v3 && z0B q)) :
    emB 1 (hvB t1 t2 v1 p) (hpB o1 o2 v2 l1 l2 v3 q) = (b3 && b4 && z2B t1 t2 && z1B v1 && z0B p) := by
  subst h3 h4
  unfold hvB hpB emB
  generalize z2B o1 o2 = x1
  generalize z1B v2 = x2
  generalize z2B l1 l2 = x3
  generalize z1B v3 = x4
  generalize z0B q = x5
  generalize z2B t1 t2 = x6
  generalize z1B v1 = x7
  generalize z0B p = x8
  cases x1 <;> cases x2 <;> cases x3 <;> cases x4 <;> cases x5 <;> cases x6 <;> cases x7 <;> cases x8 <;> rfl
theorem em_2 {k1 t1 t2 v1 o1 o2 v2 l1 l2 v3 : Int} {p q : Nat} {b3 b4 : Bool} (e1 : k1 ≠ 1) (e3 : k1 ≠ 3) (h3 : b3 = (z2B o1 o2 && z1B v2)) (h4 : b4 = (z2B l1 l2 && z1B v3 && z0B q)) :
    emB k1 (hvB t1 t2 v1 p) (hpB o1 o2 v2 l1 l2 v3 q) = (b3 && b4) := by
  subst h3 h4
  unfold hpB emB
  rw [if_neg e1, if_neg e3]
  generalize z2B o1 o2 = x1
  generalize z1B v2 = x2
  generalize z2B l1 l2 = x3
  generalize z1B v3 = x4
  generalize z0B q = x5
  cases x1 <;> cases x2 <;> cases x3 <;> cases x4 <;> cases x5 <;> rfl

end Go.Proofs.YtmooajppfjglaaaGreat
