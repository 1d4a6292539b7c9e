/- The parts of the model's NoteOk: values, seals that can be sent, what a kind has not; what the model answers: contracts of each of them. -/
import Derived.Test.YtdkmbcmenomecaaNoteShape
import Derived.Test.YtdkmbcmenomecaaSpecStamp
import Derived.Deep.CutBlock
namespace Go.Proofs.Ytdkmbcmenomecaa
open Go.RowKit

/-- Has a note nothing that its kind has not? -/
def emB (k1 : Int) (hv hp : Bool) : Bool := if k1 = 1 then !hv && !hp else if k1 = 3 then true else !hp

theorem em_1 {t1 t2 v1 o1 o2 v2 l1 l2 v3 : Int} {p q : Nat} {b3 b4 : Bool} (h3 : b3 = (z2B o1 o2 && z1B v2)) (h4 : b4 = (z2B l1 l2 && z1B v3 && z0B q)) :
    emB 1 (hvB t1 t2 v1 p) (hpB o1 o2 v2 l1 l2 v3 q) = (b3 && b4 && z2B t1 t2 && z1B v1 && z0B p) := by
  subst h3 h4
  unfold hvB hpB emB
  generalize z2B o1 o2 = x1
  generalize z1B v2 = x2
  generalize z2B l1 l2 = x3
  generalize z1B v3 = x4
  generalize z0B q = x5
  generalize z2B t1 t2 = x6
  generalize z1B v1 = x7
  generalize z0B p = x8
  cases x1 <;> cases x2 <;> cases x3 <;> cases x4 <;> cases x5 <;> cases x6 <;> cases x7 <;> cases x8 <;> rfl
theorem em_2 {k1 t1 t2 v1 o1 o2 v2 l1 l2 v3 : Int} {p q : Nat} {b3 b4 : Bool} (e1 : k1 ≠ 1) (e3 : k1 ≠ 3) (h3 : b3 = (z2B o1 o2 && z1B v2)) (h4 : b4 = (z2B l1 l2 && z1B v3 && z0B q)) :
    emB k1 (hvB t1 t2 v1 p) (hpB o1 o2 v2 l1 l2 v3 q) = (b3 && b4) := by
  subst h3 h4
  unfold hpB emB
  rw [if_neg e1, if_neg e3]
  generalize z2B o1 o2 = x1
  generalize z1B v2 = x2
  generalize z2B l1 l2 = x3
  generalize z1B v3 = x4
  generalize z0B q = x5
  cases x1 <;> cases x2 <;> cases x3 <;> cases x4 <;> cases x5 <;> rfl

end Go.Proofs.Ytdkmbcmenomecaa
