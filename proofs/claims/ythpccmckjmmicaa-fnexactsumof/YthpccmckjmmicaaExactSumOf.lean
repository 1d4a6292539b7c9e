/- FnExactSumOf: at every record the program answers as its model and leaves its argument alone: the law answers true; no condition beyond the given row's own. -/
import Derived.Test.YthpccmckjmmicaaRows
import Derived.Test.YthpccmckjmmicaaLawsSum
import Derived.Test.YthpccmckjmmicaaReadsRec
namespace Go.Proofs.Ythpccmckjmmicaa
open Go.ChangeShapes Go.WideShapes Go.ChangeAt Go.RowKit Go.Deep
set_option linter.unusedVariables false

namespace fnExactSumOfF
set_option maxRecDepth 100000 in
theorem lifted (os : Os) (started : os.Started) (H : Type) (enc : TypeId × Value → H) :
    ReturnsInHanded {} Try.checked os 4 .any (Rows.fnExactSumOfSpec.pre6 enc Try.prog Try.f4 Rows.fnExactSumOfRow.domain false) (Rows.fnExactSumOfSpec.post enc Try.prog Try.f4 false true false false) := by
  refine returnsInHanded_of_change (C := Try.checked) own started (by kernel_rfl) Try.func4
    (ChangeSpec.witness6 (enc := enc) (C := Try.checked) false ⟨#[], #[.agg #[.int .i64 0, .int .i64 0, .int .i64 0, .int .i64 0, .int .i64 0, .int .i64 0, .int .i64 0, .slice none 0 0, .int .i64 0]], []⟩ 8 (by kernel_rfl) (by kernel_rfl) (by kernel_rfl) (by kernel_rfl)) ?_
  intro W base args ds gs before hval0 hW hcnd _
  have hval : ∀ (j : Nat) t v, Try.f4.params[j]? = some t → args[j]? = some v → Value.okWide Try.prog W .any base t v := hval0
  have hW' := hW
  obtain ⟨p, q, hA0, hV, rfl, hfz, hnd⟩ := hW
  have hA : DataW.TrodAll enc Try.prog W 0 (fun _ => true) true Try.f4.params.toList args.toList ds p := hA0
  rw [Try.params4] at hA hval
  obtain ⟨v0, vs0, d0, ds0, p0, q0, hargs, rfl, rfl, h0, r0⟩ := trodAll_cons hA
  obtain ⟨rfl, rfl, rfl⟩ := trodAll_nil r0
  obtain rfl : args = #[v0] := by cases args; simp_all
  obtain ⟨rfl, rfl⟩ := trodVars_none hV
  have t0 := h0
  have lt0 : ∀ x ∈ p0, x.block < W.heap.size := by obtain ⟨m, hm⟩ := t0; exact DataW.trod_lt m _ _ _ hm
  obtain ⟨ra0, rb0, rc0, rd0, re0, rf0, rg0, LA0, ln0, lc0, rh0, ps0, rfl, hp0, hm0⟩ := rec_read (hval 0 41 v0 rfl rfl) h0
  clear hA0 hval0
  have walk : Calls Try.prog 4 #[.agg #[.int .i64 ra0, .int .i64 rb0, .int .i64 rc0, .int .i64 rd0, .int .i64 re0, .int .i64 rf0, .int .i64 rg0, .slice LA0 ln0 lc0, .int .i64 rh0]] W fun e w' => e = .returned (.bool true) ∧ Below W.heap.size W w' := by
    exact exactSum_any _ ⟨ra0, rb0, rc0, rd0, re0, rf0, rg0, ps0, rh0⟩ W ⟨LA0, ln0, lc0, rfl, hm0, hp0.all⟩
  refine walk.mono fun e W' ⟨he, bel⟩ => ?_
  subst he
  exact ⟨_, rfl, _, _, _, [], _, [], hW', trodAll_mk1 (shut_bool Try.underlying4 _), (trodAll_cons_mk (Below.trod laidOut (by kernel_rfl) (of_decide_eq_true (by kernel_rfl)) t0 bel lt0) trodAll_mk0), rfl, bel.frame _, fun h => by cases h⟩

theorem proved : Rows.FnExactSumOfSaid :=
  OpenClaim.holds_of_wide 4 Try.f4 rfl rfl rfl rfl rfl rfl rfl ⟨rfl, rfl, rfl, rfl, rfl⟩ rfl rfl rfl rfl rfl (by kernel_rfl) Try.func4 (by kernel_rfl)
    (of_decide_eq_true (by kernel_rfl)) (by unfold Func.isWrapper; first | (rw [if_pos (by decide +kernel)]; kernel_rfl) | (rw [if_neg (by decide +kernel)]; exact ⟨rfl, rfl⟩))
    (fun os started H enc _ => lifted os started H enc)
end fnExactSumOfF

theorem fnExactSumOf_holds : Rows.FnExactSumOfSaid := fnExactSumOfF.proved
end Go.Proofs.Ythpccmckjmmicaa
