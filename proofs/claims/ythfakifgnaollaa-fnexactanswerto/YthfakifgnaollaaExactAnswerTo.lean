/- FnExactAnswerTo: at every note the program answers as its model and leaves its argument alone: the law answers true; no condition beyond the given row's own. -/
import Derived.Test.YthfakifgnaollaaRows
import Derived.Test.YthfakifgnaollaaLawsAnswer
import Derived.Test.YthfakifgnaollaaReadsNote
namespace Go.Proofs.Ythfakifgnaollaa
open Go.ChangeShapes Go.WideShapes Go.ChangeAt Go.RowKit Go.Deep
set_option linter.unusedVariables false

namespace fnExactAnswerToF
set_option maxRecDepth 100000 in
theorem lifted (os : Os) (started : os.Started) (H : Type) (enc : TypeId × Value → H) :
    ReturnsInHanded {} Try.checked os 5 .any (Rows.fnExactAnswerToSpec.pre6 enc Try.prog Try.f5 Rows.fnExactAnswerToRow.domain false) (Rows.fnExactAnswerToSpec.post enc Try.prog Try.f5 false true false false) := by
  refine returnsInHanded_of_change (C := Try.checked) own started (by kernel_rfl) Try.func5
    (ChangeSpec.witness6 (enc := enc) (C := Try.checked) false ⟨#[], #[.agg #[.int .i64 0, .int .i64 0, .int .i64 0, .int .i64 0, .int .i64 0, .int .i64 0, .int .i64 0, .int .i64 0, .int .i64 0, .int .i64 0, .int .i64 0, .slice none 0 0, .slice none 0 0, .int .i64 0, .int .i64 0, .int .i64 0]], []⟩ 8 (by kernel_rfl) (by kernel_rfl) (by kernel_rfl) (by kernel_rfl)) ?_
  intro W base args ds gs before hval0 hW hcnd _
  have hval : ∀ (j : Nat) t v, Try.f5.params[j]? = some t → args[j]? = some v → Value.okWide Try.prog W .any base t v := hval0
  have hW' := hW
  obtain ⟨p, q, hA0, hV, rfl, hfz, hnd⟩ := hW
  have hA : DataW.TrodAll enc Try.prog W 0 (fun _ => true) true Try.f5.params.toList args.toList ds p := hA0
  rw [Try.params5] at hA hval
  obtain ⟨v0, vs0, d0, ds0, p0, q0, hargs, rfl, rfl, h0, r0⟩ := trodAll_cons hA
  obtain ⟨rfl, rfl, rfl⟩ := trodAll_nil r0
  obtain rfl : args = #[v0] := by cases args; simp_all
  obtain ⟨rfl, rfl⟩ := trodVars_none hV
  have t0 := h0
  have lt0 : ∀ x ∈ p0, x.block < W.heap.size := by obtain ⟨m, hm⟩ := t0; exact DataW.trod_lt m _ _ _ hm
  obtain ⟨nk0, nf0, nt0, no0, nh0, ta0, tb0, va0, oa0, ob0, vb0, PA0, pn0, pc0, QA0, qn0, qc0, la0, lb0, vc0, ps0, qs0, rfl, hp0, hm0, hq0, hmq0⟩ := note_read (hval 0 40 v0 rfl rfl) h0
  clear hA0 hval0
  have walk : Calls Try.prog 5 #[.agg #[.int .i64 nk0, .int .i64 nf0, .int .i64 nt0, .int .i64 no0, .int .i64 nh0, .int .i64 ta0, .int .i64 tb0, .int .i64 va0, .int .i64 oa0, .int .i64 ob0, .int .i64 vb0, .slice PA0 pn0 pc0, .slice QA0 qn0 qc0, .int .i64 la0, .int .i64 lb0, .int .i64 vc0]] W fun e w' => e = .returned (.bool true) ∧ Below W.heap.size W w' := by
    by_cases hbig : pn0 + qn0 ≤ 1048576
    · exact exactAnswer_small nk0 nf0 nt0 no0 nh0 ta0 tb0 va0 oa0 ob0 vb0 PA0 pn0 pc0 QA0 qn0 qc0 la0 lb0 vc0 ps0 qs0 W hbig hp0 hq0
    · exact exactAnswer_big nk0 nf0 nt0 no0 nh0 ta0 tb0 va0 oa0 ob0 vb0 PA0 pn0 pc0 QA0 qn0 qc0 la0 lb0 vc0 W hm0 hmq0 (by omega)
  refine walk.mono fun e W' ⟨he, bel⟩ => ?_
  subst he
  exact ⟨_, rfl, _, _, _, [], _, [], hW', trodAll_mk1 (shut_bool Try.underlying4 _), (trodAll_cons_mk (Below.trod laidOut (by kernel_rfl) (of_decide_eq_true (by kernel_rfl)) t0 bel lt0) trodAll_mk0), rfl, bel.frame _, fun h => by cases h⟩

theorem proved : Rows.FnExactAnswerToSaid :=
  OpenClaim.holds_of_wide 5 Try.f5 rfl rfl rfl rfl rfl rfl rfl ⟨rfl, rfl, rfl, rfl, rfl⟩ rfl rfl rfl rfl rfl (by kernel_rfl) Try.func5 (by kernel_rfl)
    (of_decide_eq_true (by kernel_rfl)) (by unfold Func.isWrapper; first | (rw [if_pos (by decide +kernel)]; kernel_rfl) | (rw [if_neg (by decide +kernel)]; exact ⟨rfl, rfl⟩))
    (fun os started H enc _ => lifted os started H enc)
end fnExactAnswerToF

theorem fnExactAnswerTo_holds : Rows.FnExactAnswerToSaid := fnExactAnswerToF.proved
end Go.Proofs.Ythfakifgnaollaa
