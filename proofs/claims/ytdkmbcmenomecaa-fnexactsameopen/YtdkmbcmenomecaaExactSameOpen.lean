/- FnExactSameOpen: at every shelf and note the program answers as its model and leaves its argument alone: the law answers true; no condition beyond the given row's own. -/
import Derived.Test.YtdkmbcmenomecaaRows
import Derived.Test.YtdkmbcmenomecaaLawsSame
import Derived.Test.YtdkmbcmenomecaaReadsReg
import Derived.Test.YtdkmbcmenomecaaReadsNote
namespace Go.Proofs.Ytdkmbcmenomecaa
open Go.ChangeShapes Go.WideShapes Go.ChangeAt Go.RowKit Go.Deep
set_option linter.unusedVariables false

namespace fnExactSameOpenF
set_option maxRecDepth 100000 in
theorem lifted (os : Os) (started : os.Started) (H : Type) (enc : TypeId × Value → H) :
    ReturnsInHanded {} Try.checked os 3 .any (Rows.fnExactSameOpenSpec.pre6 enc Try.prog Try.f3 Rows.fnExactSameOpenRow.domain false) (Rows.fnExactSameOpenSpec.post enc Try.prog Try.f3 false true false false) := by
  refine returnsInHanded_of_change (C := Try.checked) own started (by kernel_rfl) Try.func3
    (ChangeSpec.witness6 (enc := enc) (C := Try.checked) false ⟨#[], #[.agg #[.int .i64 0, .int .i64 0, .int .i64 0, .slice none 0 0, .slice none 0 0], .agg #[.int .i64 0, .int .i64 0, .int .i64 0, .int .i64 0, .int .i64 0, .int .i64 0, .int .i64 0, .int .i64 0, .int .i64 0, .int .i64 0, .int .i64 0, .slice none 0 0, .slice none 0 0, .int .i64 0, .int .i64 0, .int .i64 0]], []⟩ 8 (by kernel_rfl) (by kernel_rfl) (by kernel_rfl) (by kernel_rfl)) ?_
  intro W base args ds gs before hval0 hW hcnd _
  have hval : ∀ (j : Nat) t v, Try.f3.params[j]? = some t → args[j]? = some v → Value.okWide Try.prog W .any base t v := hval0
  have hW' := hW
  obtain ⟨p, q, hA0, hV, rfl, hfz, hnd⟩ := hW
  have hA : DataW.TrodAll enc Try.prog W 0 (fun _ => true) true Try.f3.params.toList args.toList ds p := hA0
  rw [Try.params3] at hA hval
  obtain ⟨v0, vs0, d0, ds0, p0, q0, hargs, rfl, rfl, h0, r0⟩ := trodAll_cons hA
  obtain ⟨v1, vs1, d1, ds1, p1, q1, rfl, rfl, rfl, h1, r1⟩ := trodAll_cons r0
  obtain ⟨rfl, rfl, rfl⟩ := trodAll_nil r1
  obtain rfl : args = #[v0, v1] := by cases args; simp_all
  obtain ⟨rfl, rfl⟩ := trodVars_none hV
  have t0 := h0
  have lt0 : ∀ x ∈ p0, x.block < W.heap.size := by obtain ⟨m, hm⟩ := t0; exact DataW.trod_lt m _ _ _ hm
  obtain ⟨rt0, rq0, rv0, PA0, pn0, pc0, QA0, qn0, qc0, ps0, os0, rfl, hp0, hm0, hq0, hmq0⟩ := reg_read (hval 0 27 v0 rfl rfl) h0
  have t1 := h1
  have lt1 : ∀ x ∈ p1, x.block < W.heap.size := by obtain ⟨m, hm⟩ := t1; exact DataW.trod_lt m _ _ _ hm
  obtain ⟨nk1, nf1, nt1, no1, nh1, ta1, tb1, va1, oa1, ob1, vb1, PA1, pn1, pc1, QA1, qn1, qc1, la1, lb1, vc1, ps1, qs1, rfl, hp1, hm1, hq1, hmq1⟩ := note_read (hval 1 29 v1 rfl rfl) h1
  clear hA0 hval0
  have walk : Calls Try.prog 3 #[.agg #[.int .i64 rt0, .int .i64 rq0, .int .i64 rv0, .slice PA0 pn0 pc0, .slice QA0 qn0 qc0], .agg #[.int .i64 nk1, .int .i64 nf1, .int .i64 nt1, .int .i64 no1, .int .i64 nh1, .int .i64 ta1, .int .i64 tb1, .int .i64 va1, .int .i64 oa1, .int .i64 ob1, .int .i64 vb1, .slice PA1 pn1 pc1, .slice QA1 qn1 qc1, .int .i64 la1, .int .i64 lb1, .int .i64 vc1]] W fun e w' => e = .returned (.bool true) ∧ Below W.heap.size W w' := by
    exact exactSame_any _ _ ⟨rt0, rq0, rv0, ps0, os0⟩ ⟨nk1, nf1, nt1, no1, nh1, ta1, tb1, va1, oa1, ob1, vb1, la1, lb1, vc1, ps1, qs1⟩ W ⟨PA0, pn0, pc0, QA0, qn0, qc0, rfl, hm0, hmq0, hp0.all, hq0.all⟩ ⟨PA1, pn1, pc1, QA1, qn1, qc1, rfl, hm1, hmq1, hp1.all, hq1.all⟩
  refine walk.mono fun e W' ⟨he, bel⟩ => ?_
  subst he
  exact ⟨_, rfl, _, _, _, [], _, [], hW', trodAll_mk1 (shut_bool Try.underlying4 _), (trodAll_cons_mk (Below.trod laidOut (by kernel_rfl) (of_decide_eq_true (by kernel_rfl)) t0 bel lt0) (trodAll_cons_mk (Below.trod laidOut (by kernel_rfl) (of_decide_eq_true (by kernel_rfl)) t1 bel lt1) trodAll_mk0)), rfl, bel.frame _, fun h => by cases h⟩

theorem proved : Rows.FnExactSameOpenSaid :=
  OpenClaim.holds_of_wide 3 Try.f3 rfl rfl rfl rfl rfl rfl rfl ⟨rfl, rfl, rfl, rfl, rfl⟩ rfl rfl rfl rfl rfl (by kernel_rfl) Try.func3 (by kernel_rfl)
    (of_decide_eq_true (by kernel_rfl)) (by unfold Func.isWrapper; first | (rw [if_pos (by decide +kernel)]; kernel_rfl) | (rw [if_neg (by decide +kernel)]; exact ⟨rfl, rfl⟩))
    (fun os started H enc _ => lifted os started H enc)
end fnExactSameOpenF

theorem fnExactSameOpen_holds : Rows.FnExactSameOpenSaid := fnExactSameOpenF.proved
end Go.Proofs.Ytdkmbcmenomecaa
