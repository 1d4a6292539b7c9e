/- FnExactReadied: at every group, shelf and note the program answers as its model and leaves its argument alone: the law answers true; no condition beyond the given row's own. -/
import Derived.Test.YtdkmbcmenomecaaGreatRows
import Derived.Test.YtdkmbcmenomecaaGreatLawsReadied
import Derived.Test.YtdkmbcmenomecaaGreatReads
import Derived.Test.YtdkmbcmenomecaaGreatReadsReg
import Derived.Test.YtdkmbcmenomecaaGreatReadsNote
namespace Go.Proofs.YtdkmbcmenomecaaGreat
open Go.ChangeShapes Go.WideShapes Go.ChangeAt Go.RowKit Go.Deep
set_option linter.unusedVariables false

namespace fnExactReadiedF
set_option maxRecDepth 100000 in
theorem lifted (os : Os) (started : os.Started) (H : Type) (enc : TypeId × Value → H) :
    ReturnsInHanded {} Tryz.checked os 5 .any (Rows.fnExactReadiedSpec.pre6 enc Tryz.prog Tryz.f5 Rows.fnExactReadiedRow.domain false) (Rows.fnExactReadiedSpec.post enc Tryz.prog Tryz.f5 false true false false) := by
  refine returnsInHanded_of_change (C := Tryz.checked) own started (by kernel_rfl) Tryz.func5
    (ChangeSpec.witness6 (enc := enc) (C := Tryz.checked) false ⟨#[], #[.agg #[.int .i64 0, .int .i64 0, .int .i64 0, .int .i64 0, .slice none 0 0], .agg #[.int .i64 0, .int .i64 0, .int .i64 0, .slice none 0 0, .slice none 0 0], .agg #[.int .i64 0, .int .i64 0, .int .i64 0, .int .i64 0, .int .i64 0, .int .i64 0, .int .i64 0, .int .i64 0, .int .i64 0, .int .i64 0, .int .i64 0, .slice none 0 0, .slice none 0 0, .int .i64 0, .int .i64 0, .int .i64 0]], []⟩ 8 (by kernel_rfl) (by kernel_rfl) (by kernel_rfl) (by kernel_rfl)) ?_
  intro W base args ds gs before hval0 hW hcnd _
  have hval : ∀ (j : Nat) t v, Tryz.f5.params[j]? = some t → args[j]? = some v → Value.okWide Tryz.prog W .any base t v := hval0
  have hW' := hW
  obtain ⟨p, q, hA0, hV, rfl, hfz, hnd⟩ := hW
  have hA : DataW.TrodAll enc Tryz.prog W 0 (fun _ => true) true Tryz.f5.params.toList args.toList ds p := hA0
  rw [Tryz.params5] at hA hval
  obtain ⟨v0, vs0, d0, ds0, p0, q0, hargs, rfl, rfl, h0, r0⟩ := trodAll_cons hA
  obtain ⟨v1, vs1, d1, ds1, p1, q1, rfl, rfl, rfl, h1, r1⟩ := trodAll_cons r0
  obtain ⟨v2, vs2, d2, ds2, p2, q2, rfl, rfl, rfl, h2, r2⟩ := trodAll_cons r1
  obtain ⟨rfl, rfl, rfl⟩ := trodAll_nil r2
  obtain rfl : args = #[v0, v1, v2] := by cases args; simp_all
  obtain ⟨rfl, rfl⟩ := trodVars_none hV
  have t0 := h0
  have lt0 : ∀ x ∈ p0, x.block < W.heap.size := by obtain ⟨m, hm⟩ := t0; exact DataW.trod_lt m _ _ _ hm
  obtain ⟨s0, l0, c0, sh0, A0, n0, cap0, zs0, rfl, hp0, hm0⟩ := group_read (hval 0 47 v0 rfl rfl) h0
  have t1 := h1
  have lt1 : ∀ x ∈ p1, x.block < W.heap.size := by obtain ⟨m, hm⟩ := t1; exact DataW.trod_lt m _ _ _ hm
  obtain ⟨rt1, rq1, rv1, PA1, pn1, pc1, QA1, qn1, qc1, ps1, os1, rfl, hp1, hm1, hq1, hmq1⟩ := reg_read (hval 1 52 v1 rfl rfl) h1
  have t2 := h2
  have lt2 : ∀ x ∈ p2, x.block < W.heap.size := by obtain ⟨m, hm⟩ := t2; exact DataW.trod_lt m _ _ _ hm
  obtain ⟨nk2, nf2, nt2, no2, nh2, ta2, tb2, va2, oa2, ob2, vb2, PA2, pn2, pc2, QA2, qn2, qc2, la2, lb2, vc2, ps2, qs2, rfl, hp2, hm2, hq2, hmq2⟩ := note_read (hval 2 54 v2 rfl rfl) h2
  clear hA0 hval0
  have walk : Calls Tryz.prog 5 #[.agg #[.int .i64 s0, .int .i64 l0, .int .i64 c0, .int .i64 sh0, .slice A0 n0 cap0], .agg #[.int .i64 rt1, .int .i64 rq1, .int .i64 rv1, .slice PA1 pn1 pc1, .slice QA1 qn1 qc1], .agg #[.int .i64 nk2, .int .i64 nf2, .int .i64 nt2, .int .i64 no2, .int .i64 nh2, .int .i64 ta2, .int .i64 tb2, .int .i64 va2, .int .i64 oa2, .int .i64 ob2, .int .i64 vb2, .slice PA2 pn2 pc2, .slice QA2 qn2 qc2, .int .i64 la2, .int .i64 lb2, .int .i64 vc2]] W fun e w' => e = .returned (.bool true) ∧ Below W.heap.size W w' := by
    exact exactRdd_any _ _ _ ⟨s0, l0, c0, sh0, zs0⟩ ⟨rt1, rq1, rv1, ps1, os1⟩ ⟨nk2, nf2, nt2, no2, nh2, ta2, tb2, va2, oa2, ob2, vb2, la2, lb2, vc2, ps2, qs2⟩ W ⟨A0, n0, cap0, rfl, hm0, hp0.all⟩ ⟨PA1, pn1, pc1, QA1, qn1, qc1, rfl, hm1, hmq1, hp1.all, hq1.all⟩ ⟨PA2, pn2, pc2, QA2, qn2, qc2, rfl, hm2, hmq2, hp2.all, hq2.all⟩
  refine walk.mono fun e W' ⟨he, bel⟩ => ?_
  subst he
  exact ⟨_, rfl, _, _, _, [], _, [], hW', trodAll_mk1 (shut_bool Tryz.underlying4 _), (trodAll_cons_mk (Below.trod laidOut (by kernel_rfl) (of_decide_eq_true (by kernel_rfl)) t0 bel lt0) (trodAll_cons_mk (Below.trod laidOut (by kernel_rfl) (of_decide_eq_true (by kernel_rfl)) t1 bel lt1) (trodAll_cons_mk (Below.trod laidOut (by kernel_rfl) (of_decide_eq_true (by kernel_rfl)) t2 bel lt2) trodAll_mk0))), rfl, bel.frame _, fun h => by cases h⟩

theorem proved : Rows.FnExactReadiedSaid :=
  OpenClaim.holds_of_wide 5 Tryz.f5 rfl rfl rfl rfl rfl rfl rfl ⟨rfl, rfl, rfl, rfl, rfl⟩ rfl rfl rfl rfl rfl (by kernel_rfl) Tryz.func5 (by kernel_rfl)
    (of_decide_eq_true (by kernel_rfl)) (by unfold Func.isWrapper; first | (rw [if_pos (by decide +kernel)]; kernel_rfl) | (rw [if_neg (by decide +kernel)]; exact ⟨rfl, rfl⟩))
    (fun os started H enc _ => lifted os started H enc)
end fnExactReadiedF

theorem fnExactReadied_holds : Rows.FnExactReadiedSaid := fnExactReadiedF.proved
end Go.Proofs.YtdkmbcmenomecaaGreat
