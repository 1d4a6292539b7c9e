/- FnExactRecOk: at every group and record the program answers as its model and leaves its argument alone: the law answers true; no condition beyond the given row's own. -/
import Derived.Test.YthpccmckjmmicaaRows
import Derived.Test.YthpccmckjmmicaaLawsRecOk
import Derived.Test.YthpccmckjmmicaaReads
import Derived.Test.YthpccmckjmmicaaReadsRec
namespace Go.Proofs.Ythpccmckjmmicaa
open Go.ChangeShapes Go.WideShapes Go.ChangeAt Go.RowKit Go.Deep
set_option linter.unusedVariables false

namespace fnExactRecOkF
set_option maxRecDepth 100000 in
theorem lifted (os : Os) (started : os.Started) (H : Type) (enc : TypeId × Value → H) :
    ReturnsInHanded {} Try.checked os 6 .any (Rows.fnExactRecOkSpec.pre6 enc Try.prog Try.f6 Rows.fnExactRecOkRow.domain false) (Rows.fnExactRecOkSpec.post enc Try.prog Try.f6 false true false false) := by
  refine returnsInHanded_of_change (C := Try.checked) own started (by kernel_rfl) Try.func6
    (ChangeSpec.witness6 (enc := enc) (C := Try.checked) false ⟨#[], #[.agg #[.int .i64 0, .int .i64 0, .int .i64 0, .int .i64 0, .slice none 0 0], .agg #[.int .i64 0, .int .i64 0, .int .i64 0, .int .i64 0, .int .i64 0, .int .i64 0, .int .i64 0, .slice none 0 0, .int .i64 0]], []⟩ 8 (by kernel_rfl) (by kernel_rfl) (by kernel_rfl) (by kernel_rfl)) ?_
  intro W base args ds gs before hval0 hW hcnd _
  have hval : ∀ (j : Nat) t v, Try.f6.params[j]? = some t → args[j]? = some v → Value.okWide Try.prog W .any base t v := hval0
  have hW' := hW
  obtain ⟨p, q, hA0, hV, rfl, hfz, hnd⟩ := hW
  have hA : DataW.TrodAll enc Try.prog W 0 (fun _ => true) true Try.f6.params.toList args.toList ds p := hA0
  rw [Try.params6] at hA hval
  obtain ⟨v0, vs0, d0, ds0, p0, q0, hargs, rfl, rfl, h0, r0⟩ := trodAll_cons hA
  obtain ⟨v1, vs1, d1, ds1, p1, q1, rfl, rfl, rfl, h1, r1⟩ := trodAll_cons r0
  obtain ⟨rfl, rfl, rfl⟩ := trodAll_nil r1
  obtain rfl : args = #[v0, v1] := by cases args; simp_all
  obtain ⟨rfl, rfl⟩ := trodVars_none hV
  have t0 := h0
  have lt0 : ∀ x ∈ p0, x.block < W.heap.size := by obtain ⟨m, hm⟩ := t0; exact DataW.trod_lt m _ _ _ hm
  obtain ⟨s0, l0, c0, sh0, A0, n0, cap0, zs0, rfl, hp0, hm0⟩ := group_read (hval 0 52 v0 rfl rfl) h0
  have t1 := h1
  have lt1 : ∀ x ∈ p1, x.block < W.heap.size := by obtain ⟨m, hm⟩ := t1; exact DataW.trod_lt m _ _ _ hm
  obtain ⟨ra1, rb1, rc1, rd1, re1, rf1, rg1, LA1, ln1, lc1, rh1, ps1, rfl, hp1, hm1⟩ := rec_read (hval 1 41 v1 rfl rfl) h1
  clear hA0 hval0
  have walk : Calls Try.prog 6 #[.agg #[.int .i64 s0, .int .i64 l0, .int .i64 c0, .int .i64 sh0, .slice A0 n0 cap0], .agg #[.int .i64 ra1, .int .i64 rb1, .int .i64 rc1, .int .i64 rd1, .int .i64 re1, .int .i64 rf1, .int .i64 rg1, .slice LA1 ln1 lc1, .int .i64 rh1]] W fun e w' => e = .returned (.bool true) ∧ Below W.heap.size W w' := by
    exact exactRecOk_any _ _ ⟨s0, l0, c0, sh0, zs0⟩ ⟨ra1, rb1, rc1, rd1, re1, rf1, rg1, ps1, rh1⟩ W ⟨A0, n0, cap0, rfl, hm0, hp0.all⟩ ⟨LA1, ln1, lc1, rfl, hm1, hp1.all⟩
  refine walk.mono fun e W' ⟨he, bel⟩ => ?_
  subst he
  exact ⟨_, rfl, _, _, _, [], _, [], hW', trodAll_mk1 (shut_bool Try.underlying4 _), (trodAll_cons_mk (Below.trod laidOut (by kernel_rfl) (of_decide_eq_true (by kernel_rfl)) t0 bel lt0) (trodAll_cons_mk (Below.trod laidOut (by kernel_rfl) (of_decide_eq_true (by kernel_rfl)) t1 bel lt1) trodAll_mk0)), rfl, bel.frame _, fun h => by cases h⟩

theorem proved : Rows.FnExactRecOkSaid :=
  OpenClaim.holds_of_wide 6 Try.f6 rfl rfl rfl rfl rfl rfl rfl ⟨rfl, rfl, rfl, rfl, rfl⟩ rfl rfl rfl rfl rfl (by kernel_rfl) Try.func6 (by kernel_rfl)
    (of_decide_eq_true (by kernel_rfl)) (by unfold Func.isWrapper; first | (rw [if_pos (by decide +kernel)]; kernel_rfl) | (rw [if_neg (by decide +kernel)]; exact ⟨rfl, rfl⟩))
    (fun os started H enc _ => lifted os started H enc)
end fnExactRecOkF

theorem fnExactRecOk_holds : Rows.FnExactRecOkSaid := fnExactRecOkF.proved
end Go.Proofs.Ythpccmckjmmicaa
