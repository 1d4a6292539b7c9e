/- Noughts are appended to a list of pairs of one's own; no conditions but the sizes. -/
import Derived.Test.YtdabmnhbmdaodaaDrawStamps
import Derived.Test.YtdabmnhbmdaodaaSortBase
import Derived.Lib.AppendZerosOnto
import Derived.Laws.AppendOwn
namespace Go.Proofs.Ytdabmnhbmdaodaa
open Go.RowKit

theorem zero_flat (k : Nat) : (Builtin.zeroCells #[.int .i64 0, .int .i64 0] k).toList = flatP (List.replicate k (0, 0)) := by
  apply List.ext_getElem?
  intro j
  by_cases hj : j < k * 2
  · have hl : (List.replicate k ((0 : Int), (0 : Int))).length = k := by simp
    have h2 : j % 2 = 0 ∨ j % 2 = 1 := by omega
    have hp : ∀ i, pth (List.replicate k ((0 : Int), (0 : Int))) i = (0, 0) := fun i => by
      simp only [pth, List.getD_eq_getElem?_getD, List.getElem?_replicate]
      split <;> rfl
    rcases h2 with h2 | h2
    · obtain ⟨i, rfl⟩ : ∃ i, j = i * 2 := ⟨j / 2, by omega⟩
      rw [(flatP_at (by rw [hl]; omega)).1, hp]
      simp [Builtin.zeroCells, hj]
    · obtain ⟨i, rfl⟩ : ∃ i, j = i * 2 + 1 := ⟨j / 2, by omega⟩
      rw [(flatP_at (by rw [hl]; omega)).2, hp]
      have h3 : (i * 2 + 1) % 2 = 1 := by omega
      simp [Builtin.zeroCells, hj, h3]
  · rw [List.getElem?_eq_none (by simp [Builtin.zeroCells]; omega), List.getElem?_eq_none (by rw [flatP_len]; simp; omega)]
theorem zero_one (k : Nat) : ∀ u ∈ (Builtin.zeroCells #[.int .i64 0, .int .i64 0] k).toList, u.oneCell' = true := by
  rw [zero_flat]
  intro u hu
  simp only [flatP, List.mem_flatMap] at hu
  obtain ⟨p, _, hp⟩ := hu
  simp only [List.mem_cons, List.not_mem_nil, or_false] at hp
  rcases hp with rfl | rfl <;> rfl

theorem append_zeros {P : Program} (w : World) (base : Nat) (t tn ty e : TypeId) (i : TypeInfo) (ht : P.underlying t = some (.slice e)) (htn : P.underlying tn = some (.int .i64)) (hi : P.info? e = some i) (hz : i.zero = some (.agg #[.int .i64 0, .int .i64 0])) (hs : i.size = 2) (hby : i.bytes = 16)
    (g n cap k : Nat) (ps : List (Int × Int)) (hpl : ps.length = n) (hn : n ≤ 1000000) (hk0 : 0 < k) (hk : k ≤ 1000000) (hb : base ≤ w.heap.size) (hown : w.ownsRow base e 2 (.slice (some ⟨g, 0, none⟩) n cap) n (flatP ps)) :
    ∃ gg cap2 w', (Builtin.append_ #[t, tn] ty #[.slice (some ⟨g, 0, none⟩) n cap, .int .i64 (k : Int)]).run P w = .ok (.slice (some ⟨gg, 0, none⟩) (n + k) cap2) w' ∧
      w'.ownsRow base e 2 (.slice (some ⟨gg, 0, none⟩) (n + k) cap2) (n + k) (flatP (ps ++ List.replicate k (0, 0))) ∧ w.grownBy w' (some g) := by
  have hc : (Value.agg #[.int .i64 0, .int .i64 0]).cells = #[.int .i64 0, .int .i64 0] := rfl
  have hfl : flatP (ps ++ List.replicate k (0, 0)) = flatP ps ++ (Builtin.zeroCells #[.int .i64 0, .int .i64 0] k).toList := by
    rw [zero_flat]
    simp [flatP]
  have hlen : (flatP (ps ++ List.replicate k (0, 0))).length = (n + k) * 2 := by rw [flatP_len]; simp [hpl]
  have hfn : (flatP ps).length = n * 2 := by rw [flatP_len, hpl]
  rcases Nat.lt_or_ge cap (n + k) with hroom | hroom
  · have hold : (Builtin.firstCells i.size n (.slice (some ⟨g, 0, none⟩) n cap)).run P w.drew = .ok (flatP ps).toArray w.drew :=
      run_firstCells_some w.drew i.size n ⟨g, 0, none⟩ n cap (flatP ps) (by rw [hfn, hs]) (fun j u hu => hown.cells (g := g) rfl j u hu)
    have hr := Lib.run_append_grow_zeros w t tn ty e i _ .i64 .i64 ht htn hi hz (some ⟨g, 0, none⟩) n cap (flatP ps) hold k hk0 (by omega) (by omega) (by omega) (by rw [hby]; omega) (growslice_fits hroom (by rw [hby]; omega))
    refine ⟨_, _, _, hr, ?_, ⟨rfl, rfl, rfl, by simp, fun j hj _ => (bel_alloc w.drew _).block j hj⟩⟩
    have hge := grownCap_ge w (n + k) cap e
    have hcm := grownCap_le_maxLen w (n + k) cap e (by unfold maxLen; omega)
    refine ⟨hlen, .inr ⟨w.heap.size, _, _, rfl, hb, heap_alloc_new w.drew _, hge, hcm, ?_, ?_⟩⟩
    · simp only [Array.size_append, List.size_toArray, size_zeroCells, hc, hfn]
      show n * 2 + k * 2 + (grownCap w (n + k) cap e - (n + k)) * 2 = _
      omega
    · rw [hfl, hc]
      simp only [Array.toList_append]
      refine (congrArg (fun j => List.take j _) ?_).trans List.take_left
      rw [← hlen, hfl]
  · rcases hown.2 with ⟨h', _⟩ | ⟨g', cap', cur, h', hbg, hg, hnc, hcm, hcs, htake⟩
    · simp at h'
    · simp only [Value.slice.injEq, Option.some.injEq, Addr.mk.injEq, and_true, true_and] at h'
      obtain ⟨rfl, rfl⟩ := h'
      have hzl : (Builtin.zeroCells #[.int .i64 0, .int .i64 0] k).toList.length = k * 2 := by rw [zero_flat, flatP_len]; simp
      have hst := run_storeCells_at P g (n * 2) e (Builtin.zeroCells #[.int .i64 0, .int .i64 0] k).toList 0 cur w hg (by rw [hzl, hcs]; omega) (zero_one k)
      simp only [Nat.add_zero] at hst
      have hw : IntKind.i64.wrap (k : Int) = k := by rw [IntKind.wrap_i64]; omega
      have hneg : ¬ ((k : Int) < 0) := by omega
      have h48 : ¬ (281474976710656 < (k : Int) * (16 : Int)) := by omega
      refine ⟨g, cap, w.setRow g (cur.toList.take (n * 2) ++ (Builtin.zeroCells #[.int .i64 0, .int .i64 0] k).toList ++ cur.toList.drop (n * 2 + (Builtin.zeroCells #[.int .i64 0, .int .i64 0] k).toList.length)).toArray, ?_, ?_⟩
      · simp [Builtin.append_, run_underlying ht, run_underlying htn, sizeOf, typeInfo, zeroValue, hi, hz, hs, hby, asInt, asIntOf, hw, hneg, h48, hroom, hc, Addr.add_lit, hst]
        omega
      · refine ⟨⟨hlen, .inr ⟨g, cap, _, rfl, hbg, setRow_heap w g cur _ e _ hg, hroom, hcm, ?_, ?_⟩⟩, ⟨rfl, rfl, rfl, by simp, fun k _ hk => setRow_other w g k _ (fun e => hk (by simp [e]))⟩⟩
        · simp only [List.size_toArray, List.length_append, List.length_take, List.length_drop, Array.length_toList, hzl, hcs]
          omega
        · rw [hfl, htake, ← hlen, hfl]
          exact List.take_left

end Go.Proofs.Ytdabmnhbmdaodaa
