/- What the rows' list of package variables gives: where the errors lie; and a world that has them so; no conditions. -/
import Derived.Test.YtgjbebfcbpfngaaDoorRows
import Derived.Test.YtgjbebfcbpfngaaDoorWire9
import Derived.LaidLaws
import Derived.LaidHandle
import Derived.Stop.LaidTwo
import Derived.Stop.LaidErr
import Derived.RowKitTokens
import Derived.Test.YtgjbebfcbpfngaaDoorWire3
import Derived.Test.YtgjbebfcbpfngaaDoorWireCut
import Derived.WalkKit
import Derived.ProofKit
import Derived.OpenShut
import Derived.ShutString
import Derived.ChangeOld
import Derived.ChangeSame
import Derived.ChangeVars
import Derived.JoinedOf
import Derived.RowKit
import Derived.Stop.Joined
import Derived.Below
import Derived.Carry
import Derived.Laws.Rows
namespace Go.Proofs.YtgjbebfcbpfngaaDoor
open Go.RowKit Go.Extern.Stop Go.Stop Go.Extern

/-- The list, as the rows have it. -/
def laidL : List (String × DataW Unit) := [("errors.errorType", Rows.laid_errors_errorType), ("loop.example/g00695/impl.errEnd", Rows.laid_loop_example_g00695_impl_errEnd), ("loop.example/g00695/impl.errEndless", Rows.laid_loop_example_g00695_impl_errEndless), ("loop.example/g00695/impl.errShorter", Rows.laid_loop_example_g00695_impl_errShorter), ("loop.example/g00695/impl.errManySeals", Rows.laid_loop_example_g00695_impl_errManySeals)]
theorem Tryd.gE : Tryd.prog.globalNamed "loop.example/g00695/impl.errEnd" = some 0 := by kernel_rfl
theorem Tryd.gM : Tryd.prog.globalNamed "loop.example/g00695/impl.errManySeals" = some 1 := by kernel_rfl
theorem Tryd.gT : Tryd.prog.globalNamed "errors.errorType" = some 2 := by kernel_rfl
theorem Tryd.gS : Tryd.prog.globalNamed "loop.example/g00695/impl.errShorter" = some 3 := by kernel_rfl
theorem Tryd.gL : Tryd.prog.globalNamed "loop.example/g00695/impl.errEndless" = some 4 := by kernel_rfl
theorem Tryd.tE : (Tryd.prog.globals[0]?).map (·.type) = some 69 := by kernel_rfl
theorem Tryd.tM : (Tryd.prog.globals[1]?).map (·.type) = some 69 := by kernel_rfl
theorem Tryd.tS : (Tryd.prog.globals[3]?).map (·.type) = some 69 := by kernel_rfl
theorem Tryd.tL : (Tryd.prog.globals[4]?).map (·.type) = some 69 := by kernel_rfl
theorem Tryd.cellsES : Tryd.prog.cellsOf 176 = 1 := by kernel_rfl
theorem Tryd.cellsStr : Tryd.prog.cellsOf 9 = 1 := by kernel_rfl
theorem starES : "*" ++ "errors.errorString" = "*errors.errorString" := by decide
theorem Tryd.rowES (u : TypeId) (h : Tryd.prog.typeName? 3 u = some "*errors.errorString") : u = 154 :=
  typeName_ptr_named (nm := "errors.errorString") (by rw [starES]; kernel_rfl) (by kernel_rfl) (by decide) u (by rw [starES]; exact h)
theorem Tryd.rtype : (Tryd.prog.cutTypes.find? (·.1 == "internal/reflectlite.rtype")).map (·.2) = some 139 := by kernel_rfl
theorem Tryd.nTypes : Tryd.prog.types.size = 188 := by kernel_rfl
theorem Tryd.oneError : ((List.range 188).filter fun t => Tryd.prog.rowNamed t [101, 114, 114, 111, 114]) = [69] := by kernel_rfl

theorem block_lt {W : World} {b : Nat} {o : Obj} (h : W.heap[b]? = some o) : b < W.heap.size := by
  rcases Nat.lt_or_ge b W.heap.size with h' | h'
  · exact h'
  · rw [Array.getElem?_eq_none h'] at h; cases h

set_option maxRecDepth 100000 in
/-- What the condition gives a walk: where the errors lie. -/
theorem errs_of_laid {W : World} (h : laidMetH Tryd.prog laidL W) : ∃ aE aM aS aL, Errs W W.heap.size aE aM aS aL ∧
    W.var? Tryd.prog "loop.example/g00695/impl.errEnd" = some #[.iface 154 (.pointer (some aE))] ∧ W.var? Tryd.prog "loop.example/g00695/impl.errShorter" = some #[.iface 154 (.pointer (some aS))] ∧
    W.var? Tryd.prog "loop.example/g00695/impl.errEndless" = some #[.iface 154 (.pointer (some aL))] ∧ W.var? Tryd.prog "loop.example/g00695/impl.errManySeals" = some #[.iface 154 (.pointer (some aM))] := by
  have h' : laidMet Tryd.prog [("loop.example/g00695/impl.errEnd", Rows.laid_loop_example_g00695_impl_errEnd), ("loop.example/g00695/impl.errEndless", Rows.laid_loop_example_g00695_impl_errEndless), ("loop.example/g00695/impl.errShorter", Rows.laid_loop_example_g00695_impl_errShorter), ("loop.example/g00695/impl.errManySeals", Rows.laid_loop_example_g00695_impl_errManySeals)] W ∧ handlesMet Tryd.prog [("errors.errorType", Rows.laid_errors_errorType)] W := h
  obtain ⟨hl, hh⟩ := h'
  have hT : W.cell? ⟨2, 0, none⟩ = some (.iface 139 (.agg #[.pointer (some ⟨5, 69, none⟩)])) := by
    obtain ⟨name, u, ty, e1, e2, e3, e4, e5⟩ := hh _ (List.mem_singleton.2 rfl)
    have en : name = [101, 114, 114, 111, 114] := (Option.some.inj e1).symm
    subst en
    obtain rfl := Option.some.inj (Tryd.rtype.symm.trans e2)
    have hm : ty ∈ (List.range 188).filter fun t => Tryd.prog.rowNamed t [101, 114, 114, 111, 114] := List.mem_filter.2 ⟨List.mem_range.2 (by rw [← Tryd.nTypes]; exact e3), e4⟩
    rw [Tryd.oneError] at hm
    obtain rfl := List.mem_singleton.1 hm
    have hh : typeHandle Tryd.prog 69 = .pointer (some ⟨5, 69, none⟩) := by kernel_rfl
    rw [hh] at e5
    simpa using World.var?_cell Tryd.gT e5 0
  obtain ⟨ps, ⟨g0, t0, cs0, f0, p0, q0, hg0, ht0, hv0, hd0, ⟨g1, t1, cs1, f1, p1, q1, hg1, ht1, hv1, hd1, ⟨g2, t2, cs2, f2, p2, q2, hg2, ht2, hv2, hd2, ⟨g3, t3, cs3, f3, p3, q3, hg3, ht3, hv3, hd3, _, e3⟩, e2⟩, e1⟩, e0⟩, hnd, hrows⟩ := hl
  obtain rfl := Option.some.inj (Tryd.gE.symm.trans hg0)
  obtain rfl := Option.some.inj (Tryd.gL.symm.trans hg1)
  obtain rfl := Option.some.inj (Tryd.gS.symm.trans hg2)
  obtain rfl := Option.some.inj (Tryd.gM.symm.trans hg3)
  obtain rfl := Option.some.inj (Tryd.tE.symm.trans ht0)
  obtain rfl := Option.some.inj (Tryd.tL.symm.trans ht1)
  obtain rfl := Option.some.inj (Tryd.tS.symm.trans ht2)
  obtain rfl := Option.some.inj (Tryd.tM.symm.trans ht3)
  subst e3
  subst e2
  subst e1
  subst e0
  obtain ⟨l0⟩ := cs0
  obtain ⟨l1⟩ := cs1
  obtain ⟨l2⟩ := cs2
  obtain ⟨l3⟩ := cs3
  have ok0 : ∀ u v, l0 = [.iface u v] → Value.okWide Tryd.prog W .any 0 u v := fun u v e => by
    subst e
    exact (hrows 0 0 (by simp [MemPlace.row])).2 u v (by simpa using World.var?_cell hg0 hv0 0)
  have ok1 : ∀ u v, l1 = [.iface u v] → Value.okWide Tryd.prog W .any 0 u v := fun u v e => by
    subst e
    exact (hrows 4 0 (by simp [MemPlace.row])).2 u v (by simpa using World.var?_cell hg1 hv1 0)
  have ok2 : ∀ u v, l2 = [.iface u v] → Value.okWide Tryd.prog W .any 0 u v := fun u v e => by
    subst e
    exact (hrows 3 0 (by simp [MemPlace.row])).2 u v (by simpa using World.var?_cell hg2 hv2 0)
  have ok3 : ∀ u v, l3 = [.iface u v] → Value.okWide Tryd.prog W .any 0 u v := fun u v e => by
    subst e
    exact (hrows 1 0 (by simp [MemPlace.row])).2 u v (by simpa using World.var?_cell hg3 hv3 0)
  obtain ⟨a0, s0, rfl, hc0, hs0, hz0, rfl⟩ := errorString_of_trod Tryd.underlying69 Tryd.rowES Tryd.underlying154 Tryd.underlying176 rfl rfl Tryd.underlying9 Tryd.cellsES Tryd.cellsStr hd0 ok0
  obtain ⟨a1, s1, rfl, hc1, hs1, hz1, rfl⟩ := errorString_of_trod Tryd.underlying69 Tryd.rowES Tryd.underlying154 Tryd.underlying176 rfl rfl Tryd.underlying9 Tryd.cellsES Tryd.cellsStr hd1 ok1
  obtain ⟨a2, s2, rfl, hc2, hs2, hz2, rfl⟩ := errorString_of_trod Tryd.underlying69 Tryd.rowES Tryd.underlying154 Tryd.underlying176 rfl rfl Tryd.underlying9 Tryd.cellsES Tryd.cellsStr hd2 ok2
  obtain ⟨a3, s3, rfl, hc3, hs3, hz3, rfl⟩ := errorString_of_trod Tryd.underlying69 Tryd.rowES Tryd.underlying154 Tryd.underlying176 rfl rfl Tryd.underlying9 Tryd.cellsES Tryd.cellsStr hd3 ok3
  obtain ⟨c0, t0, hb0⟩ := (hrows a0.block a0.off (by simp [MemPlace.row])).1
  obtain ⟨c1, t1, hb1⟩ := (hrows a1.block a1.off (by simp [MemPlace.row])).1
  obtain ⟨c2, t2, hb2⟩ := (hrows a2.block a2.off (by simp [MemPlace.row])).1
  obtain ⟨c3, t3, hb3⟩ := (hrows a3.block a3.off (by simp [MemPlace.row])).1
  have g4 : W.cell? ⟨4, 0, none⟩ = some (.iface 154 (.pointer (some a1))) := by simpa using World.var?_cell hg1 hv1 0
  refine ⟨a0, a3, a2, a1, ⟨by simpa using World.var?_cell hg0 hv0 0, by simpa using World.var?_cell hg3 hv3 0, hT, by simpa using World.var?_cell hg2 hv2 0, g4, ⟨c0, t0, hb0⟩, ⟨c3, t3, hb3⟩, ⟨c2, t2, hb2⟩, ⟨c1, t1, hb1⟩, ?_, ?_, ?_, ?_⟩, hv0, hv2, hv1, hv3⟩
  · rintro rfl
    simp [MemPlace.row] at hnd
  · rintro rfl
    simp [MemPlace.row] at hnd
  · rintro rfl
    simp [MemPlace.row] at hnd
  · exact ⟨World.block_lt_of_cell? W ⟨4, 0, none⟩ g4, block_lt hb0, block_lt hb3, block_lt hb2, block_lt hb1⟩

theorem vars_read4 {H : Type} (enc : TypeId × Value → H) {W : World} {aE aM aS aL : Addr} (h0 : W.var? Tryd.prog "loop.example/g00695/impl.errEnd" = some #[.iface 154 (.pointer (some aE))]) (h1 : W.var? Tryd.prog "loop.example/g00695/impl.errShorter" = some #[.iface 154 (.pointer (some aS))])
    (h2 : W.var? Tryd.prog "loop.example/g00695/impl.errEndless" = some #[.iface 154 (.pointer (some aL))]) (h3 : W.var? Tryd.prog "loop.example/g00695/impl.errManySeals" = some #[.iface 154 (.pointer (some aM))]) (sp : Nat → Bool) :
    DataW.TrodVars enc Tryd.prog W sp ["loop.example/g00695/impl.errEnd", "loop.example/g00695/impl.errShorter", "loop.example/g00695/impl.errEndless", "loop.example/g00695/impl.errManySeals"]
      [tok enc (.iface 154 (.pointer (some aE))), tok enc (.iface 154 (.pointer (some aS))), tok enc (.iface 154 (.pointer (some aL))), tok enc (.iface 154 (.pointer (some aM)))] [.cell 0 0, .cell 3 0, .cell 4 0, .cell 1 0] :=
  ⟨0, 69, #[.iface 154 (.pointer (some aE))], 1, [], _, Tryd.gE, Tryd.tE, h0, trod_held Tryd.underlying69 (show IsIface (.iface 154 (.pointer (some aE))) from trivial) 0, ⟨3, 69, #[.iface 154 (.pointer (some aS))], 1, [], _, Tryd.gS, Tryd.tS, h1, trod_held Tryd.underlying69 (show IsIface (.iface 154 (.pointer (some aS))) from trivial) 0, ⟨4, 69, #[.iface 154 (.pointer (some aL))], 1, [], _, Tryd.gL, Tryd.tL, h2, trod_held Tryd.underlying69 (show IsIface (.iface 154 (.pointer (some aL))) from trivial) 0, ⟨1, 69, #[.iface 154 (.pointer (some aM))], 1, [], [], Tryd.gM, Tryd.tM, h3, trod_held Tryd.underlying69 (show IsIface (.iface 154 (.pointer (some aM))) from trivial) 0, rfl, rfl⟩, rfl⟩, rfl⟩, rfl⟩
theorem var_below {W W' : World} {n : String} {g : Nat} {cs : Array Value} (hg : Tryd.prog.globalNamed n = some g) (h : W.var? Tryd.prog n = some cs) (hb : Below W.heap.size W W') : W'.var? Tryd.prog n = some cs := by
  rw [← h]
  unfold World.var?
  rw [hg]
  simp only [Option.bind_some]
  have hlt : g < W.heap.size := by
    rcases Nat.lt_or_ge g W.heap.size with h' | h'
    · exact h'
    · unfold World.var? at h; rw [hg] at h; simp [Array.getElem?_eq_none h'] at h
  rw [hb.block g hlt]

end Go.Proofs.YtgjbebfcbpfngaaDoor

/- What a card's frame is built of: a world that meets the condition on the errors; bytes that come in, read as a list. -/
namespace Go.Proofs.YtgjbebfcbpfngaaDoor
set_option maxRecDepth 100000
open Go.ChangeShapes Go.WideShapes Go.ChangeAt Go.RowKit
set_option linter.unusedVariables false

theorem ownC : ownKnob Tryd.prog.godebug = none := by kernel_rfl
theorem laidOutC : laidOutB Tryd.prog = true := by kernel_rfl
noncomputable def low : Nat := (World.holding Tryd.prog default ⟨#[], #[], []⟩).heap.size
abbrev endS : ByteArray := { data := #[116, 104, 101, 114, 101, 32, 105, 115, 32, 110, 111, 32, 98, 121, 116, 101, 32, 108, 101, 102, 116] }
abbrev endlessS : ByteArray := { data := #[116, 104, 101, 32, 110, 117, 109, 98, 101, 114, 32, 104, 97, 115, 32, 110, 111, 32, 108, 97, 115, 116, 32, 98, 121, 116, 101, 32, 119, 104, 101, 114, 101, 32, 105, 116, 32, 109, 117, 115, 116, 32, 104, 97, 118, 101, 32, 111, 110, 101] }
abbrev shorterS : ByteArray := { data := #[116, 104, 101, 32, 110, 117, 109, 98, 101, 114, 32, 99, 111, 117, 108, 100, 32, 98, 101, 32, 115, 104, 111, 114, 116, 101, 114] }
abbrev manyS : ByteArray := { data := #[116, 104, 101, 114, 101, 32, 97, 114, 101, 32, 109, 111, 114, 101, 32, 83, 101, 97, 108, 115, 32, 116, 104, 97, 110, 32, 109, 97, 121, 32, 98, 101] }
def layAt (v : Value) : Obj → Obj
  | .cells _ t frozen => .cells #[v] t frozen
  | o => o
/-- A world that meets the condition. -/
noncomputable def laidWorld (os : Os) : World :=
  let w0 := World.holding Tryd.prog os ⟨#[.cells #[.string endS] 176, .cells #[.string endlessS] 176, .cells #[.string shorterS] 176, .cells #[.string manyS] 176], #[], []⟩
  { w0 with heap := ((((w0.heap.modify 2 (layAt (.iface 139 (.agg #[.pointer (some ⟨5, 69, none⟩)])))).modify 0 (layAt (.iface 154 (.pointer (some ⟨low, 0, none⟩))))).modify 4 (layAt (.iface 154 (.pointer (some ⟨low + 1, 0, none⟩))))).modify 3 (layAt (.iface 154 (.pointer (some ⟨low + 2, 0, none⟩))))).modify 1 (layAt (.iface 154 (.pointer (some ⟨low + 3, 0, none⟩)))) }
theorem laidWorld_met (os : Os) (args : Array Value) : laidMetH Tryd.prog laidL ((laidWorld os).forCall (fun _ _ => 0) ⟨#[], args, []⟩).memory :=
  laidMetH_of_parts (laidMet_of_run' 8 (by kernel_rfl) (by kernel_rfl)) (by kernel_rfl)

/-- What the reading of bytes that came in tells: their list. -/
theorem bytes_readL {H : Type} {enc : TypeId × Value → H} {W : World} {r : Reach} {b0 : Nat} {v : Value} {d : DataW H} {p : List MemPlace} (hv : Value.okWide Tryd.prog W r b0 22 v) (h : DataW.Trod enc Tryd.prog W 0 (fun _ => true) true 22 v d p) :
    ∃ (A : Option Addr) (n cap : Nat) (bs : List Int), v = .slice A n cap ∧ BRow W W.heap.size A n bs ∧ Bys bs ∧ n ≤ maxLen := by
  obtain ⟨a0, len0, cap0, rfl⟩ := okWide_slice Tryd.underlying22 hv
  obtain ⟨fuel, hf⟩ := h
  rcases open_ints Tryd.underlying22 Tryd.underlying5 (by kernel_rfl) hf with ⟨e4, _⟩ | ⟨a, len, cap, zs, e4, _, hl, hm, hz, _, hcell, hwz⟩
  · simp [Value.cells] at e4
    obtain ⟨rfl, rfl, rfl⟩ := e4
    exact ⟨none, 0, 0, [], rfl, ⟨rfl, fun h => absurd h (by omega)⟩, fun x hx => by simp at hx, by unfold maxLen; omega⟩
  · simp [Value.cells] at e4
    obtain ⟨rfl, rfl, rfl⟩ := e4
    have hzc : zs.length = cap0 := by simpa using hz
    refine ⟨_, _, _, zs.take len0, rfl, ⟨by simp; omega, fun hn => ?_⟩, fun x hx => ?_, by omega⟩
    · obtain ⟨b, o, spot⟩ := a
      have hc0 := hcell 0 (by omega)
      have hs : spot = none := by simpa [Addr.add] using World.cell?_spot hc0
      subst hs
      refine ⟨b, o, rfl, ?_, fun i hi => ?_⟩
      · have := block_lt_of_cell hc0
        simpa [Addr.add] using this
      · have hci := hcell i (by omega)
        have ea : (⟨b, o, none⟩ : Addr).add i = ⟨b, o + i, none⟩ := by
          unfold Addr.add
          split
          · simp_all
          · rfl
        rw [ea] at hci
        rw [hci]
        congr 2
        simp [nth, hi]
    · have hb := bounds_u8 (hwz _ (List.mem_of_mem_take hx))
      exact ⟨hb.1, by have := hb.2; omega⟩

end Go.Proofs.YtgjbebfcbpfngaaDoor
