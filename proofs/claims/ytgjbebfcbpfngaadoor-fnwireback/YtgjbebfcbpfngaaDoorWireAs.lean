/- errors.As where the error is a fault and the target a variable of that type: its contract; the condition is that the variable lies whole in a block of its own. -/
import Derived.Test.YtgjbebfcbpfngaaDoorWireErr
import Derived.Test.YtgjbebfcbpfngaaDoorBase
namespace Go.Proofs.YtgjbebfcbpfngaaDoor
open Go.RowKit Go.Extern.Stop Go.Stop Go.Extern

theorem Tryd.valueOfT (t : Addr) (w : World) : (ReflectliteValue.unpack (.iface 103 (.pointer (some t)))).run Tryd.prog w
    = .ok (.agg #[.pointer (some ⟨5, 103, none⟩), .pointer (some ⟨w.heap.size, 0, none⟩), .int .u64 150]) (w.alloc (.cells #[.pointer (some t)] 103)) := by kernel_rfl
theorem Tryd.typeT (a : Addr) (w : World) : (ReflectliteValue.methodAny (ReflectliteValue.valueError "reflectlite.Value.Type" 0) (fun t _ _ _ => ReflectliteType.toType t) #[.agg #[.pointer (some ⟨5, 103, none⟩), .pointer (some a), .int .u64 150]]).run Tryd.prog w
    = .ok (.iface 139 (.agg #[.pointer (some ⟨5, 103, none⟩)])) w := by kernel_rfl
theorem Tryd.methodKind (h : Value) (w : World) : (Go.method 288 139 (.agg #[h]) "Kind").run Tryd.prog w = .ok (127, h) w := by kernel_rfl
def kindF : Array Value → Sem Value := ReflectliteType.abiMethod fun t => do pure (.int .u8 (← Rtype.kind t))
theorem Tryd.kindT (w : World) : (kindF #[.pointer (some ⟨5, 103, none⟩)]).run Tryd.prog w = .ok (.int .u8 22) w := by kernel_rfl
theorem Tryd.kindV (w : World) : (kindF #[.pointer (some ⟨5, 100, none⟩)]).run Tryd.prog w = .ok (.int .u8 25) w := by kernel_rfl
theorem rlm (z : Sem Value) (f : TypeId → Addr → Nat → Nat → Sem Value) (v : Value) :
    ReflectliteValue.method z f #[v] = (do match ← ReflectliteValue.parts v with | none => z | some (t, a, fl) => f t a fl (fl % 32)) := rfl
theorem Tryd.partsT (a : Addr) (w : World) : (ReflectliteValue.parts (.agg #[.pointer (some ⟨5, 103, none⟩), .pointer (some a), .int .u64 150])).run Tryd.prog w = .ok (some (103, a, 150)) w := by kernel_rfl
theorem Tryd.isNilT (a p : Addr) (W : World) (ha : W.cell? a = some (.pointer (some p))) :
    (ReflectliteValue.method (ReflectliteValue.valueError "reflectlite.Value.IsNil" 0) ReflectliteValue.isNil #[.agg #[.pointer (some ⟨5, 103, none⟩), .pointer (some a), .int .u64 150]]).run Tryd.prog W = .ok (.bool false) W := by
  rw [rlm]
  simp only [Sem.run_bind, Tryd.partsT, Result.andThen]
  simp [ReflectliteValue.isNil, loadVar, isAgg, underlying, Tryd.underlying103, ha, Result.andThen]
theorem Tryd.methodElem (h : Value) (w : World) : (Go.method 288 139 (.agg #[h]) "Elem").run Tryd.prog w = .ok (138, .agg #[h]) w := by kernel_rfl
theorem Tryd.methodImplements (h : Value) (w : World) : (Go.method 288 139 (.agg #[h]) "Implements").run Tryd.prog w = .ok (139, .agg #[h]) w := by kernel_rfl
theorem Tryd.methodAssignableTo (h : Value) (w : World) : (Go.method 288 139 (.agg #[h]) "AssignableTo").run Tryd.prog w = .ok (136, .agg #[h]) w := by kernel_rfl
theorem Tryd.elemT (w : World) : (ReflectliteType.method ReflectliteType.elem #[.agg #[.pointer (some ⟨5, 103, none⟩)]]).run Tryd.prog w = .ok (.iface 139 (.agg #[.pointer (some ⟨5, 100, none⟩)])) w := by kernel_rfl
theorem Tryd.implementsV (w : World) : (ReflectliteType.relation "Implements" ReflectliteType.implements_ #[.agg #[.pointer (some ⟨5, 100, none⟩)], .iface 139 (.agg #[.pointer (some ⟨5, 69, none⟩)])]).run Tryd.prog w = .ok (.bool true) w := by kernel_rfl
theorem Tryd.typeOfV (v : Value) (w : World) : (ReflectliteType.typeOf #[.iface 100 v]).run Tryd.prog w = .ok (.iface 139 (.agg #[.pointer (some ⟨5, 100, none⟩)])) w := by kernel_rfl
theorem Tryd.assignableV (w : World) : (ReflectliteType.relation "AssignableTo" ReflectliteType.assignableTo #[.agg #[.pointer (some ⟨5, 100, none⟩)], .iface 139 (.agg #[.pointer (some ⟨5, 100, none⟩)])]).run Tryd.prog w = .ok (.bool true) w := by kernel_rfl
theorem Tryd.valueOfV (k : Int) (p : Addr) (w : World) : (ReflectliteValue.unpack (.iface 100 (.agg #[.int .i64 k, .iface 154 (.pointer (some p))]))).run Tryd.prog w
    = .ok (.agg #[.pointer (some ⟨5, 100, none⟩), .pointer (some ⟨w.heap.size, 0, none⟩), .int .u64 153]) (w.alloc (.cells #[.int .i64 k, .iface 154 (.pointer (some p))] 100)) := by kernel_rfl
theorem Tryd.elemOfT (w : World) : (Rtype.elem? 103).run Tryd.prog w = .ok (some 100) w := by kernel_rfl
theorem Tryd.mkV (p : Addr) (w : World) : (ReflectliteValue.mk 100 p ReflectliteValue.flagAddr).run Tryd.prog w = .ok (.agg #[.pointer (some ⟨5, 100, none⟩), .pointer (some p), .int .u64 409]) w := by kernel_rfl
theorem Tryd.elemVT (a p : Addr) (W : World) (ha : W.cell? a = some (.pointer (some p))) :
    (ReflectliteValue.method (ReflectliteValue.valueError "reflectlite.Value.Elem" 0) ReflectliteValue.elem #[.agg #[.pointer (some ⟨5, 103, none⟩), .pointer (some a), .int .u64 150]]).run Tryd.prog W
      = .ok (.agg #[.pointer (some ⟨5, 100, none⟩), .pointer (some p), .int .u64 409]) W := by
  rw [rlm]
  simp only [Sem.run_bind, Tryd.partsT, Result.andThen]
  simp [ReflectliteValue.elem, loadVar, isAgg, underlying, Tryd.underlying103, ha, Result.andThen, Tryd.elemOfT, Tryd.mkV]
theorem rls (v x : Value) : ReflectliteValue.set #[v, x] = (do
    let (some (dst, a, fl), some (src, b, _)) := (← ReflectliteValue.parts v, ← ReflectliteValue.parts x)
      | unsupported (.noEntry "extern/(internal/reflectlite.Value).Set.zeroValue")
    if fl / ReflectliteValue.flagAddr % 2 == 0 then unsupported (.noEntry "extern/(internal/reflectlite.Value).Set.unaddressable")
    let val ← loadVar src b
    if ← Rtype.directlyAssignable dst src then storeVar dst a val
    else if ← Rtype.implements dst src then
      if (← Rtype.kind src) == 20 then
        match val with
        | .nilIface => unsupported (.noEntry "extern/reflectlite: a nil value of one interface type handed on as a value of another")
        | _ => storeVar dst a val
      else storeVar dst a (.iface src val)
    else panicString ("reflectlite.Set: value of type " ++ (← Rtype.spelt src) ++ " is not assignable to type " ++ (← Rtype.spelt dst))
    pure (.tuple #[])) := rfl
theorem Tryd.partsVa (a : Addr) (w : World) : (ReflectliteValue.parts (.agg #[.pointer (some ⟨5, 100, none⟩), .pointer (some a), .int .u64 409])).run Tryd.prog w = .ok (some (100, a, 409)) w := by kernel_rfl
theorem Tryd.partsV (a : Addr) (w : World) : (ReflectliteValue.parts (.agg #[.pointer (some ⟨5, 100, none⟩), .pointer (some a), .int .u64 153])).run Tryd.prog w = .ok (some (100, a, 153)) w := by kernel_rfl
theorem Tryd.directV (w : World) : (Rtype.directlyAssignable 100 100).run Tryd.prog w = .ok true w := by kernel_rfl
theorem Tryd.sizeV (w : World) : (sizeOf 100).run Tryd.prog w = .ok 2 w := by kernel_rfl
/-- (Value).Set: the variable in block T gets what the Value's own variable in block B holds. -/
theorem Tryd.setV (T B : Nat) (x y u v : Value) (W : World) (hb0 : W.cell? ⟨B, 0, none⟩ = some u) (hb1 : W.cell? ⟨B, 1, none⟩ = some v) (ht0 : W.cell? ⟨T, 0, none⟩ = some x) (ht1 : W.cell? ⟨T, 1, none⟩ = some y) (hf : ∀ i, W.frozen? ⟨T, i, none⟩ = false) (hu : u.oneCell' = true) (hv : v.oneCell' = true) :
    (ReflectliteValue.set #[.agg #[.pointer (some ⟨5, 100, none⟩), .pointer (some ⟨T, 0, none⟩), .int .u64 409], .agg #[.pointer (some ⟨5, 100, none⟩), .pointer (some ⟨B, 0, none⟩), .int .u64 153]]).run Tryd.prog W
      = .ok (.tuple #[]) ((W.setCell ⟨T, 0, none⟩ u).setCell ⟨T, 1, none⟩ v) := by
  rw [rls]
  simp only [Sem.run_bind, Tryd.partsVa, Tryd.partsV, Result.andThen]
  have hl : (loadCells ⟨B, 0, none⟩ 2).run Tryd.prog W = .ok #[u, v] W := by
    have := run_loadCells_list (P := Tryd.prog) W ⟨B, 0, none⟩ [u, v] (fun j z hz => by
      rcases j with _ | _ | j
      · cases hz; exact hb0
      · cases hz; exact hb1
      · cases hz)
    simpa using this
  simp [ReflectliteValue.flagAddr, loadVar, isAgg, underlying, Tryd.underlying100, hl, Result.andThen, Tryd.directV, storeVar, Value.cells, storeCells, Addr.add]
  rw [run_store Tryd.prog W ⟨T, 0, none⟩ u _ (by simpa [Value.oneCell'] using hu)]
  have h1 : (W.setCell ⟨T, 0, none⟩ u).cell? ⟨T, 1, none⟩ = some y := by
    rw [World.cell?_setCell_other _ _ _ _ (by intro e; injection e with _ e; cases e)]; exact ht1
  have h2 : (W.setCell ⟨T, 0, none⟩ u).frozen? ⟨T, 1, none⟩ = false := by simpa using hf 1
  simp only [ht0, hf 0, Bool.false_eq_true, if_false]
  rw [run_store Tryd.prog (W.setCell ⟨T, 0, none⟩ u) ⟨T, 1, none⟩ v _ (by simpa [Value.oneCell'] using hv)]
  simp only [h1, h2, Bool.false_eq_true, if_false]

set_option maxHeartbeats 4000000 in
/-- errors.As(f, &x), f a fault, x a variable of that type: x is f. -/
theorem as_fault (k : Int) (p : Addr) (T : Nat) (x y : Value) (w : World) (hg : w.cell? ⟨2, 0, none⟩ = some (.iface 139 (.agg #[.pointer (some ⟨5, 69, none⟩)]))) (hT : Box w T 100 #[x, y]) :
    Calls Tryd.prog 80 #[.iface 100 (.agg #[.int .i64 k, .iface 154 (.pointer (some p))]), .iface 103 (.pointer (some ⟨T, 0, none⟩))] w
      fun e w' => e = .returned (.bool true) ∧ Box w' T 100 #[.int .i64 k, .iface 154 (.pointer (some p))] ∧ w.grownBy w' (some T) := by
  have h6 := @run_callFunc_extern Tryd.prog 102 _ (fun args => ReflectliteValue.unpack (args.getD 0 (.tuple #[]))) Tryd.func102 (by kernel_rfl) (by kernel_rfl) (by kernel_rfl) (by kernel_rfl)
  have h7 := @run_callFunc_extern Tryd.prog 103 _ (ReflectliteValue.methodAny (ReflectliteValue.valueError "reflectlite.Value.Type" 0) (fun t _ _ _ => ReflectliteType.toType t)) Tryd.func103 (by kernel_rfl) (by kernel_rfl) (by kernel_rfl) (by kernel_rfl)
  have h8 := @run_callFunc_extern Tryd.prog 104 _ (ReflectliteValue.method (ReflectliteValue.valueError "reflectlite.Value.IsNil" 0) ReflectliteValue.isNil) Tryd.func104 (by kernel_rfl) (by kernel_rfl) (by kernel_rfl) (by kernel_rfl)
  have h27 := @run_callFunc_extern Tryd.prog 127 _ kindF Tryd.func127 (by kernel_rfl) (by kernel_rfl) (by kernel_rfl) (by kernel_rfl)
  have h37 := @run_callFunc_extern Tryd.prog 138 _ (ReflectliteType.method ReflectliteType.elem) Tryd.func138 (by kernel_rfl) (by kernel_rfl) (by kernel_rfl) (by kernel_rfl)
  have h38 := @run_callFunc_extern Tryd.prog 139 _ (ReflectliteType.relation "Implements" ReflectliteType.implements_) Tryd.func139 (by kernel_rfl) (by kernel_rfl) (by kernel_rfl) (by kernel_rfl)
  have h10 := @run_callFunc_extern Tryd.prog 100 _ ReflectliteType.typeOf Tryd.func100 (by kernel_rfl) (by kernel_rfl) (by kernel_rfl) (by kernel_rfl)
  have h35 := @run_callFunc_extern Tryd.prog 136 _ (ReflectliteType.relation "AssignableTo" ReflectliteType.assignableTo) Tryd.func136 (by kernel_rfl) (by kernel_rfl) (by kernel_rfl) (by kernel_rfl)
  have h11 := @run_callFunc_extern Tryd.prog 111 _ (ReflectliteValue.method (ReflectliteValue.valueError "reflectlite.Value.Elem" 0) ReflectliteValue.elem) Tryd.func111 (by kernel_rfl) (by kernel_rfl) (by kernel_rfl) (by kernel_rfl)
  have h12 := @run_callFunc_extern Tryd.prog 112 _ ReflectliteValue.set Tryd.func112 (by kernel_rfl) (by kernel_rfl) (by kernel_rfl) (by kernel_rfl)
  have tO := Tryd.typeOfV
  have mA := Tryd.methodAssignableTo
  have a25 := Tryd.assignableV
  have v25 := Tryd.valueOfV
  have f6 := Tryd.valueOfT
  have f7 := Tryd.typeT
  have mK := Tryd.methodKind
  have mE := Tryd.methodElem
  have mI := Tryd.methodImplements
  have k27 := Tryd.kindT
  have k25 := Tryd.kindV
  have e27 := Tryd.elemT
  have i25 := Tryd.implementsV
  have n8 := Tryd.isNilT ⟨w.heap.size, 0, none⟩ ⟨T, 0, none⟩ ((w.alloc (.cells #[.pointer (some ⟨T, 0, none⟩)] 103)).alloc (.cells #[.pointer (some ⟨5, 103, none⟩), .pointer (some ⟨w.heap.size, 0, none⟩), .int .u64 150] 127)) (by simp)
  have hlt : 2 < w.heap.size := by
    rcases Nat.lt_or_ge 2 w.heap.size with h | h
    · exact h
    · simp [World.cell?, Array.getElem?_eq_none h] at hg
  have hg2 : ((w.alloc (.cells #[.pointer (some ⟨T, 0, none⟩)] 103)).alloc (.cells #[.pointer (some ⟨5, 103, none⟩), .pointer (some ⟨w.heap.size, 0, none⟩), .int .u64 150] 127)).cell? ⟨2, 0, none⟩ = some (.iface 139 (.agg #[.pointer (some ⟨5, 69, none⟩)])) := by
    rw [World.cell?_alloc_lt _ _ ⟨2, 0, none⟩ (by simp; omega), World.cell?_alloc_lt _ _ ⟨2, 0, none⟩ hlt]; exact hg
  have el := Tryd.elemVT ⟨w.heap.size, 0, none⟩ ⟨T, 0, none⟩ (((w.alloc (.cells #[.pointer (some ⟨T, 0, none⟩)] 103)).alloc (.cells #[.pointer (some ⟨5, 103, none⟩), .pointer (some ⟨w.heap.size, 0, none⟩), .int .u64 150] 127)).alloc (.cells #[.pointer (some ⟨5, 103, none⟩), .pointer (some ⟨w.heap.size, 0, none⟩), .int .u64 150] 127)) (by rw [World.cell?_alloc_lt _ _ ⟨w.heap.size, 0, none⟩ (by simp; omega)]; simp)
  have T4 := (((hT.alloc (.cells #[.pointer (some ⟨T, 0, none⟩)] 103)).alloc (.cells #[.pointer (some ⟨5, 103, none⟩), .pointer (some ⟨w.heap.size, 0, none⟩), .int .u64 150] 127)).alloc (.cells #[.pointer (some ⟨5, 103, none⟩), .pointer (some ⟨w.heap.size, 0, none⟩), .int .u64 150] 127)).alloc (.cells #[.int .i64 k, .iface 154 (.pointer (some p))] 100)
  have G4 := grown_alloc (grown_alloc (grown_alloc (grown_alloc (grown_refl w (some T)) (.cells #[.pointer (some ⟨T, 0, none⟩)] 103)) (.cells #[.pointer (some ⟨5, 103, none⟩), .pointer (some ⟨w.heap.size, 0, none⟩), .int .u64 150] 127)) (.cells #[.pointer (some ⟨5, 103, none⟩), .pointer (some ⟨w.heap.size, 0, none⟩), .int .u64 150] 127)) (.cells #[.int .i64 k, .iface 154 (.pointer (some p))] 100)
  have st := Tryd.setV T (w.heap.size + 1 + 1 + 1) x y (.int .i64 k) (.iface 154 (.pointer (some p))) ((((w.alloc (.cells #[.pointer (some ⟨T, 0, none⟩)] 103)).alloc (.cells #[.pointer (some ⟨5, 103, none⟩), .pointer (some ⟨w.heap.size, 0, none⟩), .int .u64 150] 127)).alloc (.cells #[.pointer (some ⟨5, 103, none⟩), .pointer (some ⟨w.heap.size, 0, none⟩), .int .u64 150] 127)).alloc (.cells #[.int .i64 k, .iface 154 (.pointer (some p))] 100))
    (by rw [World.cell?_alloc_at _ _ _ _ (by simp)]; rfl) (by rw [World.cell?_alloc_at _ _ _ _ (by simp)]; rfl) (T4.cell 0) (T4.cell 1) T4.frozen rfl rfl
  have HT := Lib.hid ((T4.set 0 (.int .i64 k)).set 1 (.iface 154 (.pointer (some p))))
  have HG := Lib.hid (grown_set (grown_set G4 0 (.int .i64 k)) 1 (.iface 154 (.pointer (some p))))
  clear T4 G4
  go_enter Tryd.func80, Tryd.ntmps80
  go_wp2
  refine wp_loop_rounds 1 ?_
  rw [rounds_succ]
  go_wp2
  go_ret
  exact ⟨rfl, HT.out, HG.out⟩

end Go.Proofs.YtgjbebfcbpfngaaDoor
