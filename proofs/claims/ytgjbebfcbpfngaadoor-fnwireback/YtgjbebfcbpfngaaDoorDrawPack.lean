/- What DrawNoteOk, the draw of a group and a note out of the code, leaves; the bytes can be read (written by draw_any.py). -/
import Derived.Test.YtgjbebfcbpfngaaDoorDrawNote4
namespace Go.Proofs.YtgjbebfcbpfngaaDoor
open Go.RowKit

/-- What the draw of a group and a note out of the code leaves. -/
def MadeGN (w : World) (e : Ending) (w' : World) : Prop :=
  ∃ (s l c sh : Int) (q o m cap' : Nat) (zs : List Int) (N : Array Value) (cv mv : Value), e = .returned (.tuple #[.agg #[.int .i64 s, .int .i64 l, .int .i64 c, .int .i64 sh, .slice (some ⟨q, o, none⟩) m cap'], .agg N]) ∧ Row w' w'.heap.size (some ⟨q, o, none⟩) m zs ∧ m ≤ 100 ∧ Shape N cv mv ∧ Lst w' w.heap.size 21 cv ∧ Lst w' w.heap.size 20 mv ∧ Below w.heap.size w w'

theorem results_two {P : Program} {fn : Func} {x y : Tmp} {ty ty' : TypeId} (h : fn.results = #[.cell x ty, .cell y ty']) (tmps : Array Value) (w : World) (g g' : Nat) (t t' : TypeId) (cs cs' : Array Value) (d d' : TypeDesc)
    (hx : tmps.getD x undef = .pointer (some ⟨g, 0, none⟩)) (hy : tmps.getD y undef = .pointer (some ⟨g', 0, none⟩)) (hg : Box w g t cs) (hg' : Box w g' t' cs')
    (hu : P.underlying ty = some d) (hd : (match d with | .struct _ | .array _ _ => true | _ => false) = true) (hi : (P.info? ty).map (·.size) = some cs.size)
    (hu' : P.underlying ty' = some d') (hd' : (match d' with | .struct _ | .array _ _ => true | _ => false) = true) (hi' : (P.info? ty').map (·.size) = some cs'.size) :
    (results fn tmps).run P w = .ok (.tuple #[.agg cs, .agg cs']) w := by
  have ex : tmps[x]?.getD undef = .pointer (some ⟨g, 0, none⟩) := by simpa using hx
  have ey : tmps[y]?.getD undef = .pointer (some ⟨g', 0, none⟩) := by simpa using hy
  simp [results, h, ex, ey, asAddr, run_loadVar_row w g t ty cs (0, 0) d hg hu hd hi, run_loadVar_row w g' t' ty' cs' (0, 0) d' hg' hu' hd' hi']

theorem infoG : (Tryd.prog.info? 26).map (·.size) = some 5 := by kernel_rfl

end Go.Proofs.YtgjbebfcbpfngaaDoor

/- What DrawPackNote, the draw of a group and a note out of the code, leaves; the bytes can be read. -/
namespace Go.Proofs.YtgjbebfcbpfngaaDoor
open Go.RowKit

set_option maxRecDepth 100000 in
set_option maxHeartbeats 4000000 in
theorem drawPack_any (A : Option Addr) (n cap : Nat) (w : World) (hn : n ≤ 4096) (hB : Bytes w w.heap.size A n) :
    Calls Tryd.prog 7 #[.slice A n cap] w (MadeGN w) := by
  have E0 := bel_trans (bel_alloc w (.cells ZG 26)) (bel_alloc _ (.cells ZN 31))
  have R1 := (Box.new w 26 ZG).alloc (.cells ZN 31)
  have R2 := Box.new (w.alloc (.cells ZG 26)) 31 ZN
  simp only [World.size_alloc] at R2
  have B0 := (hB.below E0 (Nat.le_refl _)).more E0.size
  clear hB
  go_enter Tryd.func7, Tryd.ntmps7
  go_upto_region 1 with fail
  rw [show (#[.int .i64 0, .int .i64 0, .int .i64 0, .int .i64 0, .int .i64 0, .int .i64 0, .int .i64 0, .int .i64 0, .int .i64 0, .int .i64 0, .int .i64 0, .slice none 0 0, .slice none 0 0, .int .i64 0, .int .i64 0, .int .i64 0] : Array Value) = ZN from rfl, show (#[.int .i64 0, .int .i64 0, .int .i64 0, .int .i64 0, .slice none 0 0] : Array Value) = ZG from rfl]
  generalize ((w.alloc _).alloc _ : World) = w0 at E0 R1 R2 B0 ⊢
  have HB := Lib.hid B0
  clear B0
  go_wp2_with fail
  refine (l1New_any A n cap w0 hn HB.out).mono ?_
  rintro e w1 ⟨g, hg, rfl, hc1, hb1⟩
  have S1 := R1.later hb1 R1.lt
  have S2 := R2.later hb1 R2.lt
  have E1 := bel_trans E0 hb1
  have hz := R2.lt
  have hs1 := hb1.size
  clear R1 R2 E0 hb1 HB
  go_wp2_with fail
  refine (l5DrawAny_any g A n cap w1 hc1).mono ?_
  rintro e w2 ⟨s, l, c, sh, q, o, m, cap', zs, N, cv, mv, rfl, hrow, hm, hq2, hsh, hcer, hmor, hc2, hg2⟩
  have T1 := S1.kept hg2 (by intro e; injection e with e; omega)
  have T2 := S2.kept hg2 (by intro e; injection e with e; omega)
  have E2 := bel_grown E1 hg2 (by omega)
  have G1 := grown5 w2 w.heap.size (.int .i64 s) (.int .i64 l) (.int .i64 c) (.int .i64 sh) (.slice (some ⟨q, o, none⟩) m cap')
  obtain ⟨r0, r1, r2, r3, r4⟩ := Box.five (show Box w2 w.heap.size 26 #[.int .i64 0, .int .i64 0, .int .i64 0, .int .i64 0, .slice none 0 0] from T1)
  have f1 := T1.frozen
  have X1 := (show Box w2 w.heap.size 26 #[.int .i64 0, .int .i64 0, .int .i64 0, .int .i64 0, .slice none 0 0] from T1).put5 (.int .i64 s) (.int .i64 l) (.int .i64 c) (.int .i64 sh) (.slice (some ⟨q, o, none⟩) m cap')
  have X2 := T2.kept G1 (by intro e; injection e with e; omega)
  have rowx := hrow.kept G1 (by intro e; injection e with e; omega)
  have cx := hcer.kept G1 (.inr (ne_of_lt hcer (by omega)))
  have mx := hmor.kept G1 (.inr (ne_of_lt hmor (by omega)))
  have E3 := bel_grown E2 G1 (Nat.le_refl _)
  clear S1 S2 T1 T2 E1 E2 hc1 hc2 hg2 hrow hcer hmor
  have HI := Lib.hid hsh.info
  have HS := Lib.hid (show ZN.size = N.size from hsh.size.symm)
  have H1 := Lib.hid (hsh.one cx.one mx.one)
  have HX2 := Lib.hid X2
  have G2 := grown_setRow (grown_refl (((((w2.setCell ⟨w.heap.size, 0, none⟩ (.int .i64 s)).setCell ⟨w.heap.size, 1, none⟩ (.int .i64 l)).setCell ⟨w.heap.size, 2, none⟩ (.int .i64 c)).setCell ⟨w.heap.size, 3, none⟩ (.int .i64 sh)).setCell ⟨w.heap.size, 4, none⟩ (.slice (some ⟨q, o, none⟩) m cap')) (some (w.heap.size + 1))) N
  have Y1 := Lib.hid (X1.kept G2 (by intro e; injection e with e; omega))
  have Y2 := Lib.hid (X2.setRow N)
  have RW := Lib.hid (rowx.kept G2 (by intro e; injection e with e; omega))
  have CX := Lib.hid ((cx.kept G2 (.inr (ne_of_lt cx (by omega)))).base (B' := w.heap.size) (by omega))
  have MX := Lib.hid ((mx.kept G2 (.inr (ne_of_lt mx (by omega)))).base (B' := w.heap.size) (by omega))
  have EX := Lib.hid (bel_grown E3 G2 (by omega))
  clear X1 X2 rowx cx mx E3 G1 G2
  go_wp2_with ((with_reducible refine wpList_store_row rfl 31 _ _ rfl (w.heap.size + 1) N rfl rfl 31 ZN ?_ HI.out HS.out H1.out ?_); exact HX2.out)
  exact bodyPost_ret (results_two Tryd.results7 _ _ w.heap.size (w.heap.size + 1) 26 31 _ _ _ _ rfl rfl Y1.out Y2.out Tryd.underlying26 rfl infoG Tryd.underlying31 rfl HI.out) rfl ⟨s, l, c, sh, q, o, m, cap', zs, N, cv, mv, rfl, RW.out, hm, hsh, CX.out, MX.out, EX.out⟩

end Go.Proofs.YtgjbebfcbpfngaaDoor
