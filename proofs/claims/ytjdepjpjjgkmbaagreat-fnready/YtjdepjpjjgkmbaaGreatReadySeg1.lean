/- FnReady: whatever bytes it is given, the law answers true and leaves them alone; no condition beyond the given row's own. -/
import Derived.Test.YtjdepjpjjgkmbaaGreatSpecStamp
import Derived.Test.YtjdepjpjjgkmbaaGreatBase
import Derived.Test.YtjdepjpjjgkmbaaGreatNoteShape
import Derived.Test.YtjdepjpjjgkmbaaGreatRegBase
import Derived.Test.YtjdepjpjjgkmbaaGreatDrawReady
import Derived.Test.YtjdepjpjjgkmbaaGreatReadySeg0
import Derived.Test.YtjdepjpjjgkmbaaGreatRows
import Derived.Test.YtjdepjpjjgkmbaaGreatReadsBytes
import Derived.WalkKit
import Derived.ProofKit
import Derived.OpenShut
import Derived.ShutString
import Derived.ChangeOld
import Derived.Below
import Derived.Carry
import Derived.Laws.Rows

/- Lists of seals, and notes, that are alike: what likeSeals and likeNote answer. -/
namespace Go.Proofs.YtjdepjpjjgkmbaaGreat
open Go.RowKit

set_option maxHeartbeats 1000000 in
theorem like_is (A A' : Option Addr) (n cap cap' : Nat) (ps : List (Int × Int)) (w : World) (hm : n ≤ 1048576) (hr : Pairs w w.heap.size A n ps) (hr' : Pairs w w.heap.size A' n ps) :
    Calls Tryz.prog 110 #[.slice A n cap, .slice A' n cap'] w fun e w' => e = .returned (.bool true) ∧ Below w.heap.size w w' := by
  have HR := Lib.hid hr
  have HR' := Lib.hid hr'
  clear hr hr'
  go_enter Tryz.func110, Tryz.ntmps110
  go_wp2_with fail
  go_loopw [5] (fun i wr => ∃ k : Nat, k ≤ n ∧ i = .int .i64 k ∧ Below w.heap.size w wr) (fun i _ => n - (intOf i).toNat)
  case atStart => exact ⟨0, Nat.zero_le _, rfl, Below.refl _ _⟩
  case round =>
    obtain ⟨k, hk, rfl, hb⟩ := hrel
    by_cases hlt : k < n
    · obtain ⟨b, o, hA, hbB, hcell⟩ := HR.out.2 (by omega)
      obtain ⟨b', o', hA', hbB', hcell'⟩ := HR'.out.2 (by omega)
      subst hA hA'
      obtain ⟨g0, g1⟩ := hcell k hlt
      obtain ⟨h0, h1⟩ := hcell' k hlt
      have hz := hb.size
      have g0 := After.cell (w := wr) (a := ⟨b, o + k * 2, none⟩) (by simp; omega) ((hb.cell (p := ⟨b, o + k * 2, none⟩) hbB).trans g0)
      have g1 := After.cell (w := wr) (a := ⟨b, o + k * 2 + 1, none⟩) (by simp; omega) ((hb.cell (p := ⟨b, o + k * 2 + 1, none⟩) hbB).trans g1)
      have h0 := After.cell (w := wr) (a := ⟨b', o' + k * 2, none⟩) (by simp; omega) ((hb.cell (p := ⟨b', o' + k * 2, none⟩) hbB').trans h0)
      have h1 := After.cell (w := wr) (a := ⟨b', o' + k * 2 + 1, none⟩) (by simp; omega) ((hb.cell (p := ⟨b', o' + k * 2 + 1, none⟩) hbB').trans h1)
      generalize pth ps k = x at g0 g1 h0 h1
      obtain ⟨x, y⟩ := x
      have hlt' : (k : Int) < (n : Int) := by omega
      clear hcell hcell'
      go_wp2_with fail
      refine wp_region_after (by kernel_rfl) (by kernel_rfl) ?_
      repeat (first | go_big_quiet_step (fail) | quiet_step (fail))
      refine wpQuiet_nil ?_
      intro pw
      have E3 := bel_trans hb pw.bel
      go_wp2
      go_roundw
      case rel => exact ⟨k + 1, by omega, by go_num, E3⟩
      case measure => simp [intOf]; omega
    · go_wp2
      go_ret
      exact ⟨rfl, hb⟩

end Go.Proofs.YtjdepjpjjgkmbaaGreat

/- laws.likeReg on two shelves that read alike. -/
namespace Go.Proofs.YtjdepjpjjgkmbaaGreat
open Go.RowKit

set_option maxRecDepth 100000 in
set_option maxHeartbeats 4000000 in
theorem likeReg_is (rt rq rv : Int) (P : Option Addr) (p pc : Nat) (Q : Option Addr) (q qc : Nat) (P' : Option Addr) (pc' : Nat) (Q' : Option Addr) (qc' : Nat) (ps : List (Int × Int)) (os : List Opn) (w : World) (hp : p ≤ 1048576) (hq : q ≤ 1048576) (h1 : Pairs w w.heap.size P p ps) (h2 : Quads w w.heap.size Q q os) (h3 : Pairs w w.heap.size P' p ps) (h4 : Quads w w.heap.size Q' q os) :
    Calls Tryz.prog 54 #[.agg #[.int .i64 rt, .int .i64 rq, .int .i64 rv, .slice P p pc, .slice Q q qc], .agg #[.int .i64 rt, .int .i64 rq, .int .i64 rv, .slice P' p pc', .slice Q' q qc']] w fun e w' => e = .returned (.bool true) ∧ Below w.heap.size w w' := by
  have X0 := (Box.new w 80 #[.int .i64 rt, .int .i64 rq, .int .i64 rv, .slice P p pc, .slice Q q qc]).alloc (.cells #[.int .i64 rt, .int .i64 rq, .int .i64 rv, .slice P' p pc', .slice Q' q qc'] 80)
  have Y0 := Box.new (w.alloc (.cells #[.int .i64 rt, .int .i64 rq, .int .i64 rv, .slice P p pc, .slice Q q qc] 80)) 80 #[.int .i64 rt, .int .i64 rq, .int .i64 rv, .slice P' p pc', .slice Q' q qc']
  simp only [World.size_alloc] at Y0
  have E0 := bel_trans (bel_alloc w (.cells #[.int .i64 rt, .int .i64 rq, .int .i64 rv, .slice P p pc, .slice Q q qc] 80)) (bel_alloc _ (.cells #[.int .i64 rt, .int .i64 rq, .int .i64 rv, .slice P' p pc', .slice Q' q qc'] 80))
  have H1 := Lib.hid (h1.later E0)
  have H2 := Lib.hid (h2.later E0)
  have H3 := Lib.hid (h3.later E0)
  have H4 := Lib.hid (h4.later E0)
  clear h1 h2 h3 h4
  go_enter Tryz.func54, Tryz.ntmps54
  go_wp2_with fail
  generalize ((w.alloc _).alloc _ : World) = w0 at X0 Y0 E0 H1 H2 H3 H4 ⊢
  refine (like_is P P' p pc pc' ps w0 hp H1.out H3.out).mono ?_
  rintro e w1 ⟨rfl, hb⟩
  have X1 := X0.later hb X0.lt
  have Y1 := Y0.later hb Y0.lt
  have E1 := bel_trans E0 hb
  replace H2 := Lib.hid (H2.out.later hb)
  replace H4 := Lib.hid (H4.out.later hb)
  have c1 := X1.cell 4
  have c2 := Y1.cell 4
  clear X0 Y0 E0 hb H1 H3
  go_wp2_with fail
  clear c1 c2
  have hzw := E1.size
  go_loopw [5] (fun i wr => ∃ k : Nat, k ≤ q ∧ i = .int .i64 k ∧ Below w1.heap.size w1 wr) (fun i _ => q - (intOf i).toNat)
  case atStart => exact ⟨0, Nat.zero_le _, rfl, Below.refl _ _⟩
  case round =>
    obtain ⟨k, hk, rfl, hb⟩ := hrel
    have c1 := (X1.later hb X1.lt).cell 4
    have c2 := (Y1.later hb Y1.lt).cell 4
    have x1 := X1.lt
    have x2 := Y1.lt
    have hz := hb.size
    by_cases hlt : k < q
    · obtain ⟨b, o, hA, hbB, hcell⟩ := H2.out.2 (by omega)
      obtain ⟨b', o', hA', hbB', hcell'⟩ := H4.out.2 (by omega)
      subst hA hA'
      obtain ⟨g0, g1, g2, g3⟩ := hcell k hlt
      obtain ⟨h0, h1, h2, h3⟩ := hcell' k hlt
      have c1 := After.cell (w := wr) (a := ⟨w.heap.size, 4, none⟩) (by simp; omega) c1
      have c2 := After.cell (w := wr) (a := ⟨w.heap.size + 1, 4, none⟩) (by simp; omega) c2
      have g0 := After.cell (w := wr) (a := ⟨b, o + k * 4, none⟩) (by simp; omega) ((hb.cell (p := ⟨b, o + k * 4, none⟩) hbB).trans g0)
      have g1 := After.cell (w := wr) (a := ⟨b, o + k * 4 + 1, none⟩) (by simp; omega) ((hb.cell (p := ⟨b, o + k * 4 + 1, none⟩) hbB).trans g1)
      have g2 := After.cell (w := wr) (a := ⟨b, o + k * 4 + 2, none⟩) (by simp; omega) ((hb.cell (p := ⟨b, o + k * 4 + 2, none⟩) hbB).trans g2)
      have g3 := After.cell (w := wr) (a := ⟨b, o + k * 4 + 3, none⟩) (by simp; omega) ((hb.cell (p := ⟨b, o + k * 4 + 3, none⟩) hbB).trans g3)
      have h0 := After.cell (w := wr) (a := ⟨b', o' + k * 4, none⟩) (by simp; omega) ((hb.cell (p := ⟨b', o' + k * 4, none⟩) hbB').trans h0)
      have h1 := After.cell (w := wr) (a := ⟨b', o' + k * 4 + 1, none⟩) (by simp; omega) ((hb.cell (p := ⟨b', o' + k * 4 + 1, none⟩) hbB').trans h1)
      have h2 := After.cell (w := wr) (a := ⟨b', o' + k * 4 + 2, none⟩) (by simp; omega) ((hb.cell (p := ⟨b', o' + k * 4 + 2, none⟩) hbB').trans h2)
      have h3 := After.cell (w := wr) (a := ⟨b', o' + k * 4 + 3, none⟩) (by simp; omega) ((hb.cell (p := ⟨b', o' + k * 4 + 3, none⟩) hbB').trans h3)
      generalize oth os k = x at g0 g1 g2 g3 h0 h1 h2 h3
      obtain ⟨x, y, z, v⟩ := x
      have hlt' : (k : Int) < (q : Int) := by omega
      have c1' := (X1.later hb X1.lt).cell 4
      have c2' := (Y1.later hb Y1.lt).cell 4
      clear hcell hcell'
      go_wp2_with fail
      refine wp_region_after (by kernel_rfl) (by kernel_rfl) ?_
      repeat (first | go_big_quiet_step (fail) | quiet_step (fail))
      refine wpQuiet_nil ?_
      intro pw
      have E3 := bel_trans hb pw.bel
      go_wp2
      go_roundw
      case rel => exact ⟨k + 1, by omega, by go_num, E3⟩
      case measure => simp [intOf]; omega
    · go_wp2
      go_ret
      exact ⟨rfl, bel_trans E1 hb⟩

end Go.Proofs.YtjdepjpjjgkmbaaGreat

/- The model's DrawReadied; the functions of chapter 8 over what can be read (written by ready_law.py); conditions: the sizes. -/
namespace Go.Proofs.YtjdepjpjjgkmbaaGreat
open Go Go.RowKit

theorem in8_at {g : GrpD} {r : RegD} {d : NoteD} {w : World} {F0 F1 F2 : Nat → Prop} {C0 C1 C2 : Array Value} (h0 : AtG g w F0 (.agg C0)) (h1 : AtS r w F1 (.agg C1)) (h2 : AtN d w F2 (.agg C2)) (z1 : r.sz ≤ 1048576) (z2 : d.sz ≤ 1048576) :
    ∃ (A : Option Addr) (n cap : Nat) (X : Option Addr) (x xc : Nat) (Y : Option Addr) (y yc : Nat) (P : Option Addr) (p pc : Nat) (Q : Option Addr) (q qc : Nat),
      C0 = #[.int .i64 g.s, .int .i64 g.l, .int .i64 g.c, .int .i64 g.sh, .slice A n cap] ∧ C1 = #[.int .i64 r.t, .int .i64 r.q, .int .i64 r.v, .slice X x xc, .slice Y y yc] ∧ C2 = d.cells P p pc Q q qc ∧
      In8 w A n g.zs X x xc r.ps Y y yc r.os P p d.cs Q q d.ms := by
  obtain ⟨A, n, cap, e0, m0, hr⟩ := h0
  obtain ⟨X, x, xc, Y, y, yc, e1, s1, s2, l1, l2⟩ := h1.slc
  obtain ⟨P, p, pc, Q, q, qc, e2, m1, m2, hp, hq⟩ := h2
  injection e0 with e0
  injection e1 with e1
  injection e2 with e2
  have hl := hp.1.1
  have hl' := hq.1.1
  unfold RegD.sz at z1
  unfold NoteD.sz at z2
  exact ⟨A, n, cap, X, x, xc, Y, y, yc, P, p, pc, Q, q, qc, e0, e1, e2, m0, by omega, by omega, by omega, by omega, hr.1, s1, s2, hp.1, hq.1⟩
theorem codeA_is {g : GrpD} {r : RegD} {d : NoteD} {w : World} {F0 F1 F2 : Nat → Prop} {C0 C1 C2 : Array Value} {z : Int} (h0 : AtG g w F0 (.agg C0)) (h1 : AtS r w F1 (.agg C1)) (h2 : AtN d w F2 (.agg C2)) (z1 : r.sz ≤ 1048576) (z2 : d.sz ≤ 1048576) (hz : codeD g r d = z) :
    Calls Tryz.prog 55 #[.agg C0, .agg C1, .agg C2] w fun e w' => e = .returned (.int .i64 z) ∧ Below w.heap.size w w' := by
  obtain ⟨A, n, cap, X, x, xc, Y, y, yc, P, p, pc, Q, q, qc, rfl, rfl, e2, I⟩ := in8_at h0 h1 h2 z1 z2
  exact codeReady_is e2 I hz
theorem readiedA_is {g : GrpD} {r rr : RegD} {d : NoteD} {w : World} {F0 F1 F2 : Nat → Prop} {C0 C1 C2 : Array Value} {z : Int} (h0 : AtG g w F0 (.agg C0)) (h1 : AtS r w F1 (.agg C1)) (h2 : AtN d w F2 (.agg C2)) (z1 : r.sz ≤ 1048576) (z2 : d.sz ≤ 1048576) (hz : readD g r d = (rr, z)) :
    Calls Tryz.prog 47 #[.agg C0, .agg C1, .agg C2] w (RdR w rr z) := by
  obtain ⟨A, n, cap, X, x, xc, Y, y, yc, P, p, pc, Q, q, qc, rfl, rfl, e2, I⟩ := in8_at h0 h1 h2 z1 z2
  exact readied_is e2 I hz
theorem specReadiedA_is {g : GrpD} {r rr : RegD} {d : NoteD} {w : World} {F0 F1 F2 : Nat → Prop} {C0 C1 C2 : Array Value} {z : Int} (h0 : AtG g w F0 (.agg C0)) (h1 : AtS r w F1 (.agg C1)) (h2 : AtN d w F2 (.agg C2)) (z1 : r.sz ≤ 1048576) (z2 : d.sz ≤ 1048576) (hz : readD g r d = (rr, z)) :
    Calls Tryz.prog 44 #[.agg C0, .agg C1, .agg C2] w (RdR w rr z) := by
  obtain ⟨A, n, cap, X, x, xc, Y, y, yc, P, p, pc, Q, q, qc, rfl, rfl, e2, I⟩ := in8_at h0 h1 h2 z1 z2
  exact specReadied_is e2 I hz
theorem sameA_is {r : RegD} {d : NoteD} {w : World} {F1 F2 : Nat → Prop} {C1 C2 : Array Value} {b : Bool} (h1 : AtS r w F1 (.agg C1)) (h2 : AtN d w F2 (.agg C2)) (z1 : r.sz ≤ 1048576) (hz : sameD r d = b) :
    Calls Tryz.prog 56 #[.agg C1, .agg C2] w fun e w' => e = .returned (.bool b) ∧ Below w.heap.size w w' := by
  obtain ⟨X, x, xc, Y, y, yc, e1, -, -, -, hq1, -⟩ := h1
  obtain ⟨P, p, pc, Q, q, qc, e2, m1, m2, hp, hq⟩ := h2
  injection e1 with e1
  injection e2 with e2
  subst e1
  have := hq1.1.1
  unfold RegD.sz at z1
  exact sameOpen_is e2 (by omega) hq1.1 hz
theorem specSameA_is {r : RegD} {d : NoteD} {w : World} {F1 F2 : Nat → Prop} {C1 C2 : Array Value} {b : Bool} (h1 : AtS r w F1 (.agg C1)) (h2 : AtN d w F2 (.agg C2)) (z1 : r.sz ≤ 1048576) (hz : sameD r d = b) :
    Calls Tryz.prog 57 #[.agg C1, .agg C2] w fun e w' => e = .returned (.bool b) ∧ Below w.heap.size w w' := by
  obtain ⟨X, x, xc, Y, y, yc, e1, -, -, -, hq1, -⟩ := h1
  obtain ⟨P, p, pc, Q, q, qc, e2, m1, m2, hp, hq⟩ := h2
  injection e1 with e1
  injection e2 with e2
  subst e1
  have := hq1.1.1
  unfold RegD.sz at z1
  exact specSame_is e2 (by omega) hq1.1 hz
theorem likeA_is {r : RegD} {w : World} {F F' : Nat → Prop} {C C' : Array Value} (h : AtR r w F (.agg C)) (h' : AtR r w F' (.agg C')) (z1 : r.sz ≤ 1048576) :
    Calls Tryz.prog 54 #[.agg C, .agg C'] w fun e w' => e = .returned (.bool true) ∧ Below w.heap.size w w' := by
  obtain ⟨A, n, cap, B, m, dap, e, hm, hn, hr, hq⟩ := h
  obtain ⟨A', n', cap', B', m', dap', e', hm', hn', hr', hq'⟩ := h'
  injection e with e
  injection e' with e'
  subst e e'
  have hl : r.ps.length = n := hr.1.1
  have hl' : r.ps.length = n' := hr'.1.1
  have hk : r.os.length = m := hq.1.1
  have hk' : r.os.length = m' := hq'.1.1
  subst hl hl' hk hk'
  unfold RegD.sz at z1
  exact likeReg_is _ _ _ A _ cap B _ dap A' cap' B' dap' r.ps r.os w (by omega) (by omega) hr.1 hq.1 hr'.1 hq'.1
theorem openA_is {r : RegD} {w : World} {F : Nat → Prop} {C : Array Value} {o : Opn} (h : AtR r w F (.agg C)) (z1 : r.sz ≤ 1048576) {k : Int} (hk : getO r.os k = some o) :
    Calls Tryz.prog 58 #[.agg C, .int .i64 k] w fun e w' => e = .returned (.tuple #[.agg #[.int .i64 o.1, .int .i64 o.2.1, .int .i64 o.2.2.1, .int .i64 o.2.2.2], .bool true]) ∧ Below w.heap.size w w' := by
  obtain ⟨A, n, cap, B, m, dap, e, hm, hn, hr, hq⟩ := h
  injection e with e
  subst e
  have hl := hq.1.1
  unfold RegD.sz at z1
  refine (openOf_is _ _ _ A n cap B m dap r.os k w (by omega) hq.1).mono ?_
  rw [hk]
  exact fun _ _ h => h
/-- The cells of a shelf, of a note. -/
theorem AtR.cells {r : RegD} {w : World} {F : Nat → Prop} {C : Array Value} (h : AtR r w F (.agg C)) : C[0]? = some (.int .i64 r.t) ∧ C[1]? = some (.int .i64 r.q) ∧ ∃ A c, C[4]? = some (.slice A r.os.length c) := by
  obtain ⟨A, n, cap, B, m, dap, e, hm, hn, hr, hq⟩ := h
  injection e with e
  subst e
  have hl : r.os.length = m := hq.1.1
  exact ⟨rfl, rfl, B, dap, by rw [hl]; rfl⟩
theorem AtN.cells {d : NoteD} {w : World} {F : Nat → Prop} {C : Array Value} (h : AtN d w F (.agg C)) : C[1]? = some (.int .i64 d.k2) ∧ C[5]? = some (.int .i64 d.t1) ∧ C[6]? = some (.int .i64 d.t2) ∧ C[7]? = some (.int .i64 d.v1) := by
  obtain ⟨A, n, cap, B, m, dap, e, -⟩ := h
  injection e with e
  subst e
  exact ⟨rfl, rfl, rfl, rfl⟩
theorem AtN.val {d : NoteD} {w : World} {F : Nat → Prop} {C : Array Value} (h : AtN d w F (.agg C)) (v : Int) : AtN ⟨d.k1, d.k2, d.k3, d.k4, d.k5, d.t1, d.t2, v, d.o1, d.o2, d.v2, d.l1, d.l2, d.v3, d.cs, d.ms⟩ w F (.agg (C.setIfInBounds 7 (.int .i64 v))) := by
  obtain ⟨A, n, cap, B, m, dap, e, h1⟩ := h
  injection e with e
  subst e
  exact ⟨A, n, cap, B, m, dap, rfl, h1⟩

/-- What DrawReadied leaves. -/
def MadeRdy (w : World) (e : Ending) (w' : World) : Prop := ∃ (G R N : Array Value), e = .returned (.tuple #[.agg G, .agg R, .agg N]) ∧ GrpS w' (w.heap.size ≤ ·) (.agg G) ∧ RegS w' (w.heap.size ≤ ·) (.agg R) ∧ NoteS w' (w.heap.size ≤ ·) (.agg N) ∧ Below w.heap.size w w'
set_option maxRecDepth 100000 in
set_option maxHeartbeats 8000000 in
theorem drawReadied_any (A : Option Addr) (n cap : Nat) (w : World) (hn : n ≤ 4096) (hB : Bytes w w.heap.size A n) :
    Calls Tryz.prog 53 #[.slice A n cap] w (MadeRdy w) := by
  have E0 := bel_trans (bel_trans (bel_alloc w (.cells #[.int .i64 0, .int .i64 0, .int .i64 0, .int .i64 0, .slice none 0 0] 26)) (bel_alloc _ (.cells #[.int .i64 0, .int .i64 0, .int .i64 0, .slice none 0 0, .slice none 0 0] 80))) (bel_alloc _ (.cells #[.int .i64 0, .int .i64 0, .int .i64 0, .int .i64 0, .int .i64 0, .int .i64 0, .int .i64 0, .int .i64 0, .int .i64 0, .int .i64 0, .int .i64 0, .slice none 0 0, .slice none 0 0, .int .i64 0, .int .i64 0, .int .i64 0] 85))
  have R2 := ((Box.new w 26 #[.int .i64 0, .int .i64 0, .int .i64 0, .int .i64 0, .slice none 0 0]).alloc (.cells #[.int .i64 0, .int .i64 0, .int .i64 0, .slice none 0 0, .slice none 0 0] 80)).alloc (.cells #[.int .i64 0, .int .i64 0, .int .i64 0, .int .i64 0, .int .i64 0, .int .i64 0, .int .i64 0, .int .i64 0, .int .i64 0, .int .i64 0, .int .i64 0, .slice none 0 0, .slice none 0 0, .int .i64 0, .int .i64 0, .int .i64 0] 85)
  have R3 := (Box.new (w.alloc (.cells #[.int .i64 0, .int .i64 0, .int .i64 0, .int .i64 0, .slice none 0 0] 26)) 80 #[.int .i64 0, .int .i64 0, .int .i64 0, .slice none 0 0, .slice none 0 0]).alloc (.cells #[.int .i64 0, .int .i64 0, .int .i64 0, .int .i64 0, .int .i64 0, .int .i64 0, .int .i64 0, .int .i64 0, .int .i64 0, .int .i64 0, .int .i64 0, .slice none 0 0, .slice none 0 0, .int .i64 0, .int .i64 0, .int .i64 0] 85)
  have R4 := Box.new ((w.alloc (.cells #[.int .i64 0, .int .i64 0, .int .i64 0, .int .i64 0, .slice none 0 0] 26)).alloc (.cells #[.int .i64 0, .int .i64 0, .int .i64 0, .slice none 0 0, .slice none 0 0] 80)) 85 #[.int .i64 0, .int .i64 0, .int .i64 0, .int .i64 0, .int .i64 0, .int .i64 0, .int .i64 0, .int .i64 0, .int .i64 0, .int .i64 0, .int .i64 0, .slice none 0 0, .slice none 0 0, .int .i64 0, .int .i64 0, .int .i64 0]
  simp only [World.size_alloc] at R3 R4
  have HB := Lib.hid hB
  clear hB
  go_enter Tryz.func53, Tryz.ntmps53
  go_wp2_with fail
  generalize (((w.alloc _).alloc _).alloc _ : World) = w0 at E0 R2 R3 R4 ⊢
  refine (l1New_any A n cap w0 hn ((HB.out.below E0 (Nat.le_refl _)).more E0.size)).mono ?_
  rintro e w1 ⟨g, hg, rfl, hc1, hb1⟩
  have hz := R4.lt
  have hg' : w.heap.size + 1 + 1 < g := Nat.lt_of_lt_of_le hz hg
  have E1 := bel_trans E0 hb1
  have S2 := R2.later hb1 R2.lt
  have S3 := R3.later hb1 R3.lt
  have S4 := R4.later hb1 R4.lt
  have hz1 := S4.lt
  clear R2 R3 R4 E0 hb1
  go_wp2_with fail
  refine (l8Draw_any g A n cap w1 hc1).mono ?_
  rintro e w2 ⟨G, R, N, rfl, gs, rs, ns, -, hgN⟩
  have x2 := S2.kept hgN (by intro e; injection e with e; omega)
  have x3 := S3.kept hgN (by intro e; injection e with e; omega)
  have x4 := S4.kept hgN (by intro e; injection e with e; omega)
  have E2 := bel_grown E1 hgN (by omega)
  have IG := Lib.hid gs.one
  have IN := Lib.hid ns.size
  have IR := Lib.hid rs.one
  clear S2 S3 S4 E1 hc1 hgN hg
  have t1 := turns_setRow w2 w.heap.size G
  have t2 := turns_setRow (w2.setRow w.heap.size G) (w.heap.size + 1) R
  have t3 := turns_setRow ((w2.setRow w.heap.size G).setRow (w.heap.size + 1) R) (w.heap.size + 1 + 1) N
  have X3 := x3.turn t1 (by omega)
  have X4 := (x4.turn t1 (by omega)).turn t2 (by omega)
  have y2 := ((x2.setRow G).turn t2 (by omega)).turn t3 (by omega)
  have y3 := (X3.setRow R).turn t3 (by omega)
  have y4 := X4.setRow N
  have g0 : ∀ b, w1.heap.size + 2 < b → ¬ b = w.heap.size := fun b hb e => by omega
  have g1 : ∀ b, w1.heap.size + 2 < b → ¬ b = w.heap.size + 1 := fun b hb e => by omega
  have g2 : ∀ b, w1.heap.size + 2 < b → ¬ b = w.heap.size + 1 + 1 := fun b hb e => by omega
  have z1 := keepsGS.sub (keepsGS.turn (keepsGS.turn (keepsGS.turn gs t1 g0) t2 g1) t3 g2) (F' := (w.heap.size ≤ ·)) (fun b hb => by omega)
  have z2 := keepsRS.sub (keepsRS.turn (keepsRS.turn (keepsRS.turn rs t1 g0) t2 g1) t3 g2) (F' := (w.heap.size ≤ ·)) (fun b hb => by omega)
  have z3 := keepsNS.sub (keepsNS.turn (keepsNS.turn (keepsNS.turn ns t1 g0) t2 g1) t3 g2) (F' := (w.heap.size ≤ ·)) (fun b hb => by omega)
  have zb := t3.below (t2.below (t1.below E2 (fun i hi => by omega)) (fun i hi => by omega)) (fun i hi => by omega)
  replace y2 := Lib.hid y2
  replace y3 := Lib.hid y3
  replace y4 := Lib.hid y4
  replace z1 := Lib.hid z1
  replace z2 := Lib.hid z2
  replace z3 := Lib.hid z3
  replace zb := Lib.hid zb
  clear g0 g1 g2 t1 t2 t3 gs rs ns E2 x3 x4
  go_wp2_with (first | (refine wpList_store_row rfl 26 _ _ rfl w.heap.size _ rfl rfl 26 _ x2 IG.out.2 IG.out.1.1.symm IG.out.1.2 ?_) | (refine wpList_store_row rfl 80 _ _ rfl (w.heap.size + 1) _ rfl rfl 80 _ X3 IR.out.2 IR.out.1.1.symm IR.out.1.2 ?_) | (refine wpList_store_row rfl 85 _ _ rfl (w.heap.size + 1 + 1) _ rfl rfl 85 _ X4 IN.out.2.1 IN.out.1.symm IN.out.2.2 ?_))
  exact bodyPost_ret (v := .tuple #[.agg G, .agg R, .agg N]) (results_three (Tryz.results53) _ _ w.heap.size (w.heap.size + 1) (w.heap.size + 1 + 1) 26 80 85 G R N _ _ _ rfl rfl rfl y2.out y3.out y4.out Tryz.underlying26 rfl IG.out.2 Tryz.underlying80 rfl IR.out.2 Tryz.underlying85 rfl IN.out.2.1) rfl ⟨G, R, N, rfl, z1.out, z2.out, z3.out, zb.out⟩

end Go.Proofs.YtjdepjpjjgkmbaaGreat

/- FnReady: a shelf that is ready for a value is not ready for another one at that stamp; for the same it is ready again: the law's walk (written by ready_law.py); conditions: the bytes can be read. -/
namespace Go.Proofs.YtjdepjpjjgkmbaaGreat
open Go Go.RowKit

/-- The variables of the arguments, as they were given. -/
structure PreRl (w wr : World) (C0 C1 C2 : Array Value) (d0 : GrpD) (d1 : RegD) (d2 : NoteD) : Prop where
  v0 : VarOf (AtG d0) 26 wr (· < w.heap.size) (w.heap.size) C0
  v1 : VarOf (AtS d1) 80 wr (· < w.heap.size) (w.heap.size + 1) C1
  v2 : VarOf (AtN d2) 85 wr (· < w.heap.size) (w.heap.size + 1 + 1) C2
  bel : Below w.heap.size w wr
theorem PreRl.later {w wr w' : World} {C0 C1 C2 : Array Value} {d0 : GrpD} {d1 : RegD} {d2 : NoteD} (h : PreRl w wr C0 C1 C2 d0 d1 d2) (hb : Below wr.heap.size wr w') : PreRl w w' C0 C1 C2 d0 d1 d2 :=
  ⟨h.v0.later (keepsG d0) hb, h.v1.later (keepsS d1) hb, h.v2.later (keepsN d2) hb, bel_trans h.bel hb⟩
theorem PreRl.turn {w wr w' : World} {C0 C1 C2 : Array Value} {d0 : GrpD} {d1 : RegD} {d2 : NoteD} {T : Nat → Prop} (h : PreRl w wr C0 C1 C2 d0 d1 d2) (ht : Turns T wr w') (hT : ∀ b, T b → w.heap.size + 1 + 1 < b) : PreRl w w' C0 C1 C2 d0 d1 d2 :=
  ⟨h.v0.turn (keepsG d0) ht (fun hb => by have := hT _ hb; omega) (fun b hb hb2 => by have := hT b hb2; omega), h.v1.turn (keepsS d1) ht (fun hb => by have := hT _ hb; omega) (fun b hb hb2 => by have := hT b hb2; omega), h.v2.turn (keepsN d2) ht (fun hb => by have := hT _ hb; omega) (fun b hb hb2 => by have := hT b hb2; omega), ht.below h.bel (fun b hb => by have := hT b hb; omega)⟩
theorem PreRl.start {w : World} {C0 C1 C2 : Array Value} {d0 : GrpD} {d1 : RegD} {d2 : NoteD} (h0 : AtG d0 w (· < w.heap.size) (.agg C0)) (h1 : AtS d1 w (· < w.heap.size) (.agg C1)) (h2 : AtN d2 w (· < w.heap.size) (.agg C2)) : PreRl w (((w.alloc (.cells C0 26)).alloc (.cells C1 80)).alloc (.cells C2 85)) C0 C1 C2 d0 d1 d2 := by
  have e0 := bel_alloc w (.cells C0 26)
  have e1 := bel_alloc (w.alloc (.cells C0 26)) (.cells C1 80)
  have e2 := bel_alloc ((w.alloc (.cells C0 26)).alloc (.cells C1 80)) (.cells C2 85)
  have E0 := e0
  have E1 := bel_trans E0 e1
  have E2 := bel_trans E1 e2
  have B0 := Box.new w 26 C0
  replace B0 := B0.alloc (.cells C1 80)
  replace B0 := B0.alloc (.cells C2 85)
  have B1 := Box.new (w.alloc (.cells C0 26)) 80 C1
  replace B1 := B1.alloc (.cells C2 85)
  have B2 := Box.new ((w.alloc (.cells C0 26)).alloc (.cells C1 80)) 85 C2
  simp only [World.size_alloc] at B0 B1 B2
  exact ⟨⟨B0, by omega, (keepsG d0).later h0 E2⟩, ⟨B1, by omega, (keepsS d1).later h1 E2⟩, ⟨B2, by omega, (keepsN d2).later h2 E2⟩, E2⟩

theorem atG_lt {d : GrpD} {w : World} {F : Nat → Prop} {v : Value} (h : AtG d w F v) : AtG d w (· < w.heap.size) v := by
  obtain ⟨A, n, c, e, hn, hr⟩ := h
  exact ⟨A, n, c, e, hn, hr.1.all⟩
theorem atS_lt {d : RegD} {w : World} {F : Nat → Prop} {v : Value} (h : AtS d w F v) : AtS d w (· < w.heap.size) v := by
  obtain ⟨A, n, c, A', n', c', e, h1, h2, h3, h4, h5⟩ := h
  exact ⟨A, n, c, A', n', c', e, h1, h2, h3.1.all, h4.1.all, h5⟩
theorem atN_lt {d : NoteD} {w : World} {F : Nat → Prop} {v : Value} (h : AtN d w F v) : AtN d w (· < w.heap.size) v := by
  obtain ⟨A, n, c, A', n', c', e, h1, h2, h3, h4⟩ := h
  exact ⟨A, n, c, A', n', c', e, h1, h2, h3.1.all, h4.1.all⟩
theorem cmpA_is {a b c d k : Int} (h : cmpN a b c d = k) (w : World) :
    Calls Tryz.prog 59 #[.agg #[.int .i64 a, .int .i64 b], .agg #[.int .i64 c, .int .i64 d]] w fun e w' => e = .returned (.int .i64 k) ∧ Below w.heap.size w w' := h ▸ cmpStamp_any a b c d w

theorem ready_big (A : Option Addr) (n cap : Nat) (w : World) (hm : n ≤ maxLen) (hb : 4096 < n) :
    Calls Tryz.prog 10 #[.slice A n cap] w fun e w' => e = .returned (.bool true) ∧ Below w.heap.size w w' := by
  have hd : decide (4096 < n) = true := by simpa using hb
  go_enter Tryz.func10, Tryz.ntmps10
  go_wp2_with (go_at_call 12; refine (big_any A n cap _ hm).mono ?_; rintro e w' ⟨rfl, rfl⟩)
  go_ret
  exact ⟨rfl, Below.refl _ _⟩

set_option maxRecDepth 100000 in
set_option maxHeartbeats 16000000 in
theorem ready_small (A : Option Addr) (n cap : Nat) (w : World) (hn : n ≤ 4096) (hB : Bytes w w.heap.size A n) :
    Calls Tryz.prog 10 #[.slice A n cap] w fun e w' => e = .returned (.bool true) ∧ Below w.heap.size w w' := by
  have hd : decide (4096 < n) = false := by simpa using hn
  have HM : Hid (n ≤ maxLen) := by show n ≤ maxLen; unfold maxLen; omega
  have HB := Lib.hid hB
  clear hB
  go_enter Tryz.func10, Tryz.ntmps10
  go_wp2_with fail
  refine (big_any A n cap _ HM.out).mono ?_
  rintro e w' ⟨rfl, rfl⟩
  go_wp2_with fail
  refine (drawReadied_any A n cap w hn HB.out).mono ?_
  rintro e w1 ⟨G, R, N, rfl, gs, rs, ns, E1⟩
  clear hd HB HM hn
  have IG := Lib.hid gs.one
  have IN := Lib.hid ns.size
  have IR := Lib.hid rs.one
  obtain ⟨d0, hG, lg⟩ := gs
  obtain ⟨d1, hR, lr1, lr2⟩ := rs
  obtain ⟨d2, hN, ln1, ln2⟩ := ns.at
  clear ns
  have hz1 : d1.sz ≤ 28 := by unfold RegD.sz; omega
  have hz2 : d2.sz ≤ 41 := by unfold NoteD.sz; omega
  have e0 := bel_trans (bel_trans (bel_alloc w1 (.cells #[.int .i64 0, .int .i64 0, .int .i64 0, .int .i64 0, .slice none 0 0] 26)) (bel_alloc _ (.cells #[.int .i64 0, .int .i64 0, .int .i64 0, .slice none 0 0, .slice none 0 0] 80))) (bel_alloc _ (.cells #[.int .i64 0, .int .i64 0, .int .i64 0, .int .i64 0, .int .i64 0, .int .i64 0, .int .i64 0, .int .i64 0, .int .i64 0, .int .i64 0, .int .i64 0, .slice none 0 0, .slice none 0 0, .int .i64 0, .int .i64 0, .int .i64 0] 85))
  have R2 := ((Box.new w1 26 #[.int .i64 0, .int .i64 0, .int .i64 0, .int .i64 0, .slice none 0 0]).alloc (.cells #[.int .i64 0, .int .i64 0, .int .i64 0, .slice none 0 0, .slice none 0 0] 80)).alloc (.cells #[.int .i64 0, .int .i64 0, .int .i64 0, .int .i64 0, .int .i64 0, .int .i64 0, .int .i64 0, .int .i64 0, .int .i64 0, .int .i64 0, .int .i64 0, .slice none 0 0, .slice none 0 0, .int .i64 0, .int .i64 0, .int .i64 0] 85)
  have R3 := (Box.new (w1.alloc (.cells #[.int .i64 0, .int .i64 0, .int .i64 0, .int .i64 0, .slice none 0 0] 26)) 80 #[.int .i64 0, .int .i64 0, .int .i64 0, .slice none 0 0, .slice none 0 0]).alloc (.cells #[.int .i64 0, .int .i64 0, .int .i64 0, .int .i64 0, .int .i64 0, .int .i64 0, .int .i64 0, .int .i64 0, .int .i64 0, .int .i64 0, .int .i64 0, .slice none 0 0, .slice none 0 0, .int .i64 0, .int .i64 0, .int .i64 0] 85)
  have R4 := Box.new ((w1.alloc (.cells #[.int .i64 0, .int .i64 0, .int .i64 0, .int .i64 0, .slice none 0 0] 26)).alloc (.cells #[.int .i64 0, .int .i64 0, .int .i64 0, .slice none 0 0, .slice none 0 0] 80)) 85 #[.int .i64 0, .int .i64 0, .int .i64 0, .int .i64 0, .int .i64 0, .int .i64 0, .int .i64 0, .int .i64 0, .int .i64 0, .int .i64 0, .int .i64 0, .slice none 0 0, .slice none 0 0, .int .i64 0, .int .i64 0, .int .i64 0]
  simp only [World.size_alloc] at R3 R4
  have t1 := turns_setRow (((w1.alloc (.cells #[.int .i64 0, .int .i64 0, .int .i64 0, .int .i64 0, .slice none 0 0] 26)).alloc (.cells #[.int .i64 0, .int .i64 0, .int .i64 0, .slice none 0 0, .slice none 0 0] 80)).alloc (.cells #[.int .i64 0, .int .i64 0, .int .i64 0, .int .i64 0, .int .i64 0, .int .i64 0, .int .i64 0, .int .i64 0, .int .i64 0, .int .i64 0, .int .i64 0, .slice none 0 0, .slice none 0 0, .int .i64 0, .int .i64 0, .int .i64 0] 85)) w1.heap.size G
  have t2 := turns_setRow ((((w1.alloc (.cells #[.int .i64 0, .int .i64 0, .int .i64 0, .int .i64 0, .slice none 0 0] 26)).alloc (.cells #[.int .i64 0, .int .i64 0, .int .i64 0, .slice none 0 0, .slice none 0 0] 80)).alloc (.cells #[.int .i64 0, .int .i64 0, .int .i64 0, .int .i64 0, .int .i64 0, .int .i64 0, .int .i64 0, .int .i64 0, .int .i64 0, .int .i64 0, .int .i64 0, .slice none 0 0, .slice none 0 0, .int .i64 0, .int .i64 0, .int .i64 0] 85)).setRow w1.heap.size G) (w1.heap.size + 1) R
  have t3 := turns_setRow (((((w1.alloc (.cells #[.int .i64 0, .int .i64 0, .int .i64 0, .int .i64 0, .slice none 0 0] 26)).alloc (.cells #[.int .i64 0, .int .i64 0, .int .i64 0, .slice none 0 0, .slice none 0 0] 80)).alloc (.cells #[.int .i64 0, .int .i64 0, .int .i64 0, .int .i64 0, .int .i64 0, .int .i64 0, .int .i64 0, .int .i64 0, .int .i64 0, .int .i64 0, .int .i64 0, .slice none 0 0, .slice none 0 0, .int .i64 0, .int .i64 0, .int .i64 0] 85)).setRow w1.heap.size G).setRow (w1.heap.size + 1) R) (w1.heap.size + 1 + 1) N
  have X3 := R3.turn t1 (by omega)
  have X4 := (R4.turn t1 (by omega)).turn t2 (by omega)
  have K : PreRl w1 _ G R N d0 d1 d2 := ⟨⟨((R2.setRow G).turn t2 (by omega)).turn t3 (by omega), by omega, (keepsG d0).turn ((keepsG d0).turn ((keepsG d0).turn ((keepsG d0).later (atG_lt hG) e0) t1 (fun b hb e => by omega)) t2 (fun b hb e => by omega)) t3 (fun b hb e => by omega)⟩,
    ⟨(X3.setRow R).turn t3 (by omega), by omega, (keepsS d1).turn ((keepsS d1).turn ((keepsS d1).turn ((keepsS d1).later (atS_lt hR) e0) t1 (fun b hb e => by omega)) t2 (fun b hb e => by omega)) t3 (fun b hb e => by omega)⟩,
    ⟨X4.setRow N, by omega, (keepsN d2).turn ((keepsN d2).turn ((keepsN d2).turn ((keepsN d2).later (atN_lt hN) e0) t1 (fun b hb e => by omega)) t2 (fun b hb e => by omega)) t3 (fun b hb e => by omega)⟩,
    t3.below (t2.below (t1.below e0 (fun i hi => by omega)) (fun i hi => by omega)) (fun i hi => by omega)⟩
  clear hG hR hN e0 t1 t2 t3 lg lr1 lr2 ln1 ln2
  go_upto_region 4 with (first | (refine wpList_store_row rfl 26 _ _ rfl w1.heap.size _ rfl rfl 26 _ R2 IG.out.2 IG.out.1.1.symm IG.out.1.2 ?_) | (refine wpList_store_row rfl 80 _ _ rfl (w1.heap.size + 1) _ rfl rfl 80 _ X3 IR.out.2 IR.out.1.1.symm IR.out.1.2 ?_) | (refine wpList_store_row rfl 85 _ _ rfl (w1.heap.size + 1 + 1) _ rfl rfl 85 _ X4 IN.out.2.1 IN.out.1.symm IN.out.2.2 ?_))
  clear R2 R3 R4 X3 X4
  generalize ((((((w1.alloc _).alloc _).alloc _).setRow _ _).setRow _ _).setRow _ _ : World) = w2 at K ⊢
  obtain ⟨rr, z, hr⟩ : ∃ rr z, readD d0 d1 d2 = (rr, z) := ⟨_, _, rfl⟩
  have hln := readD_len hr
  have hzr : rr.sz ≤ 29 := by unfold RegD.sz at hz1 ⊢; omega
  have HZ := Lib.hid hr
  have hzz : (z != z) = false := by simp
  clear hln
  have IG2 := Lib.hid IG.out.2
  have IR2 := Lib.hid IR.out.2
  have IN2 := Lib.hid IN.out.2.1
  go_wp2_with (first | (refine wpList_load_box 26 _ rfl (w1.heap.size) rfl 26 G K.v0.box _ Tryz.underlying26 rfl IG2.out (by first | rfl | simp [Region.wanted, yielded] | (simp [Region.wanted, yielded, Act.put] <;> omega)) ?_) | (refine wpList_load_box 80 _ rfl (w1.heap.size + 1) rfl 80 R K.v1.box _ Tryz.underlying80 rfl IR2.out (by first | rfl | simp [Region.wanted, yielded] | (simp [Region.wanted, yielded, Act.put] <;> omega)) ?_) | (refine wpList_load_box 85 _ rfl (w1.heap.size + 1 + 1) rfl 85 N K.v2.box _ Tryz.underlying85 rfl IN2.out (by first | rfl | simp [Region.wanted, yielded] | (simp [Region.wanted, yielded, Act.put] <;> omega)) ?_))
  refine (readiedA_is K.v0.dat K.v1.dat K.v2.dat (by omega) (by omega) HZ.out).mono ?_
  rintro e w3 ⟨CX, rfl, L, hb⟩
  replace K := K.later hb
  clear hb
  have O := Lib.hid (oneR L.at)
  have JX := Lib.hid (sizeR L.at).2
  have hb := bel_new_row w3 #[.int .i64 0, .int .i64 0, .int .i64 0, .slice none 0 0, .slice none 0 0] 80 CX
  have hV := K.v2.box.lt
  have X := var_new_row (keepsLR rr) (Z := #[.int .i64 0, .int .i64 0, .int .i64 0, .slice none 0 0, .slice none 0 0]) 80 L (fun b hb => hb.2)
  replace K := K.later hb
  clear hb
  obtain ⟨FX, X, hFX⟩ : ∃ F, VarOf (LieR rr) 80 ((w3.alloc (.cells #[.int .i64 0, .int .i64 0, .int .i64 0, .slice none 0 0, .slice none 0 0] 80)).setRow w3.heap.size CX) F w3.heap.size CX ∧ ∀ b, F b → b < w3.heap.size := ⟨_, X, fun b hb => hb.2⟩
  have ZB := Box.new w3 80 #[.int .i64 0, .int .i64 0, .int .i64 0, .slice none 0 0, .slice none 0 0]
  clear L
  go_upto_region 5 with (refine wpList_store_row rfl 80 _ _ rfl w3.heap.size _ rfl rfl 80 #[.int .i64 0, .int .i64 0, .int .i64 0, .slice none 0 0, .slice none 0 0] ZB JX.out O.out.1.symm O.out.2 ?_)
  clear ZB O
  generalize ((w3.alloc _).setRow _ _ : World) = w4 at K X  ⊢
  generalize w3.heap.size = VX at hV X hFX ⊢
  clear hV
  obtain ⟨w2, rfl⟩ : ∃ x, x = w4 := ⟨_, rfl⟩
  go_wp2_with (first | (refine wpList_load_box 26 _ rfl (w1.heap.size) rfl 26 G K.v0.box _ Tryz.underlying26 rfl IG2.out (by first | rfl | simp [Region.wanted, yielded] | (simp [Region.wanted, yielded, Act.put] <;> omega)) ?_) | (refine wpList_load_box 80 _ rfl (w1.heap.size + 1) rfl 80 R K.v1.box _ Tryz.underlying80 rfl IR2.out (by first | rfl | simp [Region.wanted, yielded] | (simp [Region.wanted, yielded, Act.put] <;> omega)) ?_) | (refine wpList_load_box 85 _ rfl (w1.heap.size + 1 + 1) rfl 85 N K.v2.box _ Tryz.underlying85 rfl IN2.out (by first | rfl | simp [Region.wanted, yielded] | (simp [Region.wanted, yielded, Act.put] <;> omega)) ?_))
  refine (specReadiedA_is K.v0.dat K.v1.dat K.v2.dat (by omega) (by omega) HZ.out).mono ?_
  rintro e w3 ⟨CY, rfl, L, hb⟩
  replace K := K.later hb
  replace X := X.later (keepsLR rr) hb
  clear hb
  have O := Lib.hid (oneR L.at)
  have JY := Lib.hid (sizeR L.at).2
  have hb := bel_new_row w3 #[.int .i64 0, .int .i64 0, .int .i64 0, .slice none 0 0, .slice none 0 0] 80 CY
  have hV := K.v2.box.lt
  have Y := var_new_row (keepsLR rr) (Z := #[.int .i64 0, .int .i64 0, .int .i64 0, .slice none 0 0, .slice none 0 0]) 80 L (fun b hb => hb.2)
  replace K := K.later hb
  replace X := X.later (keepsLR rr) hb
  clear hb
  obtain ⟨FY, Y, hFY⟩ : ∃ F, VarOf (LieR rr) 80 ((w3.alloc (.cells #[.int .i64 0, .int .i64 0, .int .i64 0, .slice none 0 0, .slice none 0 0] 80)).setRow w3.heap.size CY) F w3.heap.size CY ∧ ∀ b, F b → b < w3.heap.size := ⟨_, Y, fun b hb => hb.2⟩
  have ZB := Box.new w3 80 #[.int .i64 0, .int .i64 0, .int .i64 0, .slice none 0 0, .slice none 0 0]
  clear L
  go_upto_region 6 with (refine wpList_store_row rfl 80 _ _ rfl w3.heap.size _ rfl rfl 80 #[.int .i64 0, .int .i64 0, .int .i64 0, .slice none 0 0, .slice none 0 0] ZB JY.out O.out.1.symm O.out.2 ?_)
  clear ZB O
  generalize ((w3.alloc _).setRow _ _ : World) = w4 at K Y X ⊢
  generalize w3.heap.size = VY at hV Y hFY ⊢
  clear hV
  obtain ⟨w2, rfl⟩ : ∃ x, x = w4 := ⟨_, rfl⟩
  obtain ⟨cd, hcd⟩ : ∃ cd, codeD d0 d1 d2 = cd := ⟨_, rfl⟩
  have hce : cd = z := by rw [← hcd]; exact read_code hr
  subst hce
  have HC := Lib.hid hcd
  obtain ⟨sm, hsm⟩ : ∃ sm, sameD d1 d2 = sm := ⟨_, rfl⟩
  have HS := Lib.hid hsm
  have hss : (sm != sm) = false := by simp
  clear hcd hsm hr
  refine wp_region_sink 26 (fun w' => Box w' (w1.heap.size) 26 G ∧ Box w' (w1.heap.size + 1) 80 R ∧ Box w' (w1.heap.size + 1 + 1) 85 N ∧ Box w' VX 80 CX ∧ Box w' VY 80 CY) (by kernel_rfl) ⟨K.v0.box, K.v1.box, K.v2.box, X.box, Y.box⟩ (fun hH => ?_)
  have hb := (Below.refl w2.heap.size w2).drew
  replace K := K.later hb
  replace X := X.later (keepsLR rr) hb
  replace Y := Y.later (keepsLR rr) hb
  clear hb
  generalize w2.drew = w3 at K X Y hH ⊢
  refine wpAnyE_pure (i := 0) (v := ?vr0) (by simp only [List.getElem?_toArray, List.getElem?_cons_zero]; rfl) (by kernel_rfl) (by kernel_rfl) (by kernel_rfl) (by exact fun _ _ _ h => h) (by kernel_rfl) (Or.inl ⟨by rfl, ?yr0⟩) hH ?rr0
  case yr0 => (intro w' hSw; (try dsimp only at hSw); go_simp; try with_reducible rfl)
  try simp only [Act.put, List.setIfInBounds_toArray, List.set_cons_zero, List.set_cons_succ]
  refine wpAnyE_pure (i := 1) (v := ?vr1) (by simp only [List.getElem?_toArray, List.getElem?_cons_succ, List.getElem?_cons_zero]; rfl) (by kernel_rfl) (by kernel_rfl) (by kernel_rfl) (by exact fun _ _ _ h => h) (by kernel_rfl) (Or.inl ⟨by rfl, ?yr1⟩) hH ?rr1
  case yr1 => (intro w' hSw; (try dsimp only at hSw); go_simp; try with_reducible rfl)
  try simp only [Act.put, List.setIfInBounds_toArray, List.set_cons_zero, List.set_cons_succ]
  refine wpAnyE_pure (i := 2) (v := ?vr2) (by simp only [List.getElem?_toArray, List.getElem?_cons_succ, List.getElem?_cons_zero]; rfl) (by kernel_rfl) (by kernel_rfl) (by kernel_rfl) (by exact fun _ _ _ h => h) (by kernel_rfl) (Or.inl ⟨by rfl, ?yr2⟩) hH ?rr2
  case yr2 => (intro w' hSw; (try dsimp only at hSw); go_simp; try with_reducible rfl)
  try simp only [Act.put, List.setIfInBounds_toArray, List.set_cons_zero, List.set_cons_succ]
  refine wpAnyE_pure (i := 3) (v := ?vr3) (by simp only [List.getElem?_toArray, List.getElem?_cons_succ, List.getElem?_cons_zero]; rfl) (by kernel_rfl) (by kernel_rfl) (by kernel_rfl) (by exact fun _ _ _ h => h) (by kernel_rfl) (Or.inl ⟨by rfl, ?yr3⟩) hH ?rr3
  case yr3 => (intro w' hSw; (try dsimp only at hSw); go_simp; try with_reducible rfl)
  try simp only [Act.put, List.setIfInBounds_toArray, List.set_cons_zero, List.set_cons_succ]
  refine wpAnyE_takeS (i := 4) (v := .agg CX) (by simp only [List.getElem?_toArray, List.getElem?_cons_succ, List.getElem?_cons_zero]; rfl) (by kernel_rfl) (by kernel_rfl) (by kernel_rfl) (by exact fun _ _ _ h => h) (by kernel_rfl) ?yr4 hH ?_
  case yr4 => exact yields_box 80 _ rfl (VX) rfl 80 CX (fun _ h => h.2.2.2.1) _ Tryz.underlying80 rfl JX.out (by first | rfl | simp [Region.wanted, yielded] | (simp [Region.wanted, yielded, Act.put] <;> omega))
  try simp only [Act.put, List.setIfInBounds_toArray, List.set_cons_zero, List.set_cons_succ]
  refine wpAnyE_takeS (i := 5) (v := .agg CY) (by simp only [List.getElem?_toArray, List.getElem?_cons_succ, List.getElem?_cons_zero]; rfl) (by kernel_rfl) (by kernel_rfl) (by kernel_rfl) (by exact fun _ _ _ h => h) (by kernel_rfl) ?yr5 hH ?_
  case yr5 => exact yields_box 80 _ rfl (VY) rfl 80 CY (fun _ h => h.2.2.2.2) _ Tryz.underlying80 rfl JY.out (by first | rfl | simp [Region.wanted, yielded] | (simp [Region.wanted, yielded, Act.put] <;> omega))
  try simp only [Act.put, List.setIfInBounds_toArray, List.set_cons_zero, List.set_cons_succ]
  refine wpAnyE_one (i := 6) (by kernel_rfl) (by simp only [List.getElem?_toArray, List.getElem?_cons_succ, List.getElem?_cons_zero]; rfl) (fun K' hK => ?_)
  go_simp
  refine (likeA_is X.dat.at Y.dat.at (by omega)).mono ?_
  rintro e w4 ⟨rfl, hb⟩
  replace K := K.later hb
  replace X := X.later (keepsLR rr) hb
  replace Y := Y.later (keepsLR rr) hb
  clear hb
  clear hH
  refine hK.out _ _ ⟨K.v0.box, K.v1.box, K.v2.box, X.box, Y.box⟩ (fun hH => ?_)
  clear hK K'
  try simp only [Act.put, List.setIfInBounds_toArray, List.set_cons_zero, List.set_cons_succ]
  obtain ⟨w3, rfl⟩ : ∃ x, x = w4 := ⟨_, rfl⟩
  refine wpAnyE_pure (i := 7) (v := ?vr7) (by simp only [List.getElem?_toArray, List.getElem?_cons_succ, List.getElem?_cons_zero]; rfl) (by kernel_rfl) (by kernel_rfl) (by kernel_rfl) (by exact fun _ _ _ h => h) (by kernel_rfl) (Or.inl ⟨by rfl, ?yr7⟩) hH ?rr7
  case yr7 => (intro w' hSw; (try dsimp only at hSw); go_simp; try with_reducible rfl)
  try simp only [Act.put, List.setIfInBounds_toArray, List.set_cons_zero, List.set_cons_succ]
  refine wpAnyE_pure (i := 8) (v := ?vr8) (by simp only [List.getElem?_toArray, List.getElem?_cons_succ, List.getElem?_cons_zero]; rfl) (by kernel_rfl) (by kernel_rfl) (by kernel_rfl) (by exact fun _ _ _ h => h) (by kernel_rfl) (Or.inl ⟨by rfl, ?yr8⟩) hH ?rr8
  case yr8 => (intro w' hSw; (try dsimp only at hSw); go_simp; try with_reducible rfl)
  try simp only [Act.put, List.setIfInBounds_toArray, List.set_cons_zero, List.set_cons_succ]
  refine wpAnyE_pure (i := 9) (v := ?vr9) (by simp only [List.getElem?_toArray, List.getElem?_cons_succ, List.getElem?_cons_zero]; rfl) (by kernel_rfl) (by kernel_rfl) (by kernel_rfl) (by exact fun _ _ _ h => h) (by kernel_rfl) (Or.inl ⟨by rfl, ?yr9⟩) hH ?rr9
  case yr9 => (intro w' hSw; (try dsimp only at hSw); go_simp; try with_reducible rfl)
  try simp only [Act.put, List.setIfInBounds_toArray, List.set_cons_zero, List.set_cons_succ]
  refine wpAnyE_takeS (i := 10) (v := .agg G) (by simp only [List.getElem?_toArray, List.getElem?_cons_succ, List.getElem?_cons_zero]; rfl) (by kernel_rfl) (by kernel_rfl) (by kernel_rfl) (by exact fun _ _ _ h => h) (by kernel_rfl) ?yr10 hH ?_
  case yr10 => exact yields_box 26 _ rfl (w1.heap.size) rfl 26 G (fun _ h => h.1) _ Tryz.underlying26 rfl IG2.out (by first | rfl | simp [Region.wanted, yielded] | (simp [Region.wanted, yielded, Act.put] <;> omega))
  try simp only [Act.put, List.setIfInBounds_toArray, List.set_cons_zero, List.set_cons_succ]
  refine wpAnyE_takeS (i := 11) (v := .agg R) (by simp only [List.getElem?_toArray, List.getElem?_cons_succ, List.getElem?_cons_zero]; rfl) (by kernel_rfl) (by kernel_rfl) (by kernel_rfl) (by exact fun _ _ _ h => h) (by kernel_rfl) ?yr11 hH ?_
  case yr11 => exact yields_box 80 _ rfl (w1.heap.size + 1) rfl 80 R (fun _ h => h.2.1) _ Tryz.underlying80 rfl IR2.out (by first | rfl | simp [Region.wanted, yielded] | (simp [Region.wanted, yielded, Act.put] <;> omega))
  try simp only [Act.put, List.setIfInBounds_toArray, List.set_cons_zero, List.set_cons_succ]
  refine wpAnyE_takeS (i := 12) (v := .agg N) (by simp only [List.getElem?_toArray, List.getElem?_cons_succ, List.getElem?_cons_zero]; rfl) (by kernel_rfl) (by kernel_rfl) (by kernel_rfl) (by exact fun _ _ _ h => h) (by kernel_rfl) ?yr12 hH ?_
  case yr12 => exact yields_box 85 _ rfl (w1.heap.size + 1 + 1) rfl 85 N (fun _ h => h.2.2.1) _ Tryz.underlying85 rfl IN2.out (by first | rfl | simp [Region.wanted, yielded] | (simp [Region.wanted, yielded, Act.put] <;> omega))
  try simp only [Act.put, List.setIfInBounds_toArray, List.set_cons_zero, List.set_cons_succ]
  refine wpAnyE_pure (i := 14) (v := ?vr14) (by simp only [List.getElem?_toArray, List.getElem?_cons_succ, List.getElem?_cons_zero]; rfl) (by kernel_rfl) (by kernel_rfl) (by kernel_rfl) (by exact fun _ _ _ h => h) (by kernel_rfl) (Or.inl ⟨by rfl, ?yr14⟩) hH ?rr14
  case yr14 => (intro w' hSw; (try dsimp only at hSw); go_simp; try with_reducible rfl)
  try simp only [Act.put, List.setIfInBounds_toArray, List.set_cons_zero, List.set_cons_succ]
  refine wpAnyE_one (i := 13) (by kernel_rfl) (by simp only [List.getElem?_toArray, List.getElem?_cons_succ, List.getElem?_cons_zero]; rfl) (fun K' hK => ?_)
  go_simp
  refine (codeA_is K.v0.dat K.v1.dat K.v2.dat (by omega) (by omega) HC.out).mono ?_
  rintro e w4 ⟨rfl, hb⟩
  replace K := K.later hb
  replace X := X.later (keepsLR rr) hb
  replace Y := Y.later (keepsLR rr) hb
  clear hb
  clear hH
  refine hK.out _ _ ⟨K.v0.box, K.v1.box, K.v2.box, X.box, Y.box⟩ (fun hH => ?_)
  clear hK K'
  try simp only [Act.put, List.setIfInBounds_toArray, List.set_cons_zero, List.set_cons_succ]
  obtain ⟨w3, rfl⟩ : ∃ x, x = w4 := ⟨_, rfl⟩
  refine wpAnyE_pure (i := 15) (v := ?vr15) (by simp only [List.getElem?_toArray, List.getElem?_cons_succ, List.getElem?_cons_zero]; rfl) (by kernel_rfl) (by kernel_rfl) (by kernel_rfl) (by exact fun _ _ _ h => h) (by kernel_rfl) (Or.inl ⟨by rfl, ?yr15⟩) hH ?rr15
  case yr15 => (intro w' hSw; (try dsimp only at hSw); go_simp; try with_reducible rfl)
  try simp only [Act.put, List.setIfInBounds_toArray, List.set_cons_zero, List.set_cons_succ]
  refine wpAnyE_pure (i := 16) (v := ?vr16) (by simp only [List.getElem?_toArray, List.getElem?_cons_succ, List.getElem?_cons_zero]; rfl) (by kernel_rfl) (by kernel_rfl) (by kernel_rfl) (by exact fun _ _ _ h => h) (by kernel_rfl) (Or.inl ⟨by rfl, ?yr16⟩) hH ?rr16
  case yr16 => (intro w' hSw; (try dsimp only at hSw); go_simp; try with_reducible rfl)
  try simp only [Act.put, List.setIfInBounds_toArray, List.set_cons_zero, List.set_cons_succ]
  refine wpAnyE_pure (i := 17) (v := ?vr17) (by simp only [List.getElem?_toArray, List.getElem?_cons_succ, List.getElem?_cons_zero]; rfl) (by kernel_rfl) (by kernel_rfl) (by kernel_rfl) (by exact fun _ _ _ h => h) (by kernel_rfl) (Or.inl ⟨by rfl, ?yr17⟩) hH ?rr17
  case yr17 => (intro w' hSw; (try dsimp only at hSw); go_simp; try with_reducible rfl)
  try simp only [Act.put, List.setIfInBounds_toArray, List.set_cons_zero, List.set_cons_succ]
  refine wpAnyE_takeS (i := 18) (v := .agg R) (by simp only [List.getElem?_toArray, List.getElem?_cons_succ, List.getElem?_cons_zero]; rfl) (by kernel_rfl) (by kernel_rfl) (by kernel_rfl) (by exact fun _ _ _ h => h) (by kernel_rfl) ?yr18 hH ?_
  case yr18 => exact yields_box 80 _ rfl (w1.heap.size + 1) rfl 80 R (fun _ h => h.2.1) _ Tryz.underlying80 rfl IR2.out (by first | rfl | simp [Region.wanted, yielded] | (simp [Region.wanted, yielded, Act.put] <;> omega))
  try simp only [Act.put, List.setIfInBounds_toArray, List.set_cons_zero, List.set_cons_succ]
  refine wpAnyE_takeS (i := 19) (v := .agg N) (by simp only [List.getElem?_toArray, List.getElem?_cons_succ, List.getElem?_cons_zero]; rfl) (by kernel_rfl) (by kernel_rfl) (by kernel_rfl) (by exact fun _ _ _ h => h) (by kernel_rfl) ?yr19 hH ?_
  case yr19 => exact yields_box 85 _ rfl (w1.heap.size + 1 + 1) rfl 85 N (fun _ h => h.2.2.1) _ Tryz.underlying85 rfl IN2.out (by first | rfl | simp [Region.wanted, yielded] | (simp [Region.wanted, yielded, Act.put] <;> omega))
  try simp only [Act.put, List.setIfInBounds_toArray, List.set_cons_zero, List.set_cons_succ]
  refine wpAnyE_takeS (i := 21) (v := .agg R) (by simp only [List.getElem?_toArray, List.getElem?_cons_succ, List.getElem?_cons_zero]; rfl) (by kernel_rfl) (by kernel_rfl) (by kernel_rfl) (by exact fun _ _ _ h => h) (by kernel_rfl) ?yr21 hH ?_
  case yr21 => exact yields_box 80 _ rfl (w1.heap.size + 1) rfl 80 R (fun _ h => h.2.1) _ Tryz.underlying80 rfl IR2.out (by first | rfl | simp [Region.wanted, yielded] | (simp [Region.wanted, yielded, Act.put] <;> omega))
  try simp only [Act.put, List.setIfInBounds_toArray, List.set_cons_zero, List.set_cons_succ]
  refine wpAnyE_takeS (i := 22) (v := .agg N) (by simp only [List.getElem?_toArray, List.getElem?_cons_succ, List.getElem?_cons_zero]; rfl) (by kernel_rfl) (by kernel_rfl) (by kernel_rfl) (by exact fun _ _ _ h => h) (by kernel_rfl) ?yr22 hH ?_
  case yr22 => exact yields_box 85 _ rfl (w1.heap.size + 1 + 1) rfl 85 N (fun _ h => h.2.2.1) _ Tryz.underlying85 rfl IN2.out (by first | rfl | simp [Region.wanted, yielded] | (simp [Region.wanted, yielded, Act.put] <;> omega))
  try simp only [Act.put, List.setIfInBounds_toArray, List.set_cons_zero, List.set_cons_succ]
  refine wpAnyE_one (i := 20) (by kernel_rfl) (by simp only [List.getElem?_toArray, List.getElem?_cons_succ, List.getElem?_cons_zero]; rfl) (fun K' hK => ?_)
  go_simp
  refine (sameA_is K.v1.dat K.v2.dat (by omega) HS.out).mono ?_
  rintro e w4 ⟨rfl, hb⟩
  replace K := K.later hb
  replace X := X.later (keepsLR rr) hb
  replace Y := Y.later (keepsLR rr) hb
  clear hb
  clear hH
  refine hK.out _ _ ⟨K.v0.box, K.v1.box, K.v2.box, X.box, Y.box⟩ (fun hH => ?_)
  clear hK K'
  try simp only [Act.put, List.setIfInBounds_toArray, List.set_cons_zero, List.set_cons_succ]
  obtain ⟨w3, rfl⟩ : ∃ x, x = w4 := ⟨_, rfl⟩
  refine wpAnyE_one (i := 23) (by kernel_rfl) (by simp only [List.getElem?_toArray, List.getElem?_cons_succ, List.getElem?_cons_zero]; rfl) (fun K' hK => ?_)
  go_simp
  refine (specSameA_is K.v1.dat K.v2.dat (by omega) HS.out).mono ?_
  rintro e w4 ⟨rfl, hb⟩
  replace K := K.later hb
  replace X := X.later (keepsLR rr) hb
  replace Y := Y.later (keepsLR rr) hb
  clear hb
  clear hH
  refine hK.out _ _ ⟨K.v0.box, K.v1.box, K.v2.box, X.box, Y.box⟩ (fun hH => ?_)
  clear hK K'
  try simp only [Act.put, List.setIfInBounds_toArray, List.set_cons_zero, List.set_cons_succ]
  obtain ⟨w3, rfl⟩ : ∃ x, x = w4 := ⟨_, rfl⟩
  refine wpAnyE_pure (i := 24) (v := ?vr24) (by simp only [List.getElem?_toArray, List.getElem?_cons_succ, List.getElem?_cons_zero]; rfl) (by kernel_rfl) (by kernel_rfl) (by kernel_rfl) (by exact fun _ _ _ h => h) (by kernel_rfl) (Or.inl ⟨by rfl, ?yr24⟩) hH ?rr24
  case yr24 => (intro w' hSw; (try dsimp only at hSw); go_simp; try with_reducible rfl)
  try simp only [Act.put, List.setIfInBounds_toArray, List.set_cons_zero, List.set_cons_succ]
  refine wpAnyE_end (i := 25) (by kernel_rfl) (by simp only [List.getElem?_toArray, List.getElem?_cons_succ, List.getElem?_cons_zero]; rfl) (by kernel_rfl) (fun K' hK => ?_)
  go_simp
  refine hK.out _ _ ⟨K.v0.box, K.v1.box, K.v2.box, X.box, Y.box⟩ ?_
  clear hK K'
  try simp only [Act.put, List.setIfInBounds_toArray, List.set_cons_zero, List.set_cons_succ]
  clear hH Y
  obtain ⟨w2, rfl⟩ : ∃ x, x = w3 := ⟨_, rfl⟩
  by_cases hz0 : cd = 0
  rotate_left
  · have hz0' : (cd != 0) = true := by simpa using hz0
    have hre := read_else HZ.out hz0
    clear hz0
    obtain ⟨x0, x1, Ax, cx, x4⟩ := X.dat.at.cells
    have c4 := (X.box.cell 4).trans x4
    clear x0 x1 x4
    obtain ⟨m, hm⟩ : ∃ m, rr.os.length = m := ⟨_, rfl⟩
    rw [hm] at c4
    rcases m with _ | m
    · have E := bel_trans E1 K.bel
      clear K X hre hm
      go_wp2
      go_ret
      exact ⟨rfl, E⟩
    · have hrr : rr = d1 := by
        rcases hre with h | h
        · rw [h] at hm; simp at hm
        · exact h
      have hm0 : (((m + 1 : Nat) : Int) == 0) = false := by simp; omega
      have hm0' : (((m : Int) + 1) == 0) = false := by simp; omega
      have XR : AtR d1 w2 FX (.agg CX) := hrr ▸ X.dat.at
      clear hre hm
      go_wp2_with (first | (refine wpList_load_box 80 _ rfl (VX) rfl 80 CX X.box _ Tryz.underlying80 rfl JX.out (by first | rfl | simp [Region.wanted, yielded] | (simp [Region.wanted, yielded, Act.put] <;> omega)) ?_) | (refine wpList_load_box 80 _ rfl (w1.heap.size + 1) rfl 80 R K.v1.box _ Tryz.underlying80 rfl IR2.out (by first | rfl | simp [Region.wanted, yielded] | (simp [Region.wanted, yielded, Act.put] <;> omega)) ?_))
      refine (likeA_is XR K.v1.dat.at (by omega)).mono ?_
      rintro e w3 ⟨rfl, hb⟩
      have E := bel_trans E1 (bel_trans K.bel hb)
      clear K X XR hb c4 hm0 hm0'
      go_wp2
      go_ret
      exact ⟨rfl, E⟩
  subst hz0
  -- another value
  have hcode := read_code HZ.out
  have hvv := val_bd (val_v1 hcode)
  have hO := other_code HZ.out
  have hA := read_again HZ.out
  have hS2 := read_same HZ.out
  have hGt := read_get HZ.out
  have hCm := read_cmp HZ.out
  replace hO := Lib.hid hO
  replace hA := Lib.hid hA
  replace hS2 := Lib.hid hS2
  replace hGt := Lib.hid hGt
  replace hCm := Lib.hid hCm
  clear hcode hzz hss HS HC HZ
  have hb := bel_new_row w2 #[.int .i64 0, .int .i64 0, .int .i64 0, .int .i64 0, .int .i64 0, .int .i64 0, .int .i64 0, .int .i64 0, .int .i64 0, .int .i64 0, .int .i64 0, .slice none 0 0, .slice none 0 0, .int .i64 0, .int .i64 0, .int .i64 0] 85 N
  have NN := K.v2.dat
  have Kn := K.v2.box
  have ZB := Box.new w2 85 #[.int .i64 0, .int .i64 0, .int .i64 0, .int .i64 0, .int .i64 0, .int .i64 0, .int .i64 0, .int .i64 0, .int .i64 0, .int .i64 0, .int .i64 0, .slice none 0 0, .slice none 0 0, .int .i64 0, .int .i64 0, .int .i64 0]
  have O : VarOf (AtN d2) 85 ((w2.alloc (.cells #[.int .i64 0, .int .i64 0, .int .i64 0, .int .i64 0, .int .i64 0, .int .i64 0, .int .i64 0, .int .i64 0, .int .i64 0, .int .i64 0, .int .i64 0, .slice none 0 0, .slice none 0 0, .int .i64 0, .int .i64 0, .int .i64 0] 85)).setRow w2.heap.size N) (· < w1.heap.size) w2.heap.size N := VarOf.put (keepsN d2) ZB ((keepsN d2).later NN (bel_alloc w2 _)) (by have := K.bel.size; omega)
  have hVO : w1.heap.size + 1 + 1 < w2.heap.size := K.v2.box.lt
  have hVX := X.box.lt
  replace K := K.later hb
  replace X := X.later (keepsLR rr) hb
  clear hb
  clear NN
  go_upto_region 11 with (first | (refine wpList_load_box 85 _ rfl (w1.heap.size + 1 + 1) rfl 85 N Kn _ Tryz.underlying85 rfl IN2.out (by first | rfl | simp [Region.wanted, yielded] | (simp [Region.wanted, yielded, Act.put] <;> omega)) ?_) | (refine wpList_store_row rfl 85 _ _ rfl w2.heap.size _ rfl rfl 85 #[.int .i64 0, .int .i64 0, .int .i64 0, .int .i64 0, .int .i64 0, .int .i64 0, .int .i64 0, .int .i64 0, .int .i64 0, .int .i64 0, .int .i64 0, .slice none 0 0, .slice none 0 0, .int .i64 0, .int .i64 0, .int .i64 0] ZB IN2.out IN.out.1.symm IN.out.2.2 ?_))
  clear ZB Kn
  generalize ((w2.alloc _).setRow _ _ : World) = w3 at K X O ⊢
  generalize w2.heap.size = VO at hVO hVX O ⊢
  obtain ⟨w2, rfl⟩ : ∃ x, x = w3 := ⟨_, rfl⟩
  obtain ⟨n1, n5, n6, n7⟩ := K.v2.dat.cells
  have c7 := (K.v2.box.cell 7).trans n7
  have o7 := (O.box.cell 7).trans n7
  have fo := O.box.frozen
  have ht : Turns (· = VO) w2 (w2.setCell ⟨VO, 7, none⟩ (.int .i64 ((d2.v1 + 1) % 10000))) := turns_cell w2 VO 7 _
  have O2 : VarOf (AtN ⟨d2.k1, d2.k2, d2.k3, d2.k4, d2.k5, d2.t1, d2.t2, (d2.v1 + 1) % 10000, d2.o1, d2.o2, d2.v2, d2.l1, d2.l2, d2.v3, d2.cs, d2.ms⟩) 85 _ (· < w1.heap.size) VO (N.setIfInBounds 7 (.int .i64 ((d2.v1 + 1) % 10000))) := ⟨O.box.set 7 _, O.far, (keepsN _).turn (O.dat.val _) ht (fun b hb e => by omega)⟩
  have JO := Lib.hid (sizeN8 O2.dat).2
  replace K := K.turn ht (fun b hb => by omega)
  replace X := X.turn (keepsLR rr) ht (by omega) (fun b hb e => by have := hFX b hb; omega)
  clear ht O n1 n5 n6 n7
  go_upto_region 12 with fail
  generalize (w2.setCell _ _ : World) = w3 at K X O2 ⊢
  clear c7 o7 fo
  obtain ⟨w2, rfl⟩ : ∃ x, x = w3 := ⟨_, rfl⟩
  go_wp2_with (first | (refine wpList_load_box 26 _ rfl (w1.heap.size) rfl 26 G K.v0.box _ Tryz.underlying26 rfl IG2.out (by first | rfl | simp [Region.wanted, yielded] | (simp [Region.wanted, yielded, Act.put] <;> omega)) ?_) | (refine wpList_load_box 80 _ rfl (VX) rfl 80 CX X.box _ Tryz.underlying80 rfl JX.out (by first | rfl | simp [Region.wanted, yielded] | (simp [Region.wanted, yielded, Act.put] <;> omega)) ?_) | (refine wpList_load_box 85 _ rfl (w1.heap.size + 1 + 1) rfl 85 N K.v2.box _ Tryz.underlying85 rfl IN2.out (by first | rfl | simp [Region.wanted, yielded] | (simp [Region.wanted, yielded, Act.put] <;> omega)) ?_))
  refine (readiedA_is K.v0.dat X.dat.ats K.v2.dat (by omega) (by omega) hA.out).mono ?_
  rintro e w3 ⟨CZ, rfl, L, hb⟩
  replace K := K.later hb
  replace X := X.later (keepsLR rr) hb
  replace O2 := O2.later (keepsN _) hb
  clear hb
  have O := Lib.hid (oneR L.at)
  have JZ := Lib.hid (sizeR L.at).2
  have hb := bel_new_row w3 #[.int .i64 0, .int .i64 0, .int .i64 0, .slice none 0 0, .slice none 0 0] 80 CZ
  have hV := K.v2.box.lt
  have Z := var_new_row (keepsLR rr) (Z := #[.int .i64 0, .int .i64 0, .int .i64 0, .slice none 0 0, .slice none 0 0]) 80 L (fun b hb => hb.2)
  replace K := K.later hb
  replace X := X.later (keepsLR rr) hb
  replace O2 := O2.later (keepsN _) hb
  clear hb
  obtain ⟨FZ, Z, hFZ⟩ : ∃ F, VarOf (LieR rr) 80 ((w3.alloc (.cells #[.int .i64 0, .int .i64 0, .int .i64 0, .slice none 0 0, .slice none 0 0] 80)).setRow w3.heap.size CZ) F w3.heap.size CZ ∧ ∀ b, F b → b < w3.heap.size := ⟨_, Z, fun b hb => hb.2⟩
  have ZB := Box.new w3 80 #[.int .i64 0, .int .i64 0, .int .i64 0, .slice none 0 0, .slice none 0 0]
  clear L
  go_upto_region 13 with (refine wpList_store_row rfl 80 _ _ rfl w3.heap.size _ rfl rfl 80 #[.int .i64 0, .int .i64 0, .int .i64 0, .slice none 0 0, .slice none 0 0] ZB JZ.out O.out.1.symm O.out.2 ?_)
  clear ZB O
  generalize ((w3.alloc _).setRow _ _ : World) = w4 at K Z X O2 ⊢
  generalize w3.heap.size = VZ at hV Z hFZ ⊢
  clear hV
  obtain ⟨w2, rfl⟩ : ∃ x, x = w4 := ⟨_, rfl⟩
  obtain ⟨n1, n5, n6, n7⟩ := K.v2.dat.cells
  have c1 := (K.v2.box.cell 1).trans n1
  go_wp2_with (refine wpList_load_box 80 _ rfl (VX) rfl 80 CX X.box _ Tryz.underlying80 rfl JX.out (by first | rfl | simp [Region.wanted, yielded] | (simp [Region.wanted, yielded, Act.put] <;> omega)) ?_)
  refine (openA_is X.dat.at (by omega) hGt.out).mono ?_
  rintro e w3 ⟨rfl, hb⟩
  clear c1
  unfold opnD
  replace K := K.later hb
  replace X := X.later (keepsLR rr) hb
  replace O2 := O2.later (keepsN _) hb
  replace Z := Z.later (keepsLR rr) hb
  clear hb
  have P := Box.new w3 97 #[.int .i64 d2.k2, .int .i64 d2.t1, .int .i64 d2.t2, .int .i64 d2.v1]
  have hb := bel_alloc w3 (.cells #[.int .i64 d2.k2, .int .i64 d2.t1, .int .i64 d2.t2, .int .i64 d2.v1] 97)
  replace K := K.later hb
  replace X := X.later (keepsLR rr) hb
  replace O2 := O2.later (keepsN _) hb
  replace Z := Z.later (keepsLR rr) hb
  clear hb
  go_upto_region 14 with fail
  generalize (w3.alloc _ : World) = w4 at K X O2 Z P ⊢
  generalize w3.heap.size = VP at P ⊢
  obtain ⟨w2, rfl⟩ : ∃ x, x = w4 := ⟨_, rfl⟩
  -- the answer
  go_wp2_with (first | (refine wpList_load_box 26 _ rfl (w1.heap.size) rfl 26 G K.v0.box _ Tryz.underlying26 rfl IG2.out (by first | rfl | simp [Region.wanted, yielded] | (simp [Region.wanted, yielded, Act.put] <;> omega)) ?_) | (refine wpList_load_box 80 _ rfl (VX) rfl 80 CX X.box _ Tryz.underlying80 rfl JX.out (by first | rfl | simp [Region.wanted, yielded] | (simp [Region.wanted, yielded, Act.put] <;> omega)) ?_) | (refine wpList_load_box 85 _ rfl (VO) rfl 85 (N.setIfInBounds 7 (.int .i64 ((d2.v1 + 1) % 10000))) O2.box _ Tryz.underlying85 rfl JO.out (by first | rfl | simp [Region.wanted, yielded] | (simp [Region.wanted, yielded, Act.put] <;> omega)) ?_))
  refine (codeA_is K.v0.dat X.dat.ats O2.dat (by omega) (by unfold NoteD.sz at hz2; show d2.cs.length + d2.ms.length ≤ 1048576; omega) hO.out).mono ?_
  rintro e w3 ⟨rfl, hb⟩
  replace P := P.later hb P.lt
  replace K := K.later hb
  replace X := X.later (keepsLR rr) hb
  replace O2 := O2.later (keepsN _) hb
  replace Z := Z.later (keepsLR rr) hb
  clear hb
  obtain ⟨w2, rfl⟩ : ∃ x, x = w3 := ⟨_, rfl⟩
  go_wp2_with (first | (refine wpList_load_box 80 _ rfl (VZ) rfl 80 CZ Z.box _ Tryz.underlying80 rfl JZ.out (by first | rfl | simp [Region.wanted, yielded] | (simp [Region.wanted, yielded, Act.put] <;> omega)) ?_) | (refine wpList_load_box 80 _ rfl (VX) rfl 80 CX X.box _ Tryz.underlying80 rfl JX.out (by first | rfl | simp [Region.wanted, yielded] | (simp [Region.wanted, yielded, Act.put] <;> omega)) ?_))
  refine (likeA_is Z.dat.at X.dat.at (by omega)).mono ?_
  rintro e w3 ⟨rfl, hb⟩
  replace P := P.later hb P.lt
  replace K := K.later hb
  replace X := X.later (keepsLR rr) hb
  replace O2 := O2.later (keepsN _) hb
  replace Z := Z.later (keepsLR rr) hb
  clear hb
  obtain ⟨w2, rfl⟩ : ∃ x, x = w3 := ⟨_, rfl⟩
  go_wp2_with (first | (refine wpList_load_box 80 _ rfl (VX) rfl 80 CX X.box _ Tryz.underlying80 rfl JX.out (by first | rfl | simp [Region.wanted, yielded] | (simp [Region.wanted, yielded, Act.put] <;> omega)) ?_) | (refine wpList_load_box 85 _ rfl (w1.heap.size + 1 + 1) rfl 85 N K.v2.box _ Tryz.underlying85 rfl IN2.out (by first | rfl | simp [Region.wanted, yielded] | (simp [Region.wanted, yielded, Act.put] <;> omega)) ?_))
  refine (sameA_is X.dat.ats K.v2.dat (by omega) hS2.out).mono ?_
  rintro e w3 ⟨rfl, hb⟩
  replace P := P.later hb P.lt
  replace K := K.later hb
  replace X := X.later (keepsLR rr) hb
  replace O2 := O2.later (keepsN _) hb
  replace Z := Z.later (keepsLR rr) hb
  clear hb
  obtain ⟨w2, rfl⟩ : ∃ x, x = w3 := ⟨_, rfl⟩
  obtain ⟨p0, p1, p2, p3⟩ := P.four
  have c5 := (K.v2.box.cell 5).trans n5
  have c6 := (K.v2.box.cell 6).trans n6
  have c7 := (K.v2.box.cell 7).trans n7
  obtain ⟨x0, x1, -⟩ := X.dat.at.cells
  have x0 := (X.box.cell 0).trans x0
  have x1 := (X.box.cell 1).trans x1
  obtain ⟨r0, r1, -⟩ := K.v1.dat.at.cells
  have r0 := (K.v1.box.cell 0).trans r0
  have r1 := (K.v1.box.cell 1).trans r1
  go_wp2_with fail
  refine (cmpA_is hCm.out w2).mono ?_
  rintro e w3 ⟨rfl, hb⟩
  have E := bel_trans E1 (bel_trans K.bel hb)
  clear K X O2 Z P hb p0 p1 p2 p3 c5 c6 c7 x0 x1 r0 r1 n1 n5 n6 n7
  go_wp2
  go_ret
  exact ⟨rfl, E⟩

end Go.Proofs.YtjdepjpjjgkmbaaGreat

namespace Go.Proofs.YtjdepjpjjgkmbaaGreat
set_option maxRecDepth 100000
open Go.ChangeShapes Go.WideShapes Go.ChangeAt Go.RowKit
set_option linter.unusedVariables false


namespace fnReadyF
set_option maxRecDepth 100000 in
theorem lifted (os : Os) (started : os.Started) (H : Type) (enc : TypeId × Value → H) :
    ReturnsInHanded {} Tryz.checked os 10 .any (Rows.fnReadySpec.pre6 enc Tryz.prog Tryz.f10 Rows.fnReadyRow.domain false) (Rows.fnReadySpec.post enc Tryz.prog Tryz.f10 false true false false) := by
  refine returnsInHanded_of_change (C := Tryz.checked) ownB started (by kernel_rfl) Tryz.func10
    (ChangeSpec.witness6 (enc := enc) (C := Tryz.checked) false ⟨#[], #[.slice none 0 0], []⟩ 8 (by kernel_rfl) (by kernel_rfl) (by kernel_rfl) (by kernel_rfl)) ?_
  intro W base args ds gs before hval0 hW hcnd _
  have hval : ∀ (j : Nat) t v, Tryz.f10.params[j]? = some t → args[j]? = some v → Value.okWide Tryz.prog W .any base t v := hval0
  have hW' := hW
  obtain ⟨p, q, hA0, hV, rfl, hfz, hnd⟩ := hW
  have hA : DataW.TrodAll enc Tryz.prog W 0 (fun _ => true) true Tryz.f10.params.toList args.toList ds p := hA0
  rw [Tryz.params10] at hA hval
  obtain ⟨v0, vs0, d0, ds0, p0, q0, hargs, rfl, rfl, h0, r0⟩ := trodAll_cons hA
  obtain ⟨rfl, rfl, rfl⟩ := trodAll_nil r0
  obtain rfl : args = #[v0] := by cases args; simp_all
  obtain ⟨rfl, rfl⟩ := trodVars_none hV
  have k0 := h0
  have lt0 : ∀ x ∈ p0, x.block < W.heap.size := by obtain ⟨m, hm⟩ := k0; exact DataW.trod_lt m _ _ _ hm
  obtain ⟨A, n, cap, rfl, hB, hmx⟩ := bytes_read (hval 0 22 v0 rfl rfl) h0
  clear hA0 hval0
  have walk : Calls Tryz.prog 10 #[.slice A n cap] W fun e w' => e = .returned (.bool true) ∧ Below W.heap.size W w' := by
    by_cases hs : n ≤ 4096
    · exact ready_small A n cap W hs hB
    · exact ready_big A n cap W hmx (by omega)
  refine walk.mono fun e W' ⟨he, bel⟩ => ?_
  subst he
  exact ⟨_, rfl, _, _, _, [], _, [], hW', trodAll_mk1 (shut_bool Tryz.underlying4 _), (trodAll_cons_mk (Below.trod laidOutBytes (by kernel_rfl) (of_decide_eq_true (by kernel_rfl)) k0 bel lt0) trodAll_mk0), rfl, bel.frame _, fun h => by cases h⟩

theorem proved : Rows.FnReadySaid :=
  OpenClaim.holds_of_wide 10 Tryz.f10 rfl rfl rfl rfl rfl rfl rfl ⟨rfl, rfl, rfl, rfl, rfl⟩ rfl rfl rfl rfl rfl (by kernel_rfl) Tryz.func10 (by kernel_rfl)
    (of_decide_eq_true (by kernel_rfl)) (by unfold Func.isWrapper; first | (rw [if_pos (by decide +kernel)]; kernel_rfl) | (rw [if_neg (by decide +kernel)]; exact ⟨rfl, rfl⟩))
    (fun os started H enc _ => lifted os started H enc)
end fnReadyF

theorem fnReady_holds : Rows.FnReadySaid := fnReadyF.proved
end Go.Proofs.YtjdepjpjjgkmbaaGreat
