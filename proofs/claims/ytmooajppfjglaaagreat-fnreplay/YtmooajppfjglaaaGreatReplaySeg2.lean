/- The model's l9Apply: a right record is done to its shelf (written by apply_s.py); conditions: the shelves are right, the sizes. -/
import Derived.Test.YtmooajppfjglaaaGreatReplaySeg0
import Derived.Test.YtmooajppfjglaaaGreatReplaySeg1
import Derived.Test.YtmooajppfjglaaaGreatSpecStamp
import Derived.Test.YtmooajppfjglaaaGreatBase
import Derived.Test.YtmooajppfjglaaaGreatNoteShape
import Derived.Test.YtmooajppfjglaaaGreatRegBase
import Derived.Test.YtmooajppfjglaaaGreatDrawReg2
import Derived.Test.YtmooajppfjglaaaGreatRegOk2
import Derived.Test.YtmooajppfjglaaaGreatVarReg

/- The laws' helpers over lists of shelves: two lists compared; conditions: the sizes. -/
namespace Go.Proofs.YtmooajppfjglaaaGreat
open Go Go.RowKit

/-- A list of shelves, read. -/
def RegsR (rs : List RegD) (w : World) (A : Option Addr) (n : Nat) : Prop :=
  rs.length = n ∧ (0 < n → ∃ b, A = some ⟨b, 0, none⟩ ∧ b < w.heap.size ∧ ∀ i (h : i < rs.length), ∃ u v, w.cell? ⟨b, i * 5, none⟩ = some (.int .i64 (rs[i]).t) ∧ w.cell? ⟨b, i * 5 + 1, none⟩ = some (.int .i64 (rs[i]).q) ∧ w.cell? ⟨b, i * 5 + 2, none⟩ = some (.int .i64 (rs[i]).v) ∧ w.cell? ⟨b, i * 5 + 3, none⟩ = some u ∧ w.cell? ⟨b, i * 5 + 4, none⟩ = some v ∧
    AtR rs[i] w (fun _ => True) (.agg #[.int .i64 (rs[i]).t, .int .i64 (rs[i]).q, .int .i64 (rs[i]).v, u, v]))
theorem RegsR.later {rs : List RegD} {w w' : World} {A : Option Addr} {n : Nat} (h : RegsR rs w A n) (hb : Below w.heap.size w w') : RegsR rs w' A n := by
  refine ⟨h.1, fun hn => ?_⟩
  obtain ⟨b, hA, hbl, hc⟩ := h.2 hn
  have F : ∀ o x, w.cell? ⟨b, o, none⟩ = some x → w'.cell? ⟨b, o, none⟩ = some x := fun o x h => (hb.cell (p := ⟨b, o, none⟩) hbl).trans h
  refine ⟨b, hA, Nat.lt_of_lt_of_le hbl hb.size, fun i hi => ?_⟩
  obtain ⟨u, v, c0, c1, c2, c3, c4, h5⟩ := hc i hi
  exact ⟨u, v, F _ _ c0, F _ _ c1, F _ _ c2, F _ _ c3, F _ _ c4, (keepsR _).later h5 hb⟩
theorem RegsOwn.reads {P : RegD → World → (Nat → Prop) → Value → Prop} (hP : ∀ d w F v, P d w F v → AtR d w (fun _ => True) v) {w : World} {G lo : Nat} {rs : List RegD} (h : RegsOwn P w G lo rs) {n : Nat} (hn : rs.length = n) : RegsR rs w (some ⟨G, 0, none⟩) n := by
  obtain ⟨_, Fs, hR, _⟩ := h
  refine ⟨hn, fun _ => ⟨G, rfl, hR.lt, fun i hi => ?_⟩⟩
  obtain ⟨u, v, c0, c1, c2, c3, c4, hp⟩ := hR.get hi
  exact ⟨u, v, c0, c1, c2, c3, c4, hP _ _ _ _ hp⟩
theorem AtW.read {d : RegD} {w : World} {F : Nat → Prop} {v : Value} (h : AtW d w F v) : AtR d w (fun _ => True) v := (keepsR d).sub h.at (fun _ _ => trivial)
theorem LieE.read {d : RegD} {w : World} {F : Nat → Prop} {v : Value} (h : LieE d w F v) : AtR d w (fun _ => True) v := by
  obtain ⟨A, n, c, A', n', c', lo, B, hi, e, h1, h2, -⟩ := h
  have hs1 := h1.slc
  have hs2 := h2.slc
  have m1 : n ≤ maxLen := by
    rcases h1 with ⟨h, -⟩ | ⟨g, cap, _, _, h, h3, h4, _⟩
    · injection h with _ h _; omega
    · injection h with _ h _; omega
  have m2 : n' ≤ maxLen := by
    rcases h2 with ⟨h, -⟩ | ⟨g, cap, _, _, h, h3, h4, _⟩
    · injection h with _ h _; omega
    · injection h with _ h _; omega
  refine ⟨A, n, c, A', n', c', e, m1, m2, ⟨?_, fun _ _ _ _ => trivial⟩, ⟨?_, fun _ _ _ _ => trivial⟩⟩
  · rcases hs1.1 with ⟨h, hd⟩ | ⟨b, o, n1, c1, h, hp⟩
    · injection h with q1 q2 _
      subst q1 q2
      rw [hd]
      exact ⟨rfl, fun h => absurd h (by omega)⟩
    · injection h with q1 q2 _
      subst q1 q2
      exact hp
  · rcases hs2.1 with ⟨h, hd⟩ | ⟨b, o, n1, c1, h, _, _, hp⟩
    · injection h with q1 q2 _
      subst q1 q2
      rw [hd]
      exact ⟨rfl, fun h => absurd h (by omega)⟩
    · injection h with q1 q2 _
      subst q1 q2
      exact hp
theorem atAfterR {d : RegD} {w : World} {F : Nat → Prop} {v : Value} (h : AtR d w F v) (pw : After w) : AtR d pw.x F v := (keepsR d).later h pw.bel

end Go.Proofs.YtmooajppfjglaaaGreat

/- Lists of seals, and notes, that are alike: what likeSeals and likeNote answer. -/
namespace Go.Proofs.YtmooajppfjglaaaGreat
open Go.RowKit

set_option maxHeartbeats 1000000 in
theorem like_is (A A' : Option Addr) (n cap cap' : Nat) (ps : List (Int × Int)) (w : World) (hm : n ≤ 1048576) (hr : Pairs w w.heap.size A n ps) (hr' : Pairs w w.heap.size A' n ps) :
    Calls Tryz.prog 69 #[.slice A n cap, .slice A' n cap'] w fun e w' => e = .returned (.bool true) ∧ Below w.heap.size w w' := by
  have HR := Lib.hid hr
  have HR' := Lib.hid hr'
  clear hr hr'
  go_enter Tryz.func69, Tryz.ntmps69
  go_wp2_with fail
  go_loopw [5] (fun i wr => ∃ k : Nat, k ≤ n ∧ i = .int .i64 k ∧ Below w.heap.size w wr) (fun i _ => n - (intOf i).toNat)
  case atStart => exact ⟨0, Nat.zero_le _, rfl, Below.refl _ _⟩
  case round =>
    obtain ⟨k, hk, rfl, hb⟩ := hrel
    by_cases hlt : k < n
    · obtain ⟨b, o, hA, hbB, hcell⟩ := HR.out.2 (by omega)
      obtain ⟨b', o', hA', hbB', hcell'⟩ := HR'.out.2 (by omega)
      subst hA hA'
      obtain ⟨g0, g1⟩ := hcell k hlt
      obtain ⟨h0, h1⟩ := hcell' k hlt
      have hz := hb.size
      have g0 := After.cell (w := wr) (a := ⟨b, o + k * 2, none⟩) (by simp; omega) ((hb.cell (p := ⟨b, o + k * 2, none⟩) hbB).trans g0)
      have g1 := After.cell (w := wr) (a := ⟨b, o + k * 2 + 1, none⟩) (by simp; omega) ((hb.cell (p := ⟨b, o + k * 2 + 1, none⟩) hbB).trans g1)
      have h0 := After.cell (w := wr) (a := ⟨b', o' + k * 2, none⟩) (by simp; omega) ((hb.cell (p := ⟨b', o' + k * 2, none⟩) hbB').trans h0)
      have h1 := After.cell (w := wr) (a := ⟨b', o' + k * 2 + 1, none⟩) (by simp; omega) ((hb.cell (p := ⟨b', o' + k * 2 + 1, none⟩) hbB').trans h1)
      generalize pth ps k = x at g0 g1 h0 h1
      obtain ⟨x, y⟩ := x
      have hlt' : (k : Int) < (n : Int) := by omega
      clear hcell hcell'
      go_wp2_with fail
      refine wp_region_after (by kernel_rfl) (by kernel_rfl) ?_
      repeat (first | go_big_quiet_step (fail) | quiet_step (fail))
      refine wpQuiet_nil ?_
      intro pw
      have E3 := bel_trans hb pw.bel
      go_wp2
      go_roundw
      case rel => exact ⟨k + 1, by omega, by go_num, E3⟩
      case measure => simp [intOf]; omega
    · go_wp2
      go_ret
      exact ⟨rfl, hb⟩

end Go.Proofs.YtmooajppfjglaaaGreat

/- laws.likeReg on two shelves that read alike. -/
namespace Go.Proofs.YtmooajppfjglaaaGreat
open Go.RowKit

set_option maxRecDepth 100000 in
set_option maxHeartbeats 4000000 in
theorem likeReg_is (rt rq rv : Int) (P : Option Addr) (p pc : Nat) (Q : Option Addr) (q qc : Nat) (P' : Option Addr) (pc' : Nat) (Q' : Option Addr) (qc' : Nat) (ps : List (Int × Int)) (os : List Opn) (w : World) (hp : p ≤ 1048576) (hq : q ≤ 1048576) (h1 : Pairs w w.heap.size P p ps) (h2 : Quads w w.heap.size Q q os) (h3 : Pairs w w.heap.size P' p ps) (h4 : Quads w w.heap.size Q' q os) :
    Calls Tryz.prog 17 #[.agg #[.int .i64 rt, .int .i64 rq, .int .i64 rv, .slice P p pc, .slice Q q qc], .agg #[.int .i64 rt, .int .i64 rq, .int .i64 rv, .slice P' p pc', .slice Q' q qc']] w fun e w' => e = .returned (.bool true) ∧ Below w.heap.size w w' := by
  have X0 := (Box.new w 40 #[.int .i64 rt, .int .i64 rq, .int .i64 rv, .slice P p pc, .slice Q q qc]).alloc (.cells #[.int .i64 rt, .int .i64 rq, .int .i64 rv, .slice P' p pc', .slice Q' q qc'] 40)
  have Y0 := Box.new (w.alloc (.cells #[.int .i64 rt, .int .i64 rq, .int .i64 rv, .slice P p pc, .slice Q q qc] 40)) 40 #[.int .i64 rt, .int .i64 rq, .int .i64 rv, .slice P' p pc', .slice Q' q qc']
  simp only [World.size_alloc] at Y0
  have E0 := bel_trans (bel_alloc w (.cells #[.int .i64 rt, .int .i64 rq, .int .i64 rv, .slice P p pc, .slice Q q qc] 40)) (bel_alloc _ (.cells #[.int .i64 rt, .int .i64 rq, .int .i64 rv, .slice P' p pc', .slice Q' q qc'] 40))
  have H1 := Lib.hid (h1.later E0)
  have H2 := Lib.hid (h2.later E0)
  have H3 := Lib.hid (h3.later E0)
  have H4 := Lib.hid (h4.later E0)
  clear h1 h2 h3 h4
  go_enter Tryz.func17, Tryz.ntmps17
  go_wp2_with fail
  generalize ((w.alloc _).alloc _ : World) = w0 at X0 Y0 E0 H1 H2 H3 H4 ⊢
  refine (like_is P P' p pc pc' ps w0 hp H1.out H3.out).mono ?_
  rintro e w1 ⟨rfl, hb⟩
  have X1 := X0.later hb X0.lt
  have Y1 := Y0.later hb Y0.lt
  have E1 := bel_trans E0 hb
  replace H2 := Lib.hid (H2.out.later hb)
  replace H4 := Lib.hid (H4.out.later hb)
  have c1 := X1.cell 4
  have c2 := Y1.cell 4
  clear X0 Y0 E0 hb H1 H3
  go_wp2_with fail
  clear c1 c2
  have hzw := E1.size
  go_loopw [5] (fun i wr => ∃ k : Nat, k ≤ q ∧ i = .int .i64 k ∧ Below w1.heap.size w1 wr) (fun i _ => q - (intOf i).toNat)
  case atStart => exact ⟨0, Nat.zero_le _, rfl, Below.refl _ _⟩
  case round =>
    obtain ⟨k, hk, rfl, hb⟩ := hrel
    have c1 := (X1.later hb X1.lt).cell 4
    have c2 := (Y1.later hb Y1.lt).cell 4
    have x1 := X1.lt
    have x2 := Y1.lt
    have hz := hb.size
    by_cases hlt : k < q
    · obtain ⟨b, o, hA, hbB, hcell⟩ := H2.out.2 (by omega)
      obtain ⟨b', o', hA', hbB', hcell'⟩ := H4.out.2 (by omega)
      subst hA hA'
      obtain ⟨g0, g1, g2, g3⟩ := hcell k hlt
      obtain ⟨h0, h1, h2, h3⟩ := hcell' k hlt
      have c1 := After.cell (w := wr) (a := ⟨w.heap.size, 4, none⟩) (by simp; omega) c1
      have c2 := After.cell (w := wr) (a := ⟨w.heap.size + 1, 4, none⟩) (by simp; omega) c2
      have g0 := After.cell (w := wr) (a := ⟨b, o + k * 4, none⟩) (by simp; omega) ((hb.cell (p := ⟨b, o + k * 4, none⟩) hbB).trans g0)
      have g1 := After.cell (w := wr) (a := ⟨b, o + k * 4 + 1, none⟩) (by simp; omega) ((hb.cell (p := ⟨b, o + k * 4 + 1, none⟩) hbB).trans g1)
      have g2 := After.cell (w := wr) (a := ⟨b, o + k * 4 + 2, none⟩) (by simp; omega) ((hb.cell (p := ⟨b, o + k * 4 + 2, none⟩) hbB).trans g2)
      have g3 := After.cell (w := wr) (a := ⟨b, o + k * 4 + 3, none⟩) (by simp; omega) ((hb.cell (p := ⟨b, o + k * 4 + 3, none⟩) hbB).trans g3)
      have h0 := After.cell (w := wr) (a := ⟨b', o' + k * 4, none⟩) (by simp; omega) ((hb.cell (p := ⟨b', o' + k * 4, none⟩) hbB').trans h0)
      have h1 := After.cell (w := wr) (a := ⟨b', o' + k * 4 + 1, none⟩) (by simp; omega) ((hb.cell (p := ⟨b', o' + k * 4 + 1, none⟩) hbB').trans h1)
      have h2 := After.cell (w := wr) (a := ⟨b', o' + k * 4 + 2, none⟩) (by simp; omega) ((hb.cell (p := ⟨b', o' + k * 4 + 2, none⟩) hbB').trans h2)
      have h3 := After.cell (w := wr) (a := ⟨b', o' + k * 4 + 3, none⟩) (by simp; omega) ((hb.cell (p := ⟨b', o' + k * 4 + 3, none⟩) hbB').trans h3)
      generalize oth os k = x at g0 g1 g2 g3 h0 h1 h2 h3
      obtain ⟨x, y, z, v⟩ := x
      have hlt' : (k : Int) < (q : Int) := by omega
      have c1' := (X1.later hb X1.lt).cell 4
      have c2' := (Y1.later hb Y1.lt).cell 4
      clear hcell hcell'
      go_wp2_with fail
      refine wp_region_after (by kernel_rfl) (by kernel_rfl) ?_
      repeat (first | go_big_quiet_step (fail) | quiet_step (fail))
      refine wpQuiet_nil ?_
      intro pw
      have E3 := bel_trans hb pw.bel
      go_wp2
      go_roundw
      case rel => exact ⟨k + 1, by omega, by go_num, E3⟩
      case measure => simp [intOf]; omega
    · go_wp2
      go_ret
      exact ⟨rfl, bel_trans E1 hb⟩

end Go.Proofs.YtmooajppfjglaaaGreat

/- Two lists of shelves are alike where they read as the same data; conditions: the sizes. -/
namespace Go.Proofs.YtmooajppfjglaaaGreat
open Go Go.RowKit

theorem likeR_is {d : RegD} {w : World} {F F' : Nat → Prop} {C C' : Array Value} (h : AtR d w F (.agg C)) (h' : AtR d w F' (.agg C')) (hs : d.ps.length ≤ 1048576) (hs' : d.os.length ≤ 1048576) :
    Calls Tryz.prog 17 #[.agg C, .agg C'] w fun e w' => e = .returned (.bool true) ∧ Below w.heap.size w w' := by
  obtain ⟨A, n, cap, A', n', cap', e, hm, hm', hr, hr'⟩ := h
  obtain ⟨B, k, q, B', k', q', e', gm, gm', gr, gr'⟩ := h'
  injection e with e
  injection e' with e'
  subst e e'
  obtain rfl : n = k := hr.1.1.symm.trans gr.1.1
  obtain rfl : n' = k' := hr'.1.1.symm.trans gr'.1.1
  exact likeReg_is _ _ _ A n cap A' n' cap' B q B' q' d.ps d.os w (by rw [← hr.1.1]; exact hs) (by rw [← hr'.1.1]; exact hs') hr.1 hr'.1 gr.1 gr'.1
set_option maxRecDepth 100000 in
set_option maxHeartbeats 4000000 in
theorem likeRegs_is {rs : List RegD} {w : World} {A A' : Option Addr} {n cap cap' : Nat} (h : RegsR rs w A n) (h' : RegsR rs w A' n) (hn : n ≤ 1048576) (hz : ∀ k (h : k < rs.length), (rs[k]).ps.length ≤ 1048576 ∧ (rs[k]).os.length ≤ 1048576) :
    Calls Tryz.prog 15 #[.slice A n cap, .slice A' n cap'] w fun e w' => e = .returned (.bool true) ∧ Below w.heap.size w w' := by
  have HL := Lib.hid h.1
  have HH := Lib.hid h
  have HH' := Lib.hid h'
  have HZ := Lib.hid hz
  clear h h' hz
  go_enter Tryz.func15, Tryz.ntmps15
  go_wp2
  go_loopw [5] (fun i wr => ∃ k : Nat, k ≤ n ∧ i = .int .i64 k ∧ Below w.heap.size w wr) (fun i _ => n - (intOf i).toNat)
  case atStart => exact ⟨0, Nat.zero_le _, rfl, Below.refl _ _⟩
  case round =>
    obtain ⟨k, hk, rfl, hb⟩ := hrel
    by_cases hlt : k < n
    · have hkd : k < rs.length := by have := HL.out; omega
      obtain ⟨b, hA, hbl, hc⟩ := (HH.out.later hb).2 (by omega)
      obtain ⟨b', hA', hbl', hc'⟩ := (HH'.out.later hb).2 (by omega)
      subst hA hA'
      obtain ⟨u, v, c0, c1, c2, c3, c4, hat⟩ := hc k hkd
      obtain ⟨u', v', k0, k1, k2, k3, k4, hat'⟩ := hc' k hkd
      have hzz := HZ.out k hkd
      obtain ⟨d, hd⟩ : ∃ d : RegD, rs[k] = d := ⟨_, rfl⟩
      rw [hd] at c0 c1 c2 hat k0 k1 k2 hat' hzz
      have f0 := After.cell hbl c0
      have f1 := After.cell hbl c1
      have f2 := After.cell hbl c2
      have f3 := After.cell hbl c3
      have f4 := After.cell hbl c4
      have e0 := After.cell hbl' k0
      have e1 := After.cell hbl' k1
      have e2 := After.cell hbl' k2
      have e3 := After.cell hbl' k3
      have e4 := After.cell hbl' k4
      have hltI : (k : Int) < (n : Int) := by omega
      have hkw : IntKind.i64.wrap ((k : Int) + 1) = (k : Int) + 1 := IntWalk.i64_in _ (by omega)
      have HAT := Lib.hid hat
      have HAT' := Lib.hid hat'
      have HZZ := Lib.hid hzz
      clear hd hat hat' hzz hc hc'
      go_upto_region 6 with fail
      refine wp_region_after (by kernel_rfl) (by kernel_rfl) ?_
      repeat (first | go_big_quiet_step ((go_at_call 17; exact after_of (likeR_is (atAfterR HAT.out _) (atAfterR HAT'.out _) HZZ.out.1 HZZ.out.2))) | quiet_step ((go_at_call 17; exact after_of (likeR_is (atAfterR HAT.out _) (atAfterR HAT'.out _) HZZ.out.1 HZZ.out.2))))
      refine wpQuiet_nil ?_
      intro pw
      clear f0 f1 f2 f3 f4 e0 e1 e2 e3 e4
      go_wp2
      go_roundw
      case rel => exact ⟨k + 1, by omega, by go_num, bel_trans hb pw.bel⟩
      case measure => simp [intOf]; omega
    · have hkn : k = n := by omega
      subst hkn
      go_wp2
      go_ret
      exact ⟨rfl, hb⟩
end Go.Proofs.YtmooajppfjglaaaGreat

/- The model's writing on a shelf, its values and its lists told together (written by spec_write_v.py); conditions: the sizes. -/
namespace Go.Proofs.YtmooajppfjglaaaGreat
open Go.RowKit Go.Deep

/-- A shelf and a flag, the lists in blocks of their own that are known whole. -/
def SpV (w : World) (t q v : Int) (cs : List (Int × Int)) (os : List Opn) (f : Bool) (e : Ending) (w' : World) : Prop :=
  ∃ (g1 c1 g2 c2 : Nat), e = .returned (.tuple #[.agg #[.int .i64 t, .int .i64 q, .int .i64 v, .slice (some ⟨g1, 0, none⟩) cs.length c1, .slice (some ⟨g2, 0, none⟩) os.length c2], .bool f]) ∧ g1 ≠ g2 ∧ w'.ownsRow w.heap.size 127 2 (.slice (some ⟨g1, 0, none⟩) cs.length c1) cs.length (flatP cs) ∧ w'.ownsRow w.heap.size 105 4 (.slice (some ⟨g2, 0, none⟩) os.length c2) os.length (flatO os) ∧ Below w.heap.size w w'
def WroteV (w : World) (s l c sh : Int) (zs : List Int) (x rt rq rv : Int) (ps : List (Int × Int)) (os : List Opn) (ct cq v : Int) (cs : List (Int × Int)) (e : Ending) (w' : World) : Prop :=
  (¬ 0 < cmpN ct cq rt rq ∧ SpV w rt rq rv ps os true e w') ∨ (0 < cmpN ct cq rt rq ∧ SpV w ct cq v (goodP (rB s l c sh zs 1 x ct cq v) cs) os true e w')
theorem lw_oldV {w wr : World} {S B : Nat} {s l c sh : Int} {A : Option Addr} {n cap : Nat} {rt rq rv : Int} {P : Option Addr} {p pc : Nat} {Q : Option Addr} {q qc : Nat} {ct cq : Int} {a5 c5 a6 c6 : Nat} {ps : List (Int × Int)} {os : List Opn} {f : Bool} (h : LWO w wr S B s l c sh A n cap rt rq rv P p pc Q q qc ct cq (.slice (some ⟨a5, 0, none⟩) ps.length c5) (.slice (some ⟨a6, 0, none⟩) os.length c6) ps os) (x0 x1 x2 x3 x4 : Value) :
    SpV w rt rq rv ps os f (.returned (.tuple #[.agg #[.int .i64 rt, .int .i64 rq, .int .i64 rv, .slice (some ⟨a5, 0, none⟩) ps.length c5, .slice (some ⟨a6, 0, none⟩) os.length c6], .bool f])) (((((wr.setCell ⟨w.heap.size + 1 + 1 + 1, 0, none⟩ x0).setCell ⟨w.heap.size + 1 + 1 + 1, 1, none⟩ x1).setCell ⟨w.heap.size + 1 + 1 + 1, 2, none⟩ x2).setCell ⟨w.heap.size + 1 + 1 + 1, 3, none⟩ x3).setCell ⟨w.heap.size + 1 + 1 + 1, 4, none⟩ x4) := by
  have hlo := h.hlo
  obtain ⟨g, k, h1, h2, e, h3⟩ := h.R.far5 (b := w.heap.size + 1 + 1 + 1) (by omega) x0 x1 x2 x3 x4
  obtain ⟨g', k', h1', h2', e', h3'⟩ := h.V.far5 (b := w.heap.size + 1 + 1 + 1) (by omega) x0 x1 x2 x3 x4
  cases e
  cases e'
  exact ⟨_, _, _, _, rfl, by omega, ownLow h3 (by omega), ownLow h3' (by omega), bel_five h.bel (by omega) x0 x1 x2 x3 x4⟩

theorem lv_newV {w w1 wr : World} {S B : Nat} {s l c sh : Int} {A : Option Addr} {n cap : Nat} {ct cq v : Int} {z : Value} {a6 c6 : Nat} {os : List Opn} (h : LVO w wr S B s l c sh A n cap ct cq v z (.slice (some ⟨a6, 0, none⟩) os.length c6) os) {g c5 : Nat} {J : List (Int × Int)} (hS1 : S < w1.heap.size) (hJ : wr.ownsRow w1.heap.size 127 2 (.slice (some ⟨g, 0, none⟩) J.length c5) J.length (flatP J)) (x0 x1 x2 x3 x4 : Value) :
    SpV w ct cq v J os true (.returned (.tuple #[.agg #[.int .i64 ct, .int .i64 cq, .int .i64 v, .slice (some ⟨g, 0, none⟩) J.length c5, .slice (some ⟨a6, 0, none⟩) os.length c6], .bool true])) ((((((wr.setCell ⟨S, 3, none⟩ (.slice (some ⟨g, 0, none⟩) J.length c5)).setCell ⟨w.heap.size + 1 + 1 + 1, 0, none⟩ x0).setCell ⟨w.heap.size + 1 + 1 + 1, 1, none⟩ x1).setCell ⟨w.heap.size + 1 + 1 + 1, 2, none⟩ x2).setCell ⟨w.heap.size + 1 + 1 + 1, 3, none⟩ x3).setCell ⟨w.heap.size + 1 + 1 + 1, 4, none⟩ x4) := by
  have hlo := h.hlo
  have hBS := h.hBS
  have hb : Below w.heap.size w (wr.setCell ⟨S, 3, none⟩ (.slice (some ⟨g, 0, none⟩) J.length c5)) := h.bel.setCell (p := ⟨S, 3, none⟩) (by show _ ≤ S; omega) _
  have hV := h.V.farHi (Nat.le_refl _) 3 (.slice (some ⟨g, 0, none⟩) J.length c5)
  obtain ⟨g', k', h1', h2', e', h3'⟩ := hV.far5 (b := w.heap.size + 1 + 1 + 1) (by omega) x0 x1 x2 x3 x4
  cases e'
  obtain ⟨k1, k2, h1, h2, e, h3⟩ := ((ownR_of hJ).far (b := S) hS1 3 (.slice (some ⟨g, 0, none⟩) J.length c5)).far5 (b := w.heap.size + 1 + 1 + 1) (by omega) x0 x1 x2 x3 x4
  cases e
  exact ⟨_, _, _, _, rfl, by omega, ownLow h3 (by omega), ownLow h3' (by omega), bel_five hb (by omega) x0 x1 x2 x3 x4⟩

theorem l7WriteV_yes (s l c sh : Int) (A : Option Addr) (n cap : Nat) (zs : List Int) (x rt rq rv : Int) (P : Option Addr) (p pc : Nat) (Q : Option Addr) (q qc : Nat) (ct cq v : Int) (L : Option Addr) (m mc : Nat) (ps : List (Int × Int)) (os : List Opn) (cs : List (Int × Int)) (w : World) (hm : n ≤ maxLen) (hr : Row w w.heap.size A n zs) (hp : ps.length ≤ 2000000) (hq : os.length ≤ 2000000) (h1 : Slc w (.slice P p pc) ps) (h2 : SlcQ w (.slice Q q qc) os) (hn : m ≤ 4194304) (h3 : Pairs w w.heap.size L m cs) (hW : wrtB s l c sh zs x ct cq v cs = true) :
    Calls Tryz.prog 116 #[.agg #[.int .i64 s, .int .i64 l, .int .i64 c, .int .i64 sh, .slice A n cap], .int .i64 x, .agg #[.int .i64 rt, .int .i64 rq, .int .i64 rv, .slice P p pc, .slice Q q qc], .agg #[.int .i64 ct, .int .i64 cq], .int .i64 v, .slice L m mc] w (WroteV w s l c sh zs x rt rq rv ps os ct cq v cs) := by
  have G := (((Box.new w 26 #[.int .i64 s, .int .i64 l, .int .i64 c, .int .i64 sh, .slice A n cap]).alloc (.cells #[.int .i64 rt, .int .i64 rq, .int .i64 rv, .slice P p pc, .slice Q q qc] 40)).alloc (.cells #[.int .i64 ct, .int .i64 cq] 36)).alloc (.cells #[.int .i64 0, .int .i64 0, .int .i64 0, .slice none 0 0, .slice none 0 0] 40)
  have D := ((Box.new (w.alloc (.cells #[.int .i64 s, .int .i64 l, .int .i64 c, .int .i64 sh, .slice A n cap] 26)) 40 #[.int .i64 rt, .int .i64 rq, .int .i64 rv, .slice P p pc, .slice Q q qc]).alloc (.cells #[.int .i64 ct, .int .i64 cq] 36)).alloc (.cells #[.int .i64 0, .int .i64 0, .int .i64 0, .slice none 0 0, .slice none 0 0] 40)
  have T := (Box.new ((w.alloc (.cells #[.int .i64 s, .int .i64 l, .int .i64 c, .int .i64 sh, .slice A n cap] 26)).alloc (.cells #[.int .i64 rt, .int .i64 rq, .int .i64 rv, .slice P p pc, .slice Q q qc] 40)) 36 #[.int .i64 ct, .int .i64 cq]).alloc (.cells #[.int .i64 0, .int .i64 0, .int .i64 0, .slice none 0 0, .slice none 0 0] 40)
  have X := Box.new (((w.alloc (.cells #[.int .i64 s, .int .i64 l, .int .i64 c, .int .i64 sh, .slice A n cap] 26)).alloc (.cells #[.int .i64 rt, .int .i64 rq, .int .i64 rv, .slice P p pc, .slice Q q qc] 40)).alloc (.cells #[.int .i64 ct, .int .i64 cq] 36)) 40 #[.int .i64 0, .int .i64 0, .int .i64 0, .slice none 0 0, .slice none 0 0]
  have E := bel_trans (bel_trans (bel_trans (bel_alloc w (.cells #[.int .i64 s, .int .i64 l, .int .i64 c, .int .i64 sh, .slice A n cap] 26)) (bel_alloc _ (.cells #[.int .i64 rt, .int .i64 rq, .int .i64 rv, .slice P p pc, .slice Q q qc] 40))) (bel_alloc _ (.cells #[.int .i64 ct, .int .i64 cq] 36))) (bel_alloc _ (.cells #[.int .i64 0, .int .i64 0, .int .i64 0, .slice none 0 0, .slice none 0 0] 40))
  simp only [World.size_alloc] at D T X
  have HR := Lib.hid hr
  have HM := Lib.hid hm
  have H1 := Lib.hid h1
  have H2 := Lib.hid h2
  have H3 := Lib.hid h3
  have HW := Lib.hid (wrt_parts hW)
  clear hr hm h1 h2 h3 hW
  go_enter Tryz.func116, Tryz.ntmps116
  go_wp2_with fail
  generalize ((((w.alloc _).alloc _).alloc _).alloc _ : World) = w0 at G D T X E ⊢
  refine (l7Copy_own rt rq rv P p pc Q q qc ps os w0 (by omega) (by omega) (H1.out.later E) (H2.out.later E)).mono ?_
  rintro e w1 ⟨B, u, v', hB, hB', rfl, hR, hV, hb1⟩
  obtain ⟨a5, c5, rfl⟩ := hR.form
  obtain ⟨a6, c6, rfl⟩ := hV.form
  have hb2 := bel_alloc w1 (.cells #[.int .i64 rt, .int .i64 rq, .int .i64 rv, .slice (some ⟨a5, 0, none⟩) ps.length c5, .slice (some ⟨a6, 0, none⟩) os.length c6] 40)
  have hXl := X.lt
  have K : LWO w (w1.alloc (.cells #[.int .i64 rt, .int .i64 rq, .int .i64 rv, .slice (some ⟨a5, 0, none⟩) ps.length c5, .slice (some ⟨a6, 0, none⟩) os.length c6] 40)) w1.heap.size B s l c sh A n cap rt rq rv P p pc Q q qc ct cq (.slice (some ⟨a5, 0, none⟩) ps.length c5) (.slice (some ⟨a6, 0, none⟩) os.length c6) ps os := by
    have hb12 := bel_trans hb1 hb2
    exact ⟨bel_trans E hb12, G.later hb12 G.lt, D.later hb12 D.lt, T.later hb12 T.lt, X.later hb12 X.lt, Box.new w1 _ _, by omega, hB', (hR.later hb2).wide (by omega) (Nat.le_refl _), hV.later hb2⟩
  have T1 := T.later hb1 T.lt
  have hT1 := T1.lt
  obtain ⟨t0, t1⟩ := T1.two
  clear hR hV G D T X E hb1 hb2 hB T1
  go_wp2_with fail
  generalize (w1.alloc _ : World) = w2 at K ⊢
  generalize w1.heap.size = S at K hB' hT1 ⊢
  clear t0 t1 hT1
  have hz := Lib.hid (show (ct == 0) = false ∨ ((ct == 0) = true ∧ (cq == 0) = false) from by
    rcases zero_cases ct cq with h | ⟨h, _⟩
    · exact absurd h HW.out.2.2.1
    · exact h)
  have HS := Lib.hid HW.out.1
  have HPF := Lib.hid HW.out.2.2.2
  have hm20 : m ≤ 20 := by have := HW.out.2.1; rw [H3.out.1] at this; exact this
  refine (l4Zero_no ct cq hz.out w2).mono ?_
  rintro e w3 ⟨rfl, hb3⟩
  have K3 := K.later hb3
  clear K hb3
  obtain ⟨t0, t1⟩ := K3.T.two
  go_wp2_with fail
  refine (specStampR_is HS.out w3).mono ?_
  rintro e w4 ⟨rfl, hb4⟩
  have K4 := K3.later hb4
  clear K3 hb4 t0 t1
  obtain ⟨t0, t1⟩ := K4.T.two
  obtain ⟨g0, g1, g2, g3, g4⟩ := K4.G.five
  go_wp2_with fail
  refine (specProvenR_is HPF.out A n cap L m mc w4 HM.out ((HR.out.below K4.bel (Nat.le_refl _)).more K4.bel.size) hn (H3.out.later K4.bel)).mono ?_
  rintro e w5 ⟨rfl, hb5⟩
  have K5 := K4.later hb5
  clear K4 hb5 t0 t1 g0 g1 g2 g3 g4
  obtain ⟨t0, t1⟩ := K5.T.two
  obtain ⟨d0, d1, d2, d3, d4⟩ := K5.D.five
  go_wp2_with fail
  refine (specCmp_any ct cq rt rq w5).mono ?_
  rintro e w6 ⟨rfl, hb6⟩
  have K6 := K5.later hb6
  clear K5 hb6 t0 t1 d0 d1 d2 d3 d4
  by_cases hc : 0 < cmpN ct cq rt rq
  · have HC := Lib.hid hc
    obtain ⟨y0, y1, y2, y3, y4⟩ := K6.Y.five
    obtain ⟨t0, t1⟩ := K6.T.two
    have fy := K6.Y.frozen
    have hlo := K6.hlo
    have hBS := K6.hBS
    have HV := Lib.hid (K6.put v)
    clear K6
    go_upto_region 7 with fail
    generalize (((w6.setCell _ _).setCell _ _).setCell _ _ : World) = w7 at HV ⊢
    have K7 := HV.out
    have HC := Lib.hid hc
    clear y0 y1 y2 y3 y4 t0 t1 fy HV hc
    obtain ⟨J, hJ⟩ : ∃ J, goodP (rB s l c sh zs 1 x ct cq v) cs = J := ⟨_, rfl⟩
    have HJL : Hid (J.length ≤ 20) := Lib.hid (by rw [← hJ]; exact Nat.le_trans (goodP_le _ _) (by rw [H3.out.1]; exact hm20))
    replace hJ := Lib.hid hJ
    obtain ⟨g0, g1, g2, g3, g4⟩ := K7.G.five
    obtain ⟨t0, t1⟩ := K7.T.two
    have R7 := (HR.out.below K7.bel (Nat.le_refl _)).more K7.bel.size
    have P7 := H3.out.later K7.bel
    have hSG : (⟨S, 3, none⟩ : Addr).block ≠ w.heap.size := by show S ≠ _; omega
    have hST : (⟨S, 3, none⟩ : Addr).block ≠ w.heap.size + 1 + 1 := by show S ≠ _; omega
    have hSl := K7.Y.lt
    go_region_held3 (fun w' => w'.cell? ⟨w.heap.size, 0, none⟩ = some (.int .i64 s) ∧ w'.cell? ⟨w.heap.size, 1, none⟩ = some (.int .i64 l) ∧ w'.cell? ⟨w.heap.size, 2, none⟩ = some (.int .i64 c) ∧ w'.cell? ⟨w.heap.size, 3, none⟩ = some (.int .i64 sh) ∧ w'.cell? ⟨w.heap.size, 4, none⟩ = some (.slice A n cap) ∧ w'.cell? ⟨w.heap.size + 1 + 1, 0, none⟩ = some (.int .i64 ct) ∧ w'.cell? ⟨w.heap.size + 1 + 1, 1, none⟩ = some (.int .i64 cq))
      (first | (with_reducible exact KD) | (with_reducible exact KB) | (with_reducible exact KA) | go_keep)
      (first
        | (go_at_call 124; refine (l4Ready_is x ct cq v _).mono ?_; rintro e w8 ⟨rfl, hb8⟩; have F8 := bel_drew' hb8; have K8 := K7.later F8; have R8 := (R7.below F8 (Nat.le_refl _)).more F8.size; have P8 := P7.later F8; have KA := sevenGD K8.G K8.T; have hs8 := F8.size)
        | (go_at_call 148; refine (specGoodO_is s l c sh A n cap zs 1 x ct cq v L m mc cs _ HM.out R8 hn P8).mono ?_; rintro e w9 ⟨q9, c9, rfl, hw9, hb9⟩; rw [hJ.out] at hw9 ⊢; have K9 := K8.later hb9; have KB := sevenGD K9.G K9.T; have KD := sevenGD (K9.G.far (p := ⟨S, 3, none⟩) hSG (.slice (some ⟨q9, 0, none⟩) J.length c9)) (K9.T.far (p := ⟨S, 3, none⟩) hST (.slice (some ⟨q9, 0, none⟩) J.length c9)); have y3 := K9.Y.cell 3; have fy := K9.Y.frozen; have HP := Lib.hid (lv_newV (w1 := w8) (c5 := c9) K9 (by omega) hw9); have Z9 := Lib.hid (K9.Y.set 3 (.slice (some ⟨q9, 0, none⟩) J.length c9)); have X9 := Lib.hid (K9.X.far (p := ⟨S, 3, none⟩) (by show S ≠ _; omega) (.slice (some ⟨q9, 0, none⟩) J.length c9))))
    obtain ⟨z0, z1, z2, z3, z4⟩ := (show Box _ S 40 #[.int .i64 ct, .int .i64 cq, .int .i64 v, .slice (some ⟨q9, 0, none⟩) J.length c9, .slice (some ⟨a6, 0, none⟩) os.length c6] from Z9.out).five
    obtain ⟨x0, x1, x2, x3, x4⟩ := X9.out.five
    have fx := X9.out.frozen
    clear KA KB KD K7 K8 K9 y3 fy R7 R8 P7 P8 g0 g1 g2 g3 g4 t0 t1 hw9 hb9 Z9 X9
    generalize (w9.setCell _ _ : World) = w10 at HP z0 z1 z2 z3 z4 x0 x1 x2 x3 x4 fx ⊢
    go_wp2
    exact bodyPost_ret (v := .tuple #[.agg #[.int .i64 ct, .int .i64 cq, .int .i64 v, .slice (some ⟨q9, 0, none⟩) J.length c9, .slice (some ⟨a6, 0, none⟩) os.length c6], .bool true]) (by simp [results, Tryz.results116, go_sem, x0, x1, x2, x3, x4]) rfl (.inr ⟨by have := HC.out; omega, hJ.out.symm ▸ HP.out _ _ _ _ _⟩)
  · have HC := Lib.hid hc
    have hc' : decide (0 < cmpN ct cq rt rq) = false := decide_eq_false hc
    obtain ⟨y0, y1, y2, y3, y4⟩ := K6.Y.five
    obtain ⟨x0, x1, x2, x3, x4⟩ := K6.X.five
    have fx := K6.X.frozen
    have HP := Lib.hid (lw_oldV (f := true) K6)
    clear K6
    go_wp2
    exact bodyPost_ret (v := .tuple #[.agg #[.int .i64 rt, .int .i64 rq, .int .i64 rv, .slice (some ⟨a5, 0, none⟩) ps.length c5, .slice (some ⟨a6, 0, none⟩) os.length c6], .bool true]) (by simp [results, Tryz.results116, go_sem, x0, x1, x2, x3, x4]) rfl (.inl ⟨by have := HC.out; omega, HP.out _ _ _ _ _⟩)

end Go.Proofs.YtmooajppfjglaaaGreat

/- Opens that are put to their places stay in order; mathematics alone; no conditions. -/
namespace Go.Proofs.YtmooajppfjglaaaGreat
open Go.RowKit

/-- Opens in order, all right. -/
theorem opsB_iff (R : Opn → Bool) (os : List Opn) : opsB R os = true ↔ (∀ i, i < os.length → R (oth os i) = true) ∧ ∀ i, i + 1 < os.length → (oth os i).1 < (oth os (i + 1)).1 := by
  constructor
  · intro h
    unfold opsB at h
    rw [List.all_eq_true] at h
    refine ⟨fun i hi => ?_, fun i hi => ?_⟩
    · have := h i (List.mem_range.2 hi)
      unfold stepB at this
      rw [Bool.and_eq_true] at this
      exact this.1
    · have := h (i + 1) (List.mem_range.2 hi)
      unfold stepB at this
      simp only [Bool.and_eq_true, Bool.or_eq_true, decide_eq_true_eq, Nat.add_sub_cancel] at this
      rcases this.2 with h1 | h1
      · omega
      · exact h1
  · rintro ⟨h1, h2⟩
    refine opsB_true fun i hi => ?_
    unfold stepB
    rcases i with _ | i
    · simp [h1 0 hi]
    · have := h2 i hi
      simp [h1 (i + 1) hi, this]
theorem opsB_lt {R : Opn → Bool} {os : List Opn} (h : opsB R os = true) : ∀ i j, i < j → j < os.length → (oth os i).1 < (oth os j).1 := by
  obtain ⟨-, h2⟩ := (opsB_iff R os).1 h
  intro i j hij
  induction j with
  | zero => omega
  | succ j ih =>
    intro hj
    have h3 := h2 j hj
    by_cases e : i = j
    · subst e; exact h3
    · have := ih (by omega) (by omega)
      omega
theorem oth_put {os : List Opn} {i j : Nat} {o : Opn} (hi : i ≤ os.length) (_hj : j ≤ os.length) (hij : i ≤ j) (x : Nat) :
    oth (putO os i j o) x = if x < i then oth os x else if x = i then o else oth os (x - (i + 1) + j) := by
  unfold oth putO
  simp only [List.getD_eq_getElem?_getD]
  rw [List.append_assoc]
  by_cases h1 : x < i
  · rw [if_pos h1, List.getElem?_append_left (by rw [List.length_take]; omega), List.getElem?_take, if_pos h1]
  · rw [if_neg h1, List.getElem?_append_right (by rw [List.length_take]; omega), List.length_take, Nat.min_eq_left hi]
    by_cases h2 : x = i
    · subst h2
      simp
    · rw [if_neg h2, List.getElem?_append_right (by simp; omega), List.getElem?_drop]
      simp only [List.length_singleton]
      rw [show j + (x - i - 1) = x - (i + 1) + j by omega]
theorem beh_ge {c : Int} {os : List Opn} : ∀ k, k ≤ os.length → (∀ j, behN c (os.take k) ≤ j → j < k → ¬ (oth os j).1 < c) ∧ (0 < behN c (os.take k) → (oth os (behN c (os.take k) - 1)).1 < c) := by
  intro k
  induction k with
  | zero => intro _; exact ⟨fun j _ hj => absurd hj (by omega), fun h => absurd h (by simp [behN])⟩
  | succ k ih =>
    intro hk
    obtain ⟨h1, h2⟩ := ih (by omega)
    rw [behN_snoc (by omega)]
    by_cases hc : (oth os k).1 < c
    · rw [if_pos hc]
      exact ⟨fun j h3 h4 => absurd h4 (by omega), fun _ => by simpa using hc⟩
    · rw [if_neg hc]
      refine ⟨fun j h3 h4 => ?_, h2⟩
      by_cases e : j = k
      · subst e; exact hc
      · exact h1 j h3 (by omega)
theorem opsB_with {R : Opn → Bool} {os : List Opn} {o : Opn} (h : opsB R os = true) (ho : R o = true) : opsB R (withO os o) = true := by
  have hlt := opsB_lt h
  obtain ⟨h1, h2⟩ := (opsB_iff R os).1 h
  rw [opsB_iff]
  rcases first_cases o.1 os with ⟨i, hf⟩ | hn
  · rw [withO_first hf]
    have hil := hf.1
    have hlen : (putO os i (i + 1) o).length = os.length := by rw [putO_len (by omega) (by omega)]; omega
    have hoth : ∀ x, oth (putO os i (i + 1) o) x = if x = i then o else oth os x := fun x => by
      rw [oth_put (by omega) (by omega) (by omega)]
      by_cases a : x < i
      · rw [if_pos a, if_neg (by omega)]
      · rw [if_neg a]
        by_cases b : x = i
        · rw [if_pos b, if_pos b]
        · rw [if_neg b, if_neg b, show x - (i + 1) + (i + 1) = x by omega]
    have hk := hf.2.1
    refine ⟨fun x hx => ?_, fun x hx => ?_⟩
    · rw [hoth]
      split
      · exact ho
      · exact h1 x (by omega)
    · rw [hoth, hoth]
      have := h2 x (by omega)
      split <;> split
      · omega
      · subst_vars; rw [hk] at this; exact this
      · rename_i a b; rw [← hk, ← b]; exact this
      · exact this
  · rw [withO_none hn]
    obtain ⟨b, hb⟩ : ∃ b, behN o.1 os = b := ⟨_, rfl⟩
    have hbl := behN_le o.1 os
    obtain ⟨g1, g2⟩ := beh_ge (c := o.1) os.length (Nat.le_refl _)
    rw [List.take_length] at g1 g2
    rw [hb] at hbl g1 g2 ⊢
    have hlen : (putO os b b o).length = os.length + 1 := by rw [putO_len hbl hbl]; omega
    have hoth := oth_put (o := o) hbl hbl (Nat.le_refl b)
    refine ⟨fun x hx => ?_, fun x hx => ?_⟩
    · rw [hoth]
      split
      · exact h1 x (by omega)
      · split
        · exact ho
        · exact h1 _ (by omega)
    · rw [hoth, hoth]
      by_cases a : x + 1 < b
      · rw [if_pos (by omega), if_pos a]
        exact h2 x (by omega)
      · by_cases e : x + 1 = b
        · rw [if_pos (by omega), if_neg (by omega), if_pos e]
          have := g2 (by omega)
          rw [show b - 1 = x by omega] at this
          exact this
        · by_cases f : x = b
          · subst f
            rw [if_neg (by omega), if_pos rfl, if_neg (by omega), if_neg (by omega), show x + 1 - (x + 1) + x = x by omega]
            have hx1 : x < os.length := by omega
            have := g1 x (Nat.le_refl _) hx1
            have := hn x hx1
            omega
          · rw [if_neg (by omega), if_neg f, if_neg (by omega), if_neg (by omega), show x - (b + 1) + b = x - 1 by omega, show x + 1 - (b + 1) + b = x - 1 + 1 by omega]
            exact h2 (x - 1) (by omega)

end Go.Proofs.YtmooajppfjglaaaGreat

/- What is replayed keeps every shelf right; what the functions of chapter 7 answer, as a shelf's data; no conditions. -/
namespace Go.Proofs.YtmooajppfjglaaaGreat
open Go Go.RowKit

/-- Is a shelf right? -/
def regG (g : GrpD) (x : Int) (r : RegD) : Bool := regB g.s g.l g.c g.sh g.zs x r.t r.q r.v r.ps r.os
def goodS (g : GrpD) (rs : List RegD) : Prop := ∀ i (h : i < rs.length), regG g (i : Int) rs[i] = true
theorem lef_wrt {s l c sh : Int} {zs : List Int} {x ct cq v : Int} {ps : List (Int × Int)} (h : lefB s l c sh zs x ct cq v ps = true) (hz : ¬ (ct = 0 ∧ cq = 0)) : wrtB s l c sh zs x ct cq v ps = true := by
  unfold lefB at h
  unfold wrtB
  simp only [Bool.and_eq_true, Bool.not_eq_true', decide_eq_false_iff_not] at h ⊢
  exact ⟨hz, h.1⟩
theorem knd_parts {s l c sh : Int} {zs : List Int} {r2 r3 r4 r5 r6 r7 : Int} {ps : List (Int × Int)} (h : kndB s l c sh zs r2 r3 r4 r5 r6 r7 ps = true) :
    (r2 = 1 ∧ ps = [] ∧ opnB s l c sh zs (r4, r5, r6, r7) = true) ∨ (r2 = 2 ∧ r4 = 0 ∧ ¬ (r5 = 0 ∧ r6 = 0) ∧ lefB s l c sh zs r3 r5 r6 r7 ps = true) := by
  unfold kndB at h
  split at h
  · simp only [Bool.and_eq_true, decide_eq_true_eq] at h
    exact .inl ⟨by assumption, h.1, h.2⟩
  · split at h
    · simp only [Bool.and_eq_true, Bool.not_eq_true', decide_eq_true_eq, decide_eq_false_iff_not] at h
      exact .inr ⟨by assumption, h.1.1, h.1.2, h.2⟩
    · cases h
theorem reg_zero {g : GrpD} {x : Int} (hok : okG g = true) (hx : inB x 0 (g.sh - 1) = true) : regG g x zeroR = true := by
  unfold okG at hok
  simp [regG, regB, lefB, proB, lefS, zeroR, hok, hx, opsB]
theorem good_zero {g : GrpD} (hok : okG g = true) : goodS g (List.replicate g.sh.toNat zeroR) := by
  intro i hi
  rw [List.length_replicate] at hi
  rw [List.getElem_replicate]
  have hs := okB_sh hok
  exact reg_zero hok (inB_true.2 ⟨by omega, by omega⟩)
/-- A shelf that is right stays so, whatever right record is done to it. -/
theorem onto_good {g : GrpD} {d : RecD} {r : RegD} (hr : regG g d.r3 r = true) (hk : kndB g.s g.l g.c g.sh g.zs d.r2 d.r3 d.r4 d.r5 d.r6 d.r7 d.ps = true) : regG g d.r3 (ontoD g d r) = true := by
  rcases knd_parts hk with ⟨h2, -, ho⟩ | ⟨h2, -, hz, hl⟩
  · unfold ontoD
    rw [if_pos h2]
    unfold regG regB at hr ⊢
    rw [Bool.and_eq_true] at hr ⊢
    exact ⟨hr.1, opsB_with hr.2 ho⟩
  · unfold ontoD
    rw [if_neg (by omega)]
    obtain ⟨-, -, h3, -⟩ := outW_again hr (lef_wrt hl hz) rfl
    exact h3
theorem step_good {g : GrpD} {rs : List RegD} {d : RecD} (hg : goodS g rs) (hk : kndB g.s g.l g.c g.sh g.zs d.r2 d.r3 d.r4 d.r5 d.r6 d.r7 d.ps = true) (h0 : 0 ≤ d.r3) (hl : d.r3.toNat < rs.length) : goodS g (stepR g rs d) := by
  intro i hi
  unfold stepR at hi ⊢
  rw [List.length_set] at hi
  by_cases e : d.r3.toNat = i
  · subst e
    have hx : ((d.r3.toNat : Nat) : Int) = d.r3 := by omega
    rw [List.getElem_set_self, hx]
    refine onto_good ?_ hk
    have h := hg _ hl
    rw [hx] at h
    unfold regOf
    rw [List.getD_eq_getElem?_getD, List.getElem?_eq_getElem hl]
    exact h
  · rw [List.getElem_set_ne e]
    exact hg i hi
theorem good_shelves {g : GrpD} {ds : List RecD} (hok : okG g = true) : ∀ k, k ≤ ds.length → (∀ i, i < k → isAt g ds i = true) → goodS g (shelves g (ds.take k)) := by
  intro k
  induction k with
  | zero => intro _ _; exact good_zero hok
  | succ k ih =>
    intro hk ha
    rw [shelves_snoc g ds (by omega)]
    have h := ha k (by omega)
    rw [isAt_lt (by omega)] at h
    simp only [Bool.and_eq_true] at h
    obtain ⟨h0, h1, -, hkn⟩ := rok_shelf h.2
    exact step_good (ih (by omega) (fun i hi => ha i (by omega))) hkn h0 (by rw [shelves_len]; omega)

theorem own_cap {w : World} {base : Nat} {t : TypeId} {k g n cap : Nat} {xs : List Value} (h : w.ownsRow base t k (.slice (some ⟨g, 0, none⟩) n cap) n xs) : n ≤ cap ∧ cap ≤ maxLen := by
  rcases h.2 with ⟨h', _⟩ | ⟨g', cap', cur, h', hb, hg, hnc, hcm, _⟩
  · cases h'
  · injection h' with _ _ e3
    subst e3
    exact ⟨hnc, hcm⟩
/-- What an open answers; what a writing answers: the shelf's data. -/
theorem regR_at {w w' : World} {e : Ending} {rt rq rv : Int} {ps : List (Int × Int)} {os : List Opn} (h : RegR w rt rq rv ps os e w') :
    ∃ u v, e = .returned (.agg #[.int .i64 rt, .int .i64 rq, .int .i64 rv, u, v]) ∧ LieR ⟨rt, rq, rv, ps, os⟩ w' (Iv w.heap.size w'.heap.size) (.agg #[.int .i64 rt, .int .i64 rq, .int .i64 rv, u, v]) ∧ Below w.heap.size w w' := by
  obtain ⟨B, u, v, hB, hB', rfl, h1, h2, hb⟩ := h
  obtain ⟨A, c, rfl, -⟩ := h1.form
  obtain ⟨A', c', rfl, -⟩ := h2.form
  exact ⟨_, _, rfl, ⟨A, _, c, A', _, c', w.heap.size, B, w'.heap.size, rfl, h1, h2.resQ, hB, hB', Nat.le_refl _, fun b hb => hb⟩, hb⟩
theorem spV_at {w w' : World} {e : Ending} {t q v : Int} {cs : List (Int × Int)} {os : List Opn} {f : Bool} (h : SpV w t q v cs os f e w') :
    ∃ u x, e = .returned (.tuple #[.agg #[.int .i64 t, .int .i64 q, .int .i64 v, u, x], .bool f]) ∧ AtW ⟨t, q, v, cs, os⟩ w' (Iv w.heap.size w'.heap.size) (.agg #[.int .i64 t, .int .i64 q, .int .i64 v, u, x]) ∧ Below w.heap.size w w' := by
  obtain ⟨g1, c1, g2, c2, rfl, -, h1, h2, hb⟩ := h
  obtain ⟨p1, p2⟩ := own_cap h1
  obtain ⟨q1, q2⟩ := own_cap h2
  exact ⟨_, _, rfl, ⟨_, _, c1, _, _, c2, rfl, Nat.le_trans p1 p2, Nat.le_trans q1 q2, ⟨own_pairs h1, fun _ b o e => by injection e with e; injection e with e; exact e ▸ h1.lt g1 rfl⟩, ⟨own_quads h2, fun _ b o e => by injection e with e; injection e with e; exact e ▸ h2.lt g2 rfl⟩, .inl ⟨g1, 0, rfl⟩, .inl ⟨g2, 0, rfl, q1, q2⟩⟩, hb⟩
theorem wroteV_at {w w' : World} {e : Ending} {g : GrpD} {d : RecD} {r : RegD} (hr : regG g d.r3 r = true) (hk : kndB g.s g.l g.c g.sh g.zs d.r2 d.r3 d.r4 d.r5 d.r6 d.r7 d.ps = true) (h2 : d.r2 ≠ 1) (h : WroteV w g.s g.l g.c g.sh g.zs d.r3 r.t r.q r.v r.ps r.os d.r5 d.r6 d.r7 d.ps e w') :
    ∃ u x, e = .returned (.tuple #[.agg #[.int .i64 (ontoD g d r).t, .int .i64 (ontoD g d r).q, .int .i64 (ontoD g d r).v, u, x], .bool true]) ∧ AtW (ontoD g d r) w' (Iv w.heap.size w'.heap.size) (.agg #[.int .i64 (ontoD g d r).t, .int .i64 (ontoD g d r).q, .int .i64 (ontoD g d r).v, u, x]) ∧ Below w.heap.size w w' := by
  rcases knd_parts hk with ⟨h, -⟩ | ⟨-, -, hz, hl⟩
  · exact absurd h h2
  have hw := lef_wrt hl hz
  have hc := cmp_pos (wrt_parts hw).1 (reg_stamp hr)
  have hr' : regB g.s g.l g.c g.sh g.zs d.r3 r.t r.q r.v r.ps r.os = true := hr
  have ho : ontoD g d r = if cmpN d.r5 d.r6 r.t r.q = 1 then ⟨d.r5, d.r6, d.r7, goodP (rB g.s g.l g.c g.sh g.zs 1 d.r3 d.r5 d.r6 d.r7) d.ps, r.os⟩ else ⟨r.t, r.q, r.v, r.ps, r.os⟩ := by
    unfold ontoD outW
    rw [if_neg h2, if_neg (by rw [hr']; simp), if_neg (by rw [hw]; simp)]
    split <;> rfl
  rw [ho]
  rcases h with ⟨hn, h⟩ | ⟨hp, h⟩
  · rw [if_neg (fun e => hn (hc.2 e))]
    exact spV_at h
  · rw [if_pos (hc.1 hp)]
    exact spV_at h
end Go.Proofs.YtmooajppfjglaaaGreat

/- What is replayed of a part of a list: it is right, no shelf's stamp is older with a record more, all other shelves stay; no conditions. -/
namespace Go.Proofs.YtmooajppfjglaaaGreat
open Go Go.RowKit

/-- Of a list that is right each part is. -/
theorem repl_take {g : GrpD} {ds : List RecD} (h : (replD g ds).2 = true) (k : Nat) : replD g (ds.take k) = (shelves g (ds.take k), true) := by
  unfold replD at h
  split at h
  · rename_i hc
    rw [Bool.and_eq_true] at hc
    have hall : ∀ i, i < ds.length → isAt g ds i = true := fun i hi => by
      cases e : isAt g ds i
      · rw [allAt_false hi e] at hc
        exact absurd hc.2 (by simp)
      · rfl
    have ht : allAt g (ds.take k) = true := allAt_true (fun i hi => by
      rw [List.length_take] at hi
      have h1 := hall i (by omega)
      rw [isAt_lt (by omega)] at h1
      rw [isAt_lt (by rw [List.length_take]; exact hi)]
      rw [List.getElem_take]
      exact h1)
    unfold replD
    rw [hc.1, ht]
    rfl
  · cases h
theorem repl_ok {g : GrpD} {ds : List RecD} (h : (replD g ds).2 = true) : okG g = true ∧ ∀ i, i < ds.length → isAt g ds i = true := by
  unfold replD at h
  split at h
  · rename_i hc
    rw [Bool.and_eq_true] at hc
    refine ⟨hc.1, fun i hi => ?_⟩
    cases e : isAt g ds i
    · rw [allAt_false hi e] at hc
      exact absurd hc.2 (by simp)
    · rfl
  · cases h
theorem step_other {g : GrpD} {rs : List RegD} {d : RecD} {i : Nat} (h : i ≠ d.r3.toNat) : regOf (stepR g rs d) i = regOf rs i := by
  unfold regOf stepR
  rw [List.getD_eq_getElem?_getD, List.getD_eq_getElem?_getD, List.getElem?_set_ne (Ne.symm h)]
theorem step_same {g : GrpD} {rs : List RegD} {d : RecD} (h : d.r3.toNat < rs.length) : regOf (stepR g rs d) d.r3.toNat = ontoD g d (regOf rs d.r3.toNat) := by
  unfold regOf stepR
  rw [List.getD_eq_getElem?_getD, List.getElem?_set_self h]
  rfl
theorem cmpN_flip {a b c d : Int} (h : cmpN c d a b = 1) : cmpN a b c d = -1 := by
  rcases cmp_cases c d a b with h1 | ⟨h1, -, -⟩ | ⟨h1, -, -⟩ | ⟨-, h1, -⟩
  · omega
  · omega
  · omega
  · exact h1
theorem cmpN_same {a b : Int} (h : stB a b = true) : cmpN a b a b = 0 := by
  rw [cmpN_yes h h]
  unfold sgn orN
  simp
theorem onto_newer {g : GrpD} {d : RecD} {r : RegD} (hr : regG g d.r3 r = true) : cmpN r.t r.q (ontoD g d r).t (ontoD g d r).q ≤ 0 := by
  have h0 : cmpN r.t r.q r.t r.q = 0 := cmpN_same (reg_stamp hr)
  unfold ontoD
  split
  · exact Int.le_of_eq h0
  · unfold outW
    rw [if_neg (by rw [show regB g.s g.l g.c g.sh g.zs d.r3 r.t r.q r.v r.ps r.os = true from hr]; simp)]
    split
    · exact Int.le_of_eq h0
    · split
      · rename_i h
        have := cmpN_flip h
        show cmpN r.t r.q d.r5 d.r6 ≤ 0
        omega
      · exact Int.le_of_eq h0
/-- One record more: no shelf is older, all others stay. -/
theorem shelves_step {g : GrpD} {ds : List RecD} (h : (replD g ds).2 = true) {k : Nat} (hk : k < ds.length) {i : Nat} (hi : i < g.sh.toNat) :
    cmpN (regOf (shelves g (ds.take k)) i).t (regOf (shelves g (ds.take k)) i).q (regOf (shelves g (ds.take (k + 1))) i).t (regOf (shelves g (ds.take (k + 1))) i).q ≤ 0 ∧ ((i : Int) ≠ (ds[k]).r3 → regOf (shelves g (ds.take (k + 1))) i = regOf (shelves g (ds.take k)) i) := by
  obtain ⟨hok, hall⟩ := repl_ok h
  have hat := hall k hk
  rw [isAt_lt hk, Bool.and_eq_true] at hat
  obtain ⟨h0, h1, -, -⟩ := rok_shelf hat.2
  rw [shelves_snoc g ds hk]
  by_cases e : i = (ds[k]).r3.toNat
  · refine ⟨?_, fun hne => absurd (by omega) hne⟩
    have hg := good_shelves hok k (by omega) (fun j hj => hall j (by omega))
    rw [e, step_same (by rw [shelves_len]; omega)]
    refine onto_newer ?_
    have hx : ((ds[k].r3.toNat : Nat) : Int) = ds[k].r3 := by omega
    have hl : ds[k].r3.toNat < (shelves g (ds.take k)).length := by rw [shelves_len]; omega
    have h5 := hg _ hl
    rw [hx] at h5
    unfold regOf
    rw [List.getD_eq_getElem?_getD, List.getElem?_eq_getElem hl]
    exact h5
  · rw [step_other e]
    have hg := good_shelves hok k (by omega) (fun j hj => hall j (by omega))
    have hl : i < (shelves g (ds.take k)).length := by rw [shelves_len]; omega
    have h5 := hg _ hl
    refine ⟨Int.le_of_eq (cmpN_same ?_), fun _ => rfl⟩
    unfold regOf
    rw [List.getD_eq_getElem?_getD, List.getElem?_eq_getElem hl]
    exact reg_stamp h5
end Go.Proofs.YtmooajppfjglaaaGreat

/- Records of one's own, a cell or a list of one of them written; conditions: the sizes. -/
namespace Go.Proofs.YtmooajppfjglaaaGreat
open Go Go.RowKit

theorem upD_same (D : Nat → RecD) (i : Nat) (d : RecD) : upD D i d i = d := by simp [upD]
theorem far9 (w : World) (g : Nat) (v : Value) {a b : Nat} (h : a ≠ b) : (w.setCell ⟨g, a, none⟩ v).cell? ⟨g, b, none⟩ = w.cell? ⟨g, b, none⟩ := World.cell?_setCell_other _ _ _ _ (fun e => h (by injection e))
/-- One cell of one of them is written. -/
theorem RecsAt.cell {w : World} {g n : Nat} {D : Nat → RecD} {Fs : Nat → Nat → Prop} (h : RecsAt w g n D Fs) {i : Nat} (hi : i < n) {j : Nat} (hj : j < 9) (v : Value) (d' : RecD) (hps : d'.ps = (D i).ps) (hc : ∀ u, (d'.cells u).toList = ((D i).cells u).toList.set j v) :
    RecsAt (w.setCell ⟨g, i * 9 + j, none⟩ v) g n (upD D i d') Fs := by
  have ht := turns_setCells9 g [v] (i * 9 + j) w
  have hsz : (w.setCell ⟨g, i * 9 + j, none⟩ v).heap.size = w.heap.size := size_set _ _ _
  refine ⟨by rw [hsz]; exact h.lt, fun o => (World.frozen?_setCell _ _ _ _).trans (h.fr o), fun k hk => ?_, h.apart, h.two⟩
  obtain ⟨u, h1, h2⟩ := h.row k hk
  by_cases e : k = i
  · subst e
    rw [upD_same]
    refine ⟨u, fun p x hx => ?_, ?_⟩
    · rw [hc u] at hx
      by_cases hp : p = j
      · subst hp
        have hl : p < ((D k).cells u).toList.length := by rw [cells_len]; exact hj
        rw [List.getElem?_set_self hl] at hx
        injection hx with hx
        subst hx
        obtain ⟨y, hy⟩ : ∃ y, ((D k).cells u).toList[p]? = some y := ⟨_, List.getElem?_eq_getElem hl⟩
        exact World.cell?_setCell_same' _ _ _ (by rw [h1 p y hy]; rfl)
      · rw [List.getElem?_set_ne (Ne.symm hp)] at hx
        exact (far9 w g v (by omega)).trans (h1 p x hx)
    · obtain ⟨u2, e2, hO⟩ := h2
      injection e2 with e2
      have hu : u = u2 := by simpa [RecD.cells] using e2
      subst hu
      exact ⟨u, rfl, hps ▸ hO.turn ht (h.apart k hk)⟩
  · have hd : upD D i d' k = D k := by simp [upD, e]
    rw [hd]
    refine ⟨u, fun p x hx => ?_, (keepsLC _).turn h2 ht (h.apart k hk)⟩
    have hp : p < 9 := by
      have := (List.getElem?_eq_some_iff.1 hx).1
      rwa [cells_len] at this
    exact (far9 w g v (by omega)).trans (h1 p x hx)
/-- The list of one of them is written. -/
theorem RecsAt.list {w w' : World} {g n : Nat} {D : Nat → RecD} {Fs : Nat → Nat → Prop} (h : RecsAt w g n D Fs) {i : Nat} (hi : i < n) {T : Nat → Prop} (ht : Turns T w w') (hT : ∀ b, T b → Fs i b) {u : Value} {ps' : List (Int × Int)} (hu : w.cell? ⟨g, i * 9 + 7, none⟩ = some u) (hO : OwnP w' (Fs i) u ps') :
    RecsAt w' g n (upD D i ⟨(D i).r1, (D i).r2, (D i).r3, (D i).r4, (D i).r5, (D i).r6, (D i).r7, ps', (D i).r8⟩) Fs := by
  have hg : ¬ T g := fun hb => h.apart i hi g (hT g hb) rfl
  refine ⟨Nat.lt_of_lt_of_le h.lt ht.size, fun o => (ht.frozen h.lt hg o).trans (h.fr o), fun k hk => ?_, h.apart, h.two⟩
  obtain ⟨u1, h1, h2⟩ := h.row k hk
  by_cases e : k = i
  · subst e
    rw [upD_same]
    have hc : w.cell? ⟨g, k * 9 + 7, none⟩ = some u1 := h1 7 u1 rfl
    rw [hu] at hc
    injection hc with hc
    subst hc
    exact ⟨u, fun p x hx => (ht.cell h.lt hg _).trans (h1 p x hx), u, rfl, hO⟩
  · have hd : upD D i ⟨(D i).r1, (D i).r2, (D i).r3, (D i).r4, (D i).r5, (D i).r6, (D i).r7, ps', (D i).r8⟩ k = D k := by simp [upD, e]
    rw [hd]
    exact ⟨u1, fun p x hx => (ht.cell h.lt hg _).trans (h1 p x hx), (keepsLC _).turn h2 ht (fun b hb hb2 => h.two k i hk hi e b hb (hT b hb2))⟩
end Go.Proofs.YtmooajppfjglaaaGreat

/- The laws' mark on a list of records of one's own; conditions: the sizes. -/
namespace Go.Proofs.YtmooajppfjglaaaGreat
open Go Go.RowKit

end Go.Proofs.YtmooajppfjglaaaGreat

/- The laws' marks on lists of one's own that may be empty, wherever those point; conditions: the sizes. -/
namespace Go.Proofs.YtmooajppfjglaaaGreat
open Go Go.RowKit

end Go.Proofs.YtmooajppfjglaaaGreat

/- Shelves of one's own by ranges: a number or the lists of one of them written; conditions: none. -/
namespace Go.Proofs.YtmooajppfjglaaaGreat
open Go Go.RowKit

def rowE (d : RegD) (u v : Value) : List Value := [.int .i64 d.t, .int .i64 d.q, .int .i64 d.v, u, v]
def upR (D : Nat → RegD) (i : Nat) (d : RegD) : Nat → RegD := fun j => if j = i then d else D j
theorem upR_same (D : Nat → RegD) (i : Nat) (d : RegD) : upR D i d i = d := by simp [upR]
theorem upR_twice (D : Nat → RegD) (i : Nat) (a b : RegD) : upR (upR D i a) i b = upR D i b := by
  funext j
  unfold upR
  split <;> rfl
/-- The block g holds n shelves, D of them; the lists of the one at place i lie in blocks of Fs i, apart from all others'. -/
structure RegsE (w : World) (g n : Nat) (D : Nat → RegD) (Fs : Nat → Nat → Prop) : Prop where
  lt : g < w.heap.size
  fr : ∀ o, w.frozen? ⟨g, o, none⟩ = false
  row : ∀ i, i < n → ∃ u v, w.rangeAt g (i * 5) (rowE (D i) u v) ∧ LieE (D i) w (Fs i) (.agg (rowE (D i) u v).toArray)
  apart : ∀ i, i < n → ∀ b, Fs i b → b ≠ g
  two : ∀ i j, i < n → j < n → i ≠ j → ∀ b, Fs i b → ¬ Fs j b
theorem LieE.same {d d' : RegD} {w : World} {F : Nat → Prop} {u v : Value} (h : LieE d w F (.agg (rowE d u v).toArray)) (hps : d'.ps = d.ps) (hos : d'.os = d.os) : LieE d' w F (.agg (rowE d' u v).toArray) := by
  obtain ⟨A, n, c, A', n', c', lo, B, hi, e, h1, h2, h3⟩ := h
  have hu : u = .slice A n c ∧ v = .slice A' n' c' := by simpa [rowE] using e
  refine ⟨A, n, c, A', n', c', lo, B, hi, by rw [hu.1, hu.2]; rfl, hps ▸ h1, hos ▸ h2, h3⟩
theorem rowE_len (d : RegD) (u v : Value) : (rowE d u v).length = 5 := rfl
/-- One number of one of them is written. -/
theorem RegsE.cell {w : World} {g n : Nat} {D : Nat → RegD} {Fs : Nat → Nat → Prop} (h : RegsE w g n D Fs) {i : Nat} (hi : i < n) {j : Nat} (hj : j < 5) (x : Value) (d' : RegD) (hps : d'.ps = (D i).ps) (hos : d'.os = (D i).os) (hc : ∀ u v, rowE d' u v = (rowE (D i) u v).set j x) :
    RegsE (w.setCell ⟨g, i * 5 + j, none⟩ x) g n (upR D i d') Fs := by
  have ht := turns_cell5 w g (i * 5 + j) x
  have hsz : (w.setCell ⟨g, i * 5 + j, none⟩ x).heap.size = w.heap.size := size_set _ _ _
  refine ⟨by rw [hsz]; exact h.lt, fun o => (World.frozen?_setCell _ _ _ _).trans (h.fr o), fun k hk => ?_, h.apart, h.two⟩
  obtain ⟨u, v, h1, h2⟩ := h.row k hk
  by_cases e : k = i
  · subst e
    rw [upR_same]
    refine ⟨u, v, fun p y hy => ?_, ((keepsLE _).turn h2 ht (h.apart k hk)).same hps hos⟩
    rw [hc u v] at hy
    by_cases hp : p = j
    · subst hp
      have hl : p < (rowE (D k) u v).length := by rw [rowE_len]; exact hj
      rw [List.getElem?_set_self hl] at hy
      injection hy with hy
      subst hy
      obtain ⟨z, hz⟩ : ∃ z, (rowE (D k) u v)[p]? = some z := ⟨_, List.getElem?_eq_getElem hl⟩
      exact World.cell?_setCell_same' _ _ _ (by rw [h1 p z hz]; rfl)
    · rw [List.getElem?_set_ne (Ne.symm hp)] at hy
      exact (far9 w g x (by omega)).trans (h1 p y hy)
  · have hd : upR D i d' k = D k := by simp [upR, e]
    rw [hd]
    refine ⟨u, v, fun p y hy => ?_, (keepsLE _).turn h2 ht (h.apart k hk)⟩
    have hp : p < 5 := by
      have := (List.getElem?_eq_some_iff.1 hy).1
      rwa [rowE_len] at this
    exact (far9 w g x (by omega)).trans (h1 p y hy)
/-- The three numbers ahead of the lists are written. -/
theorem RegsE.three {w : World} {g n : Nat} {D : Nat → RegD} {Fs : Nat → Nat → Prop} (h : RegsE w g n D Fs) {i : Nat} (hi : i < n) (x0 x1 x2 : Int) :
    RegsE (((w.setCell ⟨g, i * 5, none⟩ (.int .i64 x0)).setCell ⟨g, i * 5 + 1, none⟩ (.int .i64 x1)).setCell ⟨g, i * 5 + 2, none⟩ (.int .i64 x2)) g n (upR D i ⟨x0, x1, x2, (D i).ps, (D i).os⟩) Fs := by
  have h0 := h.cell hi (j := 0) (by omega) (.int .i64 x0) ⟨x0, (D i).q, (D i).v, (D i).ps, (D i).os⟩ rfl rfl (fun _ _ => rfl)
  have h1 := h0.cell hi (j := 1) (by omega) (.int .i64 x1) ⟨x0, x1, (D i).v, (D i).ps, (D i).os⟩ (by rw [upR_same]) (by rw [upR_same]) (fun _ _ => by rw [upR_same]; rfl)
  rw [upR_twice] at h1
  have h2 := h1.cell hi (j := 2) (by omega) (.int .i64 x2) ⟨x0, x1, x2, (D i).ps, (D i).os⟩ (by rw [upR_same]) (by rw [upR_same]) (fun _ _ => by rw [upR_same]; rfl)
  rw [upR_twice] at h2
  exact h2
/-- The lists of one of them are written. -/
theorem RegsE.lists {w w' : World} {g n : Nat} {D : Nat → RegD} {Fs : Nat → Nat → Prop} (h : RegsE w g n D Fs) {i : Nat} (hi : i < n) {T : Nat → Prop} (ht : Turns T w w') (hT : ∀ b, T b → Fs i b) {d' : RegD} {u v : Value} (hu : w.cell? ⟨g, i * 5 + 3, none⟩ = some u) (hv : w.cell? ⟨g, i * 5 + 4, none⟩ = some v) (h3 : d'.t = (D i).t ∧ d'.q = (D i).q ∧ d'.v = (D i).v) (hL : LieE d' w' (Fs i) (.agg (rowE d' u v).toArray)) :
    RegsE w' g n (upR D i d') Fs := by
  have hg : ¬ T g := fun hb => h.apart i hi g (hT g hb) rfl
  refine ⟨Nat.lt_of_lt_of_le h.lt ht.size, fun o => (ht.frozen h.lt hg o).trans (h.fr o), fun k hk => ?_, h.apart, h.two⟩
  obtain ⟨u1, v1, h1, h2⟩ := h.row k hk
  by_cases e : k = i
  · subst e
    rw [upR_same]
    have hc : w.cell? ⟨g, k * 5 + 3, none⟩ = some u1 := h1 3 u1 rfl
    have hc2 : w.cell? ⟨g, k * 5 + 4, none⟩ = some v1 := h1 4 v1 rfl
    rw [hu] at hc
    rw [hv] at hc2
    injection hc with hc
    injection hc2 with hc2
    subst hc hc2
    refine ⟨u, v, fun p x hx => (ht.cell h.lt hg _).trans (h1 p x ?_), hL⟩
    unfold rowE at hx ⊢
    rw [h3.1, h3.2.1, h3.2.2] at hx
    exact hx
  · have hd : upR D i d' k = D k := by simp [upR, e]
    rw [hd]
    exact ⟨u1, v1, fun p x hx => (ht.cell h.lt hg _).trans (h1 p x hx), (keepsLE _).turn h2 ht (fun b hb hb2 => h.two k i hk hi e b hb (hT b hb2))⟩
end Go.Proofs.YtmooajppfjglaaaGreat

/- The laws' mark on a list of shelves of one's own; conditions: the sizes. -/
namespace Go.Proofs.YtmooajppfjglaaaGreat
open Go Go.RowKit

end Go.Proofs.YtmooajppfjglaaaGreat

/- The laws' look at the marks on a list of shelves of one's own; conditions: the sizes. -/
namespace Go.Proofs.YtmooajppfjglaaaGreat
open Go Go.RowKit

end Go.Proofs.YtmooajppfjglaaaGreat

/- How many marks a list of records and a list of shelves take; shelves by ranges carried on; conditions: the sizes. -/
namespace Go.Proofs.YtmooajppfjglaaaGreat
open Go Go.RowKit

theorem RegsE.turn {w w' : World} {g n : Nat} {D : Nat → RegD} {Fs : Nat → Nat → Prop} {T : Nat → Prop} (h : RegsE w g n D Fs) (ht : Turns T w w') (hg : ¬ T g) (hF : ∀ i, i < n → ∀ b, Fs i b → ¬ T b) : RegsE w' g n D Fs :=
  ⟨Nat.lt_of_lt_of_le h.lt ht.size, fun o => (ht.frozen h.lt hg o).trans (h.fr o), fun i hi => by
    obtain ⟨u, v, h1, h2⟩ := h.row i hi
    exact ⟨u, v, fun j x hx => (ht.cell h.lt hg _).trans (h1 j x hx), (keepsLE _).turn h2 ht (hF i hi)⟩, h.apart, h.two⟩
theorem RegsE.later {w w' : World} {g n : Nat} {D : Nat → RegD} {Fs : Nat → Nat → Prop} (h : RegsE w g n D Fs) (hb : Below w.heap.size w w') : RegsE w' g n D Fs :=
  h.turn (T := fun _ => False) (Turns.of_below hb) (fun h => h) (fun _ _ _ _ h => h)
/-- Every shelf that is answered is short. -/
theorem replD_sz (g : GrpD) (ds : List RecD) (hz : totC ds ≤ 1048576) : ∀ i, i < (replD g ds).1.length → (regOf (replD g ds).1 i).ps.length + (regOf (replD g ds).1 i).os.length ≤ 1048576 := by
  intro i hi
  unfold replD at hi ⊢
  split at hi
  · rename_i hc
    rw [if_pos hc]
    have h1 := shelves_sz g ds ds.length (Nat.le_refl _) i
    have h2 := totC_take ds ds.length
    rw [List.take_length] at h1 h2
    show (regOf (shelves g ds) i).ps.length + (regOf (shelves g ds) i).os.length ≤ 1048576
    omega
  · exact absurd hi (by simp)
theorem replD_len (g : GrpD) (ds : List RecD) : (replD g ds).1.length ≤ 4 := by
  unfold replD
  split
  · rename_i hc
    rw [Bool.and_eq_true] at hc
    have hok : okB g.s g.l g.c g.sh g.zs = true := hc.1
    obtain ⟨h1, h2⟩ := okB_sh hok
    show (shelves g ds).length ≤ 4
    rw [shelves_len]
    omega
  · exact Nat.zero_le _
end Go.Proofs.YtmooajppfjglaaaGreat

/- The program's onto: a record is done to a shelf (written by onto9.py); conditions: the sizes. -/
namespace Go.Proofs.YtmooajppfjglaaaGreat
open Go Go.RowKit

theorem results_row9 {P : Program} {fn : Func} {x : Tmp} {ty : TypeId} (h : fn.results = #[.cell x ty]) (tmps : Array Value) (w : World) (g : Nat) (t : TypeId) (cs : Array Value) (d : TypeDesc)
    (hx : tmps.getD x undef = .pointer (some ⟨g, 0, none⟩)) (hg : Box w g t cs)
    (hu : P.underlying ty = some d) (hd : (match d with | .struct _ | .array _ _ => true | _ => false) = true) (hi : (P.info? ty).map (·.size) = some cs.size) :
    (results fn tmps).run P w = .ok (.agg cs) w := by
  have ex : tmps[x]?.getD undef = .pointer (some ⟨g, 0, none⟩) := by simpa using hx
  simp [results, h, ex, asAddr, run_loadVar_row w g t ty cs (0, 0) d hg hu hd hi]
/-- A shelf that is answered: its data, its lists in new blocks. -/
def MadeR (o : RegD) (w : World) (e : Ending) (w' : World) : Prop := ∃ u v, e = .returned (.agg #[.int .i64 o.t, .int .i64 o.q, .int .i64 o.v, u, v]) ∧ LieR o w' (Iv w.heap.size w'.heap.size) (.agg #[.int .i64 o.t, .int .i64 o.q, .int .i64 o.v, u, v]) ∧ Below w.heap.size w w'
theorem wrR_at {w w' : World} {o : Out} {e : Ending} (h : WrR w o e w') : ∃ u v, e = .returned (.tuple #[.agg #[.int .i64 o.t, .int .i64 o.q, .int .i64 o.v, u, v], .bool o.f]) ∧ LieR ⟨o.t, o.q, o.v, o.cs, o.os⟩ w' (Iv w.heap.size w'.heap.size) (.agg #[.int .i64 o.t, .int .i64 o.q, .int .i64 o.v, u, v]) ∧ Below w.heap.size w w' := by
  obtain ⟨B, A, n, c, A', n', c', hB, hB', rfl, h1, h2, hb⟩ := h
  exact ⟨_, _, rfl, ⟨A, n, c, A', n', c', w.heap.size, B, w'.heap.size, rfl, h1, h2.resQ, hB, hB', Nat.le_refl _, fun b hb => hb⟩, hb⟩
/-- The shelf is laid into the variable of the answer. -/
theorem madeR_put {o : RegD} {w w2 w3 : World} {R : Nat} {C : Array Value} {N : Nat} (hb : Below w.heap.size w w2) (hR : w.heap.size ≤ R) (hRN : R < N) (_hN : N ≤ w2.heap.size) (hL : LieR o w2 (Iv N w2.heap.size) (.agg C)) (hw : w3 = w2.setRow R C) :
    LieR o w3 (Iv w.heap.size w3.heap.size) (.agg C) ∧ Below w.heap.size w w3 := by
  have ht := turns_setRow w2 R C
  rw [hw]
  exact ⟨(keepsLR o).sub ((keepsLR o).turn hL ht (iv_one (.inl hRN))) (fun b hb => ⟨by have := hb.1; omega, by have := hb.2; rw [size_setRow]; exact this⟩), ht.below hb (fun i hi => by omega)⟩

set_option maxRecDepth 100000 in
set_option maxHeartbeats 16000000 in
theorem onto_is (g : GrpD) (d : RecD) (r : RegD) (A : Option Addr) (n cap : Nat) (L : Option Addr) (m mc : Nat) (P : Option Addr) (p pc : Nat) (Q : Option Addr) (q qc : Nat) (w : World)
    (hm : n ≤ maxLen) (hgr : Row w w.heap.size A n g.zs) (hmc : m ≤ 4194304) (hp : Pairs w w.heap.size L m d.ps) (h1 : Slc w (.slice P p pc) r.ps) (h2 : SlcQ w (.slice Q q qc) r.os) (hs1 : r.ps.length ≤ 2000000) (hs2 : r.os.length ≤ 2000000) (hlp : r.ps.length = p) (hlq : r.os.length = q) :
    Calls Tryz.prog 62 #[.agg #[.int .i64 d.r1, .int .i64 d.r2, .int .i64 d.r3, .int .i64 d.r4, .int .i64 d.r5, .int .i64 d.r6, .int .i64 d.r7, .slice L m mc, .int .i64 d.r8], .agg #[.int .i64 g.s, .int .i64 g.l, .int .i64 g.c, .int .i64 g.sh, .slice A n cap], .agg #[.int .i64 r.t, .int .i64 r.q, .int .i64 r.v, .slice P p pc, .slice Q q qc]] w (MadeR (ontoD g d r) w) := by
  have E := bel_trans (bel_trans (bel_trans (bel_alloc w (.cells #[.int .i64 d.r1, .int .i64 d.r2, .int .i64 d.r3, .int .i64 d.r4, .int .i64 d.r5, .int .i64 d.r6, .int .i64 d.r7, .slice L m mc, .int .i64 d.r8] 42)) (bel_alloc _ (.cells #[.int .i64 g.s, .int .i64 g.l, .int .i64 g.c, .int .i64 g.sh, .slice A n cap] 26))) (bel_alloc _ (.cells #[.int .i64 r.t, .int .i64 r.q, .int .i64 r.v, .slice P p pc, .slice Q q qc] 40))) (bel_alloc _ (.cells #[.int .i64 0, .int .i64 0, .int .i64 0, .slice none 0 0, .slice none 0 0] 40))
  have D := (((Box.new w 42 #[.int .i64 d.r1, .int .i64 d.r2, .int .i64 d.r3, .int .i64 d.r4, .int .i64 d.r5, .int .i64 d.r6, .int .i64 d.r7, .slice L m mc, .int .i64 d.r8]).alloc (.cells #[.int .i64 g.s, .int .i64 g.l, .int .i64 g.c, .int .i64 g.sh, .slice A n cap] 26)).alloc (.cells #[.int .i64 r.t, .int .i64 r.q, .int .i64 r.v, .slice P p pc, .slice Q q qc] 40)).alloc (.cells #[.int .i64 0, .int .i64 0, .int .i64 0, .slice none 0 0, .slice none 0 0] 40)
  have G := ((Box.new (w.alloc (.cells #[.int .i64 d.r1, .int .i64 d.r2, .int .i64 d.r3, .int .i64 d.r4, .int .i64 d.r5, .int .i64 d.r6, .int .i64 d.r7, .slice L m mc, .int .i64 d.r8] 42)) 26 #[.int .i64 g.s, .int .i64 g.l, .int .i64 g.c, .int .i64 g.sh, .slice A n cap]).alloc (.cells #[.int .i64 r.t, .int .i64 r.q, .int .i64 r.v, .slice P p pc, .slice Q q qc] 40)).alloc (.cells #[.int .i64 0, .int .i64 0, .int .i64 0, .slice none 0 0, .slice none 0 0] 40)
  have V := (Box.new ((w.alloc (.cells #[.int .i64 d.r1, .int .i64 d.r2, .int .i64 d.r3, .int .i64 d.r4, .int .i64 d.r5, .int .i64 d.r6, .int .i64 d.r7, .slice L m mc, .int .i64 d.r8] 42)).alloc (.cells #[.int .i64 g.s, .int .i64 g.l, .int .i64 g.c, .int .i64 g.sh, .slice A n cap] 26)) 40 #[.int .i64 r.t, .int .i64 r.q, .int .i64 r.v, .slice P p pc, .slice Q q qc]).alloc (.cells #[.int .i64 0, .int .i64 0, .int .i64 0, .slice none 0 0, .slice none 0 0] 40)
  have X := Box.new (((w.alloc (.cells #[.int .i64 d.r1, .int .i64 d.r2, .int .i64 d.r3, .int .i64 d.r4, .int .i64 d.r5, .int .i64 d.r6, .int .i64 d.r7, .slice L m mc, .int .i64 d.r8] 42)).alloc (.cells #[.int .i64 g.s, .int .i64 g.l, .int .i64 g.c, .int .i64 g.sh, .slice A n cap] 26)).alloc (.cells #[.int .i64 r.t, .int .i64 r.q, .int .i64 r.v, .slice P p pc, .slice Q q qc] 40)) 40 #[.int .i64 0, .int .i64 0, .int .i64 0, .slice none 0 0, .slice none 0 0]
  simp only [World.size_alloc] at G V X
  have HR := Lib.hid ((hgr.below E (Nat.le_refl _)).more E.size)
  have HP := Lib.hid (hp.later E)
  have H1 := Lib.hid (h1.later E)
  have H2 := Lib.hid (h2.later E)
  have HM := Lib.hid hm
  have HL1 := Lib.hid hlp
  have HL2 := Lib.hid hlq
  clear hgr hp h1 h2 hm hlp hlq
  go_enter Tryz.func62, Tryz.ntmps62
  go_upto_region 1 with fail
  generalize ((((w.alloc _).alloc _).alloc _).alloc _ : World) = w0 at E D G V X HR HP H1 H2 ⊢
  have d1 := D.cell 1
  have hXl := X.lt
  have IX := Lib.hid (show (Tryz.prog.info? 40).map (·.size) = some 5 from by kernel_rfl)
  by_cases h2 : d.r2 = 1
  · skip
    have h2b : (d.r2 == 1) = true := by simpa using h2
    have hh2 := Lib.hid h2
    clear h2
    go_upto_region 2 with fail
    clear d1 h2b
    refine wp_region_sink 5 (fun w' => Box w' w.heap.size 42 #[.int .i64 d.r1, .int .i64 d.r2, .int .i64 d.r3, .int .i64 d.r4, .int .i64 d.r5, .int .i64 d.r6, .int .i64 d.r7, .slice L m mc, .int .i64 d.r8] ∧ Box w' (w.heap.size + 1 + 1) 40 #[.int .i64 r.t, .int .i64 r.q, .int .i64 r.v, .slice P p pc, .slice Q q qc]) (by kernel_rfl) ⟨D, V⟩ (fun hH => ?_)
    have hb := (Below.refl w0.heap.size w0).drew
    replace E := bel_trans E hb
    replace D := D.later hb D.lt
    replace V := V.later hb V.lt
    replace X := X.later hb X.lt
    replace H1 := Lib.hid (H1.out.later hb)
    replace H2 := Lib.hid (H2.out.later hb)
    replace hXl := Nat.lt_of_lt_of_le hXl hb.size
    clear hb
    generalize w0.drew = w1 at E D V X H1 H2 hH hXl ⊢
    refine wpAnyE_takeS (i := 0) (v := .agg #[.int .i64 r.t, .int .i64 r.q, .int .i64 r.v, .slice P p pc, .slice Q q qc]) (by simp only [List.getElem?_toArray, List.getElem?_cons_zero]; rfl) (by kernel_rfl) (by kernel_rfl) (by kernel_rfl) (by exact fun _ _ _ h => h) (by kernel_rfl) ?y0 hH ?_
    case y0 => exact yields_box 40 _ rfl (w.heap.size + 1 + 1) rfl 40 #[.int .i64 r.t, .int .i64 r.q, .int .i64 r.v, .slice P p pc, .slice Q q qc] (fun _ h => h.2) _ Tryz.underlying40 rfl IX.out (by first | rfl | simp [Region.wanted, yielded] | (simp [Region.wanted, yielded, Act.put] <;> omega))
    try simp only [Act.put, List.setIfInBounds_toArray, List.set_cons_zero, List.set_cons_succ]
    refine wpAnyE_takeS (i := 1) (v := .agg #[.int .i64 d.r1, .int .i64 d.r2, .int .i64 d.r3, .int .i64 d.r4, .int .i64 d.r5, .int .i64 d.r6, .int .i64 d.r7, .slice L m mc, .int .i64 d.r8]) (by simp only [List.getElem?_toArray, List.getElem?_cons_succ, List.getElem?_cons_zero]; rfl) (by kernel_rfl) (by kernel_rfl) (by kernel_rfl) (by exact fun _ _ _ h => h) (by kernel_rfl) ?y1 hH ?_
    case y1 => exact yields_box 42 _ rfl (w.heap.size) rfl 42 #[.int .i64 d.r1, .int .i64 d.r2, .int .i64 d.r3, .int .i64 d.r4, .int .i64 d.r5, .int .i64 d.r6, .int .i64 d.r7, .slice L m mc, .int .i64 d.r8] (fun _ h => h.1) _ Tryz.underlying42 rfl (by kernel_rfl) (by first | rfl | simp [Region.wanted, yielded] | (simp [Region.wanted, yielded, Act.put] <;> omega))
    try simp only [Act.put, List.setIfInBounds_toArray, List.set_cons_zero, List.set_cons_succ]
    refine wpAnyE_one (i := 2) (by kernel_rfl) (by simp only [List.getElem?_toArray, List.getElem?_cons_succ, List.getElem?_cons_zero]; rfl) (fun K' hK => ?_)
    go_simp
    refine (recOpen_is d.r1 d.r2 d.r3 d.r4 d.r5 d.r6 d.r7 L m mc d.r8 w1).mono ?_
    rintro e w2 ⟨rfl, hb⟩
    replace E := bel_trans E hb
    replace D := D.later hb D.lt
    replace V := V.later hb V.lt
    replace X := X.later hb X.lt
    replace H1 := Lib.hid (H1.out.later hb)
    replace H2 := Lib.hid (H2.out.later hb)
    replace hXl := Nat.lt_of_lt_of_le hXl hb.size
    clear hb
    obtain ⟨w1, rfl⟩ : ∃ x, x = w2 := ⟨_, rfl⟩
    clear hH
    refine hK.out _ _ ⟨D, V⟩ (fun hH => ?_)
    clear hK K'
    try simp only [Act.put, List.setIfInBounds_toArray, List.set_cons_zero, List.set_cons_succ]
    refine wpAnyE_one (i := 3) (by kernel_rfl) (by simp only [List.getElem?_toArray, List.getElem?_cons_succ, List.getElem?_cons_zero]; rfl) (fun K' hK => ?_)
    go_simp
    refine (withOpen_is r.t r.q r.v P p pc Q q qc d.r4 d.r5 d.r6 d.r7 r.ps r.os w1 hs1 hs2 H1.out H2.out).mono ?_
    rintro e w2 hE
    obtain ⟨u, v, rfl, hL, hb⟩ := regR_at hE
    have hN := hb.size
    replace E := bel_trans E hb
    replace D := D.later hb D.lt
    replace V := V.later hb V.lt
    replace X := X.later hb X.lt
    have hz := X.lt
    clear hE hb
    have hon : ontoD g d r = ⟨r.t, r.q, r.v, r.ps, withO r.os (d.r4, d.r5, d.r6, d.r7)⟩ := by unfold ontoD; rw [if_pos hh2.out]
    replace hon := Lib.hid hon
    clear hH
    refine hK.out _ _ ⟨D, V⟩ (fun hH => ?_)
    clear hK K'
    try simp only [Act.put, List.setIfInBounds_toArray, List.set_cons_zero, List.set_cons_succ]
    have OL := Lib.hid (oneR hL.at)
    generalize w1.heap.size = N at hL hN hXl
    have ht := turns_setRow w2 (w.heap.size + 1 + 1 + 1) #[.int .i64 r.t, .int .i64 r.q, .int .i64 r.v, u, v]
    have B := Lib.hid (X.setRow #[.int .i64 r.t, .int .i64 r.q, .int .i64 r.v, u, v])
    obtain ⟨hL2, hb2⟩ := madeR_put (w3 := w2.setRow (w.heap.size + 1 + 1 + 1) #[.int .i64 r.t, .int .i64 r.q, .int .i64 r.v, u, v]) E (by omega) hXl hN hL rfl
    replace hL2 := Lib.hid hL2
    replace hb2 := Lib.hid hb2
    refine wpAnyE_end (i := 4) (by kernel_rfl) (by simp only [List.getElem?_toArray, List.getElem?_cons_succ, List.getElem?_cons_zero]; rfl) (by kernel_rfl) (fun K' hK => ?_)
    rw [if_pos (by first | rfl | kernel_rfl | simp [Region.wanted, yielded])]
    refine wp_store_row 40 _ _ rfl (w.heap.size + 1 + 1 + 1) #[.int .i64 r.t, .int .i64 r.q, .int .i64 r.v, u, v] rfl rfl 40 #[.int .i64 0, .int .i64 0, .int .i64 0, .slice none 0 0, .slice none 0 0] X IX.out rfl OL.out.2 ?_
    refine hK.out _ _ ⟨D.turn ht (by omega), V.turn ht (by omega)⟩ ?_
    clear hK K'
    try simp only [Act.put]
    clear hH D V X ht hL
    go_wp2
    exact bodyPost_ret (v := .agg #[.int .i64 r.t, .int .i64 r.q, .int .i64 r.v, u, v]) (results_row9 (Tryz.results62) _ _ (w.heap.size + 1 + 1 + 1) 40 #[.int .i64 r.t, .int .i64 r.q, .int .i64 r.v, u, v] _ rfl B.out Tryz.underlying40 rfl IX.out) rfl (by rw [hon.out]; exact ⟨u, v, rfl, hL2.out, hb2.out⟩)
  have h2b : (d.r2 == 1) = false := by simpa using h2
  have hh2 := Lib.hid h2
  clear h2
  go_upto_region 3 with fail
  clear d1 h2b
  obtain ⟨d0, d1, d2, d3, d4, d5, d6, d7, d8⟩ := D.nine
  obtain ⟨g0, g1, g2, g3, g4⟩ := G.five
  obtain ⟨v0, v1, v2, v3, v4⟩ := V.five
  go_wp2_with fail
  obtain ⟨O, hO⟩ : ∃ O, outW g.s g.l g.c g.sh g.zs d.r3 r.t r.q r.v r.ps r.os d.r5 d.r6 d.r7 d.ps = O := ⟨_, rfl⟩
  refine (written_is g.s g.l g.c g.sh A n cap g.zs d.r3 r.t r.q r.v P p pc Q q qc d.r5 d.r6 d.r7 L m mc r.ps r.os d.ps w0 HM.out HR.out (by have := HL1.out; omega) (by have := HL2.out; omega) H1.out H2.out hmc HP.out).mono ?_
  rintro e w1 hE
  rw [hO] at hE
  obtain ⟨u, v, rfl, hL, hb⟩ := wrR_at hE
  have hon : ontoD g d r = ⟨O.t, O.q, O.v, O.cs, O.os⟩ := by unfold ontoD; rw [if_neg hh2.out, hO]
  have HON := Lib.hid hon
  replace E := bel_trans E hb
  replace X := X.later hb X.lt
  have OL := Lib.hid (oneR hL.at)
  clear hE hO hon g0 g1 g2 g3 g4 v0 v1 v2 v3 v4 d0 d1 d2 d3 d4 d5 d6 d7 d8 D G V
  have hN := hb.size
  clear hb
  generalize w0.heap.size = N at hL hN hXl
  have ZB := Box.new w1 40 #[.int .i64 0, .int .i64 0, .int .i64 0, .slice none 0 0, .slice none 0 0]
  have hn := bel_new_row w1 #[.int .i64 0, .int .i64 0, .int .i64 0, .slice none 0 0, .slice none 0 0] 40 #[.int .i64 O.t, .int .i64 O.q, .int .i64 O.v, u, v]
  have VB := ZB.setRow #[.int .i64 O.t, .int .i64 O.q, .int .i64 O.v, u, v]
  have hV1 := X.lt
  replace hL := (keepsLR _).later hL hn
  replace E := bel_trans E hn
  replace X := X.later hn X.lt
  go_upto_region 4 with (refine wpList_store_row rfl 40 _ _ rfl w1.heap.size _ rfl rfl 40 #[.int .i64 0, .int .i64 0, .int .i64 0, .slice none 0 0, .slice none 0 0] ZB IX.out rfl OL.out.2 ?_)
  clear ZB
  have hz2 := hn.size
  clear hn
  generalize ((w1.alloc _).setRow _ _ : World) = w2 at hL E X VB hz2 ⊢
  generalize w1.heap.size = VV at hL hN hV1 VB hz2 ⊢
  have ht := turns_setRow w2 (w.heap.size + 1 + 1 + 1) #[.int .i64 O.t, .int .i64 O.q, .int .i64 O.v, u, v]
  have B := Lib.hid (X.setRow #[.int .i64 O.t, .int .i64 O.q, .int .i64 O.v, u, v])
  obtain ⟨hL2, hb2⟩ := madeR_put (w3 := w2.setRow (w.heap.size + 1 + 1 + 1) #[.int .i64 O.t, .int .i64 O.q, .int .i64 O.v, u, v]) E (by omega) hXl (by omega) ((keepsLR _).sub hL (fun b hb => ⟨hb.1, by have := hb.2; omega⟩)) rfl
  replace hL2 := Lib.hid hL2
  replace hb2 := Lib.hid hb2
  clear ht hL E
  go_wp2_with (first | (refine wpList_load_box 40 _ rfl VV rfl 40 #[.int .i64 O.t, .int .i64 O.q, .int .i64 O.v, u, v] VB _ Tryz.underlying40 rfl IX.out (by first | rfl | simp [Region.wanted, yielded] | (simp [Region.wanted, yielded, Act.put] <;> omega)) ?_) | (refine wpList_store_row rfl 40 _ _ rfl (w.heap.size + 1 + 1 + 1) _ rfl rfl 40 #[.int .i64 0, .int .i64 0, .int .i64 0, .slice none 0 0, .slice none 0 0] X IX.out rfl OL.out.2 ?_))
  exact bodyPost_ret (v := .agg #[.int .i64 O.t, .int .i64 O.q, .int .i64 O.v, u, v]) (results_row9 (Tryz.results62) _ _ (w.heap.size + 1 + 1 + 1) 40 #[.int .i64 O.t, .int .i64 O.q, .int .i64 O.v, u, v] _ rfl B.out Tryz.underlying40 rfl IX.out) rfl (by rw [HON.out]; exact ⟨u, v, rfl, hL2.out, hb2.out⟩)

end Go.Proofs.YtmooajppfjglaaaGreat

namespace Go.Proofs.YtmooajppfjglaaaGreat
open Go Go.RowKit

theorem hreg {P : RegD → World → (Nat → Prop) → Value → Prop} (kp : ∀ d, Keeps (P d)) {w : World} {g lo : Nat} {rs : List RegD} (h : RegsOwn P w g lo rs) {i : Nat} (hi : i < rs.length) :
    ∃ u v, w.cell? ⟨g, i * 5, none⟩ = some (.int .i64 (rs[i]).t) ∧ w.cell? ⟨g, i * 5 + 1, none⟩ = some (.int .i64 (rs[i]).q) ∧ w.cell? ⟨g, i * 5 + 2, none⟩ = some (.int .i64 (rs[i]).v) ∧ w.cell? ⟨g, i * 5 + 3, none⟩ = some u ∧ w.cell? ⟨g, i * 5 + 4, none⟩ = some v ∧
      P rs[i] w (fun b => lo ≤ b) (.agg #[.int .i64 (rs[i]).t, .int .i64 (rs[i]).q, .int .i64 (rs[i]).v, u, v]) := by
  obtain ⟨_, Fs, hR, hF⟩ := h
  obtain ⟨u, v, c0, c1, c2, c3, c4, hP⟩ := hR.get hi
  exact ⟨u, v, c0, c1, c2, c3, c4, (kp _).sub hP (fun b hb => (hF i hi b hb).1)⟩
theorem grownG5 {w w2 : World} (h : Below w.heap.size w w2) (G : Nat) {o0 o1 o2 o3 o4 : Nat} (x0 x1 x2 x3 x4 : Value) : w.grownBy (((((w2.setCell ⟨G, o0, none⟩ x0).setCell ⟨G, o1, none⟩ x1).setCell ⟨G, o2, none⟩ x2).setCell ⟨G, o3, none⟩ x3).setCell ⟨G, o4, none⟩ x4) (some G) := by
  have t5 : Turns (· = G) w2 (((((w2.setCell ⟨G, o0, none⟩ x0).setCell ⟨G, o1, none⟩ x1).setCell ⟨G, o2, none⟩ x2).setCell ⟨G, o3, none⟩ x3).setCell ⟨G, o4, none⟩ x4) :=
    ((((turns_cell5 w2 G _ _).trans (turns_cell5 _ G _ _)).trans (turns_cell5 _ G _ _)).trans (turns_cell5 _ G _ _)).trans (turns_cell5 _ G _ _)
  exact ⟨t5.os.trans h.os, t5.tape.trans h.tape, t5.output.trans h.output, Nat.le_trans h.size t5.size, fun i hi hne => (t5.block i (Nat.lt_of_lt_of_le hi h.size) (fun e => hne (by rw [e]))).trans (h.block i hi)⟩

set_option maxRecDepth 100000 in
set_option maxHeartbeats 16000000 in
theorem l9Apply_is (g : GrpD) (d : RecD) (A : Option Addr) (n cap : Nat) (L : Option Addr) (m mc : Nat) (G k cap' lo : Nat) (rs : List RegD) (i : Nat) (w : World) (hi : d.r3 = (i : Int)) (hil : i < rs.length) (hlen : rs.length = k)
    (hm : n ≤ maxLen) (hgr : Row w w.heap.size A n g.zs) (hmc : m ≤ 4194304) (hp : Pairs w w.heap.size L m d.ps) (hR : RegsOwn AtW w G lo rs)
    (hgood : regG g d.r3 rs[i] = true) (hkn : kndB g.s g.l g.c g.sh g.zs d.r2 d.r3 d.r4 d.r5 d.r6 d.r7 d.ps = true) (hs1 : (rs[i]).ps.length ≤ 2000000) (hs2 : (rs[i]).os.length ≤ 2000000) :
    Calls Tryz.prog 65 #[.agg #[.int .i64 g.s, .int .i64 g.l, .int .i64 g.c, .int .i64 g.sh, .slice A n cap], .slice (some ⟨G, 0, none⟩) k cap', .agg #[.int .i64 d.r1, .int .i64 d.r2, .int .i64 (i : Int), .int .i64 d.r4, .int .i64 d.r5, .int .i64 d.r6, .int .i64 d.r7, .slice L m mc, .int .i64 d.r8]] w fun e w' => (∃ v, e = .returned v) ∧ RegsOwn AtW w' G lo (rs.set i (ontoD g d rs[i])) ∧ w.grownBy w' (some G) := by
  have E := bel_trans (bel_alloc w (.cells #[.int .i64 g.s, .int .i64 g.l, .int .i64 g.c, .int .i64 g.sh, .slice A n cap] 26)) (bel_alloc _ (.cells #[.int .i64 d.r1, .int .i64 d.r2, .int .i64 (i : Int), .int .i64 d.r4, .int .i64 d.r5, .int .i64 d.r6, .int .i64 d.r7, .slice L m mc, .int .i64 d.r8] 42))
  have D := (Box.new w 26 #[.int .i64 g.s, .int .i64 g.l, .int .i64 g.c, .int .i64 g.sh, .slice A n cap]).alloc (.cells #[.int .i64 d.r1, .int .i64 d.r2, .int .i64 (i : Int), .int .i64 d.r4, .int .i64 d.r5, .int .i64 d.r6, .int .i64 d.r7, .slice L m mc, .int .i64 d.r8] 42)
  have R := Box.new (w.alloc (.cells #[.int .i64 g.s, .int .i64 g.l, .int .i64 g.c, .int .i64 g.sh, .slice A n cap] 26)) 42 #[.int .i64 d.r1, .int .i64 d.r2, .int .i64 (i : Int), .int .i64 d.r4, .int .i64 d.r5, .int .i64 d.r6, .int .i64 d.r7, .slice L m mc, .int .i64 d.r8]
  simp only [World.size_alloc] at R
  have HR := Lib.hid ((hgr.below E (Nat.le_refl _)).more E.size)
  have HP := Lib.hid (hp.later E)
  have K := RegsOwn.later keepsW hR E
  have HG := Lib.hid hgood
  have HK := Lib.hid hkn
  have HM := Lib.hid hm
  have HI := Lib.hid hi
  have hGl : G < w.heap.size := by
    obtain ⟨_, Fs, h, _⟩ := hR
    exact h.lt
  clear hgr hp hR hgood hkn hm hi
  have hlt : (i : Int) < (k : Int) := by omega
  obtain ⟨r, hr⟩ : ∃ r : RegD, rs[i] = r := ⟨_, rfl⟩
  rw [hr] at hs1 hs2 ⊢
  replace HG : Hid (regG g d.r3 r = true) := hr ▸ HG
  have hlen' := Lib.hid hlen
  clear hlen
  go_enter Tryz.func65, Tryz.ntmps65
  go_upto_region 1 with fail
  generalize ((w.alloc _).alloc _ : World) = w0 at E D R HR HP K ⊢
  have d1 := R.cell 1
  by_cases h2 : d.r2 = 1
  · skip
    have h2b : (d.r2 == 1) = true := by simpa using h2
    go_upto_region 2 with fail
    clear d1
    obtain ⟨u0, v0, c0, c1, c2, c3, c4, hA⟩ := hreg keepsW K hil
    rw [hr] at c0 c1 c2 hA
    obtain ⟨P, p, pc, Q, q, qc, rfl, rfl, hS1, hS2, hl1, hl2⟩ := hA.slc
    refine wp_region_sink 17 (fun w' => Box w' w.heap.size 26 #[.int .i64 g.s, .int .i64 g.l, .int .i64 g.c, .int .i64 g.sh, .slice A n cap] ∧ Box w' (w.heap.size + 1) 42 #[.int .i64 d.r1, .int .i64 d.r2, .int .i64 (i : Int), .int .i64 d.r4, .int .i64 d.r5, .int .i64 d.r6, .int .i64 d.r7, .slice L m mc, .int .i64 d.r8] ∧ w'.cell? ⟨G, i * 5, none⟩ = some (.int .i64 r.t) ∧ w'.cell? ⟨G, i * 5 + 1, none⟩ = some (.int .i64 r.q) ∧ w'.cell? ⟨G, i * 5 + 2, none⟩ = some (.int .i64 r.v) ∧ w'.cell? ⟨G, i * 5 + 3, none⟩ = some (.slice P p pc) ∧ w'.cell? ⟨G, i * 5 + 4, none⟩ = some (.slice Q q qc)) (by kernel_rfl) ⟨D, R, c0, c1, c2, c3, c4⟩ (fun hH => ?_)
    have hb := (Below.refl w0.heap.size w0).drew
    replace E := bel_trans E hb
    replace D := D.later hb D.lt
    replace R := R.later hb R.lt
    have K1 := RegsOwn.later keepsW K hb
    replace HR := Lib.hid ((HR.out.below hb (Nat.le_refl _)).more hb.size)
    replace HP := Lib.hid (HP.out.later hb)
    replace hS1 := hS1.later hb
    replace hS2 := hS2.later hb
    clear hb hA K
    have K := K1
    clear K1
    generalize w0.drew = w1 at E D R HR HP K hS1 hS2 hH ⊢
    refine wpAnyE_pure (i := 0) (v := ?vp1) (by simp only [List.getElem?_toArray, List.getElem?_cons_zero]; rfl) (by kernel_rfl) (by kernel_rfl) (by kernel_rfl) (by exact fun _ _ _ h => h) (by kernel_rfl) (Or.inl ⟨by rfl, ?yp1⟩) hH ?rp1
    case yp1 => (intro w' hSw; (try dsimp only at hSw); go_simp; try with_reducible rfl)
    try simp only [Act.put, List.setIfInBounds_toArray, List.set_cons_zero, List.set_cons_succ]
    refine wpAnyE_pure (i := 1) (v := ?vp2) (by simp only [List.getElem?_toArray, List.getElem?_cons_succ, List.getElem?_cons_zero]; rfl) (by kernel_rfl) (by kernel_rfl) (by kernel_rfl) (by exact fun _ _ _ h => h) (by kernel_rfl) (Or.inl ⟨by rfl, ?yp2⟩) hH ?rp2
    case yp2 => (intro w' hSw; (try dsimp only at hSw); go_simp; try with_reducible rfl)
    try simp only [Act.put, List.setIfInBounds_toArray, List.set_cons_zero, List.set_cons_succ]
    refine wpAnyE_take (i := 2) (v := .int .i64 (i : Int)) (by simp only [List.getElem?_toArray, List.getElem?_cons_succ, List.getElem?_cons_zero]; rfl) (by kernel_rfl) (by kernel_rfl) (by kernel_rfl) (by exact fun _ _ _ h => h) (by kernel_rfl) (Or.inl ⟨by rfl, ?y3⟩) hH ?r3
    case y3 => (intro w' hSw; have hc2 : w'.cell? ⟨w.heap.size + 1, 2, none⟩ = some (.int .i64 (i : Int)) := hSw.2.1.cell 2; clear hSw; go_simp; try with_reducible rfl)
    try simp only [Act.put, List.setIfInBounds_toArray, List.set_cons_zero, List.set_cons_succ]
    refine wpAnyE_pure (i := 3) (v := ?vp4) (by simp only [List.getElem?_toArray, List.getElem?_cons_succ, List.getElem?_cons_zero]; rfl) (by kernel_rfl) (by kernel_rfl) (by kernel_rfl) (by exact fun _ _ _ h => h) (by kernel_rfl) (Or.inl ⟨by rfl, ?yp4⟩) hH ?rp4
    case yp4 => (intro w' hSw; (try dsimp only at hSw); go_simp; try with_reducible rfl)
    try simp only [Act.put, List.setIfInBounds_toArray, List.set_cons_zero, List.set_cons_succ]
    refine wpAnyE_pure (i := 4) (v := ?vp5) (by simp only [List.getElem?_toArray, List.getElem?_cons_succ, List.getElem?_cons_zero]; rfl) (by kernel_rfl) (by kernel_rfl) (by kernel_rfl) (by exact fun _ _ _ h => h) (by kernel_rfl) (Or.inl ⟨by rfl, ?yp5⟩) hH ?rp5
    case yp5 => (intro w' hSw; (try dsimp only at hSw); go_simp; try with_reducible rfl)
    try simp only [Act.put, List.setIfInBounds_toArray, List.set_cons_zero, List.set_cons_succ]
    refine wpAnyE_take (i := 5) (v := .int .i64 (i : Int)) (by simp only [List.getElem?_toArray, List.getElem?_cons_succ, List.getElem?_cons_zero]; rfl) (by kernel_rfl) (by kernel_rfl) (by kernel_rfl) (by exact fun _ _ _ h => h) (by kernel_rfl) (Or.inl ⟨by rfl, ?y6⟩) hH ?r6
    case y6 => (intro w' hSw; have hc2 : w'.cell? ⟨w.heap.size + 1, 2, none⟩ = some (.int .i64 (i : Int)) := hSw.2.1.cell 2; clear hSw; go_simp; try with_reducible rfl)
    try simp only [Act.put, List.setIfInBounds_toArray, List.set_cons_zero, List.set_cons_succ]
    refine wpAnyE_pure (i := 6) (v := ?vp7) (by simp only [List.getElem?_toArray, List.getElem?_cons_succ, List.getElem?_cons_zero]; rfl) (by kernel_rfl) (by kernel_rfl) (by kernel_rfl) (by exact fun _ _ _ h => h) (by kernel_rfl) (Or.inl ⟨by rfl, ?yp7⟩) hH ?rp7
    case yp7 => (intro w' hSw; (try dsimp only at hSw); go_simp; try with_reducible rfl)
    try simp only [Act.put, List.setIfInBounds_toArray, List.set_cons_zero, List.set_cons_succ]
    refine wpAnyE_take (i := 7) (v := .agg #[.int .i64 r.t, .int .i64 r.q, .int .i64 r.v, .slice P p pc, .slice Q q qc]) (by simp only [List.getElem?_toArray, List.getElem?_cons_succ, List.getElem?_cons_zero]; rfl) (by kernel_rfl) (by kernel_rfl) (by kernel_rfl) (by exact fun _ _ _ h => h) (by kernel_rfl) (Or.inl ⟨by rfl, ?y8⟩) hH ?r8
    case y8 => (intro w' hSw; have hr0 : w'.cell? ⟨G, i * 5, none⟩ = some (.int .i64 r.t) := hSw.2.2.1; have hr1 : w'.cell? ⟨G, i * 5 + 1, none⟩ = some (.int .i64 r.q) := hSw.2.2.2.1; have hr2 : w'.cell? ⟨G, i * 5 + 2, none⟩ = some (.int .i64 r.v) := hSw.2.2.2.2.1; have hr3 : w'.cell? ⟨G, i * 5 + 3, none⟩ = some (.slice P p pc) := hSw.2.2.2.2.2.1; have hr4 : w'.cell? ⟨G, i * 5 + 4, none⟩ = some (.slice Q q qc) := hSw.2.2.2.2.2.2; clear hSw; go_simp; try with_reducible rfl)
    try simp only [Act.put, List.setIfInBounds_toArray, List.set_cons_zero, List.set_cons_succ]
    refine wpAnyE_pure (i := 8) (v := ?vp9) (by simp only [List.getElem?_toArray, List.getElem?_cons_succ, List.getElem?_cons_zero]; rfl) (by kernel_rfl) (by kernel_rfl) (by kernel_rfl) (by exact fun _ _ _ h => h) (by kernel_rfl) (Or.inl ⟨by rfl, ?yp9⟩) hH ?rp9
    case yp9 => (intro w' hSw; (try dsimp only at hSw); go_simp; try with_reducible rfl)
    try simp only [Act.put, List.setIfInBounds_toArray, List.set_cons_zero, List.set_cons_succ]
    refine wpAnyE_take (i := 9) (v := .int .i64 d.r4) (by simp only [List.getElem?_toArray, List.getElem?_cons_succ, List.getElem?_cons_zero]; rfl) (by kernel_rfl) (by kernel_rfl) (by kernel_rfl) (by exact fun _ _ _ h => h) (by kernel_rfl) (Or.inl ⟨by rfl, ?y10⟩) hH ?r10
    case y10 => (intro w' hSw; have hc3 : w'.cell? ⟨w.heap.size + 1, 3, none⟩ = some (.int .i64 d.r4) := hSw.2.1.cell 3; clear hSw; go_simp; try with_reducible rfl)
    try simp only [Act.put, List.setIfInBounds_toArray, List.set_cons_zero, List.set_cons_succ]
    refine wpAnyE_pure (i := 10) (v := ?vp11) (by simp only [List.getElem?_toArray, List.getElem?_cons_succ, List.getElem?_cons_zero]; rfl) (by kernel_rfl) (by kernel_rfl) (by kernel_rfl) (by exact fun _ _ _ h => h) (by kernel_rfl) (Or.inl ⟨by rfl, ?yp11⟩) hH ?rp11
    case yp11 => (intro w' hSw; (try dsimp only at hSw); go_simp; try with_reducible rfl)
    try simp only [Act.put, List.setIfInBounds_toArray, List.set_cons_zero, List.set_cons_succ]
    refine wpAnyE_take (i := 11) (v := .agg #[.int .i64 d.r5, .int .i64 d.r6]) (by simp only [List.getElem?_toArray, List.getElem?_cons_succ, List.getElem?_cons_zero]; rfl) (by kernel_rfl) (by kernel_rfl) (by kernel_rfl) (by exact fun _ _ _ h => h) (by kernel_rfl) (Or.inl ⟨by rfl, ?y12⟩) hH ?r12
    case y12 => (intro w' hSw; have hc4 : w'.cell? ⟨w.heap.size + 1, 4, none⟩ = some (.int .i64 d.r5) := hSw.2.1.cell 4; have hc5 : w'.cell? ⟨w.heap.size + 1, 5, none⟩ = some (.int .i64 d.r6) := hSw.2.1.cell 5; clear hSw; go_simp; try with_reducible rfl)
    try simp only [Act.put, List.setIfInBounds_toArray, List.set_cons_zero, List.set_cons_succ]
    refine wpAnyE_pure (i := 12) (v := ?vp13) (by simp only [List.getElem?_toArray, List.getElem?_cons_succ, List.getElem?_cons_zero]; rfl) (by kernel_rfl) (by kernel_rfl) (by kernel_rfl) (by exact fun _ _ _ h => h) (by kernel_rfl) (Or.inl ⟨by rfl, ?yp13⟩) hH ?rp13
    case yp13 => (intro w' hSw; (try dsimp only at hSw); go_simp; try with_reducible rfl)
    try simp only [Act.put, List.setIfInBounds_toArray, List.set_cons_zero, List.set_cons_succ]
    refine wpAnyE_take (i := 13) (v := .int .i64 d.r7) (by simp only [List.getElem?_toArray, List.getElem?_cons_succ, List.getElem?_cons_zero]; rfl) (by kernel_rfl) (by kernel_rfl) (by kernel_rfl) (by exact fun _ _ _ h => h) (by kernel_rfl) (Or.inl ⟨by rfl, ?y14⟩) hH ?r14
    case y14 => (intro w' hSw; have hc6 : w'.cell? ⟨w.heap.size + 1, 6, none⟩ = some (.int .i64 d.r7) := hSw.2.1.cell 6; clear hSw; go_simp; try with_reducible rfl)
    try simp only [Act.put, List.setIfInBounds_toArray, List.set_cons_zero, List.set_cons_succ]
    refine wpAnyE_pure (i := 14) (v := ?vp15) (by simp only [List.getElem?_toArray, List.getElem?_cons_succ, List.getElem?_cons_zero]; rfl) (by kernel_rfl) (by kernel_rfl) (by kernel_rfl) (by exact fun _ _ _ h => h) (by kernel_rfl) (Or.inl ⟨by rfl, ?yp15⟩) hH ?rp15
    case yp15 => (intro w' hSw; (try dsimp only at hSw); go_simp; try with_reducible rfl)
    try simp only [Act.put, List.setIfInBounds_toArray, List.set_cons_zero, List.set_cons_succ]
    refine wpAnyE_one (i := 15) (by kernel_rfl) (by simp only [List.getElem?_toArray, List.getElem?_cons_succ, List.getElem?_cons_zero]; rfl) (fun K' hK => ?_)
    go_simp
    refine (specWith_is r.t r.q r.v P p pc Q q qc d.r4 d.r5 d.r6 d.r7 r.ps r.os w1 hs1 hs2 hS1 hS2).mono ?_
    rintro e w2 hE
    obtain ⟨u, v, rfl, hL, hb⟩ := regR_at hE
    have hon : ontoD g d r = ⟨r.t, r.q, r.v, r.ps, withO r.os (d.r4, d.r5, d.r6, d.r7)⟩ := by unfold ontoD; rw [if_pos h2]
    replace hL := hL.atW
    obtain ⟨A1, n1, c1', A2, n2', c2', rfl, rfl, -, -, -, -⟩ := hL.slc
    have hcG : ∀ o x, w1.cell? ⟨G, o, none⟩ = some x → w2.cell? ⟨G, o, none⟩ = some x := fun o x h => (hb.cell (p := ⟨G, o, none⟩) (Nat.lt_of_lt_of_le hGl E.size)).trans h
    obtain ⟨D1, R1, q0, q1, q2, q3, q4⟩ := hH
    have n0 := hcG _ _ q0
    have n1 := hcG _ _ q1
    have n2 := hcG _ _ q2
    have n3 := hcG _ _ q3
    have n4 := hcG _ _ q4
    have D2 := D.later hb D.lt
    have R2 := R.later hb R.lt
    have Kf := Lib.hid (RegsOwn.put keepsW K hb hil hL)
    have E2 := Lib.hid (bel_trans E hb)
    have fG : ∀ o, w2.frozen? ⟨G, o, none⟩ = false := by
      obtain ⟨_, Fs, h, _⟩ := RegsOwn.later keepsW K hb
      exact h.frozen
    refine hK.out _ _ ⟨D2, R2, n0, n1, n2, n3, n4⟩ (fun hH => ?_)
    clear hK K' K hb hE hcG q0 q1 q2 q3 q4 D1 R1 hL
    try simp only [Act.put, List.setIfInBounds_toArray, List.set_cons_zero, List.set_cons_succ]
    refine wpAnyE_pure (i := 16) (v := ?vp16) (by simp only [List.getElem?_toArray, List.getElem?_cons_succ, List.getElem?_cons_zero]; rfl) (by kernel_rfl) (by kernel_rfl) (by kernel_rfl) (by exact fun _ _ _ h => h) (by kernel_rfl) (Or.inl ⟨by rfl, ?yp16⟩) hH ?rp16
    case yp16 => (intro w' hSw; (try dsimp only at hSw); go_simp; try with_reducible rfl)
    try simp only [Act.put, List.setIfInBounds_toArray, List.set_cons_zero, List.set_cons_succ]
    refine wpAnyE_last (by kernel_rfl) (by simp only [List.getElem?_toArray, List.getElem?_cons_succ, List.getElem?_cons_zero]; rfl) (by kernel_rfl) (fun K' hK => ?_)
    go_simp
    refine hK.out _ _ ?_
    clear hK K' hH
    try simp only [Act.put, List.setIfInBounds_toArray, List.set_cons_zero, List.set_cons_succ]
    clear n0 n1 n2 n3 n4 fG D2 R2
    go_wp2
    refine bodyPost_ret (results_none rfl _ _ _) rfl ?_
    refine ⟨⟨_, rfl⟩, hon ▸ Kf.out, grownG5 E2.out G _ _ _ _ _⟩
  · skip
    have h2b : (d.r2 == 1) = false := by simpa using h2
    go_upto_region 3 with fail
    clear d1
    obtain ⟨u0, v0, c0, c1, c2, c3, c4, hA⟩ := hreg keepsW K hil
    rw [hr] at c0 c1 c2 hA
    obtain ⟨P, p, pc, Q, q, qc, rfl, rfl, hS1, hS2, hl1, hl2⟩ := hA.slc
    refine wp_region_sink 22 (fun w' => Box w' w.heap.size 26 #[.int .i64 g.s, .int .i64 g.l, .int .i64 g.c, .int .i64 g.sh, .slice A n cap] ∧ Box w' (w.heap.size + 1) 42 #[.int .i64 d.r1, .int .i64 d.r2, .int .i64 (i : Int), .int .i64 d.r4, .int .i64 d.r5, .int .i64 d.r6, .int .i64 d.r7, .slice L m mc, .int .i64 d.r8] ∧ w'.cell? ⟨G, i * 5, none⟩ = some (.int .i64 r.t) ∧ w'.cell? ⟨G, i * 5 + 1, none⟩ = some (.int .i64 r.q) ∧ w'.cell? ⟨G, i * 5 + 2, none⟩ = some (.int .i64 r.v) ∧ w'.cell? ⟨G, i * 5 + 3, none⟩ = some (.slice P p pc) ∧ w'.cell? ⟨G, i * 5 + 4, none⟩ = some (.slice Q q qc)) (by kernel_rfl) ⟨D, R, c0, c1, c2, c3, c4⟩ (fun hH => ?_)
    have hb := (Below.refl w0.heap.size w0).drew
    replace E := bel_trans E hb
    replace D := D.later hb D.lt
    replace R := R.later hb R.lt
    have K1 := RegsOwn.later keepsW K hb
    replace HR := Lib.hid ((HR.out.below hb (Nat.le_refl _)).more hb.size)
    replace HP := Lib.hid (HP.out.later hb)
    replace hS1 := hS1.later hb
    replace hS2 := hS2.later hb
    clear hb hA K
    have K := K1
    clear K1
    generalize w0.drew = w1 at E D R HR HP K hS1 hS2 hH ⊢
    refine wpAnyE_pure (i := 0) (v := ?vp17) (by simp only [List.getElem?_toArray, List.getElem?_cons_zero]; rfl) (by kernel_rfl) (by kernel_rfl) (by kernel_rfl) (by exact fun _ _ _ h => h) (by kernel_rfl) (Or.inl ⟨by rfl, ?yp17⟩) hH ?rp17
    case yp17 => (intro w' hSw; (try dsimp only at hSw); go_simp; try with_reducible rfl)
    try simp only [Act.put, List.setIfInBounds_toArray, List.set_cons_zero, List.set_cons_succ]
    refine wpAnyE_pure (i := 1) (v := ?vp18) (by simp only [List.getElem?_toArray, List.getElem?_cons_succ, List.getElem?_cons_zero]; rfl) (by kernel_rfl) (by kernel_rfl) (by kernel_rfl) (by exact fun _ _ _ h => h) (by kernel_rfl) (Or.inl ⟨by rfl, ?yp18⟩) hH ?rp18
    case yp18 => (intro w' hSw; (try dsimp only at hSw); go_simp; try with_reducible rfl)
    try simp only [Act.put, List.setIfInBounds_toArray, List.set_cons_zero, List.set_cons_succ]
    refine wpAnyE_take (i := 2) (v := .int .i64 (i : Int)) (by simp only [List.getElem?_toArray, List.getElem?_cons_succ, List.getElem?_cons_zero]; rfl) (by kernel_rfl) (by kernel_rfl) (by kernel_rfl) (by exact fun _ _ _ h => h) (by kernel_rfl) (Or.inl ⟨by rfl, ?y19⟩) hH ?r19
    case y19 => (intro w' hSw; have hc2 : w'.cell? ⟨w.heap.size + 1, 2, none⟩ = some (.int .i64 (i : Int)) := hSw.2.1.cell 2; clear hSw; go_simp; try with_reducible rfl)
    try simp only [Act.put, List.setIfInBounds_toArray, List.set_cons_zero, List.set_cons_succ]
    refine wpAnyE_take (i := 3) (v := .agg #[.int .i64 g.s, .int .i64 g.l, .int .i64 g.c, .int .i64 g.sh, .slice A n cap]) (by simp only [List.getElem?_toArray, List.getElem?_cons_succ, List.getElem?_cons_zero]; rfl) (by kernel_rfl) (by kernel_rfl) (by kernel_rfl) (by exact fun _ _ _ h => h) (by kernel_rfl) (Or.inl ⟨by rfl, ?y20⟩) hH ?r20
    case y20 => (intro w' hSw; have hg0 : w'.cell? ⟨w.heap.size, 0, none⟩ = some (.int .i64 g.s) := hSw.1.cell 0; have hg1 : w'.cell? ⟨w.heap.size, 1, none⟩ = some (.int .i64 g.l) := hSw.1.cell 1; have hg2 : w'.cell? ⟨w.heap.size, 2, none⟩ = some (.int .i64 g.c) := hSw.1.cell 2; have hg3 : w'.cell? ⟨w.heap.size, 3, none⟩ = some (.int .i64 g.sh) := hSw.1.cell 3; have hg4 : w'.cell? ⟨w.heap.size, 4, none⟩ = some (.slice A n cap) := hSw.1.cell 4; clear hSw; go_simp; try with_reducible rfl)
    try simp only [Act.put, List.setIfInBounds_toArray, List.set_cons_zero, List.set_cons_succ]
    refine wpAnyE_pure (i := 4) (v := ?vp21) (by simp only [List.getElem?_toArray, List.getElem?_cons_succ, List.getElem?_cons_zero]; rfl) (by kernel_rfl) (by kernel_rfl) (by kernel_rfl) (by exact fun _ _ _ h => h) (by kernel_rfl) (Or.inl ⟨by rfl, ?yp21⟩) hH ?rp21
    case yp21 => (intro w' hSw; (try dsimp only at hSw); go_simp; try with_reducible rfl)
    try simp only [Act.put, List.setIfInBounds_toArray, List.set_cons_zero, List.set_cons_succ]
    refine wpAnyE_take (i := 5) (v := .int .i64 (i : Int)) (by simp only [List.getElem?_toArray, List.getElem?_cons_succ, List.getElem?_cons_zero]; rfl) (by kernel_rfl) (by kernel_rfl) (by kernel_rfl) (by exact fun _ _ _ h => h) (by kernel_rfl) (Or.inl ⟨by rfl, ?y22⟩) hH ?r22
    case y22 => (intro w' hSw; have hc2 : w'.cell? ⟨w.heap.size + 1, 2, none⟩ = some (.int .i64 (i : Int)) := hSw.2.1.cell 2; clear hSw; go_simp; try with_reducible rfl)
    try simp only [Act.put, List.setIfInBounds_toArray, List.set_cons_zero, List.set_cons_succ]
    refine wpAnyE_pure (i := 6) (v := ?vp23) (by simp only [List.getElem?_toArray, List.getElem?_cons_succ, List.getElem?_cons_zero]; rfl) (by kernel_rfl) (by kernel_rfl) (by kernel_rfl) (by exact fun _ _ _ h => h) (by kernel_rfl) (Or.inl ⟨by rfl, ?yp23⟩) hH ?rp23
    case yp23 => (intro w' hSw; (try dsimp only at hSw); go_simp; try with_reducible rfl)
    try simp only [Act.put, List.setIfInBounds_toArray, List.set_cons_zero, List.set_cons_succ]
    refine wpAnyE_pure (i := 7) (v := ?vp24) (by simp only [List.getElem?_toArray, List.getElem?_cons_succ, List.getElem?_cons_zero]; rfl) (by kernel_rfl) (by kernel_rfl) (by kernel_rfl) (by exact fun _ _ _ h => h) (by kernel_rfl) (Or.inl ⟨by rfl, ?yp24⟩) hH ?rp24
    case yp24 => (intro w' hSw; (try dsimp only at hSw); go_simp; try with_reducible rfl)
    try simp only [Act.put, List.setIfInBounds_toArray, List.set_cons_zero, List.set_cons_succ]
    refine wpAnyE_take (i := 8) (v := .int .i64 (i : Int)) (by simp only [List.getElem?_toArray, List.getElem?_cons_succ, List.getElem?_cons_zero]; rfl) (by kernel_rfl) (by kernel_rfl) (by kernel_rfl) (by exact fun _ _ _ h => h) (by kernel_rfl) (Or.inl ⟨by rfl, ?y25⟩) hH ?r25
    case y25 => (intro w' hSw; have hc2 : w'.cell? ⟨w.heap.size + 1, 2, none⟩ = some (.int .i64 (i : Int)) := hSw.2.1.cell 2; clear hSw; go_simp; try with_reducible rfl)
    try simp only [Act.put, List.setIfInBounds_toArray, List.set_cons_zero, List.set_cons_succ]
    refine wpAnyE_pure (i := 9) (v := ?vp26) (by simp only [List.getElem?_toArray, List.getElem?_cons_succ, List.getElem?_cons_zero]; rfl) (by kernel_rfl) (by kernel_rfl) (by kernel_rfl) (by exact fun _ _ _ h => h) (by kernel_rfl) (Or.inl ⟨by rfl, ?yp26⟩) hH ?rp26
    case yp26 => (intro w' hSw; (try dsimp only at hSw); go_simp; try with_reducible rfl)
    try simp only [Act.put, List.setIfInBounds_toArray, List.set_cons_zero, List.set_cons_succ]
    refine wpAnyE_take (i := 10) (v := .agg #[.int .i64 r.t, .int .i64 r.q, .int .i64 r.v, .slice P p pc, .slice Q q qc]) (by simp only [List.getElem?_toArray, List.getElem?_cons_succ, List.getElem?_cons_zero]; rfl) (by kernel_rfl) (by kernel_rfl) (by kernel_rfl) (by exact fun _ _ _ h => h) (by kernel_rfl) (Or.inl ⟨by rfl, ?y27⟩) hH ?r27
    case y27 => (intro w' hSw; have hr0 : w'.cell? ⟨G, i * 5, none⟩ = some (.int .i64 r.t) := hSw.2.2.1; have hr1 : w'.cell? ⟨G, i * 5 + 1, none⟩ = some (.int .i64 r.q) := hSw.2.2.2.1; have hr2 : w'.cell? ⟨G, i * 5 + 2, none⟩ = some (.int .i64 r.v) := hSw.2.2.2.2.1; have hr3 : w'.cell? ⟨G, i * 5 + 3, none⟩ = some (.slice P p pc) := hSw.2.2.2.2.2.1; have hr4 : w'.cell? ⟨G, i * 5 + 4, none⟩ = some (.slice Q q qc) := hSw.2.2.2.2.2.2; clear hSw; go_simp; try with_reducible rfl)
    try simp only [Act.put, List.setIfInBounds_toArray, List.set_cons_zero, List.set_cons_succ]
    refine wpAnyE_pure (i := 11) (v := ?vp28) (by simp only [List.getElem?_toArray, List.getElem?_cons_succ, List.getElem?_cons_zero]; rfl) (by kernel_rfl) (by kernel_rfl) (by kernel_rfl) (by exact fun _ _ _ h => h) (by kernel_rfl) (Or.inl ⟨by rfl, ?yp28⟩) hH ?rp28
    case yp28 => (intro w' hSw; (try dsimp only at hSw); go_simp; try with_reducible rfl)
    try simp only [Act.put, List.setIfInBounds_toArray, List.set_cons_zero, List.set_cons_succ]
    refine wpAnyE_take (i := 12) (v := .agg #[.int .i64 d.r5, .int .i64 d.r6]) (by simp only [List.getElem?_toArray, List.getElem?_cons_succ, List.getElem?_cons_zero]; rfl) (by kernel_rfl) (by kernel_rfl) (by kernel_rfl) (by exact fun _ _ _ h => h) (by kernel_rfl) (Or.inl ⟨by rfl, ?y29⟩) hH ?r29
    case y29 => (intro w' hSw; have hc4 : w'.cell? ⟨w.heap.size + 1, 4, none⟩ = some (.int .i64 d.r5) := hSw.2.1.cell 4; have hc5 : w'.cell? ⟨w.heap.size + 1, 5, none⟩ = some (.int .i64 d.r6) := hSw.2.1.cell 5; clear hSw; go_simp; try with_reducible rfl)
    try simp only [Act.put, List.setIfInBounds_toArray, List.set_cons_zero, List.set_cons_succ]
    refine wpAnyE_pure (i := 13) (v := ?vp30) (by simp only [List.getElem?_toArray, List.getElem?_cons_succ, List.getElem?_cons_zero]; rfl) (by kernel_rfl) (by kernel_rfl) (by kernel_rfl) (by exact fun _ _ _ h => h) (by kernel_rfl) (Or.inl ⟨by rfl, ?yp30⟩) hH ?rp30
    case yp30 => (intro w' hSw; (try dsimp only at hSw); go_simp; try with_reducible rfl)
    try simp only [Act.put, List.setIfInBounds_toArray, List.set_cons_zero, List.set_cons_succ]
    refine wpAnyE_take (i := 14) (v := .int .i64 d.r7) (by simp only [List.getElem?_toArray, List.getElem?_cons_succ, List.getElem?_cons_zero]; rfl) (by kernel_rfl) (by kernel_rfl) (by kernel_rfl) (by exact fun _ _ _ h => h) (by kernel_rfl) (Or.inl ⟨by rfl, ?y31⟩) hH ?r31
    case y31 => (intro w' hSw; have hc6 : w'.cell? ⟨w.heap.size + 1, 6, none⟩ = some (.int .i64 d.r7) := hSw.2.1.cell 6; clear hSw; go_simp; try with_reducible rfl)
    try simp only [Act.put, List.setIfInBounds_toArray, List.set_cons_zero, List.set_cons_succ]
    refine wpAnyE_pure (i := 15) (v := ?vp32) (by simp only [List.getElem?_toArray, List.getElem?_cons_succ, List.getElem?_cons_zero]; rfl) (by kernel_rfl) (by kernel_rfl) (by kernel_rfl) (by exact fun _ _ _ h => h) (by kernel_rfl) (Or.inl ⟨by rfl, ?yp32⟩) hH ?rp32
    case yp32 => (intro w' hSw; (try dsimp only at hSw); go_simp; try with_reducible rfl)
    try simp only [Act.put, List.setIfInBounds_toArray, List.set_cons_zero, List.set_cons_succ]
    refine wpAnyE_take (i := 16) (v := .slice L m mc) (by simp only [List.getElem?_toArray, List.getElem?_cons_succ, List.getElem?_cons_zero]; rfl) (by kernel_rfl) (by kernel_rfl) (by kernel_rfl) (by exact fun _ _ _ h => h) (by kernel_rfl) (Or.inl ⟨by rfl, ?y33⟩) hH ?r33
    case y33 => (intro w' hSw; have hc7 : w'.cell? ⟨w.heap.size + 1, 7, none⟩ = some (.slice L m mc) := hSw.2.1.cell 7; clear hSw; go_simp; try with_reducible rfl)
    try simp only [Act.put, List.setIfInBounds_toArray, List.set_cons_zero, List.set_cons_succ]
    refine wpAnyE_one (i := 17) (by kernel_rfl) (by simp only [List.getElem?_toArray, List.getElem?_cons_succ, List.getElem?_cons_zero]; rfl) (fun K' hK => ?_)
    go_simp
    have hw : wrtB g.s g.l g.c g.sh g.zs (i : Int) d.r5 d.r6 d.r7 d.ps = true := by
      rcases knd_parts HK.out with ⟨h, -⟩ | ⟨-, -, hz, hl⟩
      · exact absurd h h2
      · rw [← HI.out]; exact lef_wrt hl hz
    refine (l7WriteV_yes g.s g.l g.c g.sh A n cap g.zs (i : Int) r.t r.q r.v P p pc Q q qc d.r5 d.r6 d.r7 L m mc r.ps r.os d.ps w1 HM.out HR.out hs1 hs2 hS1 hS2 hmc HP.out hw).mono ?_
    rintro e w2 hE
    rw [← HI.out] at hE
    obtain ⟨u, v, rfl, hL, hb⟩ := wroteV_at HG.out HK.out h2 hE
    obtain ⟨o, ho⟩ : ∃ o : RegD, ontoD g d r = o := ⟨_, rfl⟩
    rw [ho] at hL ⊢
    obtain ⟨A1, n1, c1', A2, n2', c2', rfl, rfl, -, -, -, -⟩ := hL.slc
    have hcG : ∀ o x, w1.cell? ⟨G, o, none⟩ = some x → w2.cell? ⟨G, o, none⟩ = some x := fun o x h => (hb.cell (p := ⟨G, o, none⟩) (Nat.lt_of_lt_of_le hGl E.size)).trans h
    obtain ⟨D1, R1, q0, q1, q2, q3, q4⟩ := hH
    have n0 := hcG _ _ q0
    have n1 := hcG _ _ q1
    have n2 := hcG _ _ q2
    have n3 := hcG _ _ q3
    have n4 := hcG _ _ q4
    have D2 := D.later hb D.lt
    have R2 := R.later hb R.lt
    have Kf := Lib.hid (RegsOwn.put keepsW K hb hil hL)
    have E2 := Lib.hid (bel_trans E hb)
    have fG : ∀ o, w2.frozen? ⟨G, o, none⟩ = false := by
      obtain ⟨_, Fs, h, _⟩ := RegsOwn.later keepsW K hb
      exact h.frozen
    refine hK.out _ _ ⟨D2, R2, n0, n1, n2, n3, n4⟩ (fun hH => ?_)
    clear hK K' K hb hE hcG q0 q1 q2 q3 q4 D1 R1 hL hw
    try simp only [Act.put, List.setIfInBounds_toArray, List.set_cons_zero, List.set_cons_succ]
    refine wpAnyE_pure (i := 18) (v := ?vp34) (by simp only [List.getElem?_toArray, List.getElem?_cons_succ, List.getElem?_cons_zero]; rfl) (by kernel_rfl) (by kernel_rfl) (by kernel_rfl) (by exact fun _ _ _ h => h) (by kernel_rfl) (Or.inl ⟨by rfl, ?yp34⟩) hH ?rp34
    case yp34 => (intro w' hSw; (try dsimp only at hSw); go_simp; try with_reducible rfl)
    try simp only [Act.put, List.setIfInBounds_toArray, List.set_cons_zero, List.set_cons_succ]
    refine wpAnyE_pure (i := 19) (v := ?vp35) (by simp only [List.getElem?_toArray, List.getElem?_cons_succ, List.getElem?_cons_zero]; rfl) (by kernel_rfl) (by kernel_rfl) (by kernel_rfl) (by exact fun _ _ _ h => h) (by kernel_rfl) (Or.inl ⟨by rfl, ?yp35⟩) hH ?rp35
    case yp35 => (intro w' hSw; (try dsimp only at hSw); go_simp; try with_reducible rfl)
    try simp only [Act.put, List.setIfInBounds_toArray, List.set_cons_zero, List.set_cons_succ]
    refine wpAnyE_pure (i := 20) (v := ?vp36) (by simp only [List.getElem?_toArray, List.getElem?_cons_succ, List.getElem?_cons_zero]; rfl) (by kernel_rfl) (by kernel_rfl) (by kernel_rfl) (by exact fun _ _ _ h => h) (by kernel_rfl) (Or.inl ⟨by rfl, ?yp36⟩) hH ?rp36
    case yp36 => (intro w' hSw; (try dsimp only at hSw); go_simp; try with_reducible rfl)
    try simp only [Act.put, List.setIfInBounds_toArray, List.set_cons_zero, List.set_cons_succ]
    refine wpAnyE_pure (i := 21) (v := ?vp37) (by simp only [List.getElem?_toArray, List.getElem?_cons_succ, List.getElem?_cons_zero]; rfl) (by kernel_rfl) (by kernel_rfl) (by kernel_rfl) (by exact fun _ _ _ h => h) (by kernel_rfl) (Or.inl ⟨by rfl, ?yp37⟩) hH ?rp37
    case yp37 => (intro w' hSw; (try dsimp only at hSw); go_simp; try with_reducible rfl)
    try simp only [Act.put, List.setIfInBounds_toArray, List.set_cons_zero, List.set_cons_succ]
    refine wpAnyE_last (by kernel_rfl) (by simp only [List.getElem?_toArray, List.getElem?_cons_succ, List.getElem?_cons_zero]; rfl) (by kernel_rfl) (fun K' hK => ?_)
    go_simp
    refine hK.out _ _ ?_
    clear hK K' hH
    try simp only [Act.put, List.setIfInBounds_toArray, List.set_cons_zero, List.set_cons_succ]
    clear n0 n1 n2 n3 n4 fG D2 R2
    go_wp2
    go_end0
    refine ⟨⟨_, rfl⟩, (by rw [ho]; exact Kf.out), grownG5 E2.out G _ _ _ _ _⟩

end Go.Proofs.YtmooajppfjglaaaGreat
