/- What the model's DrawRecOk leaves: a group that can be read and a record of one's own (written by drawrec9.py); conditions: the bytes can be read. -/
import Derived.Test.YthpccmckjmmicaaBend9

namespace Go.Proofs.Ythpccmckjmmicaa
open Go Go.RowKit

/-- The state of DrawRecOk: the cursor, the variables of the answers, the group and its variable; then the record and its. -/
structure DO (w wr : World) (g : Nat) (A : Option Addr) (n cap : Nat) (VG : Nat) (gd : GrpD) (G : Array Value) (q : Nat) : Prop where
  bel : Below w.heap.size w wr
  cur : Cur wr 86 .i64 g A n cap
  r2 : Box wr w.heap.size 26 #[.int .i64 0, .int .i64 0, .int .i64 0, .int .i64 0, .slice none 0 0]
  r3 : Box wr (w.heap.size + 1) 31 #[.int .i64 0, .int .i64 0, .int .i64 0, .int .i64 0, .int .i64 0, .int .i64 0, .int .i64 0, .slice none 0 0, .int .i64 0]
  vg : Box wr VG 26 G
  grp : AtG gd wr (· = q) (.agg G)
  gl : w.heap.size + 1 < g
  gV : g < VG
  gq : g < q
  qV : q ≠ VG
  glen : gd.zs.length ≤ 100
theorem DO.turn {w wr w' : World} {g : Nat} {A : Option Addr} {n cap VG : Nat} {gd : GrpD} {G : Array Value} {q : Nat} {T : Nat → Prop} (h : DO w wr g A n cap VG gd G q) (ht : Turns T wr w') (hc : Cur w' 86 .i64 g A n cap) (hT : ∀ b, T b → g ≤ b ∧ b ≠ VG ∧ b ≠ q) : DO w w' g A n cap VG gd G q := by
  have h1 := h.gl
  have h2 := h.gV
  have h3 := h.gq
  exact ⟨ht.below h.bel (fun i hi => by have := hT i hi; omega), hc, h.r2.turn ht (fun hi => by have := hT _ hi; omega), h.r3.turn ht (fun hi => by have := hT _ hi; omega), h.vg.turn ht (fun hi => (hT _ hi).2.1 rfl), (keepsG gd).turn h.grp ht (fun b hb hi => (hT b hi).2.2 hb), h1, h2, h3, h.qV, h.glen⟩
theorem DO.draw {w wr w' : World} {g : Nat} {A : Option Addr} {n cap VG : Nat} {gd : GrpD} {G : Array Value} {q : Nat} (h : DO w wr g A n cap VG gd G q) (hg : wr.grownBy w' (some g)) (hc : Cur w' 86 .i64 g A n cap) : DO w w' g A n cap VG gd G q :=
  h.turn (Turns.of_grown hg) hc (fun b hb => by have := h.gV; have := h.gq; omega)
theorem DO.later {w wr w' : World} {g : Nat} {A : Option Addr} {n cap VG : Nat} {gd : GrpD} {G : Array Value} {q : Nat} (h : DO w wr g A n cap VG gd G q) (hb : Below wr.heap.size wr w') : DO w w' g A n cap VG gd G q :=
  h.draw (grown_bel hb (some g)) (h.cur.kept (grown_bel hb none) (fun q hq => by cases hq))
theorem DO.lt {w wr : World} {g : Nat} {A : Option Addr} {n cap VG : Nat} {gd : GrpD} {G : Array Value} {q : Nat} (h : DO w wr g A n cap VG gd G q) : VG < wr.heap.size := h.vg.lt
/-- And the record. -/
structure DQ (w wr : World) (g : Nat) (A : Option Addr) (n cap : Nat) (VG : Nat) (gd : GrpD) (G : Array Value) (q VR : Nat) (d : RecD) (C : Array Value) (F : Nat → Prop) : Prop where
  o : DO w wr g A n cap VG gd G q
  vr : Box wr VR 31 C
  rc : LieCR d wr F (.agg C)
  len : d.ps.length ≤ 21
  gR : g < VR
  VV : VR ≠ VG
  Vq : VR ≠ q
  hF : ∀ b, F b → g < b ∧ b ≠ VG ∧ b ≠ q ∧ b ≠ VR
  ql : q < wr.heap.size
theorem DQ.draw {w wr w' : World} {g : Nat} {A : Option Addr} {n cap VG : Nat} {gd : GrpD} {G : Array Value} {q VR : Nat} {d : RecD} {C : Array Value} {F : Nat → Prop} (h : DQ w wr g A n cap VG gd G q VR d C F) (hg : wr.grownBy w' (some g)) (hc : Cur w' 86 .i64 g A n cap) : DQ w w' g A n cap VG gd G q VR d C F := by
  have ht := Turns.of_grown hg
  have h1 := h.gR
  exact ⟨h.o.draw hg hc, h.vr.turn ht (by omega), (keepsCR d).turn h.rc ht (fun b hb e => by have := (h.hF b hb).1; omega), h.len, h.gR, h.VV, h.Vq, h.hF, Nat.lt_of_lt_of_le h.ql hg.size⟩
/-- The record is drawn and laid into its variable. -/
theorem dq_new {w wr : World} {g : Nat} {A : Option Addr} {n cap VG : Nat} {gd : GrpD} {G : Array Value} {q VR : Nat} {d : RecD} {C : Array Value} {N N' : Nat} (h : DO w wr g A n cap VG gd G q) (hB : Box wr VR 31 #[.int .i64 0, .int .i64 0, .int .i64 0, .int .i64 0, .int .i64 0, .int .i64 0, .int .i64 0, .slice none 0 0, .int .i64 0]) (hL : LieCR d wr (Iv N N') (.agg C)) (hl : d.ps.length ≤ 21) (hgR : g < VR) (hVV : VR ≠ VG) (hVq : VR ≠ q) (hN : g < N ∧ VG < N ∧ q < N) (hR : VR < N ∨ N' ≤ VR) (hql : q < wr.heap.size) :
    DQ w (wr.setRow VR C) g A n cap VG gd G q VR d C (Iv N N') := by
  have ht := turns_setRow wr VR C
  have hg : wr.grownBy (wr.setRow VR C) (some VR) := ⟨ht.os, ht.tape, ht.output, ht.size, fun i hi hne => ht.block i hi (fun e => hne (by rw [e]))⟩
  exact ⟨h.turn ht (h.cur.kept hg (fun q hq => by injection hq with hq; omega)) (fun b hb => by omega), hB.setRow C, (keepsCR d).turn hL ht (iv_one (by omega)), hl, hgR, hVV, hVq, fun b hb => by have h1 := hb.1; have h2 := hb.2; omega, by rw [size_setRow]; exact hql⟩
/-- The record is bent. -/
theorem dq_bent {w wr w' : World} {g : Nat} {A : Option Addr} {n cap VG : Nat} {gd : GrpD} {G : Array Value} {q VR : Nat} {d d' : RecD} {C C' : Array Value} {F : Nat → Prop} (h : DQ w wr g A n cap VG gd G q VR d C F) (hq : q < wr.heap.size) (ht : Turns (fun b => b = g ∨ F b) wr w') (hc : Cur w' 86 .i64 g A n cap) (hL : LieCR d' w' (fun b => F b ∨ wr.heap.size + 1 < b) (.agg C')) (hl : d'.ps.length ≤ 21) :
    DQ w (w'.setRow VR C') g A n cap VG gd G q VR d' C' (fun b => F b ∨ wr.heap.size + 1 < b) := by
  have t2 := turns_setRow w' VR C'
  have hg : w'.grownBy (w'.setRow VR C') (some VR) := ⟨t2.os, t2.tape, t2.output, t2.size, fun i hi hne => t2.block i hi (fun e => hne (by rw [e]))⟩
  have h1 := h.gR
  have h2 := h.o.gV
  have h3 := h.o.gq
  have h4 := h.vr.lt
  have h5 := h.o.vg.lt
  have hF' : ∀ b, (F b ∨ wr.heap.size + 1 < b) → g < b ∧ b ≠ VG ∧ b ≠ q ∧ b ≠ VR := fun b hb => by
    rcases hb with hb | hb
    · exact h.hF b hb
    · omega
  have hV := h.VV
  have hVq := h.Vq
  have O1 : DO w w' g A n cap VG gd G q := h.o.turn ht hc (fun b hb => by
    rcases hb with hb | hb
    · omega
    · have := h.hF b hb; omega)
  exact ⟨O1.turn t2 (hc.kept hg (fun q hq => by injection hq with hq; omega)) (fun b hb => by omega), (h.vr.turn ht (fun hb => by rcases hb with hb | hb; omega; exact (h.hF _ hb).2.2.2 rfl)).setRow C', (keepsCR d').turn hL t2 (fun b hb e => (hF' b hb).2.2.2 e), hl, h1, hV, hVq, hF', by rw [size_setRow]; exact Nat.lt_of_lt_of_le hq ht.size⟩
/-- Both are laid: what is answered. -/
structure DE (w wr : World) (VG VR : Nat) (gd : GrpD) (G : Array Value) (d : RecD) (C : Array Value) : Prop where
  bel : Below w.heap.size w wr
  r2 : Box wr w.heap.size 26 #[.int .i64 0, .int .i64 0, .int .i64 0, .int .i64 0, .slice none 0 0]
  r3 : Box wr (w.heap.size + 1) 31 #[.int .i64 0, .int .i64 0, .int .i64 0, .int .i64 0, .int .i64 0, .int .i64 0, .int .i64 0, .slice none 0 0, .int .i64 0]
  vg : Box wr VG 26 G
  vr : Box wr VR 31 C
  grp : AtG gd wr (fun b => w.heap.size + 1 < b) (.agg G)
  rc : LieCR d wr (fun b => w.heap.size + 1 < b) (.agg C)
  hG : w.heap.size + 1 < VG
  hR : w.heap.size + 1 < VR
  glen : gd.zs.length ≤ 100
  len : d.ps.length ≤ 21
theorem DE.of {w wr : World} {g : Nat} {A : Option Addr} {n cap VG : Nat} {gd : GrpD} {G : Array Value} {q VR : Nat} {d : RecD} {C : Array Value} {F : Nat → Prop} (h : DQ w wr g A n cap VG gd G q VR d C F) : DE w wr VG VR gd G d C := by
  have h1 := h.o.gl
  have h2 := h.o.gV
  have h3 := h.o.gq
  have h4 := h.gR
  exact ⟨h.o.bel, h.o.r2, h.o.r3, h.o.vg, h.vr, (keepsG gd).sub h.o.grp (fun b hb => by omega), (keepsCR d).sub h.rc (fun b hb => by have := (h.hF b hb).1; omega), by omega, by omega, h.o.glen, h.len⟩
/-- Another group is laid into its variable. -/
theorem DE.grp' {w wr : World} {VG VR : Nat} {gd gd' : GrpD} {G G' : Array Value} {d : RecD} {C : Array Value} {q' : Nat} {F : Nat → Prop} (h : DE w wr VG VR gd G d C) (hF : LieCR d wr F (.agg C)) (hFV : ∀ b, F b → w.heap.size + 1 < b ∧ b ≠ VG) (hVV : VR ≠ VG) (hG : AtG gd' wr (· = q') (.agg G')) (hq : w.heap.size + 1 < q') (hqV : q' ≠ VG) (hl : gd'.zs.length ≤ 100) : DE w (wr.setRow VG G') VG VR gd' G' d C := by
  have ht := turns_setRow wr VG G'
  have h1 := h.hG
  exact ⟨ht.below h.bel (fun i hi => by omega), h.r2.turn ht (by omega), h.r3.turn ht (by omega), h.vg.setRow G', h.vr.turn ht hVV, (keepsG gd').sub ((keepsG gd').turn hG ht (fun b hb e => hqV (hb ▸ e))) (fun b hb => by omega), (keepsCR d).sub ((keepsCR d).turn hF ht (fun b hb => (hFV b hb).2)) (fun b hb => (hFV b hb).1), h1, h.hR, hl, h.len⟩
theorem DE.drew {w wr : World} {VG VR : Nat} {gd : GrpD} {G : Array Value} {d : RecD} {C : Array Value} (h : DE w wr VG VR gd G d C) : DE w wr.drew VG VR gd G d C := by
  have hb := (Below.refl wr.heap.size wr).drew
  exact ⟨bel_trans h.bel hb, h.r2.later hb h.r2.lt, h.r3.later hb h.r3.lt, h.vg.later hb h.vg.lt, h.vr.later hb h.vr.lt, (keepsG gd).later h.grp hb, (keepsCR d).later h.rc hb, h.hG, h.hR, h.glen, h.len⟩
theorem cr_lt {d : RecD} {w : World} {F : Nat → Prop} {v : Value} (h : LieCR d w F v) : LieCR d w (fun b => F b ∧ b < w.heap.size) v := by
  obtain ⟨u, e, h⟩ := h
  exact ⟨u, e, rowC_lt h⟩
theorem dq_less {w wr : World} {g : Nat} {A : Option Addr} {n cap VG : Nat} {gd : GrpD} {G : Array Value} {q VR : Nat} {d : RecD} {C : Array Value} {F : Nat → Prop} (h : DQ w wr g A n cap VG gd G q VR d C F) : DQ w wr g A n cap VG gd G q VR d C (fun b => F b ∧ b < wr.heap.size) :=
  ⟨h.o, h.vr, cr_lt h.rc, h.len, h.gR, h.VV, h.Vq, fun b hb => h.hF b hb.1, h.ql⟩
/-- What DrawRecOk leaves. -/
def MadeRO (w : World) (e : Ending) (w' : World) : Prop := ∃ (G C : Array Value) (gd : GrpD) (d : RecD), e = .returned (.tuple #[.agg G, .agg C]) ∧ AtG gd w' (w.heap.size ≤ ·) (.agg G) ∧ LieCR d w' (w.heap.size ≤ ·) (.agg C) ∧ gd.zs.length ≤ 100 ∧ d.ps.length ≤ 21 ∧ Below w.heap.size w w'
theorem sizeGI {d : GrpD} {w : World} {F : Nat → Prop} {C : Array Value} (h : AtG d w F (.agg C)) : (Try.prog.info? 26).map (·.size) = some C.size := (sizeG h).2
theorem sizeCI {d : RecD} {w : World} {F : Nat → Prop} {C : Array Value} (h : AtC d w F (.agg C)) : (Try.prog.info? 31).map (·.size) = some C.size := (sizeC h).2
theorem results_two9 {P : Program} {fn : Func} {x y : Tmp} {ty ty' : TypeId} (h : fn.results = #[.cell x ty, .cell y ty']) (tmps : Array Value) (w : World) (g g' : Nat) (t t' : TypeId) (cs cs' : Array Value) (d d' : TypeDesc)
    (hx : tmps.getD x undef = .pointer (some ⟨g, 0, none⟩)) (hy : tmps.getD y undef = .pointer (some ⟨g', 0, none⟩)) (hg : Box w g t cs) (hg' : Box w g' t' cs')
    (hu : P.underlying ty = some d) (hd : (match d with | .struct _ | .array _ _ => true | _ => false) = true) (hi : (P.info? ty).map (·.size) = some cs.size)
    (hu' : P.underlying ty' = some d') (hd' : (match d' with | .struct _ | .array _ _ => true | _ => false) = true) (hi' : (P.info? ty').map (·.size) = some cs'.size) :
    (results fn tmps).run P w = .ok (.tuple #[.agg cs, .agg cs']) w := by
  have ex : tmps[x]?.getD undef = .pointer (some ⟨g, 0, none⟩) := by simpa using hx
  have ey : tmps[y]?.getD undef = .pointer (some ⟨g', 0, none⟩) := by simpa using hy
  simp [results, h, ex, ey, asAddr, run_loadVar_row w g t ty cs (0, 0) d hg hu hd hi, run_loadVar_row w g' t' ty' cs' (0, 0) d' hg' hu' hd' hi']
theorem okB_len9 {s l c sh : Int} {zs : List Int} (h : okB s l c sh zs = true) : (zs.length : Int) = s + c := by
  simp only [okB, Bool.and_eq_true, decide_eq_true_eq] at h
  exact h.1.2
theorem rowG_of {gd : GrpD} {w : World} {F : Nat → Prop} {a b c d : Int} {A : Option Addr} {n cap : Nat} (h : AtG gd w F (.agg #[.int .i64 a, .int .i64 b, .int .i64 c, .int .i64 d, .slice A n cap])) : Row w w.heap.size A n gd.zs := by
  obtain ⟨A', n', cap', e, -, hr⟩ := h
  injection e with e
  injection e with e
  simp only [List.cons.injEq, Value.slice.injEq, and_true] at e
  obtain ⟨-, -, -, -, rfl, rfl, rfl⟩ := e
  exact hr.1
set_option maxRecDepth 100000 in
/-- The answers are laid, in either order. -/
theorem DE.fin {w wr w' : World} {VG VR : Nat} {gd : GrpD} {G : Array Value} {d : RecD} {C : Array Value} (h : DE w wr VG VR gd G d C) (hw : w' = (wr.setRow w.heap.size G).setRow (w.heap.size + 1) C ∨ w' = (wr.setRow (w.heap.size + 1) C).setRow w.heap.size G) :
    Box w' w.heap.size 26 G ∧ Box w' (w.heap.size + 1) 31 C ∧ AtG gd w' (w.heap.size ≤ ·) (.agg G) ∧ LieCR d w' (w.heap.size ≤ ·) (.agg C) ∧ Below w.heap.size w w' := by
  rcases hw with hw | hw
  · rw [hw]
    clear hw
    have t1 := turns_setRow wr w.heap.size G
    have t2 := turns_setRow (wr.setRow w.heap.size G) (w.heap.size + 1) C
    exact ⟨(h.r2.setRow G).turn t2 (by omega), (h.r3.turn t1 (by omega)).setRow C, (keepsG gd).sub ((keepsG gd).turn ((keepsG gd).turn h.grp t1 (fun b hb e => by omega)) t2 (fun b hb e => by omega)) (fun b hb => by omega), (keepsCR d).sub ((keepsCR d).turn ((keepsCR d).turn h.rc t1 (fun b hb e => by omega)) t2 (fun b hb e => by omega)) (fun b hb => by omega), t2.below (t1.below h.bel (fun i hi => by omega)) (fun i hi => by omega)⟩
  · rw [hw]
    clear hw
    have t1 := turns_setRow wr (w.heap.size + 1) C
    have t2 := turns_setRow (wr.setRow (w.heap.size + 1) C) w.heap.size G
    exact ⟨(h.r2.turn t1 (by omega)).setRow G, (h.r3.setRow C).turn t2 (by omega), (keepsG gd).sub ((keepsG gd).turn ((keepsG gd).turn h.grp t1 (fun b hb e => by omega)) t2 (fun b hb e => by omega)) (fun b hb => by omega), (keepsCR d).sub ((keepsCR d).turn ((keepsCR d).turn h.rc t1 (fun b hb e => by omega)) t2 (fun b hb e => by omega)) (fun b hb => by omega), t2.below (t1.below h.bel (fun i hi => by omega)) (fun i hi => by omega)⟩

set_option maxRecDepth 100000 in
set_option maxHeartbeats 8000000 in
theorem drawRecOk_any (A : Option Addr) (n cap : Nat) (w : World) (hn : n ≤ 4096) (hB : Bytes w w.heap.size A n) :
    Calls Try.prog 8 #[.slice A n cap] w (MadeRO w) := by
  have E0 := bel_trans (bel_alloc w (.cells #[.int .i64 0, .int .i64 0, .int .i64 0, .int .i64 0, .slice none 0 0] 26)) (bel_alloc _ (.cells #[.int .i64 0, .int .i64 0, .int .i64 0, .int .i64 0, .int .i64 0, .int .i64 0, .int .i64 0, .slice none 0 0, .int .i64 0] 31))
  have R2 := (Box.new w 26 #[.int .i64 0, .int .i64 0, .int .i64 0, .int .i64 0, .slice none 0 0]).alloc (.cells #[.int .i64 0, .int .i64 0, .int .i64 0, .int .i64 0, .int .i64 0, .int .i64 0, .int .i64 0, .slice none 0 0, .int .i64 0] 31)
  have R3 := Box.new (w.alloc (.cells #[.int .i64 0, .int .i64 0, .int .i64 0, .int .i64 0, .slice none 0 0] 26)) 31 #[.int .i64 0, .int .i64 0, .int .i64 0, .int .i64 0, .int .i64 0, .int .i64 0, .int .i64 0, .slice none 0 0, .int .i64 0]
  simp only [World.size_alloc] at R3
  have HB := Lib.hid hB
  clear hB
  go_enter Try.func8, Try.ntmps8
  go_upto_region 1 with fail
  generalize ((w.alloc _).alloc _ : World) = w0 at E0 R2 R3 ⊢
  go_wp2_with fail
  refine (l1New_any A n cap w0 hn ((HB.out.below E0 (Nat.le_refl _)).more E0.size)).mono ?_
  rintro e w1 ⟨g, hg, rfl, hc1, hb1⟩
  have hz := R3.lt
  have hgl : w.heap.size + 1 < g := Nat.lt_of_lt_of_le hz hg
  replace R2 := R2.later hb1 R2.lt
  replace R3 := R3.later hb1 R3.lt
  replace E0 := bel_trans E0 hb1
  have hg1 := hc1.lt
  clear hb1 hg hz
  go_wp2_with fail
  refine (l1DrawGroup_any g A n cap w1 hc1).mono ?_
  rintro e w2 ⟨s, l, c, sh, q, cap', zs, rfl, hown, hok, hs6, hc3, hc2, hg2⟩
  have hq := hown.lt q rfl
  have hrow := own_row hown
  obtain ⟨p1, p2, p3, p4, p5, p6⟩ := okB_parts hok
  obtain ⟨hh1, hh4⟩ := okB_sh hok
  have hzl : zs.length ≤ 100 := by
    have hk := okB_len9 hok
    omega
  replace R2 := R2.kept hg2 (by intro e; injection e with e; omega)
  replace R3 := R3.kept hg2 (by intro e; injection e with e; omega)
  replace E0 := bel_grown E0 hg2 (by omega)
  clear hown hok hg2 hc1
  have JG : Hid ((Try.prog.info? 26).map (·.size) = some 5) := Lib.hid (by kernel_rfl)
  have hbn := bel_new_row w2 #[.int .i64 0, .int .i64 0, .int .i64 0, .int .i64 0, .slice none 0 0] 26 #[.int .i64 s, .int .i64 l, .int .i64 c, .int .i64 sh, .slice (some ⟨q, 0, none⟩) zs.length cap']
  have VGb := (Box.new w2 26 #[.int .i64 0, .int .i64 0, .int .i64 0, .int .i64 0, .slice none 0 0]).setRow #[.int .i64 s, .int .i64 l, .int .i64 c, .int .i64 sh, .slice (some ⟨q, 0, none⟩) zs.length cap']
  have ZB := Box.new w2 26 #[.int .i64 0, .int .i64 0, .int .i64 0, .int .i64 0, .slice none 0 0]
  have K : DO w ((w2.alloc (.cells #[.int .i64 0, .int .i64 0, .int .i64 0, .int .i64 0, .slice none 0 0] 26)).setRow w2.heap.size #[.int .i64 s, .int .i64 l, .int .i64 c, .int .i64 sh, .slice (some ⟨q, 0, none⟩) zs.length cap']) g A n cap w2.heap.size ⟨s, l, c, sh, zs⟩ #[.int .i64 s, .int .i64 l, .int .i64 c, .int .i64 sh, .slice (some ⟨q, 0, none⟩) zs.length cap'] q := ⟨bel_trans E0 hbn, hc2.kept (grown_bel hbn none) (fun q hq => by cases hq), R2.later hbn R2.lt, R3.later hbn R3.lt, VGb, (keepsG _).later ⟨_, _, cap', rfl, by unfold maxLen; omega, hrow, fun _ b o e => by injection e with e; injection e with e; exact e.symm⟩ hbn, hgl, hc2.lt, by have := hq.1; omega, Nat.ne_of_lt hq.2, hzl⟩
  go_upto_region 3 with (refine wpList_store_row rfl 26 _ _ rfl w2.heap.size _ rfl rfl 26 #[.int .i64 0, .int .i64 0, .int .i64 0, .int .i64 0, .slice none 0 0] ZB JG.out rfl (by simp [Value.oneCell']) ?_)
  have hqG := Nat.lt_of_lt_of_le hq.2 hbn.size
  clear ZB VGb hbn R2 R3 E0 hrow
  generalize ((w2.alloc _).setRow _ _ : World) = w3 at K hqG ⊢
  generalize w2.heap.size = VG at K ⊢
  try simp only [Act.put]
  go_cut [6] (fun pv wr => ∃ (VR : Nat) (d : RecD) (C : Array Value) (F : Nat → Prop), pv = .pointer (some ⟨VR, 0, none⟩) ∧ DQ w wr g A n cap VG ⟨s, l, c, sh, zs⟩ #[.int .i64 s, .int .i64 l, .int .i64 c, .int .i64 sh, .slice (some ⟨q, 0, none⟩) zs.length cap'] q VR d C F ∧ d.ps.length ≤ 20)
  case first =>
    refine wp_region_sink 8 (fun w' => Box w' VG 26 #[.int .i64 s, .int .i64 l, .int .i64 c, .int .i64 sh, .slice (some ⟨q, 0, none⟩) zs.length cap']) (by kernel_rfl) K.vg (fun hH => ?_)
    have hb := (Below.refl w3.heap.size w3).drew
    replace K := K.later hb
    have hqG3 : q < w3.drew.heap.size := hqG
    clear hb
    generalize w3.drew = w4 at K hH hqG3 ⊢
    refine wpAnyE_takeS (i := 1) (v := .agg #[.int .i64 s, .int .i64 l, .int .i64 c, .int .i64 sh, .slice (some ⟨q, 0, none⟩) zs.length cap']) (by simp only [List.getElem?_toArray, List.getElem?_cons_succ, List.getElem?_cons_zero]; rfl) (by kernel_rfl) (by kernel_rfl) (by kernel_rfl) (by exact fun _ _ _ h => h) (by kernel_rfl) ?yg hH ?_
    case yg => exact yields_box 26 _ rfl VG rfl 26 #[.int .i64 s, .int .i64 l, .int .i64 c, .int .i64 sh, .slice (some ⟨q, 0, none⟩) zs.length cap'] (fun _ h => h) _ Try.underlying26 rfl JG.out (by first | rfl | simp [Region.wanted, yielded] | (simp [Region.wanted, yielded, Act.put] <;> omega))
    try simp only [Act.put, List.setIfInBounds_toArray, List.set_cons_zero, List.set_cons_succ]
    refine wpAnyE_pure (i := 0) (v := ?vq0) (by simp only [List.getElem?_toArray, List.getElem?_cons_zero]; rfl) (by kernel_rfl) (by kernel_rfl) (by kernel_rfl) (by exact fun _ _ _ h => h) (by kernel_rfl) (Or.inl ⟨by rfl, ?yq0⟩) hH ?rq0
    case yq0 => (intro w' hSw; (try dsimp only at hSw); go_simp; try with_reducible rfl)
    try simp only [Act.put, List.setIfInBounds_toArray, List.set_cons_zero, List.set_cons_succ]
    refine wpAnyE_pure (i := 2) (v := ?vq2) (by simp only [List.getElem?_toArray, List.getElem?_cons_succ, List.getElem?_cons_zero]; rfl) (by kernel_rfl) (by kernel_rfl) (by kernel_rfl) (by exact fun _ _ _ h => h) (by kernel_rfl) (Or.inl ⟨by rfl, ?yq2⟩) hH ?rq2
    case yq2 => (intro w' hSw; (try dsimp only at hSw); go_simp; try with_reducible rfl)
    try simp only [Act.put, List.setIfInBounds_toArray, List.set_cons_zero, List.set_cons_succ]
    refine wpAnyE_two (i := 3) (j := 6) (by kernel_rfl) (by simp only [List.getElem?_toArray, List.getElem?_cons_succ, List.getElem?_cons_zero]; rfl) (by simp only [List.getElem?_toArray, List.getElem?_cons_succ, List.getElem?_cons_zero]; rfl) (fun K0 hK => ?_) (fun K0 hK => ?_)
    · skip
      go_simp
      refine (l1Below_any g A n cap 5 w4 (by omega) K.cur).mono ?_
      rintro e w5 ⟨k, ⟨_, _⟩, rfl, hcc, hgg⟩
      replace K := K.draw hgg hcc
      have hwk : IntKind.i64.wrap (1 + k) = 1 + k := IntWalk.i64_in _ (by omega)
      replace hqG3 := Nat.lt_of_lt_of_le hqG3 hgg.size
      clear hcc hgg
      obtain ⟨w4, rfl⟩ : ∃ x, x = w5 := ⟨_, rfl⟩
      clear hH
      refine hK.out _ _ K.vg (fun hH => ?_)
      clear hK K0
      try simp only [Act.put, List.setIfInBounds_toArray, List.set_cons_zero, List.set_cons_succ]
      refine wpAnyE_pure (i := 4) (v := ?vu4) (by simp only [List.getElem?_toArray, List.getElem?_cons_succ, List.getElem?_cons_zero]; rfl) (by kernel_rfl) (by kernel_rfl) (by kernel_rfl) (by exact fun _ _ _ h => h) (by kernel_rfl) (Or.inl ⟨by rfl, ?yu4⟩) hH ?ru4
      case yu4 => (intro w' hSw; (try dsimp only at hSw); go_simp; try with_reducible rfl)
      try simp only [Act.put, List.setIfInBounds_toArray, List.set_cons_zero, List.set_cons_succ]
      refine wpAnyE_two (i := 5) (j := 6) (by kernel_rfl) (by simp only [List.getElem?_toArray, List.getElem?_cons_succ, List.getElem?_cons_zero]; rfl) (by simp only [List.getElem?_toArray, List.getElem?_cons_succ, List.getElem?_cons_zero]; rfl) (fun K0 hK => ?_) (fun K0 hK => ?_)
      · skip
        go_simp
        have hgq := K.gq
        have hVG := K.lt
        have hrow9 : Row w4 w4.heap.size (some ⟨q, 0, none⟩) zs.length zs := (rowG_of K.grp)
        refine (l9Draw_any g A n cap s l c sh q 0 zs.length cap' zs (1 + k) w4 (by unfold maxLen; omega) (by omega) (by omega) (by omega) (by omega) (by omega) (by omega) K.cur hrow9 (by omega)).mono ?_
        rintro e w5 ⟨C, d, rfl, hL, hdl, hcc, hgg⟩
        replace K := K.draw hgg hcc
        have hz5 := hgg.size
        have IG := Lib.hid (oneC hL.lie.at)
        have IS := Lib.hid (sizeCI hL.lie.at)
        clear hcc hgg hrow9
        generalize w4.heap.size = N at hL hqG3 hVG hz5 
        obtain ⟨N5, hN5⟩ : ∃ N5, w5.heap.size = N5 := ⟨_, rfl⟩
        rw [hN5] at hL
        obtain ⟨w4, rfl⟩ : ∃ x, x = w5 := ⟨_, rfl⟩
        clear hH
        refine hK.out _ _ K.vg (fun hH => ?_)
        clear hK K0
        try simp only [Act.put, List.setIfInBounds_toArray, List.set_cons_zero, List.set_cons_succ]
        refine wpAnyE_one (i := 6) (by kernel_rfl) (by simp only [List.getElem?_toArray, List.getElem?_cons_succ, List.getElem?_cons_zero]; rfl) (fun K0 hK => ?_)
        have hN6 := Lib.hid hN5
        clear hN5
        go_simp
        have hn := bel_alloc w4 (.cells #[.int .i64 0, .int .i64 0, .int .i64 0, .int .i64 0, .int .i64 0, .int .i64 0, .int .i64 0, .slice none 0 0, .int .i64 0] 31)
        have ZB := Box.new w4 31 #[.int .i64 0, .int .i64 0, .int .i64 0, .int .i64 0, .int .i64 0, .int .i64 0, .int .i64 0, .slice none 0 0, .int .i64 0]
        replace K := K.later hn
        have hL2 := (keepsCR d).later hL hn
        clear hL hn
        have hL := hL2
        clear hL2
        generalize (w4.alloc _ : World) = w5 at K ZB hL ⊢
        generalize w4.heap.size = VR at ZB hN6 hz5 ⊢
        have hN5 := hN6.out
        obtain ⟨w4, rfl⟩ : ∃ x, x = w5 := ⟨_, rfl⟩
        clear hH
        refine hK.out _ _ K.vg (fun hH => ?_)
        clear hK K0
        try simp only [Act.put, List.setIfInBounds_toArray, List.set_cons_zero, List.set_cons_succ]
        have hVl := ZB.lt
        have HQ := Lib.hid (dq_new (VR := VR) K ZB hL (by omega) (by have := K.gV; omega) (by omega) (by omega) ⟨by have := K.gV; omega, by omega, by omega⟩ (.inr (by omega)) (by omega))
        refine wpAnyE_end (i := 7) (by kernel_rfl) (by simp only [List.getElem?_toArray, List.getElem?_cons_succ, List.getElem?_cons_zero]; rfl) (by kernel_rfl) (fun K0 hK => ?_)
        rw [if_pos (by first | rfl | kernel_rfl | simp [Region.wanted, yielded])]
        refine wp_store_row 31 _ _ rfl VR C rfl rfl 31 #[.int .i64 0, .int .i64 0, .int .i64 0, .int .i64 0, .int .i64 0, .int .i64 0, .int .i64 0, .slice none 0 0, .int .i64 0] ZB IS.out IG.out.1.symm IG.out.2 ?_
        refine hK.out _ _ HQ.out.o.vg ?_
        clear hK K0
        try simp only [Act.put]
        clear hH K ZB hL
        go_wp2_with fail
        go_meet
        exact ⟨VR, d, C, _, rfl, HQ.out, hdl⟩
      · skip
        go_simp
        have hn := bel_alloc w4 (.cells #[.int .i64 0, .int .i64 0, .int .i64 0, .int .i64 0, .int .i64 0, .int .i64 0, .int .i64 0, .slice none 0 0, .int .i64 0] 31)
        have ZB := Box.new w4 31 #[.int .i64 0, .int .i64 0, .int .i64 0, .int .i64 0, .int .i64 0, .int .i64 0, .int .i64 0, .slice none 0 0, .int .i64 0]
        have hV0 : VG < w4.heap.size := K.lt
        have hq0 : q < w4.heap.size := hqG3
        replace K := K.later hn
        replace hqG3 := Nat.lt_of_lt_of_le hqG3 hn.size
        clear hn
        generalize (w4.alloc _ : World) = w5 at K ZB hqG3 ⊢
        generalize w4.heap.size = VR at ZB hV0 hq0 ⊢
        obtain ⟨w4, rfl⟩ : ∃ x, x = w5 := ⟨_, rfl⟩
        clear hH
        refine hK.out _ _ K.vg (fun hH => ?_)
        clear hK K0
        try simp only [Act.put, List.setIfInBounds_toArray, List.set_cons_zero, List.set_cons_succ]
        refine wpAnyE_one (i := 5) (by kernel_rfl) (by simp only [List.getElem?_toArray, List.getElem?_cons_succ, List.getElem?_cons_zero]; rfl) (fun K0 hK => ?_)
        go_simp
        have hgq := K.gq
        have hVG := K.lt
        have hVRl := ZB.lt
        have hrow9 : Row w4 w4.heap.size (some ⟨q, 0, none⟩) zs.length zs := (rowG_of K.grp)
        refine (l9Draw_any g A n cap s l c sh q 0 zs.length cap' zs (1 + k) w4 (by unfold maxLen; omega) (by omega) (by omega) (by omega) (by omega) (by omega) (by omega) K.cur hrow9 (by omega)).mono ?_
        rintro e w5 ⟨C, d, rfl, hL, hdl, hcc, hgg⟩
        replace K := K.draw hgg hcc
        replace ZB := ZB.kept hgg (by intro e; injection e with e; have := K.gV; omega)
        have hz5 := hgg.size
        have IG := Lib.hid (oneC hL.lie.at)
        have IS := Lib.hid (sizeCI hL.lie.at)
        clear hcc hgg hrow9
        generalize w4.heap.size = N at hL hqG3 hVG hz5 hVRl
        obtain ⟨N5, hN5⟩ : ∃ N5, w5.heap.size = N5 := ⟨_, rfl⟩
        rw [hN5] at hL
        obtain ⟨w4, rfl⟩ : ∃ x, x = w5 := ⟨_, rfl⟩
        clear hH
        refine hK.out _ _ K.vg (fun hH => ?_)
        clear hK K0
        try simp only [Act.put, List.setIfInBounds_toArray, List.set_cons_zero, List.set_cons_succ]
        have HQ := Lib.hid (dq_new (VR := VR) K ZB hL (by omega) (by have := K.gV; omega) (by omega) (by omega) ⟨by have := K.gV; omega, by omega, by omega⟩ (.inl (by omega)) (by omega))
        refine wpAnyE_end (i := 7) (by kernel_rfl) (by simp only [List.getElem?_toArray, List.getElem?_cons_succ, List.getElem?_cons_zero]; rfl) (by kernel_rfl) (fun K0 hK => ?_)
        rw [if_pos (by first | rfl | kernel_rfl | simp [Region.wanted, yielded])]
        refine wp_store_row 31 _ _ rfl VR C rfl rfl 31 #[.int .i64 0, .int .i64 0, .int .i64 0, .int .i64 0, .int .i64 0, .int .i64 0, .int .i64 0, .slice none 0 0, .int .i64 0] ZB IS.out IG.out.1.symm IG.out.2 ?_
        refine hK.out _ _ HQ.out.o.vg ?_
        clear hK K0
        try simp only [Act.put]
        clear hH K ZB hL
        go_wp2_with fail
        go_meet
        exact ⟨VR, d, C, _, rfl, HQ.out, hdl⟩
    · skip
      go_simp
      have hn := bel_alloc w4 (.cells #[.int .i64 0, .int .i64 0, .int .i64 0, .int .i64 0, .int .i64 0, .int .i64 0, .int .i64 0, .slice none 0 0, .int .i64 0] 31)
      have ZB := Box.new w4 31 #[.int .i64 0, .int .i64 0, .int .i64 0, .int .i64 0, .int .i64 0, .int .i64 0, .int .i64 0, .slice none 0 0, .int .i64 0]
      have hV0 : VG < w4.heap.size := K.lt
      have hq0 : q < w4.heap.size := hqG3
      replace K := K.later hn
      replace hqG3 := Nat.lt_of_lt_of_le hqG3 hn.size
      clear hn
      generalize (w4.alloc _ : World) = w5 at K ZB hqG3 ⊢
      generalize w4.heap.size = VR at ZB hV0 hq0 ⊢
      obtain ⟨w4, rfl⟩ : ∃ x, x = w5 := ⟨_, rfl⟩
      clear hH
      refine hK.out _ _ K.vg (fun hH => ?_)
      clear hK K0
      try simp only [Act.put, List.setIfInBounds_toArray, List.set_cons_zero, List.set_cons_succ]
      refine wpAnyE_one (i := 3) (by kernel_rfl) (by simp only [List.getElem?_toArray, List.getElem?_cons_succ, List.getElem?_cons_zero]; rfl) (fun K0 hK => ?_)
      go_simp
      refine (l1Below_any g A n cap 5 w4 (by omega) K.cur).mono ?_
      rintro e w5 ⟨k, ⟨_, _⟩, rfl, hcc, hgg⟩
      replace K := K.draw hgg hcc
      have hwk : IntKind.i64.wrap (1 + k) = 1 + k := IntWalk.i64_in _ (by omega)
      replace hqG3 := Nat.lt_of_lt_of_le hqG3 hgg.size
      replace ZB := ZB.kept hgg (by intro e; injection e with e; have := K.gV; omega)
      clear hcc hgg
      obtain ⟨w4, rfl⟩ : ∃ x, x = w5 := ⟨_, rfl⟩
      clear hH
      refine hK.out _ _ K.vg (fun hH => ?_)
      clear hK K0
      try simp only [Act.put, List.setIfInBounds_toArray, List.set_cons_zero, List.set_cons_succ]
      refine wpAnyE_pure (i := 4) (v := ?vv4) (by simp only [List.getElem?_toArray, List.getElem?_cons_succ, List.getElem?_cons_zero]; rfl) (by kernel_rfl) (by kernel_rfl) (by kernel_rfl) (by exact fun _ _ _ h => h) (by kernel_rfl) (Or.inl ⟨by rfl, ?yv4⟩) hH ?rv4
      case yv4 => (intro w' hSw; (try dsimp only at hSw); go_simp; try with_reducible rfl)
      try simp only [Act.put, List.setIfInBounds_toArray, List.set_cons_zero, List.set_cons_succ]
      refine wpAnyE_one (i := 5) (by kernel_rfl) (by simp only [List.getElem?_toArray, List.getElem?_cons_succ, List.getElem?_cons_zero]; rfl) (fun K0 hK => ?_)
      go_simp
      have hgq := K.gq
      have hVG := K.lt
      have hVRl := ZB.lt
      have hrow9 : Row w4 w4.heap.size (some ⟨q, 0, none⟩) zs.length zs := (rowG_of K.grp)
      refine (l9Draw_any g A n cap s l c sh q 0 zs.length cap' zs (1 + k) w4 (by unfold maxLen; omega) (by omega) (by omega) (by omega) (by omega) (by omega) (by omega) K.cur hrow9 (by omega)).mono ?_
      rintro e w5 ⟨C, d, rfl, hL, hdl, hcc, hgg⟩
      replace K := K.draw hgg hcc
      replace ZB := ZB.kept hgg (by intro e; injection e with e; have := K.gV; omega)
      have hz5 := hgg.size
      have IG := Lib.hid (oneC hL.lie.at)
      have IS := Lib.hid (sizeCI hL.lie.at)
      clear hcc hgg hrow9
      generalize w4.heap.size = N at hL hqG3 hVG hz5 hVRl
      obtain ⟨N5, hN5⟩ : ∃ N5, w5.heap.size = N5 := ⟨_, rfl⟩
      rw [hN5] at hL
      obtain ⟨w4, rfl⟩ : ∃ x, x = w5 := ⟨_, rfl⟩
      clear hH
      refine hK.out _ _ K.vg (fun hH => ?_)
      clear hK K0
      try simp only [Act.put, List.setIfInBounds_toArray, List.set_cons_zero, List.set_cons_succ]
      have HQ := Lib.hid (dq_new (VR := VR) K ZB hL (by omega) (by have := K.gV; omega) (by omega) (by omega) ⟨by have := K.gV; omega, by omega, by omega⟩ (.inl (by omega)) (by omega))
      refine wpAnyE_end (i := 7) (by kernel_rfl) (by simp only [List.getElem?_toArray, List.getElem?_cons_succ, List.getElem?_cons_zero]; rfl) (by kernel_rfl) (fun K0 hK => ?_)
      rw [if_pos (by first | rfl | kernel_rfl | simp [Region.wanted, yielded])]
      refine wp_store_row 31 _ _ rfl VR C rfl rfl 31 #[.int .i64 0, .int .i64 0, .int .i64 0, .int .i64 0, .int .i64 0, .int .i64 0, .int .i64 0, .slice none 0 0, .int .i64 0] ZB IS.out IG.out.1.symm IG.out.2 ?_
      refine hK.out _ _ HQ.out.o.vg ?_
      clear hK K0
      try simp only [Act.put]
      clear hH K ZB hL
      go_wp2_with fail
      go_meet
      exact ⟨VR, d, C, _, rfl, HQ.out, hdl⟩
  case rest =>
    clear K hqG
    obtain ⟨VR, d, C, F, rfl, K, hdl⟩ := hcut
    obtain ⟨w1, rfl⟩ : ∃ x, x = wc := ⟨_, rfl⟩
    go_upto_region 4 with fail
    go_wp2_with fail
    refine (l1Once_any g A n cap 2 w1 (by omega) K.o.cur).mono ?_
    rintro e w2 ⟨y, rfl, hcc, hgg⟩
    replace K := K.draw hgg hcc
    clear hcc hgg
    rcases y with _ | _
    · skip
      clear hdl
      obtain ⟨w1, rfl⟩ : ∃ x, x = w2 := ⟨_, rfl⟩
      go_upto_region 6 with fail
      go_wp2_with fail
      refine (l1Once_any g A n cap 12 w1 (by omega) K.o.cur).mono ?_
      rintro e w2 ⟨y, rfl, hcc, hgg⟩
      replace K := K.draw hgg hcc
      clear hcc hgg
      rcases y with _ | _
      · skip
        have K1 := DE.of K
        clear K
        have K := K1
        clear K1
        obtain ⟨w1, rfl⟩ : ∃ x, x = w2 := ⟨_, rfl⟩
        obtain ⟨gd, hgd⟩ : ∃ gd : GrpD, (⟨s, l, c, sh, zs⟩ : GrpD) = gd := ⟨_, rfl⟩
        obtain ⟨G, hG⟩ : ∃ G : Array Value, #[.int .i64 s, .int .i64 l, .int .i64 c, .int .i64 sh, .slice (some ⟨q, 0, none⟩) zs.length cap'] = G := ⟨_, rfl⟩
        rw [hgd, hG] at K
        clear hgd hG
        go_upto_region 8 with fail
        have OG := Lib.hid (oneG K.grp)
        have SG := Lib.hid (sizeGI K.grp)
        have OC := Lib.hid (oneC K.rc.lie.at)
        have SC := Lib.hid (sizeCI K.rc.lie.at)
        refine wp_region_sink 4 (fun w' => Box w' VG 26 G ∧ Box w' VR 31 C) (by kernel_rfl) ⟨K.vg, K.vr⟩ (fun hH => ?_)
        replace K := K.drew
        generalize w1.drew = w2 at K hH ⊢
        refine wpAnyE_takeS (i := 0) (v := .agg G) (by simp only [List.getElem?_toArray, List.getElem?_cons_zero]; rfl) (by kernel_rfl) (by kernel_rfl) (by kernel_rfl) (by exact fun _ _ _ h => h) (by kernel_rfl) ?yrg1 hH ?_
        case yrg1 => exact yields_box 26 _ rfl (VG) rfl 26 G (fun _ h => h.1) _ Try.underlying26 rfl SG.out (by first | rfl | simp [Region.wanted, yielded] | (simp [Region.wanted, yielded, Act.put] <;> omega))
        try simp only [Act.put, List.setIfInBounds_toArray, List.set_cons_zero, List.set_cons_succ]
        refine wpAnyE_takeS (i := 1) (v := .agg C) (by simp only [List.getElem?_toArray, List.getElem?_cons_succ, List.getElem?_cons_zero]; rfl) (by kernel_rfl) (by kernel_rfl) (by kernel_rfl) (by exact fun _ _ _ h => h) (by kernel_rfl) ?yrc1 hH ?_
        case yrc1 => exact yields_box 31 _ rfl (VR) rfl 31 C (fun _ h => h.2) _ Try.underlying31 rfl SC.out (by first | rfl | simp [Region.wanted, yielded] | (simp [Region.wanted, yielded, Act.put] <;> omega))
        try simp only [Act.put, List.setIfInBounds_toArray, List.set_cons_zero, List.set_cons_succ]
        refine wpAnyE_one (i := 2) (by kernel_rfl) (by simp only [List.getElem?_toArray, List.getElem?_cons_succ, List.getElem?_cons_zero]; rfl) (fun K0 hK => ?_)
        · skip
          have h2 := K.hG
          have h3 := K.hR
          have t1 := turns_setRow w2 (w.heap.size) G
          have y := K.r3.turn t1 (by omega)
          have v1 := K.vg.turn t1 (by omega)
          have v2 := K.vr.turn t1 (by omega)
          have t2 := turns_setRow (w2.setRow (w.heap.size) G) (w.heap.size + 1) C
          rw [if_pos (by first | rfl | kernel_rfl | simp [Region.wanted, yielded])]
          refine wp_store_row 26 _ _ rfl (w.heap.size) G rfl rfl 26 #[.int .i64 0, .int .i64 0, .int .i64 0, .int .i64 0, .slice none 0 0] K.r2 SG.out OG.out.1.symm OG.out.2 ?_
          clear hH
          refine hK.out _ _ ⟨v1, v2⟩ (fun hH => ?_)
          clear hK K0
          try simp only [Act.put]
          refine wpAnyE_end (i := 3) (by kernel_rfl) (by simp only [List.getElem?_toArray, List.getElem?_cons_succ, List.getElem?_cons_zero]; rfl) (by kernel_rfl) (fun K0 hK => ?_)
          rw [if_pos (by first | rfl | kernel_rfl | simp [Region.wanted, yielded])]
          refine wp_store_row 31 _ _ rfl (w.heap.size + 1) C rfl rfl 31 #[.int .i64 0, .int .i64 0, .int .i64 0, .int .i64 0, .int .i64 0, .int .i64 0, .int .i64 0, .slice none 0 0, .int .i64 0] y SC.out OC.out.1.symm OC.out.2 ?_
          refine hK.out _ _ ⟨v1.turn t2 (by omega), v2.turn t2 (by omega)⟩ ?_
          clear hK K0
          try simp only [Act.put]
          clear hH t1 t2 y v1 v2
          obtain ⟨y2, y3, z1, z2, zb⟩ := K.fin (w' := (w2.setRow w.heap.size G).setRow (w.heap.size + 1) C) (.inl rfl)
          have hl1 := K.glen
          have hl2 := K.len
          clear K
          replace y2 := Lib.hid y2
          replace y3 := Lib.hid y3
          replace z1 := Lib.hid z1
          replace z2 := Lib.hid z2
          replace zb := Lib.hid zb
          go_wp2
          exact bodyPost_ret (v := .tuple #[.agg G, .agg C]) (results_two9 (Try.results8) _ _ w.heap.size (w.heap.size + 1) 26 31 G C _ _ rfl rfl y2.out y3.out Try.underlying26 rfl SG.out Try.underlying31 rfl SC.out) rfl ⟨G, C, gd, d, rfl, z1.out, z2.out, hl1, hl2, zb.out⟩
      · skip
        go_wp2_with fail
        refine (l1DrawAny_any g A n cap w2 K.o.cur).mono ?_
        rintro e w3 ⟨s', l', c', sh', q', o', m', cp', zs', hq', rfl, hr', hm', hcc, hgg⟩
        have hVG := K.o.vg.lt
        have hgl := K.o.gl
        have hgV := K.o.gV
        replace K := K.draw hgg hcc
        have hml := hr'.1
        have HE := Lib.hid ((DE.of K).grp' (gd' := ⟨s', l', c', sh', zs'⟩) (G' := #[.int .i64 s', .int .i64 l', .int .i64 c', .int .i64 sh', .slice (some ⟨q', o', none⟩) m' cp']) (q' := q') K.rc (fun b hb => by have := K.hF b hb; omega) K.VV ⟨_, m', cp', rfl, by unfold maxLen; omega, hr', fun _ b o e => by injection e with e; injection e with e; exact e.symm⟩ (by omega) (by omega) (by show zs'.length ≤ 100; omega))
        have VB := K.o.vg
        clear K hcc hgg hr'
        go_upto_region 8 with (refine wpList_store_row rfl 26 _ _ rfl VG _ rfl rfl 26 #[.int .i64 s, .int .i64 l, .int .i64 c, .int .i64 sh, .slice (some ⟨q, 0, none⟩) zs.length cap'] VB JG.out rfl (by simp [Value.oneCell']) ?_)
        clear VB
        generalize (w3.setRow _ _ : World) = w1 at HE ⊢
        obtain ⟨gd, G, K⟩ : ∃ (gd : GrpD) (G : Array Value), DE w w1 VG VR gd G d C := ⟨_, _, HE.out⟩
        clear HE
        go_upto_region 8 with fail
        have OG := Lib.hid (oneG K.grp)
        have SG := Lib.hid (sizeGI K.grp)
        have OC := Lib.hid (oneC K.rc.lie.at)
        have SC := Lib.hid (sizeCI K.rc.lie.at)
        refine wp_region_sink 4 (fun w' => Box w' VG 26 G ∧ Box w' VR 31 C) (by kernel_rfl) ⟨K.vg, K.vr⟩ (fun hH => ?_)
        replace K := K.drew
        generalize w1.drew = w2 at K hH ⊢
        refine wpAnyE_takeS (i := 0) (v := .agg G) (by simp only [List.getElem?_toArray, List.getElem?_cons_zero]; rfl) (by kernel_rfl) (by kernel_rfl) (by kernel_rfl) (by exact fun _ _ _ h => h) (by kernel_rfl) ?yrg2 hH ?_
        case yrg2 => exact yields_box 26 _ rfl (VG) rfl 26 G (fun _ h => h.1) _ Try.underlying26 rfl SG.out (by first | rfl | simp [Region.wanted, yielded] | (simp [Region.wanted, yielded, Act.put] <;> omega))
        try simp only [Act.put, List.setIfInBounds_toArray, List.set_cons_zero, List.set_cons_succ]
        refine wpAnyE_takeS (i := 1) (v := .agg C) (by simp only [List.getElem?_toArray, List.getElem?_cons_succ, List.getElem?_cons_zero]; rfl) (by kernel_rfl) (by kernel_rfl) (by kernel_rfl) (by exact fun _ _ _ h => h) (by kernel_rfl) ?yrc2 hH ?_
        case yrc2 => exact yields_box 31 _ rfl (VR) rfl 31 C (fun _ h => h.2) _ Try.underlying31 rfl SC.out (by first | rfl | simp [Region.wanted, yielded] | (simp [Region.wanted, yielded, Act.put] <;> omega))
        try simp only [Act.put, List.setIfInBounds_toArray, List.set_cons_zero, List.set_cons_succ]
        refine wpAnyE_one (i := 2) (by kernel_rfl) (by simp only [List.getElem?_toArray, List.getElem?_cons_succ, List.getElem?_cons_zero]; rfl) (fun K0 hK => ?_)
        · skip
          have h2 := K.hG
          have h3 := K.hR
          have t1 := turns_setRow w2 (w.heap.size) G
          have y := K.r3.turn t1 (by omega)
          have v1 := K.vg.turn t1 (by omega)
          have v2 := K.vr.turn t1 (by omega)
          have t2 := turns_setRow (w2.setRow (w.heap.size) G) (w.heap.size + 1) C
          rw [if_pos (by first | rfl | kernel_rfl | simp [Region.wanted, yielded])]
          refine wp_store_row 26 _ _ rfl (w.heap.size) G rfl rfl 26 #[.int .i64 0, .int .i64 0, .int .i64 0, .int .i64 0, .slice none 0 0] K.r2 SG.out OG.out.1.symm OG.out.2 ?_
          clear hH
          refine hK.out _ _ ⟨v1, v2⟩ (fun hH => ?_)
          clear hK K0
          try simp only [Act.put]
          refine wpAnyE_end (i := 3) (by kernel_rfl) (by simp only [List.getElem?_toArray, List.getElem?_cons_succ, List.getElem?_cons_zero]; rfl) (by kernel_rfl) (fun K0 hK => ?_)
          rw [if_pos (by first | rfl | kernel_rfl | simp [Region.wanted, yielded])]
          refine wp_store_row 31 _ _ rfl (w.heap.size + 1) C rfl rfl 31 #[.int .i64 0, .int .i64 0, .int .i64 0, .int .i64 0, .int .i64 0, .int .i64 0, .int .i64 0, .slice none 0 0, .int .i64 0] y SC.out OC.out.1.symm OC.out.2 ?_
          refine hK.out _ _ ⟨v1.turn t2 (by omega), v2.turn t2 (by omega)⟩ ?_
          clear hK K0
          try simp only [Act.put]
          clear hH t1 t2 y v1 v2
          obtain ⟨y2, y3, z1, z2, zb⟩ := K.fin (w' := (w2.setRow w.heap.size G).setRow (w.heap.size + 1) C) (.inl rfl)
          have hl1 := K.glen
          have hl2 := K.len
          clear K
          replace y2 := Lib.hid y2
          replace y3 := Lib.hid y3
          replace z1 := Lib.hid z1
          replace z2 := Lib.hid z2
          replace zb := Lib.hid zb
          go_wp2
          exact bodyPost_ret (v := .tuple #[.agg G, .agg C]) (results_two9 (Try.results8) _ _ w.heap.size (w.heap.size + 1) 26 31 G C _ _ rfl rfl y2.out y3.out Try.underlying26 rfl SG.out Try.underlying31 rfl SC.out) rfl ⟨G, C, gd, d, rfl, z1.out, z2.out, hl1, hl2, zb.out⟩
    · skip
      have IS := Lib.hid (sizeCI K.rc.lie.at)
      go_wp2_with (refine wpList_load_box 31 _ rfl VR rfl 31 C K.vr _ Try.underlying31 rfl IS.out (by first | rfl | simp [Region.wanted, yielded] | (simp [Region.wanted, yielded, Act.put] <;> omega)) ?_)
      have hgq := K.o.gq
      have hqw : q < w2.heap.size := K.ql
      refine (l9Bend_any g A n cap (fun b => F b ∧ b < w2.heap.size) C d w2 K.o.cur (cr_lt K.rc) hdl (fun b hb => ⟨(K.hF b hb.1).1, hb.2⟩)).mono ?_
      rintro e w3 ⟨C', d', rfl, hL, hdl', hcc, ht⟩
      have K2 := dq_bent (dq_less K) hqw ht hcc hL hdl'
      have IG2 := Lib.hid (oneC hL.lie.at)
      have IS2 := Lib.hid (sizeCI hL.lie.at)
      have IG := Lib.hid (oneC K.rc.lie.at)
      have VB : Box w3 VR 31 C := K.vr.turn ht (fun hb => by rcases hb with hb | hb; have := K.gR; omega; exact (K.hF _ hb.1).2.2.2 rfl)
      replace K2 := Lib.hid K2
      clear K hL hcc ht
      go_upto_region 6 with (refine wpList_store_row rfl 31 _ _ rfl VR _ rfl rfl 31 C VB IS2.out (IG.out.1.trans IG2.out.1.symm) IG2.out.2 ?_)
      clear VB IG
      generalize (w3.setRow _ _ : World) = w1 at K2 ⊢
      clear hdl hdl'
      obtain ⟨d, C, F, K⟩ : ∃ (d : RecD) (C : Array Value) (F : Nat → Prop), DQ w w1 g A n cap VG ⟨s, l, c, sh, zs⟩ #[.int .i64 s, .int .i64 l, .int .i64 c, .int .i64 sh, .slice (some ⟨q, 0, none⟩) zs.length cap'] q VR d C F := ⟨_, _, _, K2.out⟩
      clear K2
      go_upto_region 6 with fail
      go_wp2_with fail
      refine (l1Once_any g A n cap 12 w1 (by omega) K.o.cur).mono ?_
      rintro e w2 ⟨y, rfl, hcc, hgg⟩
      replace K := K.draw hgg hcc
      clear hcc hgg
      rcases y with _ | _
      · skip
        have K1 := DE.of K
        clear K
        have K := K1
        clear K1
        obtain ⟨w1, rfl⟩ : ∃ x, x = w2 := ⟨_, rfl⟩
        obtain ⟨gd, hgd⟩ : ∃ gd : GrpD, (⟨s, l, c, sh, zs⟩ : GrpD) = gd := ⟨_, rfl⟩
        obtain ⟨G, hG⟩ : ∃ G : Array Value, #[.int .i64 s, .int .i64 l, .int .i64 c, .int .i64 sh, .slice (some ⟨q, 0, none⟩) zs.length cap'] = G := ⟨_, rfl⟩
        rw [hgd, hG] at K
        clear hgd hG
        go_upto_region 8 with fail
        have OG := Lib.hid (oneG K.grp)
        have SG := Lib.hid (sizeGI K.grp)
        have OC := Lib.hid (oneC K.rc.lie.at)
        have SC := Lib.hid (sizeCI K.rc.lie.at)
        refine wp_region_sink 4 (fun w' => Box w' VG 26 G ∧ Box w' VR 31 C) (by kernel_rfl) ⟨K.vg, K.vr⟩ (fun hH => ?_)
        replace K := K.drew
        generalize w1.drew = w2 at K hH ⊢
        refine wpAnyE_takeS (i := 0) (v := .agg G) (by simp only [List.getElem?_toArray, List.getElem?_cons_zero]; rfl) (by kernel_rfl) (by kernel_rfl) (by kernel_rfl) (by exact fun _ _ _ h => h) (by kernel_rfl) ?yrg3 hH ?_
        case yrg3 => exact yields_box 26 _ rfl (VG) rfl 26 G (fun _ h => h.1) _ Try.underlying26 rfl SG.out (by first | rfl | simp [Region.wanted, yielded] | (simp [Region.wanted, yielded, Act.put] <;> omega))
        try simp only [Act.put, List.setIfInBounds_toArray, List.set_cons_zero, List.set_cons_succ]
        refine wpAnyE_takeS (i := 1) (v := .agg C) (by simp only [List.getElem?_toArray, List.getElem?_cons_succ, List.getElem?_cons_zero]; rfl) (by kernel_rfl) (by kernel_rfl) (by kernel_rfl) (by exact fun _ _ _ h => h) (by kernel_rfl) ?yrc3 hH ?_
        case yrc3 => exact yields_box 31 _ rfl (VR) rfl 31 C (fun _ h => h.2) _ Try.underlying31 rfl SC.out (by first | rfl | simp [Region.wanted, yielded] | (simp [Region.wanted, yielded, Act.put] <;> omega))
        try simp only [Act.put, List.setIfInBounds_toArray, List.set_cons_zero, List.set_cons_succ]
        refine wpAnyE_one (i := 2) (by kernel_rfl) (by simp only [List.getElem?_toArray, List.getElem?_cons_succ, List.getElem?_cons_zero]; rfl) (fun K0 hK => ?_)
        · skip
          have h2 := K.hG
          have h3 := K.hR
          have t1 := turns_setRow w2 (w.heap.size) G
          have y := K.r3.turn t1 (by omega)
          have v1 := K.vg.turn t1 (by omega)
          have v2 := K.vr.turn t1 (by omega)
          have t2 := turns_setRow (w2.setRow (w.heap.size) G) (w.heap.size + 1) C
          rw [if_pos (by first | rfl | kernel_rfl | simp [Region.wanted, yielded])]
          refine wp_store_row 26 _ _ rfl (w.heap.size) G rfl rfl 26 #[.int .i64 0, .int .i64 0, .int .i64 0, .int .i64 0, .slice none 0 0] K.r2 SG.out OG.out.1.symm OG.out.2 ?_
          clear hH
          refine hK.out _ _ ⟨v1, v2⟩ (fun hH => ?_)
          clear hK K0
          try simp only [Act.put]
          refine wpAnyE_end (i := 3) (by kernel_rfl) (by simp only [List.getElem?_toArray, List.getElem?_cons_succ, List.getElem?_cons_zero]; rfl) (by kernel_rfl) (fun K0 hK => ?_)
          rw [if_pos (by first | rfl | kernel_rfl | simp [Region.wanted, yielded])]
          refine wp_store_row 31 _ _ rfl (w.heap.size + 1) C rfl rfl 31 #[.int .i64 0, .int .i64 0, .int .i64 0, .int .i64 0, .int .i64 0, .int .i64 0, .int .i64 0, .slice none 0 0, .int .i64 0] y SC.out OC.out.1.symm OC.out.2 ?_
          refine hK.out _ _ ⟨v1.turn t2 (by omega), v2.turn t2 (by omega)⟩ ?_
          clear hK K0
          try simp only [Act.put]
          clear hH t1 t2 y v1 v2
          obtain ⟨y2, y3, z1, z2, zb⟩ := K.fin (w' := (w2.setRow w.heap.size G).setRow (w.heap.size + 1) C) (.inl rfl)
          have hl1 := K.glen
          have hl2 := K.len
          clear K
          replace y2 := Lib.hid y2
          replace y3 := Lib.hid y3
          replace z1 := Lib.hid z1
          replace z2 := Lib.hid z2
          replace zb := Lib.hid zb
          go_wp2
          exact bodyPost_ret (v := .tuple #[.agg G, .agg C]) (results_two9 (Try.results8) _ _ w.heap.size (w.heap.size + 1) 26 31 G C _ _ rfl rfl y2.out y3.out Try.underlying26 rfl SG.out Try.underlying31 rfl SC.out) rfl ⟨G, C, gd, d, rfl, z1.out, z2.out, hl1, hl2, zb.out⟩
      · skip
        go_wp2_with fail
        refine (l1DrawAny_any g A n cap w2 K.o.cur).mono ?_
        rintro e w3 ⟨s', l', c', sh', q', o', m', cp', zs', hq', rfl, hr', hm', hcc, hgg⟩
        have hVG := K.o.vg.lt
        have hgl := K.o.gl
        have hgV := K.o.gV
        replace K := K.draw hgg hcc
        have hml := hr'.1
        have HE := Lib.hid ((DE.of K).grp' (gd' := ⟨s', l', c', sh', zs'⟩) (G' := #[.int .i64 s', .int .i64 l', .int .i64 c', .int .i64 sh', .slice (some ⟨q', o', none⟩) m' cp']) (q' := q') K.rc (fun b hb => by have := K.hF b hb; omega) K.VV ⟨_, m', cp', rfl, by unfold maxLen; omega, hr', fun _ b o e => by injection e with e; injection e with e; exact e.symm⟩ (by omega) (by omega) (by show zs'.length ≤ 100; omega))
        have VB := K.o.vg
        clear K hcc hgg hr'
        go_upto_region 8 with (refine wpList_store_row rfl 26 _ _ rfl VG _ rfl rfl 26 #[.int .i64 s, .int .i64 l, .int .i64 c, .int .i64 sh, .slice (some ⟨q, 0, none⟩) zs.length cap'] VB JG.out rfl (by simp [Value.oneCell']) ?_)
        clear VB
        generalize (w3.setRow _ _ : World) = w1 at HE ⊢
        obtain ⟨gd, G, K⟩ : ∃ (gd : GrpD) (G : Array Value), DE w w1 VG VR gd G d C := ⟨_, _, HE.out⟩
        clear HE
        go_upto_region 8 with fail
        have OG := Lib.hid (oneG K.grp)
        have SG := Lib.hid (sizeGI K.grp)
        have OC := Lib.hid (oneC K.rc.lie.at)
        have SC := Lib.hid (sizeCI K.rc.lie.at)
        refine wp_region_sink 4 (fun w' => Box w' VG 26 G ∧ Box w' VR 31 C) (by kernel_rfl) ⟨K.vg, K.vr⟩ (fun hH => ?_)
        replace K := K.drew
        generalize w1.drew = w2 at K hH ⊢
        refine wpAnyE_takeS (i := 0) (v := .agg G) (by simp only [List.getElem?_toArray, List.getElem?_cons_zero]; rfl) (by kernel_rfl) (by kernel_rfl) (by kernel_rfl) (by exact fun _ _ _ h => h) (by kernel_rfl) ?yrg4 hH ?_
        case yrg4 => exact yields_box 26 _ rfl (VG) rfl 26 G (fun _ h => h.1) _ Try.underlying26 rfl SG.out (by first | rfl | simp [Region.wanted, yielded] | (simp [Region.wanted, yielded, Act.put] <;> omega))
        try simp only [Act.put, List.setIfInBounds_toArray, List.set_cons_zero, List.set_cons_succ]
        refine wpAnyE_takeS (i := 1) (v := .agg C) (by simp only [List.getElem?_toArray, List.getElem?_cons_succ, List.getElem?_cons_zero]; rfl) (by kernel_rfl) (by kernel_rfl) (by kernel_rfl) (by exact fun _ _ _ h => h) (by kernel_rfl) ?yrc4 hH ?_
        case yrc4 => exact yields_box 31 _ rfl (VR) rfl 31 C (fun _ h => h.2) _ Try.underlying31 rfl SC.out (by first | rfl | simp [Region.wanted, yielded] | (simp [Region.wanted, yielded, Act.put] <;> omega))
        try simp only [Act.put, List.setIfInBounds_toArray, List.set_cons_zero, List.set_cons_succ]
        refine wpAnyE_one (i := 2) (by kernel_rfl) (by simp only [List.getElem?_toArray, List.getElem?_cons_succ, List.getElem?_cons_zero]; rfl) (fun K0 hK => ?_)
        · skip
          have h2 := K.hG
          have h3 := K.hR
          have t1 := turns_setRow w2 (w.heap.size) G
          have y := K.r3.turn t1 (by omega)
          have v1 := K.vg.turn t1 (by omega)
          have v2 := K.vr.turn t1 (by omega)
          have t2 := turns_setRow (w2.setRow (w.heap.size) G) (w.heap.size + 1) C
          rw [if_pos (by first | rfl | kernel_rfl | simp [Region.wanted, yielded])]
          refine wp_store_row 26 _ _ rfl (w.heap.size) G rfl rfl 26 #[.int .i64 0, .int .i64 0, .int .i64 0, .int .i64 0, .slice none 0 0] K.r2 SG.out OG.out.1.symm OG.out.2 ?_
          clear hH
          refine hK.out _ _ ⟨v1, v2⟩ (fun hH => ?_)
          clear hK K0
          try simp only [Act.put]
          refine wpAnyE_end (i := 3) (by kernel_rfl) (by simp only [List.getElem?_toArray, List.getElem?_cons_succ, List.getElem?_cons_zero]; rfl) (by kernel_rfl) (fun K0 hK => ?_)
          rw [if_pos (by first | rfl | kernel_rfl | simp [Region.wanted, yielded])]
          refine wp_store_row 31 _ _ rfl (w.heap.size + 1) C rfl rfl 31 #[.int .i64 0, .int .i64 0, .int .i64 0, .int .i64 0, .int .i64 0, .int .i64 0, .int .i64 0, .slice none 0 0, .int .i64 0] y SC.out OC.out.1.symm OC.out.2 ?_
          refine hK.out _ _ ⟨v1.turn t2 (by omega), v2.turn t2 (by omega)⟩ ?_
          clear hK K0
          try simp only [Act.put]
          clear hH t1 t2 y v1 v2
          obtain ⟨y2, y3, z1, z2, zb⟩ := K.fin (w' := (w2.setRow w.heap.size G).setRow (w.heap.size + 1) C) (.inl rfl)
          have hl1 := K.glen
          have hl2 := K.len
          clear K
          replace y2 := Lib.hid y2
          replace y3 := Lib.hid y3
          replace z1 := Lib.hid z1
          replace z2 := Lib.hid z2
          replace zb := Lib.hid zb
          go_wp2
          exact bodyPost_ret (v := .tuple #[.agg G, .agg C]) (results_two9 (Try.results8) _ _ w.heap.size (w.heap.size + 1) 26 31 G C _ _ rfl rfl y2.out y3.out Try.underlying26 rfl SG.out Try.underlying31 rfl SC.out) rfl ⟨G, C, gd, d, rfl, z1.out, z2.out, hl1, hl2, zb.out⟩

end Go.Proofs.Ythpccmckjmmicaa
