/- What the model's draw of a record leaves: a record of its own; the cursor is a right one (written by draw9.py); conditions: the group's numbers. -/
import Derived.Test.YtmooajppfjglaaaGreatSpecNewRec9
import Derived.Test.YtmooajppfjglaaaGreatDrawReg2
namespace Go.Proofs.YtmooajppfjglaaaGreat
open Go Go.RowKit

/-- The state of a draw over a group: the cursor, the group's variable, the answer's. -/
structure D9 (w wr : World) (g : Nat) (A : Option Addr) (n cap : Nat) (s l c sh : Int) (q o m cap' : Nat) (zs : List Int) : Prop where
  cur : Cur wr 132 .i64 g A n cap
  G : Box wr w.heap.size 26 #[.int .i64 s, .int .i64 l, .int .i64 c, .int .i64 sh, .slice (some ⟨q, o, none⟩) m cap']
  R : Box wr (w.heap.size + 1) 42 #[.int .i64 0, .int .i64 0, .int .i64 0, .int .i64 0, .int .i64 0, .int .i64 0, .int .i64 0, .slice none 0 0, .int .i64 0]
  row : Row wr wr.heap.size (some ⟨q, o, none⟩) m zs
  grw : w.grownBy wr (some g)
  gl : g < w.heap.size
  gq : g ≠ q
theorem D9.draw {w wr w' : World} {g : Nat} {A : Option Addr} {n cap : Nat} {s l c sh : Int} {q o m cap' : Nat} {zs : List Int} (h : D9 w wr g A n cap s l c sh q o m cap' zs) (hg : wr.grownBy w' (some g)) (hc : Cur w' 132 .i64 g A n cap) : D9 w w' g A n cap s l c sh q o m cap' zs := by
  have h1 := h.gl
  have hz := hg.size
  refine ⟨hc, h.G.kept hg (by intro e; injection e with e; omega), h.R.kept hg (by intro e; injection e with e; omega), ?_, grown_trans h.grw hg, h.gl, h.gq⟩
  refine ⟨h.row.1, fun hn => ?_⟩
  obtain ⟨b, o', hA, hb, hcc⟩ := h.row.2 hn
  cases hA
  exact ⟨_, _, rfl, Nat.lt_of_lt_of_le hb hg.size, fun i hi => (World.cell?_of_block (a := ⟨q, o + i, none⟩) (hg.block q hb (fun e => by injection e with e; exact h.gq e.symm))).trans (hcc i hi)⟩
theorem D9.later {w wr w' : World} {g : Nat} {A : Option Addr} {n cap : Nat} {s l c sh : Int} {q o m cap' : Nat} {zs : List Int} (h : D9 w wr g A n cap s l c sh q o m cap' zs) (hb : Below wr.heap.size wr w') : D9 w w' g A n cap s l c sh q o m cap' zs :=
  h.draw (grown_bel hb (some g)) (h.cur.kept (grown_bel hb none) (fun q hq => by cases hq))

theorem results_row {P : Program} {fn : Func} {x : Tmp} {ty : TypeId} (h : fn.results = #[.cell x ty]) (tmps : Array Value) (w : World) (g : Nat) (t : TypeId) (cs : Array Value) (d : TypeDesc)
    (hx : tmps.getD x undef = .pointer (some ⟨g, 0, none⟩)) (hg : Box w g t cs)
    (hu : P.underlying ty = some d) (hd : (match d with | .struct _ | .array _ _ => true | _ => false) = true) (hi : (P.info? ty).map (·.size) = some cs.size) :
    (results fn tmps).run P w = .ok (.agg cs) w := by
  have ex : tmps[x]?.getD undef = .pointer (some ⟨g, 0, none⟩) := by simpa using hx
  simp [results, h, ex, asAddr, run_loadVar_row w g t ty cs (0, 0) d hg hu hd hi]
/-- A record of one's own was drawn. -/
def DrawnR (g : Nat) (A : Option Addr) (n cap : Nat) (w : World) (e : Ending) (w' : World) : Prop :=
  ∃ (C : Array Value) (d : RecD), e = .returned (.agg C) ∧ LieCR d w' (Iv w.heap.size w'.heap.size) (.agg C) ∧ d.ps.length ≤ 20 ∧ Cur w' 132 .i64 g A n cap ∧ w.grownBy w' (some g)
theorem rowC_grow {w : World} {N : Nat} {ps : List (Int × Int)} {v : Value} (h : RowC ps w (fun b => N < b) v) : RowC ps w (Iv N w.heap.size) v := (keepsRow ps).sub (rowC_lt h) (fun b hb => ⟨by have := hb.1; omega, hb.2⟩)
/-- The record is laid into the variable of the answer. -/
theorem drawnR_put {w wr : World} {g : Nat} {A : Option Addr} {n cap : Nat} {s l c sh : Int} {q o m cap' : Nat} {zs : List Int} {d : RecD} {C : Array Value} {N : Nat} (h : D9 w wr g A n cap s l c sh q o m cap' zs) (hL : LieCR d wr (Iv N wr.heap.size) (.agg C)) (hN : w.heap.size + 1 < N) :
    Box (wr.setRow (w.heap.size + 1) C) (w.heap.size + 1) 42 C ∧ LieCR d (wr.setRow (w.heap.size + 1) C) (Iv w.heap.size (wr.setRow (w.heap.size + 1) C).heap.size) (.agg C) ∧ Cur (wr.setRow (w.heap.size + 1) C) 132 .i64 g A n cap ∧ w.grownBy (wr.setRow (w.heap.size + 1) C) (some g) := by
  have ht := turns_setRow wr (w.heap.size + 1) C
  have hg : wr.grownBy (wr.setRow (w.heap.size + 1) C) (some (w.heap.size + 1)) := ⟨ht.os, ht.tape, ht.output, ht.size, fun i hi hne => ht.block i hi (fun e => hne (by rw [e]))⟩
  have h1 := h.gl
  refine ⟨h.R.setRow C, (keepsCR d).sub ((keepsCR d).turn hL ht (iv_one (.inl (by omega)))) (fun b hb => ⟨by have := hb.1; omega, by have := hb.2; rw [size_setRow]; exact this⟩), h.cur.kept hg (fun q hq => by injection hq with hq; omega), ?_⟩
  exact ⟨ht.os.trans h.grw.os, ht.tape.trans h.grw.tape, ht.output.trans h.grw.output, Nat.le_trans h.grw.size ht.size, fun i hi hne => (ht.block i (Nat.lt_of_lt_of_le hi h.grw.size) (by omega)).trans (h.grw.block i hi hne)⟩

set_option maxRecDepth 100000 in
set_option maxHeartbeats 8000000 in
theorem l9Draw_any (g : Nat) (A : Option Addr) (n cap : Nat) (s l c sh : Int) (q o m cap' : Nat) (zs : List Int) (no : Int) (w : World) (hm : m ≤ maxLen) (hc1 : 1 ≤ c) (hc6 : c ≤ 6) (hs0 : 0 ≤ s) (hs9 : s ≤ 10) (hh1 : 1 ≤ sh) (hh4 : sh ≤ 4) (hc : Cur w 132 .i64 g A n cap) (hr : Row w w.heap.size (some ⟨q, o, none⟩) m zs) (hgq : g ≠ q) :
    Calls Tryz.prog 77 #[.pointer (some ⟨g, 0, none⟩), .agg #[.int .i64 s, .int .i64 l, .int .i64 c, .int .i64 sh, .slice (some ⟨q, o, none⟩) m cap'], .int .i64 no] w (DrawnR g A n cap w) := by
  have hgl := hc.lt
  have K : D9 w ((w.alloc (.cells #[.int .i64 s, .int .i64 l, .int .i64 c, .int .i64 sh, .slice (some ⟨q, o, none⟩) m cap'] 26)).alloc (.cells #[.int .i64 0, .int .i64 0, .int .i64 0, .int .i64 0, .int .i64 0, .int .i64 0, .int .i64 0, .slice none 0 0, .int .i64 0] 42)) g A n cap s l c sh q o m cap' zs := by
    have E := bel_trans (bel_alloc w (.cells #[.int .i64 s, .int .i64 l, .int .i64 c, .int .i64 sh, .slice (some ⟨q, o, none⟩) m cap'] 26)) (bel_alloc _ (.cells #[.int .i64 0, .int .i64 0, .int .i64 0, .int .i64 0, .int .i64 0, .int .i64 0, .int .i64 0, .slice none 0 0, .int .i64 0] 42))
    refine ⟨hc.kept (grown_bel E none) (fun q hq => by cases hq), (Box.new w 26 #[.int .i64 s, .int .i64 l, .int .i64 c, .int .i64 sh, .slice (some ⟨q, o, none⟩) m cap']).alloc _, ?_, (hr.below E (Nat.le_refl _)).more E.size, grown_bel E _, hgl, hgq⟩
    have := Box.new (w.alloc (.cells #[.int .i64 s, .int .i64 l, .int .i64 c, .int .i64 sh, .slice (some ⟨q, o, none⟩) m cap'] 26)) 42 #[.int .i64 0, .int .i64 0, .int .i64 0, .int .i64 0, .int .i64 0, .int .i64 0, .int .i64 0, .slice none 0 0, .int .i64 0]
    simp only [World.size_alloc] at this
    exact this
  clear hr hc
  have HM := Lib.hid hm
  clear hm
  go_enter Tryz.func77, Tryz.ntmps77
  go_upto_region 1 with fail
  generalize ((w.alloc _).alloc _ : World) = w0 at K ⊢
  obtain ⟨d0, d1, d2, d3, d4⟩ := K.G.five
  go_region_held3 (fun w' => w'.cell? ⟨w.heap.size, 0, none⟩ = some (.int .i64 s) ∧ w'.cell? ⟨w.heap.size, 2, none⟩ = some (.int .i64 c))
    (first | (with_reducible exact J1) | go_keep)
    (first | (go_at_call 58; refine (l1Below_any g A n cap c _ (by omega) ?_).mono ?_; exact K.cur; rintro e w1 ⟨k, ⟨hk0, hk1⟩, rfl, hc1, hg1⟩; have K1 := K.draw (grown_of_drew hg1) hc1; have J1 := And.intro (K1.G.cell 0) (K1.G.cell 2); have hw : IntKind.i64.wrap (s + k) = s + k := IntWalk.i64_in _ (by omega)))
  clear K J1 d0 d1 d2 d3 d4 hc1 hg1 hw
  generalize s + k = kk
  go_wp2_with fail
  refine (l1Below_any g A n cap 4 w1 (by omega) K1.cur).mono ?_
  rintro e w2 ⟨ct, ⟨h0, h1⟩, rfl, hc2, hg2⟩
  have K2 := K1.draw hg2 hc2
  clear K1 hc2 hg2
  have hw : IntKind.i64.wrap (1 + ct) = 1 + ct := IntWalk.i64_in _ (by omega)
  go_upto_region 3 with fail
  clear hw
  generalize 1 + ct = tt
  have S3 := Box.new w2 36 #[.int .i64 tt, .int .i64 kk]
  have hn := bel_alloc w2 (.cells #[.int .i64 tt, .int .i64 kk] 36)
  have K3 := K2.later hn
  have hS := K2.R.lt
  clear K2 hn h0 h1
  generalize (w2.alloc _ : World) = w3 at K3 S3 ⊢
  generalize w2.heap.size = S at S3 hS ⊢
  obtain ⟨d0, d1, d2, d3, d4⟩ := K3.G.five
  go_wp2_with fail
  refine (l1Below_any g A n cap sh w3 (by omega) K3.cur).mono ?_
  rintro e w4 ⟨x, ⟨_, _⟩, rfl, hc4, hg4⟩
  have K4 := K3.draw hg4 hc4
  have S4 := S3.kept hg4 (by intro e; injection e with e; have := K3.gl; omega)
  clear K3 S3 hc4 hg4 d0 d1 d2 d3 d4
  go_wp2_with fail
  refine (l1Below_any g A n cap 4 w4 (by omega) K4.cur).mono ?_
  rintro e w5 ⟨v, ⟨_, _⟩, rfl, hc5, hg5⟩
  have K5 := K4.draw hg5 hc5
  have S5 := S4.kept hg5 (by intro e; injection e with e; have := K4.gl; omega)
  clear K4 S4 hc5 hg5
  go_wp2_with fail
  refine (l1Once_any g A n cap 2 w5 (by omega) K5.cur).mono ?_
  rintro e w6 ⟨y, rfl, hc6, hg6⟩
  have K6 := K5.draw hg6 hc6
  have S6 := S5.kept hg6 (by intro e; injection e with e; have := K5.gl; omega)
  clear K5 S5 hc6 hg6
  have JR := Lib.hid (show (Tryz.prog.info? 42).map (·.size) = some 9 from by kernel_rfl)
  rcases y with _ | _
  case true =>
    obtain ⟨s0, s1⟩ := S6.two
    have hn := bel_alloc w6 (.cells #[] 127)
    have hsl : Slc (w6.alloc (.cells #[] 127)) (.slice (some ⟨w6.heap.size, 0, none⟩) 0 0) [] := .inr ⟨_, 0, 0, 0, rfl, ⟨rfl, fun h => absurd h (by omega)⟩⟩
    have K7 := K6.later hn
    clear S6 K6 hn
    go_wp2_with fail
    generalize (w6.alloc _ : World) = w7 at K7 hsl ⊢
    refine (specNewRow_is no 1 x kk tt kk v _ [] w7 (by simp) hsl).mono ?_
    rintro e w8 ⟨C, rfl, L, hb⟩
    have K8 := K7.later hb
    have hz := K7.R.lt
    clear K7 hb hsl s0 s1
    have hdl : ([] : List (Int × Int)).length ≤ 20 := by simp
    have IG := Lib.hid (oneC L.lie.at)
    have IS := Lib.hid (sizeC L.lie.at).2
    obtain ⟨B, L7, C7, G7⟩ := drawnR_put K8 L (by omega)
    replace L7 := Lib.hid L7
    replace C7 := Lib.hid C7
    replace G7 := Lib.hid G7
    replace B := Lib.hid B
    have X := K8.R
    clear K8 L
    go_wp2_with (refine wpList_store_row rfl 42 _ _ rfl (w.heap.size + 1) _ rfl rfl 42 #[.int .i64 0, .int .i64 0, .int .i64 0, .int .i64 0, .int .i64 0, .int .i64 0, .int .i64 0, .slice none 0 0, .int .i64 0] X IS.out IG.out.1.symm IG.out.2 ?_)
    exact bodyPost_ret (v := .agg C) (results_row (Tryz.results77) _ _ (w.heap.size + 1) 42 C _ rfl B.out Tryz.underlying42 rfl IS.out) rfl ⟨C, _, rfl, L7.out, hdl, C7.out, G7.out⟩
  case false =>
    go_upto_region 7 with fail
    refine wp_region_sink 12 (fun w' => Box w' w.heap.size 26 #[.int .i64 s, .int .i64 l, .int .i64 c, .int .i64 sh, .slice (some ⟨q, o, none⟩) m cap'] ∧ Box w' S 36 #[.int .i64 tt, .int .i64 kk]) (by kernel_rfl) ⟨K6.G, S6⟩ (fun hH => ?_)
    have hb := (Below.refl w6.heap.size w6).drew
    replace K6 := K6.later hb
    replace S6 := S6.later hb S6.lt
    clear hb
    generalize w6.drew = w7 at K6 S6 hH ⊢
    refine wpAnyE_takeS (i := 2) (v := .agg #[.int .i64 tt, .int .i64 kk]) (by simp only [List.getElem?_toArray, List.getElem?_cons_succ, List.getElem?_cons_zero]; rfl) (by kernel_rfl) (by kernel_rfl) (by kernel_rfl) (by exact fun _ _ _ h => h) (by kernel_rfl) ?ys2 hH ?_
    case ys2 => exact yields_box 36 _ rfl S rfl 36 #[.int .i64 tt, .int .i64 kk] (fun _ h => h.2) _ Tryz.underlying36 rfl (by kernel_rfl) (by first | rfl | simp [Region.wanted, yielded] | (simp [Region.wanted, yielded, Act.put] <;> omega))
    try simp only [Act.put, List.setIfInBounds_toArray, List.set_cons_zero, List.set_cons_succ]
    refine wpAnyE_takeS (i := 6) (v := .agg #[.int .i64 tt, .int .i64 kk]) (by simp only [List.getElem?_toArray, List.getElem?_cons_succ, List.getElem?_cons_zero]; rfl) (by kernel_rfl) (by kernel_rfl) (by kernel_rfl) (by exact fun _ _ _ h => h) (by kernel_rfl) ?ys6 hH ?_
    case ys6 => exact yields_box 36 _ rfl S rfl 36 #[.int .i64 tt, .int .i64 kk] (fun _ h => h.2) _ Tryz.underlying36 rfl (by kernel_rfl) (by first | rfl | simp [Region.wanted, yielded] | (simp [Region.wanted, yielded, Act.put] <;> omega))
    try simp only [Act.put, List.setIfInBounds_toArray, List.set_cons_zero, List.set_cons_succ]
    refine wpAnyE_takeS (i := 4) (v := .agg #[.int .i64 s, .int .i64 l, .int .i64 c, .int .i64 sh, .slice (some ⟨q, o, none⟩) m cap']) (by simp only [List.getElem?_toArray, List.getElem?_cons_succ, List.getElem?_cons_zero]; rfl) (by kernel_rfl) (by kernel_rfl) (by kernel_rfl) (by exact fun _ _ _ h => h) (by kernel_rfl) ?yg hH ?_
    case yg => exact yields_box 26 _ rfl (w.heap.size) rfl 26 #[.int .i64 s, .int .i64 l, .int .i64 c, .int .i64 sh, .slice (some ⟨q, o, none⟩) m cap'] (fun _ h => h.1) _ Tryz.underlying26 rfl (by kernel_rfl) (by first | rfl | simp [Region.wanted, yielded] | (simp [Region.wanted, yielded, Act.put] <;> omega))
    try simp only [Act.put, List.setIfInBounds_toArray, List.set_cons_zero, List.set_cons_succ]
    refine wpAnyE_pure (i := 0) (v := ?vp0) (by simp only [List.getElem?_toArray, List.getElem?_cons_zero]; rfl) (by kernel_rfl) (by kernel_rfl) (by kernel_rfl) (by exact fun _ _ _ h => h) (by kernel_rfl) (Or.inl ⟨by rfl, ?yp0⟩) hH ?rp0
    case yp0 => (intro w' hSw; (try dsimp only at hSw); go_simp; try with_reducible rfl)
    try simp only [Act.put, List.setIfInBounds_toArray, List.set_cons_zero, List.set_cons_succ]
    refine wpAnyE_pure (i := 1) (v := ?vp1) (by simp only [List.getElem?_toArray, List.getElem?_cons_succ, List.getElem?_cons_zero]; rfl) (by kernel_rfl) (by kernel_rfl) (by kernel_rfl) (by exact fun _ _ _ h => h) (by kernel_rfl) (Or.inl ⟨by rfl, ?yp1⟩) hH ?rp1
    case yp1 => (intro w' hSw; (try dsimp only at hSw); go_simp; try with_reducible rfl)
    try simp only [Act.put, List.setIfInBounds_toArray, List.set_cons_zero, List.set_cons_succ]
    refine wpAnyE_pure (i := 3) (v := ?vp3) (by simp only [List.getElem?_toArray, List.getElem?_cons_succ, List.getElem?_cons_zero]; rfl) (by kernel_rfl) (by kernel_rfl) (by kernel_rfl) (by exact fun _ _ _ h => h) (by kernel_rfl) (Or.inl ⟨by rfl, ?yp3⟩) hH ?rp3
    case yp3 => (intro w' hSw; (try dsimp only at hSw); go_simp; try with_reducible rfl)
    try simp only [Act.put, List.setIfInBounds_toArray, List.set_cons_zero, List.set_cons_succ]
    refine wpAnyE_pure (i := 5) (v := ?vp5) (by simp only [List.getElem?_toArray, List.getElem?_cons_succ, List.getElem?_cons_zero]; rfl) (by kernel_rfl) (by kernel_rfl) (by kernel_rfl) (by exact fun _ _ _ h => h) (by kernel_rfl) (Or.inl ⟨by rfl, ?yp5⟩) hH ?rp5
    case yp5 => (intro w' hSw; (try dsimp only at hSw); go_simp; try with_reducible rfl)
    try simp only [Act.put, List.setIfInBounds_toArray, List.set_cons_zero, List.set_cons_succ]
    refine wpAnyE_pure (i := 7) (v := ?vp7) (by simp only [List.getElem?_toArray, List.getElem?_cons_succ, List.getElem?_cons_zero]; rfl) (by kernel_rfl) (by kernel_rfl) (by kernel_rfl) (by exact fun _ _ _ h => h) (by kernel_rfl) (Or.inl ⟨by rfl, ?yp7⟩) hH ?rp7
    case yp7 => (intro w' hSw; (try dsimp only at hSw); go_simp; try with_reducible rfl)
    try simp only [Act.put, List.setIfInBounds_toArray, List.set_cons_zero, List.set_cons_succ]
    refine wpAnyE_one (i := 8) (by kernel_rfl) (by simp only [List.getElem?_toArray, List.getElem?_cons_succ, List.getElem?_cons_zero]; rfl) (fun K hK => ?_)
    go_simp
    refine (l4Ready_is x tt kk v w7).mono ?_
    rintro e w8 ⟨rfl, hb⟩
    replace K6 := K6.later hb
    replace S6 := S6.later hb S6.lt
    clear hb
    clear hH
    refine hK.out _ _ ⟨K6.G, S6⟩ (fun hH => ?_)
    clear hK K
    try simp only [Act.put, List.setIfInBounds_toArray, List.set_cons_zero, List.set_cons_succ]
    refine wpAnyE_one (i := 9) (by kernel_rfl) (by simp only [List.getElem?_toArray, List.getElem?_cons_succ, List.getElem?_cons_zero]; rfl) (fun K hK => ?_)
    go_simp
    refine (l4Cert_any s l c sh (some ⟨q, o, none⟩) m cap' zs 1 x tt kk v w8 HM.out K6.row).mono ?_
    rintro e w9 ⟨p, pc, ps, rfl, hO, hpl, hb⟩
    replace K6 := K6.later hb
    replace S6 := S6.later hb S6.lt
    have hsl := (rowC_of hO).own
    have hz := K6.R.lt
    clear hb hO
    clear hH
    refine hK.out _ _ ⟨K6.G, S6⟩ (fun hH => ?_)
    clear hK K
    try simp only [Act.put, List.setIfInBounds_toArray, List.set_cons_zero, List.set_cons_succ]
    refine wpAnyE_one (i := 10) (by kernel_rfl) (by simp only [List.getElem?_toArray, List.getElem?_cons_succ, List.getElem?_cons_zero]; rfl) (fun K hK => ?_)
    go_simp
    obtain ⟨_, _, _, _, _, hslc⟩ := OwnP.at hsl
    refine (specNewRow_is no 2 x 0 tt kk v _ ps w9 (by omega) hslc).mono ?_
    rintro e w10 ⟨C, rfl, L, hb⟩
    replace K6 := K6.later hb
    replace S6 := S6.later hb S6.lt
    clear hb hsl hslc
    clear hH
    refine hK.out _ _ ⟨K6.G, S6⟩ (fun hH => ?_)
    clear hK K
    try simp only [Act.put, List.setIfInBounds_toArray, List.set_cons_zero, List.set_cons_succ]
    have IG := Lib.hid (oneC L.lie.at)
    have IS := Lib.hid (sizeC L.lie.at).2
    obtain ⟨B, L7, C7, G7⟩ := drawnR_put K6 L (by omega)
    have ht := turns_setRow w10 (w.heap.size + 1) C
    refine wpAnyE_end (i := 11) (by kernel_rfl) (by simp only [List.getElem?_toArray, List.getElem?_cons_succ, List.getElem?_cons_zero]; rfl) (by kernel_rfl) (fun K hK => ?_)
    rw [if_pos (by first | rfl | kernel_rfl | simp [Region.wanted, yielded])]
    refine wp_store_row 42 _ _ rfl (w.heap.size + 1) C rfl rfl 42 #[.int .i64 0, .int .i64 0, .int .i64 0, .int .i64 0, .int .i64 0, .int .i64 0, .int .i64 0, .slice none 0 0, .int .i64 0] K6.R IS.out IG.out.1.symm IG.out.2 ?_
    refine hK.out _ _ ⟨K6.G.turn ht (by omega), S6.turn ht (by omega)⟩ ?_
    clear hK K
    try simp only [Act.put]
    clear hH K6 S6 L ht
    replace L7 := Lib.hid L7
    replace C7 := Lib.hid C7
    replace G7 := Lib.hid G7
    replace B := Lib.hid B
    have hdl := hpl
    go_wp2_with fail
    exact bodyPost_ret (v := .agg C) (results_row (Tryz.results77) _ _ (w.heap.size + 1) 42 C _ rfl B.out Tryz.underlying42 rfl IS.out) rfl ⟨C, _, rfl, L7.out, hdl, C7.out, G7.out⟩

end Go.Proofs.YtmooajppfjglaaaGreat
