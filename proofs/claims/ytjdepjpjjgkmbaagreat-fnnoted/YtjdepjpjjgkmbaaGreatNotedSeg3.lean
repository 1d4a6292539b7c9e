/- Both Replayed as a law meets them: over a copy of a group and a list of records, read; conditions: the sizes. -/
import Derived.Test.YtjdepjpjjgkmbaaGreatNotedSeg2
import Derived.Test.YtjdepjpjjgkmbaaGreatNotedSeg0
import Derived.OrdersIn
import Derived.RangeFuncNested
import Derived.RangeFuncBound
import Derived.RangeFuncCalls
import Derived.RangeFuncLeaves
import Derived.Shelf.Abstract
import Derived.Shelf.RegionOpen
import Derived.WalkKit
import Derived.OwnWalkIn
import Derived.TacticsInMore
import Derived.LoopNIn
import Derived.LoopIn
import Derived.Sort.CutIn
import Derived.Test.YtjdepjpjjgkmbaaGreatNotedSeg1

/- What the model's draw of a list of records leaves: a row of one's own, each record with its list in a block known whole; the cursor is a right one. -/
namespace Go.Proofs.YtjdepjpjjgkmbaaGreat
open Go Go.RowKit Go.Deep

/-- A row of k records of one's own behind base, the records' lists each in blocks of its own, known whole. -/
structure RowR (base : Nat) (wr : World) (k g cap : Nat) (ms : List (RecD × Value)) (Fs : Nat → Nat → Prop) : Prop where
  own : wr.ownsRow base 46 9 (.slice (some ⟨g, 0, none⟩) k cap) k (flatC ms)
  cert : ∀ i (h : i < ms.length), RowC (ms[i]).1.ps wr (Fs i) (ms[i]).2
  len : ∀ i (h : i < ms.length), (ms[i]).1.ps.length ≤ 20
  far : ∀ i, i < k → ∀ b, Fs i b → base ≤ b ∧ b < wr.heap.size ∧ b ≠ g
  two : ∀ i j, i < k → j < k → i ≠ j → ∀ b, Fs i b → ¬ Fs j b
theorem RowR.gl {base : Nat} {wr : World} {k g cap : Nat} {ms : List (RecD × Value)} {Fs : Nat → Nat → Prop} (h : RowR base wr k g cap ms Fs) : base ≤ g ∧ g < wr.heap.size := h.own.lt g rfl
theorem RowR.count {base : Nat} {wr : World} {k g cap : Nat} {ms : List (RecD × Value)} {Fs : Nat → Nat → Prop} (h : RowR base wr k g cap ms Fs) : ms.length = k := by
  have h1 := h.own.1
  rw [flatC_len] at h1
  omega
theorem RowR.turn {base : Nat} {wr w' : World} {k g cap : Nat} {ms : List (RecD × Value)} {Fs : Nat → Nat → Prop} {T : Nat → Prop} (h : RowR base wr k g cap ms Fs) (ht : Turns T wr w') (hg : ¬ T g) (hF : ∀ i, i < k → ∀ b, Fs i b → ¬ T b) : RowR base w' k g cap ms Fs := by
  obtain ⟨g1, g2⟩ := h.gl
  refine ⟨⟨h.own.1, ?_⟩, fun i hi => (keepsRow _).turn (h.cert i hi) ht (hF i (by rw [h.count] at hi; exact hi)), h.len, fun i hi b hb => ⟨(h.far i hi b hb).1, Nat.lt_of_lt_of_le (h.far i hi b hb).2.1 ht.size, (h.far i hi b hb).2.2⟩, h.two⟩
  rcases h.own.2 with ⟨e, _⟩ | ⟨g', cap', cur, e, hb, hgg, h1, h2, h3, h4⟩
  · cases e
  · injection e with e1 _ e3
    injection e1 with e1
    injection e1 with e1 _ _
    subst e1 e3
    exact .inr ⟨g, cap, cur, rfl, hb, (ht.block g g2 hg).trans hgg, h1, h2, h3, h4⟩
theorem RowR.later {base : Nat} {wr w' : World} {k g cap : Nat} {ms : List (RecD × Value)} {Fs : Nat → Nat → Prop} (h : RowR base wr k g cap ms Fs) (hb : Below wr.heap.size wr w') : RowR base w' k g cap ms Fs := h.turn (T := fun _ => False) (Turns.of_below hb) (fun h => h) (fun _ _ _ _ h => h)
/-- One more is laid behind them. -/
theorem RowR.push {base : Nat} {w2 w3 : World} {k g cap g' cap' : Nat} {ms : List (RecD × Value)} {Fs : Nat → Nat → Prop} {d : RecD} {u : Value} {F : Nat → Prop} (h : RowR base w2 k g cap ms Fs) (hu : RowC d.ps w2 F u) (hl : d.ps.length ≤ 20) (hF : ∀ b, F b → base ≤ b ∧ b < w2.heap.size ∧ b ≠ g ∧ ∀ i, i < k → ¬ Fs i b)
    (hown : w3.ownsRow base 46 9 (.slice (some ⟨g', 0, none⟩) (k + 1) cap') (k + 1) (flatC (ms ++ [(d, u)]))) (hg : w2.grownBy w3 (some g)) (hlg : g' = g ∨ w2.heap.size ≤ g') :
    RowR base w3 (k + 1) g' cap' (ms ++ [(d, u)]) (fun i => if i = k then F else Fs i) := by
  have hlen := h.count
  have hs3 := hg.size
  have ht := Turns.of_grown hg
  refine ⟨hown, fun i hi => ?_, fun i hi => ?_, fun i hi b hbi => ?_, fun i j hi hj hij b hbi hbj => ?_⟩
  · rw [List.length_append, hlen] at hi
    by_cases e : i = k
    · subst e
      simp only [if_true]
      rw [List.getElem_append_right (by omega)]
      simp only [hlen, Nat.sub_self, List.getElem_cons_zero]
      exact (keepsRow _).turn hu ht (fun b hb e => (hF b hb).2.2.1 e)
    · have hik : i < k := by simp at hi; omega
      simp only [if_neg e]
      rw [List.getElem_append_left (by omega)]
      exact (keepsRow _).turn (h.cert i (by omega)) ht (fun b hb e => (h.far i hik b hb).2.2 e)
  · rw [List.length_append, hlen] at hi
    by_cases e : i = k
    · subst e
      rw [List.getElem_append_right (by omega)]
      simp only [hlen, Nat.sub_self, List.getElem_cons_zero]
      exact hl
    · have hik : i < k := by simp at hi; omega
      rw [List.getElem_append_left (by omega)]
      exact h.len i (by omega)
  · by_cases e : i = k
    · simp only [if_pos e] at hbi
      have h1 := hF b hbi
      exact ⟨h1.1, by omega, by omega⟩
    · simp only [if_neg e] at hbi
      have := h.far i (by omega) b hbi
      exact ⟨this.1, by omega, by omega⟩
  · by_cases e : i = k
    · by_cases e2 : j = k
      · omega
      · simp only [if_pos e] at hbi
        simp only [if_neg e2] at hbj
        exact (hF b hbi).2.2.2 j (by omega) hbj
    · simp only [if_neg e] at hbi
      by_cases e2 : j = k
      · simp only [if_pos e2] at hbj
        exact (hF b hbj).2.2.2 i (by omega) hbi
      · simp only [if_neg e2] at hbj
        exact h.two i j (by omega) (by omega) hij b hbi hbj
/-- A list of records was drawn. -/
def DrawnL (most : Nat) (g : Nat) (A : Option Addr) (n cap : Nat) (w : World) (e : Ending) (w' : World) : Prop :=
  ∃ (k gl lc : Nat) (ms : List (RecD × Value)) (Fs : Nat → Nat → Prop), e = .returned (.slice (some ⟨gl, 0, none⟩) k lc) ∧ RowR w.heap.size w' k gl lc ms Fs ∧ k < most ∧ Cur w' 169 .i64 g A n cap ∧ w.grownBy w' (some g)

set_option maxRecDepth 100000 in
set_option maxHeartbeats 8000000 in
theorem l9DrawList_any (g : Nat) (A : Option Addr) (n cap : Nat) (s l c sh : Int) (q o m cap' : Nat) (zs : List Int) (w : World) (hm : m ≤ maxLen) (hc1 : 1 ≤ c) (hc6 : c ≤ 6) (hs0 : 0 ≤ s) (hs9 : s ≤ 10) (hh1 : 1 ≤ sh) (hh4 : sh ≤ 4) (hc : Cur w 169 .i64 g A n cap) (hr : Row w w.heap.size (some ⟨q, o, none⟩) m zs) (hgq : g ≠ q) (hqw : q < w.heap.size) :
    Calls Tryz.prog 176 #[.pointer (some ⟨g, 0, none⟩), .agg #[.int .i64 s, .int .i64 l, .int .i64 c, .int .i64 sh, .slice (some ⟨q, o, none⟩) m cap'], .int .i64 9] w (DrawnL 9 g A n cap w) := by
  obtain ⟨j0, hj0, hy0, hy1, hy2⟩ := info_parts Tryz.infoRecI
  have hgl := hc.lt
  have hb0 := bel_trans (bel_alloc w (.cells #[.int .i64 s, .int .i64 l, .int .i64 c, .int .i64 sh, .slice (some ⟨q, o, none⟩) m cap'] 26)) (bel_alloc _ (.cells #[] 46))
  have B := (Box.new w 26 #[.int .i64 s, .int .i64 l, .int .i64 c, .int .i64 sh, .slice (some ⟨q, o, none⟩) m cap']).alloc (.cells #[] 46)
  have O0 := own_new (w.alloc (.cells #[.int .i64 s, .int .i64 l, .int .i64 c, .int .i64 sh, .slice (some ⟨q, o, none⟩) m cap'] 26)) 46 9
  simp only [World.size_alloc] at O0
  have R0 : RowR (w.heap.size + 1) ((w.alloc (.cells #[.int .i64 s, .int .i64 l, .int .i64 c, .int .i64 sh, .slice (some ⟨q, o, none⟩) m cap'] 26)).alloc (.cells #[] 46)) 0 (w.heap.size + 1) 0 [] (fun _ _ => False) := ⟨O0, fun i h => absurd h (by simp), fun i h => absurd h (by simp), fun i hi => absurd hi (by omega), fun i j hi => absurd hi (by omega)⟩
  have C0 := hc.kept (grown_bel hb0 none) (fun q hq => by cases hq)
  have G0 := grown_bel hb0 (some g)
  have HR := Lib.hid hr
  have HM := Lib.hid hm
  clear hr hm O0 hc
  go_enter Tryz.func176, Tryz.ntmps176
  go_upto_region 2 with fail
  generalize ((w.alloc _).alloc _ : World) = w0 at hb0 B R0 C0 G0 ⊢
  go_wp2_with fail
  refine (l1Below_any g A n cap 9 _ (by omega) C0).mono ?_
  rintro e w1 ⟨r, ⟨hr0, hr9⟩, rfl, C1, hg1⟩
  have t1 := Turns.of_grown hg1
  have R1 := R0.turn t1 (by omega) (fun i hi => absurd hi (by omega))
  have B1 := B.turn t1 (by omega)
  have G1 := grown_trans G0 hg1
  obtain ⟨x, rfl⟩ : ∃ x : Nat, r = (x : Int) := ⟨r.toNat, by omega⟩
  clear R0 B G0 C0 hg1 t1
  go_wp2_with fail
  go_loopw [7, 8] (fun lv nv wr => ∃ (k gl lc y : Nat) (ms : List (RecD × Value)) (Fs : Nat → Nat → Prop), k + y < 9 ∧ lv = .slice (some ⟨gl, 0, none⟩) k lc ∧ nv = .int .i64 y ∧ RowR (w.heap.size + 1) wr k gl lc ms Fs ∧ Cur wr 169 .i64 g A n cap ∧ w.grownBy wr (some g) ∧ Box wr w.heap.size 26 #[.int .i64 s, .int .i64 l, .int .i64 c, .int .i64 sh, .slice (some ⟨q, o, none⟩) m cap']) (fun _ nv _ => (intOf nv).toNat)
  case atStart => exact ⟨0, _, 0, x, [], _, by omega, rfl, rfl, R1, C1, G1, B1⟩
  case round =>
    clear R1 C1 G1 B1
    obtain ⟨k, gl, lc, y, ms, Fs, hky, rfl, rfl, R, CC, GG, BB⟩ := hrel
    by_cases hy : 0 < y
    · have hyI : (0 : Int) < (y : Int) := by omega
      have hyw : IntKind.i64.wrap ((y : Int) - 1) = (y : Int) - 1 := IntWalk.i64_in _ (by omega)
      have hkw : IntKind.i64.wrap ((k : Int) + 1) = (k : Int) + 1 := IntWalk.i64_in _ (by omega)
      have hsz := GG.size
      have RW : Row wr wr.heap.size (some ⟨q, o, none⟩) m zs := by
        refine ⟨HR.out.1, fun hn => ?_⟩
        obtain ⟨b, o', e, hb, hx⟩ := HR.out.2 hn
        have e' := e
        injection e' with e1
        injection e1 with e1 e2 _
        subst e1 e2
        exact ⟨q, o, rfl, by omega, fun i hi => (GG.cell_far ⟨q, o + i, none⟩ hqw (fun e => by injection e with e; exact hgq e.symm)).trans (hx i hi)⟩
      have HRW := Lib.hid RW
      clear RW
      go_wp2_with (refine wpList_load_box 26 _ rfl w.heap.size rfl 26 #[.int .i64 s, .int .i64 l, .int .i64 c, .int .i64 sh, .slice (some ⟨q, o, none⟩) m cap'] BB _ Tryz.underlying26 rfl (by kernel_rfl) (by first | rfl | simp [Region.wanted, yielded] | (simp [Region.wanted, yielded, Act.put] <;> omega)) ?_)
      refine (l9Draw_any g A n cap s l c sh q o m cap' zs ((k : Int) + 1) wr HM.out hc1 hc6 hs0 hs9 hh1 hh4 CC HRW.out hgq).mono ?_
      rintro e w2 ⟨C, d, rfl, hL, hdl, C2, hg2⟩
      have hgb := R.gl
      have t2 := Turns.of_grown hg2
      have hRF : ∀ i, i < k → ∀ b, Fs i b → b < wr.heap.size := fun i hi b hb => (R.far i hi b hb).2.1
      have hRL : ∀ i, i < k → ∀ b, Fs i b → w.heap.size + 1 ≤ b := fun i hi b hb => (R.far i hi b hb).1
      have R2 := R.turn t2 (by omega) (fun i hi b hb e => by have := hRL i hi b hb; have e : b = g := e; omega)
      have B2 := BB.turn t2 (by omega)
      have G2 := grown_trans GG hg2
      have hs2 := hg2.size
      obtain ⟨u, eC, gq, cq, hFq, eu, hownC⟩ := hL
      injection eC with eC
      subst eu eC
      have hu : RowC d.ps w2 (Iv wr.heap.size w2.heap.size) (.slice (some ⟨gq, 0, none⟩) d.ps.length cq) := ⟨gq, cq, hFq, rfl, hownC⟩
      unfold RecD.cells
      have hb3 := bel_alloc w2 (.cells #[.int .i64 d.r1, .int .i64 d.r2, .int .i64 d.r3, .int .i64 d.r4, .int .i64 d.r5, .int .i64 d.r6, .int .i64 d.r7, .slice (some ⟨gq, 0, none⟩) d.ps.length cq, .int .i64 d.r8] 46)
      have Q := Box.new w2 46 #[.int .i64 d.r1, .int .i64 d.r2, .int .i64 d.r3, .int .i64 d.r4, .int .i64 d.r5, .int .i64 d.r6, .int .i64 d.r7, .slice (some ⟨gq, 0, none⟩) d.ps.length cq, .int .i64 d.r8]
      have R3 := R2.later hb3
      have C3 := C2.kept (grown_bel hb3 none) (fun q hq => by cases hq)
      have G3 := grown_trans G2 (grown_bel hb3 (some g))
      have B3 := B2.later hb3 B2.lt
      have hu3 := (keepsRow d.ps).later hu hb3
      have hs3 := hb3.size
      have OWN := Lib.hid R3.own
      have hflat : flatC [(d, .slice (some ⟨gq, 0, none⟩) d.ps.length cq)] = (#[.int .i64 d.r1, .int .i64 d.r2, .int .i64 d.r3, .int .i64 d.r4, .int .i64 d.r5, .int .i64 d.r6, .int .i64 d.r7, .slice (some ⟨gq, 0, none⟩) d.ps.length cq, .int .i64 d.r8] : Array Value).toList := rfl
      have NEWS := Lib.hid (show ∀ j x, (flatC [(d, .slice (some ⟨gq, 0, none⟩) d.ps.length cq)])[j]? = some x → (w2.alloc (.cells #[.int .i64 d.r1, .int .i64 d.r2, .int .i64 d.r3, .int .i64 d.r4, .int .i64 d.r5, .int .i64 d.r6, .int .i64 d.r7, .slice (some ⟨gq, 0, none⟩) d.ps.length cq, .int .i64 d.r8] 46)).cell? ((⟨w2.heap.size, 0, none⟩ : Addr).add j) = some x from fun j x hj => by
        rw [hflat] at hj
        rw [show (⟨w2.heap.size, 0, none⟩ : Addr).add j = ⟨w2.heap.size, j, none⟩ by unfold Addr.add; split <;> simp_all]
        rw [Q.cell j]
        simpa using hj)
      have ONE := Lib.hid (show ∀ x ∈ flatC [(d, .slice (some ⟨gq, 0, none⟩) d.ps.length cq)], x.oneCell' = true from flatC_one (fun p hp => by rw [List.mem_singleton.1 hp]; rfl))
      have HW := Lib.hid (show w.heap.size + 1 ≤ (w2.alloc (.cells #[.int .i64 d.r1, .int .i64 d.r2, .int .i64 d.r3, .int .i64 d.r4, .int .i64 d.r5, .int .i64 d.r6, .int .i64 d.r7, .slice (some ⟨gq, 0, none⟩) d.ps.length cq, .int .i64 d.r8] 46)).heap.size by omega)
      clear hflat hownC hu R R2 CC GG BB C2 G2 B2 hg2 t2 Q
      go_wp2_with (at_builtin; refine wpList_append_lies _ rfl _ _ _ rfl (w.heap.size + 1) 46 j0 _ 9 88 Tryz.underlying27 hj0 hy0 hy1 hy2 rfl (by omega) (.slice (some ⟨gl, 0, none⟩) k lc) k (flatC ms) rfl OWN.out ⟨w2.heap.size, 0, none⟩ 1 1 (flatC [(d, .slice (some ⟨gq, 0, none⟩) d.ps.length cq)]) rfl rfl NEWS.out ONE.out (by omega) (by unfold maxLen; omega) (by omega) HW.out _ rfl ?_; intro g' cap2 w4 hown4 hgrow4 hlie hlg4)
      rw [← flatC_app] at hown4
      replace hgrow4 : World.grownBy _ w4 (some gl) := hgrow4
      have hlie2 : g' = gl ∨ (w2.alloc (.cells #[.int .i64 d.r1, .int .i64 d.r2, .int .i64 d.r3, .int .i64 d.r4, .int .i64 d.r5, .int .i64 d.r6, .int .i64 d.r7, .slice (some ⟨gq, 0, none⟩) d.ps.length cq, .int .i64 d.r8] 46)).heap.size ≤ g' := by
        rcases hlie with h | h
        · injection h with h
          exact .inl h.symm
        · exact .inr (by rw [h]; exact Nat.le_refl _)
      have R4 := Lib.hid (R3.push hu3 hdl (fun b hb => by
        have h1 := hb.1
        have h2 := hb.2
        exact ⟨by omega, by omega, by omega, fun i hi hf => by have := hRF i hi b hf; omega⟩) hown4 hgrow4 hlie2)
      have C4 := C3.kept hgrow4 (fun q hq => by injection hq with hq; omega)
      have G4 : w.grownBy w4 (some g) := ⟨hgrow4.os.trans G3.os, hgrow4.tape.trans G3.tape, hgrow4.output.trans G3.output, Nat.le_trans G3.size hgrow4.size, fun i hi hne => (hgrow4.block i (Nat.lt_of_lt_of_le hi G3.size) (fun e => by injection e with e; omega)).trans (G3.block i hi hne)⟩
      have B4 := B3.kept hgrow4 (by intro e; injection e with e; omega)
      clear hown4 hgrow4 hlie hlie2 hlg4 R3 C3 G3 B3 hu3 OWN NEWS ONE HW
      go_roundw
      case rel => exact ⟨k + 1, g', cap2, y - 1, _, _, by omega, by go_num, by congr 1; omega, R4.out, C4, G4, B4⟩
      case measure => simp [intOf]; omega
    · have hy0' : y = 0 := by omega
      subst hy0'
      have HRL := Lib.hid (show RowR w.heap.size wr k gl lc ms Fs from ⟨ownLow R.own (by omega), R.cert, R.len, fun i hi b hb => ⟨by have := (R.far i hi b hb).1; omega, (R.far i hi b hb).2⟩, R.two⟩)
      clear R
      go_wp2
      go_ret
      exact ⟨k, gl, lc, ms, Fs, rfl, HRL.out, by omega, CC, GG⟩
end Go.Proofs.YtjdepjpjjgkmbaaGreat

/- What the model's bending of a record leaves: a record of its own, with another number or a seal more; conditions: the record is one's own. -/
namespace Go.Proofs.YtjdepjpjjgkmbaaGreat
open Go Go.RowKit

/-- The state of a bending: the cursor, the record's variable, the answer's. -/
structure B9 (w wr : World) (g : Nat) (A : Option Addr) (n cap : Nat) (F : Nat → Prop) (d : RecD) (u : Value) : Prop where
  cur : Cur wr 169 .i64 g A n cap
  vr : Box wr w.heap.size 46 (d.cells u)
  rs : Box wr (w.heap.size + 1) 46 #[.int .i64 0, .int .i64 0, .int .i64 0, .int .i64 0, .int .i64 0, .int .i64 0, .int .i64 0, .slice none 0 0, .int .i64 0]
  own : RowC d.ps wr (fun b => F b ∨ w.heap.size + 1 < b) u
  len : d.ps.length ≤ 21
  trn : Turns (fun b => b = g ∨ F b) w wr
  gl : g < w.heap.size
  hF : ∀ b, F b → g < b ∧ b < w.heap.size
theorem B9.draw {w wr w' : World} {g : Nat} {A : Option Addr} {n cap : Nat} {F : Nat → Prop} {d : RecD} {u : Value} (h : B9 w wr g A n cap F d u) (hg : wr.grownBy w' (some g)) (hc : Cur w' 169 .i64 g A n cap) : B9 w w' g A n cap F d u := by
  have h1 := h.gl
  have ht := Turns.of_grown hg
  exact ⟨hc, h.vr.turn ht (by omega), h.rs.turn ht (by omega), (keepsRow d.ps).turn h.own ht (fun b hb e => by rcases hb with hb | hb; exact absurd (h.hF b hb).1 (by omega); omega), h.len, h.trn.trans (ht.sub fun i _ e => .inl e), h.gl, h.hF⟩
theorem B9.later {w wr w' : World} {g : Nat} {A : Option Addr} {n cap : Nat} {F : Nat → Prop} {d : RecD} {u : Value} (h : B9 w wr g A n cap F d u) (hb : Below wr.heap.size wr w') : B9 w w' g A n cap F d u :=
  h.draw (grown_bel hb (some g)) (h.cur.kept (grown_bel hb none) (fun q hq => by cases hq))
theorem grown_setCell (w : World) (g o : Nat) (u : Value) : w.grownBy (w.setCell ⟨g, o, none⟩ u) (some g) :=
  ⟨rfl, rfl, rfl, by rw [size_set]; exact Nat.le_refl _, fun i _ hne => Below.heap_setCell w ⟨g, o, none⟩ u i (fun e => hne (by rw [e]))⟩
/-- A number of the record's variable is written. -/
theorem B9.set {w wr : World} {g : Nat} {A : Option Addr} {n cap : Nat} {F : Nat → Prop} {d d' : RecD} {u : Value} (h : B9 w wr g A n cap F d u) (i : Nat) (x : Value) (hd : (d.cells u).setIfInBounds i x = d'.cells u) (hp : d'.ps = d.ps) : B9 w (wr.setCell ⟨w.heap.size, i, none⟩ x) g A n cap F d' u := by
  have h1 := h.gl
  have ht := turns_setCell wr w.heap.size i x
  refine ⟨h.cur.kept (grown_setCell wr w.heap.size i x) (fun q hq => by injection hq with hq; omega), hd ▸ h.vr.set i x, h.rs.turn ht (by omega), ?_, by rw [hp]; exact h.len, ?_, h.gl, h.hF⟩
  · rw [hp]
    exact (keepsRow d.ps).turn h.own ht (fun b hb e => by rcases hb with hb | hb; exact absurd (h.hF b hb).2 (by omega); omega)
  · exact ⟨ht.os.trans h.trn.os, ht.tape.trans h.trn.tape, ht.output.trans h.trn.output, Nat.le_trans h.trn.size ht.size, fun i hi hne => (ht.block i (Nat.lt_of_lt_of_le hi h.trn.size) (by omega)).trans (h.trn.block i hi hne)⟩
/-- A list that was appended to is laid into the record's variable. -/
theorem B9.push {w wr w2 : World} {g : Nat} {A : Option Addr} {n cap : Nat} {F : Nat → Prop} {d : RecD} {gq cq : Nat} {ob : Obj} {z0 z1 : Int} {gg cap2 : Nat} (h : B9 w wr g A n cap F d (.slice (some ⟨gq, 0, none⟩) d.ps.length cq)) (hl : d.ps.length ≤ 20) (hgq : F gq ∨ w.heap.size + 1 < gq)
    (hown : w2.ownsRow 0 136 2 (.slice (some ⟨gg, 0, none⟩) (d.ps.length + 1) cap2) (d.ps.length + 1) (flatP d.ps ++ [.int .i64 z0, .int .i64 z1])) (hg : (wr.alloc ob).grownBy w2 (some gq)) (hat : (some gq = some gg ∨ gg = wr.heap.size + 1)) :
    B9 w (w2.setCell ⟨w.heap.size, 7, none⟩ (.slice (some ⟨gg, 0, none⟩) (d.ps.length + 1) cap2)) g A n cap F ⟨d.r1, d.r2, d.r3, d.r4, d.r5, d.r6, d.r7, d.ps ++ [(z0, z1)], d.r8⟩ (.slice (some ⟨gg, 0, none⟩) (d.ps.length + 1) cap2) := by
  have h1 := h.gl
  have hR := h.rs.lt
  have hgqs : gq ≠ w.heap.size ∧ gq ≠ w.heap.size + 1 ∧ g < gq := by
    rcases hgq with hx | hx
    · have := h.hF gq hx; omega
    · omega
  have hbl := bel_alloc wr ob
  have ht0 := (Turns.of_below (T := fun _ => False) hbl)
  have ht1 := Turns.of_grown hg
  have ht := turns_setCell w2 w.heap.size 7 (.slice (some ⟨gg, 0, none⟩) (d.ps.length + 1) cap2)
  have hc1 := (h.cur.kept (grown_bel hbl none) (fun q hq => by cases hq))
  have hc2 : Cur w2 169 .i64 g A n cap := hc1.kept hg (fun q hq => by injection hq with hq; omega)
  have v2 := (h.vr.turn ht0 (fun h => h)).turn ht1 (Ne.symm hgqs.1)
  have r2 := (h.rs.turn ht0 (fun h => h)).turn ht1 (Ne.symm hgqs.2.1)
  have hgg : F gg ∨ w.heap.size + 1 < gg := by
    rcases hat with e | e
    · injection e with e; exact e ▸ hgq
    · right; omega
  have hggs : gg ≠ w.heap.size := by
    rcases hgg with hx | hx
    · have := (h.hF gg hx).2; omega
    · omega
  have hrow : RowC (d.ps ++ [(z0, z1)]) w2 (fun b => F b ∨ w.heap.size + 1 < b) (.slice (some ⟨gg, 0, none⟩) (d.ps.length + 1) cap2) :=
    ⟨gg, cap2, hgg, by simp, by simpa [flatP] using hown⟩
  refine ⟨hc2.kept (grown_setCell w2 w.heap.size 7 _) (fun q hq => by injection hq with hq; omega), v2.set 7 _, r2.turn ht (by omega), (keepsRow _).turn hrow ht (fun b hb e => by rcases hb with hb | hb; exact absurd (h.hF b hb).2 (by omega); omega), by simp; omega, ?_, h.gl, h.hF⟩
  have hzz : wr.heap.size ≤ (wr.alloc ob).heap.size := hbl.size
  have hw := h.trn.size
  exact ⟨ht.os.trans (ht1.os.trans (ht0.os.trans h.trn.os)), ht.tape.trans (ht1.tape.trans (ht0.tape.trans h.trn.tape)), ht.output.trans (ht1.output.trans (ht0.output.trans h.trn.output)), by have := ht.size; have := ht1.size; omega,
    fun i hi hne => (ht.block i (by have := ht1.size; omega) (by omega)).trans ((ht1.block i (by omega) (fun e => by rcases hgq with hx | hx; exact hne (.inr (e ▸ hx)); omega)).trans ((ht0.block i (by omega) (fun h => h)).trans (h.trn.block i hi hne)))⟩

/-- A record was bent. -/
def BentR (g : Nat) (A : Option Addr) (n cap : Nat) (F : Nat → Prop) (w : World) (e : Ending) (w' : World) : Prop :=
  ∃ (C : Array Value) (d : RecD), e = .returned (.agg C) ∧ LieCR d w' (fun b => F b ∨ w.heap.size + 1 < b) (.agg C) ∧ d.ps.length ≤ 21 ∧ Cur w' 169 .i64 g A n cap ∧ Turns (fun b => b = g ∨ F b) w w'

theorem rowC_form {ps : List (Int × Int)} {w : World} {F : Nat → Prop} {v : Value} (h : RowC ps w F v) : ∃ (A : Option Addr) (n c : Nat), v = .slice A n c := by
  obtain ⟨g, cap, -, rfl, -⟩ := h
  exact ⟨_, _, _, rfl⟩
theorem LieCR.one {d : RecD} {w : World} {F : Nat → Prop} {C : Array Value} (h : LieCR d w F (.agg C)) : C.all (·.oneCell') = true := (oneC h.lie.at).2
/-- The record is laid into the variable of the answer. -/
theorem bent_put {w wr : World} {g : Nat} {A : Option Addr} {n cap : Nat} {F : Nat → Prop} {d : RecD} {u : Value} (h : B9 w wr g A n cap F d u) :
    Box (wr.setRow (w.heap.size + 1) (d.cells u)) (w.heap.size + 1) 46 (d.cells u) ∧ LieCR d (wr.setRow (w.heap.size + 1) (d.cells u)) (fun b => F b ∨ w.heap.size + 1 < b) (.agg (d.cells u)) ∧ Cur (wr.setRow (w.heap.size + 1) (d.cells u)) 169 .i64 g A n cap ∧ Turns (fun b => b = g ∨ F b) w (wr.setRow (w.heap.size + 1) (d.cells u)) := by
  have ht := turns_setRow wr (w.heap.size + 1) (d.cells u)
  have hg : wr.grownBy (wr.setRow (w.heap.size + 1) (d.cells u)) (some (w.heap.size + 1)) := ⟨ht.os, ht.tape, ht.output, ht.size, fun i hi hne => ht.block i hi (fun e => hne (by rw [e]))⟩
  have h1 := h.gl
  refine ⟨h.rs.setRow _, ⟨u, rfl, (keepsRow d.ps).turn h.own ht (fun b hb e => by rcases hb with hb | hb; exact absurd (h.hF b hb).2 (by omega); omega)⟩, h.cur.kept hg (fun q hq => by injection hq with hq; omega), ?_⟩
  exact ⟨ht.os.trans h.trn.os, ht.tape.trans h.trn.tape, ht.output.trans h.trn.output, Nat.le_trans h.trn.size ht.size, fun i hi hne => (ht.block i (Nat.lt_of_lt_of_le hi h.trn.size) (by omega)).trans (h.trn.block i hi hne)⟩

set_option maxRecDepth 100000 in
set_option maxHeartbeats 8000000 in
theorem l9Bend_any (g : Nat) (A : Option Addr) (n cap : Nat) (F : Nat → Prop) (C : Array Value) (d : RecD) (w : World) (hc : Cur w 169 .i64 g A n cap) (hL : LieCR d w F (.agg C)) (hl : d.ps.length ≤ 20) (hF : ∀ b, F b → g < b ∧ b < w.heap.size) :
    Calls Tryz.prog 77 #[.pointer (some ⟨g, 0, none⟩), .agg C] w (BentR g A n cap F w) := by
  obtain ⟨i0, hi0, hz0, hz1, hz2⟩ := info_parts Tryz.infoSealI
  obtain ⟨u, e, hR⟩ := hL
  injection e with e
  subst e
  have hgl := hc.lt
  have K : B9 w ((w.alloc (.cells (d.cells u) 46)).alloc (.cells #[.int .i64 0, .int .i64 0, .int .i64 0, .int .i64 0, .int .i64 0, .int .i64 0, .int .i64 0, .slice none 0 0, .int .i64 0] 46)) g A n cap F d u := by
    have E := bel_trans (bel_alloc w (.cells (d.cells u) 46)) (bel_alloc _ (.cells #[.int .i64 0, .int .i64 0, .int .i64 0, .int .i64 0, .int .i64 0, .int .i64 0, .int .i64 0, .slice none 0 0, .int .i64 0] 46))
    refine ⟨hc.kept (grown_bel E none) (fun q hq => by cases hq), (Box.new w 46 (d.cells u)).alloc _, ?_, (keepsRow d.ps).sub ((keepsRow d.ps).later hR E) (fun b hb => .inl hb), by omega, (Turns.of_below (T := fun b => b = g ∨ F b) E), hgl, hF⟩
    have := Box.new (w.alloc (.cells (d.cells u) 46)) 46 #[.int .i64 0, .int .i64 0, .int .i64 0, .int .i64 0, .int .i64 0, .int .i64 0, .int .i64 0, .slice none 0 0, .int .i64 0]
    simp only [World.size_alloc] at this
    exact this
  clear hR hc hF
  have HL := Lib.hid hl
  go_enter Tryz.func77, Tryz.ntmps77
  go_upto_region 1 with fail
  generalize ((w.alloc _).alloc _ : World) = w0 at K ⊢
  -- the walk
  go_wp2_with fail
  refine (l1Below_any g A n cap 7 w0 (by omega) K.cur).mono ?_
  rintro e w1 ⟨x, ⟨hx0, hx6⟩, rfl, hc1, hg1⟩
  replace K := K.draw hg1 hc1
  clear hc1 hg1
  have hx : x = 0 ∨ x = 1 ∨ x = 2 ∨ x = 3 ∨ x = 4 ∨ x = 5 ∨ x = 6 := by omega
  clear hx0 hx6
  rcases hx with rfl | rfl | rfl | rfl | rfl | rfl | rfl
  · go_wp2_with fail
    refine (l1Num_any g A n cap 400 w1 (by omega) (by omega) K.cur).mono ?_
    rintro e w2 ⟨r, _, rfl, hc2, hg2⟩
    replace K := K.draw hg2 hc2
    have fr := K.vr.frozen
    obtain ⟨c0, c1, c2, c3, c4, c5, c6, c7, c8⟩ := Box.nine (v0 := .int .i64 d.r1) (v1 := .int .i64 d.r2) (v2 := .int .i64 d.r3) (v3 := .int .i64 d.r4) (v4 := .int .i64 d.r5) (v5 := .int .i64 d.r6) (v6 := .int .i64 d.r7) (v7 := u) (v8 := .int .i64 d.r8) K.vr
    have HK := Lib.hid (K.set (d' := ⟨r, d.r2, d.r3, d.r4, d.r5, d.r6, d.r7, d.ps, d.r8⟩) 0 (.int .i64 r) rfl rfl)
    clear K hc2 hg2
    go_wp2_with fail
    clear c0 c1 c2 c3 c4 c5 c6 c7 c8 fr
    generalize (w2.setCell _ _ : World) = w4 at HK ⊢
    obtain ⟨d', u', K⟩ : ∃ (d' : RecD) (u' : Value), B9 w w4 g A n cap F d' u' := ⟨_, _, HK.out⟩
    clear HK
    refine (l1Once_any g A n cap 2 w4 (by omega) K.cur).mono ?_
    rintro e w5 ⟨y, rfl, hc5, hg5⟩
    replace K := K.draw hg5 hc5
    clear hc5 hg5
    have IS : Hid ((Tryz.prog.info? 46).map (·.size) = some 9) := Lib.hid (by kernel_rfl)
    have hps := ownPs_lt K.own.own
    rcases y with _ | _
    · obtain ⟨B, L7, C7, G7⟩ := bent_put K
      have X := K.rs
      have VR := K.vr
      replace B := Lib.hid B
      have hlen5 := Lib.hid K.len
      clear K hps
      go_wp2_with (first | (refine wpList_load_box 46 _ rfl w.heap.size rfl 46 (d'.cells u') VR _ Tryz.underlying46 rfl IS.out (by first | rfl | simp [Region.wanted, yielded] | (simp [Region.wanted, yielded, Act.put] <;> omega)) ?_) | (refine wpList_store_row rfl 46 _ _ rfl (w.heap.size + 1) _ rfl rfl 46 #[.int .i64 0, .int .i64 0, .int .i64 0, .int .i64 0, .int .i64 0, .int .i64 0, .int .i64 0, .slice none 0 0, .int .i64 0] X IS.out rfl L7.one ?_))
      exact bodyPost_ret (v := .agg (d'.cells u')) (results_row (Tryz.results77) _ _ (w.heap.size + 1) 46 (d'.cells u') _ rfl B.out Tryz.underlying46 rfl IS.out) rfl ⟨_, d', rfl, L7, hlen5.out, C7, G7⟩
    · obtain ⟨A7, n7, c7, hu⟩ := rowC_form K.own
      subst hu
      obtain ⟨hm7, hl7, hp7⟩ := rowC_at K.own
      have VR : Box w5 w.heap.size 46 #[.int .i64 d'.r1, .int .i64 d'.r2, .int .i64 d'.r3, .int .i64 d'.r4, .int .i64 d'.r5, .int .i64 d'.r6, .int .i64 d'.r7, .slice A7 n7 c7, .int .i64 d'.r8] := K.vr
      have hn7 : n7 ≤ 4194304 := by have := K.len; omega
      clear hps
      go_wp2_with (refine wpList_load_box 46 _ rfl w.heap.size rfl 46 #[.int .i64 d'.r1, .int .i64 d'.r2, .int .i64 d'.r3, .int .i64 d'.r4, .int .i64 d'.r5, .int .i64 d'.r6, .int .i64 d'.r7, .slice A7 n7 c7, .int .i64 d'.r8] VR _ Tryz.underlying46 rfl IS.out (by first | rfl | simp [Region.wanted, yielded] | (simp [Region.wanted, yielded, Act.put] <;> omega)) ?_)
      refine (specSumOf_is d'.r1 d'.r2 d'.r3 d'.r4 d'.r5 d'.r6 d'.r7 A7 n7 c7 d'.r8 d'.ps w5 hn7 hp7).mono ?_
      rintro e w6 ⟨rfl, hb⟩
      replace K := K.later hb
      clear hb hp7 VR hl7 hm7
      have fr := K.vr.frozen
      have c8 : w6.cell? ⟨w.heap.size, 8, none⟩ = some (.int .i64 d'.r8) := K.vr.cell 8
      have K9 := Lib.hid (K.set (d' := ⟨d'.r1, d'.r2, d'.r3, d'.r4, d'.r5, d'.r6, d'.r7, d'.ps, sumN d'.r1 d'.r2 d'.r3 d'.r4 d'.r5 d'.r6 d'.r7 d'.ps⟩) 8 (.int .i64 (sumN d'.r1 d'.r2 d'.r3 d'.r4 d'.r5 d'.r6 d'.r7 d'.ps)) rfl rfl)
      clear K
      go_upto_region 18 with fail
      clear fr c8
      generalize (w6.setCell _ _ : World) = w7 at K9 ⊢
      obtain ⟨d9, u9, K⟩ : ∃ (d' : RecD) (u' : Value), B9 w w7 g A n cap F d' u' := ⟨_, _, K9.out⟩
      clear K9
      obtain ⟨B, L7, C7, G7⟩ := bent_put K
      have X := K.rs
      have VR := K.vr
      replace B := Lib.hid B
      have hlen5 := Lib.hid K.len
      clear K
      go_wp2_with (first | (refine wpList_load_box 46 _ rfl w.heap.size rfl 46 (d9.cells u9) VR _ Tryz.underlying46 rfl IS.out (by first | rfl | simp [Region.wanted, yielded] | (simp [Region.wanted, yielded, Act.put] <;> omega)) ?_) | (refine wpList_store_row rfl 46 _ _ rfl (w.heap.size + 1) _ rfl rfl 46 #[.int .i64 0, .int .i64 0, .int .i64 0, .int .i64 0, .int .i64 0, .int .i64 0, .int .i64 0, .slice none 0 0, .int .i64 0] X IS.out rfl L7.one ?_))
      exact bodyPost_ret (v := .agg (d9.cells u9)) (results_row (Tryz.results77) _ _ (w.heap.size + 1) 46 (d9.cells u9) _ rfl B.out Tryz.underlying46 rfl IS.out) rfl ⟨_, d9, rfl, L7, hlen5.out, C7, G7⟩
  · go_wp2_with fail
    refine (l1From_any g A n cap 0 3 w1 (by omega) (by omega) (by omega) K.cur).mono ?_
    rintro e w2 ⟨r, _, rfl, hc2, hg2⟩
    replace K := K.draw hg2 hc2
    have fr := K.vr.frozen
    obtain ⟨c0, c1, c2, c3, c4, c5, c6, c7, c8⟩ := Box.nine (v0 := .int .i64 d.r1) (v1 := .int .i64 d.r2) (v2 := .int .i64 d.r3) (v3 := .int .i64 d.r4) (v4 := .int .i64 d.r5) (v5 := .int .i64 d.r6) (v6 := .int .i64 d.r7) (v7 := u) (v8 := .int .i64 d.r8) K.vr
    have HK := Lib.hid (K.set (d' := ⟨d.r1, r, d.r3, d.r4, d.r5, d.r6, d.r7, d.ps, d.r8⟩) 1 (.int .i64 r) rfl rfl)
    clear K hc2 hg2
    go_wp2_with fail
    clear c0 c1 c2 c3 c4 c5 c6 c7 c8 fr
    generalize (w2.setCell _ _ : World) = w4 at HK ⊢
    obtain ⟨d', u', K⟩ : ∃ (d' : RecD) (u' : Value), B9 w w4 g A n cap F d' u' := ⟨_, _, HK.out⟩
    clear HK
    refine (l1Once_any g A n cap 2 w4 (by omega) K.cur).mono ?_
    rintro e w5 ⟨y, rfl, hc5, hg5⟩
    replace K := K.draw hg5 hc5
    clear hc5 hg5
    have IS : Hid ((Tryz.prog.info? 46).map (·.size) = some 9) := Lib.hid (by kernel_rfl)
    have hps := ownPs_lt K.own.own
    rcases y with _ | _
    · obtain ⟨B, L7, C7, G7⟩ := bent_put K
      have X := K.rs
      have VR := K.vr
      replace B := Lib.hid B
      have hlen5 := Lib.hid K.len
      clear K hps
      go_wp2_with (first | (refine wpList_load_box 46 _ rfl w.heap.size rfl 46 (d'.cells u') VR _ Tryz.underlying46 rfl IS.out (by first | rfl | simp [Region.wanted, yielded] | (simp [Region.wanted, yielded, Act.put] <;> omega)) ?_) | (refine wpList_store_row rfl 46 _ _ rfl (w.heap.size + 1) _ rfl rfl 46 #[.int .i64 0, .int .i64 0, .int .i64 0, .int .i64 0, .int .i64 0, .int .i64 0, .int .i64 0, .slice none 0 0, .int .i64 0] X IS.out rfl L7.one ?_))
      exact bodyPost_ret (v := .agg (d'.cells u')) (results_row (Tryz.results77) _ _ (w.heap.size + 1) 46 (d'.cells u') _ rfl B.out Tryz.underlying46 rfl IS.out) rfl ⟨_, d', rfl, L7, hlen5.out, C7, G7⟩
    · obtain ⟨A7, n7, c7, hu⟩ := rowC_form K.own
      subst hu
      obtain ⟨hm7, hl7, hp7⟩ := rowC_at K.own
      have VR : Box w5 w.heap.size 46 #[.int .i64 d'.r1, .int .i64 d'.r2, .int .i64 d'.r3, .int .i64 d'.r4, .int .i64 d'.r5, .int .i64 d'.r6, .int .i64 d'.r7, .slice A7 n7 c7, .int .i64 d'.r8] := K.vr
      have hn7 : n7 ≤ 4194304 := by have := K.len; omega
      clear hps
      go_wp2_with (refine wpList_load_box 46 _ rfl w.heap.size rfl 46 #[.int .i64 d'.r1, .int .i64 d'.r2, .int .i64 d'.r3, .int .i64 d'.r4, .int .i64 d'.r5, .int .i64 d'.r6, .int .i64 d'.r7, .slice A7 n7 c7, .int .i64 d'.r8] VR _ Tryz.underlying46 rfl IS.out (by first | rfl | simp [Region.wanted, yielded] | (simp [Region.wanted, yielded, Act.put] <;> omega)) ?_)
      refine (specSumOf_is d'.r1 d'.r2 d'.r3 d'.r4 d'.r5 d'.r6 d'.r7 A7 n7 c7 d'.r8 d'.ps w5 hn7 hp7).mono ?_
      rintro e w6 ⟨rfl, hb⟩
      replace K := K.later hb
      clear hb hp7 VR hl7 hm7
      have fr := K.vr.frozen
      have c8 : w6.cell? ⟨w.heap.size, 8, none⟩ = some (.int .i64 d'.r8) := K.vr.cell 8
      have K9 := Lib.hid (K.set (d' := ⟨d'.r1, d'.r2, d'.r3, d'.r4, d'.r5, d'.r6, d'.r7, d'.ps, sumN d'.r1 d'.r2 d'.r3 d'.r4 d'.r5 d'.r6 d'.r7 d'.ps⟩) 8 (.int .i64 (sumN d'.r1 d'.r2 d'.r3 d'.r4 d'.r5 d'.r6 d'.r7 d'.ps)) rfl rfl)
      clear K
      go_upto_region 18 with fail
      clear fr c8
      generalize (w6.setCell _ _ : World) = w7 at K9 ⊢
      obtain ⟨d9, u9, K⟩ : ∃ (d' : RecD) (u' : Value), B9 w w7 g A n cap F d' u' := ⟨_, _, K9.out⟩
      clear K9
      obtain ⟨B, L7, C7, G7⟩ := bent_put K
      have X := K.rs
      have VR := K.vr
      replace B := Lib.hid B
      have hlen5 := Lib.hid K.len
      clear K
      go_wp2_with (first | (refine wpList_load_box 46 _ rfl w.heap.size rfl 46 (d9.cells u9) VR _ Tryz.underlying46 rfl IS.out (by first | rfl | simp [Region.wanted, yielded] | (simp [Region.wanted, yielded, Act.put] <;> omega)) ?_) | (refine wpList_store_row rfl 46 _ _ rfl (w.heap.size + 1) _ rfl rfl 46 #[.int .i64 0, .int .i64 0, .int .i64 0, .int .i64 0, .int .i64 0, .int .i64 0, .int .i64 0, .slice none 0 0, .int .i64 0] X IS.out rfl L7.one ?_))
      exact bodyPost_ret (v := .agg (d9.cells u9)) (results_row (Tryz.results77) _ _ (w.heap.size + 1) 46 (d9.cells u9) _ rfl B.out Tryz.underlying46 rfl IS.out) rfl ⟨_, d9, rfl, L7, hlen5.out, C7, G7⟩
  · go_wp2_with fail
    refine (l1Num_any g A n cap 3 w1 (by omega) (by omega) K.cur).mono ?_
    rintro e w2 ⟨r, _, rfl, hc2, hg2⟩
    replace K := K.draw hg2 hc2
    have fr := K.vr.frozen
    obtain ⟨c0, c1, c2, c3, c4, c5, c6, c7, c8⟩ := Box.nine (v0 := .int .i64 d.r1) (v1 := .int .i64 d.r2) (v2 := .int .i64 d.r3) (v3 := .int .i64 d.r4) (v4 := .int .i64 d.r5) (v5 := .int .i64 d.r6) (v6 := .int .i64 d.r7) (v7 := u) (v8 := .int .i64 d.r8) K.vr
    have HK := Lib.hid (K.set (d' := ⟨d.r1, d.r2, r, d.r4, d.r5, d.r6, d.r7, d.ps, d.r8⟩) 2 (.int .i64 r) rfl rfl)
    clear K hc2 hg2
    go_wp2_with fail
    clear c0 c1 c2 c3 c4 c5 c6 c7 c8 fr
    generalize (w2.setCell _ _ : World) = w4 at HK ⊢
    obtain ⟨d', u', K⟩ : ∃ (d' : RecD) (u' : Value), B9 w w4 g A n cap F d' u' := ⟨_, _, HK.out⟩
    clear HK
    refine (l1Once_any g A n cap 2 w4 (by omega) K.cur).mono ?_
    rintro e w5 ⟨y, rfl, hc5, hg5⟩
    replace K := K.draw hg5 hc5
    clear hc5 hg5
    have IS : Hid ((Tryz.prog.info? 46).map (·.size) = some 9) := Lib.hid (by kernel_rfl)
    have hps := ownPs_lt K.own.own
    rcases y with _ | _
    · obtain ⟨B, L7, C7, G7⟩ := bent_put K
      have X := K.rs
      have VR := K.vr
      replace B := Lib.hid B
      have hlen5 := Lib.hid K.len
      clear K hps
      go_wp2_with (first | (refine wpList_load_box 46 _ rfl w.heap.size rfl 46 (d'.cells u') VR _ Tryz.underlying46 rfl IS.out (by first | rfl | simp [Region.wanted, yielded] | (simp [Region.wanted, yielded, Act.put] <;> omega)) ?_) | (refine wpList_store_row rfl 46 _ _ rfl (w.heap.size + 1) _ rfl rfl 46 #[.int .i64 0, .int .i64 0, .int .i64 0, .int .i64 0, .int .i64 0, .int .i64 0, .int .i64 0, .slice none 0 0, .int .i64 0] X IS.out rfl L7.one ?_))
      exact bodyPost_ret (v := .agg (d'.cells u')) (results_row (Tryz.results77) _ _ (w.heap.size + 1) 46 (d'.cells u') _ rfl B.out Tryz.underlying46 rfl IS.out) rfl ⟨_, d', rfl, L7, hlen5.out, C7, G7⟩
    · obtain ⟨A7, n7, c7, hu⟩ := rowC_form K.own
      subst hu
      obtain ⟨hm7, hl7, hp7⟩ := rowC_at K.own
      have VR : Box w5 w.heap.size 46 #[.int .i64 d'.r1, .int .i64 d'.r2, .int .i64 d'.r3, .int .i64 d'.r4, .int .i64 d'.r5, .int .i64 d'.r6, .int .i64 d'.r7, .slice A7 n7 c7, .int .i64 d'.r8] := K.vr
      have hn7 : n7 ≤ 4194304 := by have := K.len; omega
      clear hps
      go_wp2_with (refine wpList_load_box 46 _ rfl w.heap.size rfl 46 #[.int .i64 d'.r1, .int .i64 d'.r2, .int .i64 d'.r3, .int .i64 d'.r4, .int .i64 d'.r5, .int .i64 d'.r6, .int .i64 d'.r7, .slice A7 n7 c7, .int .i64 d'.r8] VR _ Tryz.underlying46 rfl IS.out (by first | rfl | simp [Region.wanted, yielded] | (simp [Region.wanted, yielded, Act.put] <;> omega)) ?_)
      refine (specSumOf_is d'.r1 d'.r2 d'.r3 d'.r4 d'.r5 d'.r6 d'.r7 A7 n7 c7 d'.r8 d'.ps w5 hn7 hp7).mono ?_
      rintro e w6 ⟨rfl, hb⟩
      replace K := K.later hb
      clear hb hp7 VR hl7 hm7
      have fr := K.vr.frozen
      have c8 : w6.cell? ⟨w.heap.size, 8, none⟩ = some (.int .i64 d'.r8) := K.vr.cell 8
      have K9 := Lib.hid (K.set (d' := ⟨d'.r1, d'.r2, d'.r3, d'.r4, d'.r5, d'.r6, d'.r7, d'.ps, sumN d'.r1 d'.r2 d'.r3 d'.r4 d'.r5 d'.r6 d'.r7 d'.ps⟩) 8 (.int .i64 (sumN d'.r1 d'.r2 d'.r3 d'.r4 d'.r5 d'.r6 d'.r7 d'.ps)) rfl rfl)
      clear K
      go_upto_region 18 with fail
      clear fr c8
      generalize (w6.setCell _ _ : World) = w7 at K9 ⊢
      obtain ⟨d9, u9, K⟩ : ∃ (d' : RecD) (u' : Value), B9 w w7 g A n cap F d' u' := ⟨_, _, K9.out⟩
      clear K9
      obtain ⟨B, L7, C7, G7⟩ := bent_put K
      have X := K.rs
      have VR := K.vr
      replace B := Lib.hid B
      have hlen5 := Lib.hid K.len
      clear K
      go_wp2_with (first | (refine wpList_load_box 46 _ rfl w.heap.size rfl 46 (d9.cells u9) VR _ Tryz.underlying46 rfl IS.out (by first | rfl | simp [Region.wanted, yielded] | (simp [Region.wanted, yielded, Act.put] <;> omega)) ?_) | (refine wpList_store_row rfl 46 _ _ rfl (w.heap.size + 1) _ rfl rfl 46 #[.int .i64 0, .int .i64 0, .int .i64 0, .int .i64 0, .int .i64 0, .int .i64 0, .int .i64 0, .slice none 0 0, .int .i64 0] X IS.out rfl L7.one ?_))
      exact bodyPost_ret (v := .agg (d9.cells u9)) (results_row (Tryz.results77) _ _ (w.heap.size + 1) 46 (d9.cells u9) _ rfl B.out Tryz.underlying46 rfl IS.out) rfl ⟨_, d9, rfl, L7, hlen5.out, C7, G7⟩
  · go_wp2_with fail
    refine (l1Below_any g A n cap 9 w1 (by omega) K.cur).mono ?_
    rintro e w2 ⟨r, _, rfl, hc2, hg2⟩
    replace K := K.draw hg2 hc2
    have fr := K.vr.frozen
    obtain ⟨c0, c1, c2, c3, c4, c5, c6, c7, c8⟩ := Box.nine (v0 := .int .i64 d.r1) (v1 := .int .i64 d.r2) (v2 := .int .i64 d.r3) (v3 := .int .i64 d.r4) (v4 := .int .i64 d.r5) (v5 := .int .i64 d.r6) (v6 := .int .i64 d.r7) (v7 := u) (v8 := .int .i64 d.r8) K.vr
    have HK := Lib.hid (K.set (d' := ⟨d.r1, d.r2, d.r3, r, d.r5, d.r6, d.r7, d.ps, d.r8⟩) 3 (.int .i64 r) rfl rfl)
    clear K hc2 hg2
    go_wp2_with fail
    clear c0 c1 c2 c3 c4 c5 c6 c7 c8 fr
    generalize (w2.setCell _ _ : World) = w4 at HK ⊢
    obtain ⟨d', u', K⟩ : ∃ (d' : RecD) (u' : Value), B9 w w4 g A n cap F d' u' := ⟨_, _, HK.out⟩
    clear HK
    refine (l1Once_any g A n cap 2 w4 (by omega) K.cur).mono ?_
    rintro e w5 ⟨y, rfl, hc5, hg5⟩
    replace K := K.draw hg5 hc5
    clear hc5 hg5
    have IS : Hid ((Tryz.prog.info? 46).map (·.size) = some 9) := Lib.hid (by kernel_rfl)
    have hps := ownPs_lt K.own.own
    rcases y with _ | _
    · obtain ⟨B, L7, C7, G7⟩ := bent_put K
      have X := K.rs
      have VR := K.vr
      replace B := Lib.hid B
      have hlen5 := Lib.hid K.len
      clear K hps
      go_wp2_with (first | (refine wpList_load_box 46 _ rfl w.heap.size rfl 46 (d'.cells u') VR _ Tryz.underlying46 rfl IS.out (by first | rfl | simp [Region.wanted, yielded] | (simp [Region.wanted, yielded, Act.put] <;> omega)) ?_) | (refine wpList_store_row rfl 46 _ _ rfl (w.heap.size + 1) _ rfl rfl 46 #[.int .i64 0, .int .i64 0, .int .i64 0, .int .i64 0, .int .i64 0, .int .i64 0, .int .i64 0, .slice none 0 0, .int .i64 0] X IS.out rfl L7.one ?_))
      exact bodyPost_ret (v := .agg (d'.cells u')) (results_row (Tryz.results77) _ _ (w.heap.size + 1) 46 (d'.cells u') _ rfl B.out Tryz.underlying46 rfl IS.out) rfl ⟨_, d', rfl, L7, hlen5.out, C7, G7⟩
    · obtain ⟨A7, n7, c7, hu⟩ := rowC_form K.own
      subst hu
      obtain ⟨hm7, hl7, hp7⟩ := rowC_at K.own
      have VR : Box w5 w.heap.size 46 #[.int .i64 d'.r1, .int .i64 d'.r2, .int .i64 d'.r3, .int .i64 d'.r4, .int .i64 d'.r5, .int .i64 d'.r6, .int .i64 d'.r7, .slice A7 n7 c7, .int .i64 d'.r8] := K.vr
      have hn7 : n7 ≤ 4194304 := by have := K.len; omega
      clear hps
      go_wp2_with (refine wpList_load_box 46 _ rfl w.heap.size rfl 46 #[.int .i64 d'.r1, .int .i64 d'.r2, .int .i64 d'.r3, .int .i64 d'.r4, .int .i64 d'.r5, .int .i64 d'.r6, .int .i64 d'.r7, .slice A7 n7 c7, .int .i64 d'.r8] VR _ Tryz.underlying46 rfl IS.out (by first | rfl | simp [Region.wanted, yielded] | (simp [Region.wanted, yielded, Act.put] <;> omega)) ?_)
      refine (specSumOf_is d'.r1 d'.r2 d'.r3 d'.r4 d'.r5 d'.r6 d'.r7 A7 n7 c7 d'.r8 d'.ps w5 hn7 hp7).mono ?_
      rintro e w6 ⟨rfl, hb⟩
      replace K := K.later hb
      clear hb hp7 VR hl7 hm7
      have fr := K.vr.frozen
      have c8 : w6.cell? ⟨w.heap.size, 8, none⟩ = some (.int .i64 d'.r8) := K.vr.cell 8
      have K9 := Lib.hid (K.set (d' := ⟨d'.r1, d'.r2, d'.r3, d'.r4, d'.r5, d'.r6, d'.r7, d'.ps, sumN d'.r1 d'.r2 d'.r3 d'.r4 d'.r5 d'.r6 d'.r7 d'.ps⟩) 8 (.int .i64 (sumN d'.r1 d'.r2 d'.r3 d'.r4 d'.r5 d'.r6 d'.r7 d'.ps)) rfl rfl)
      clear K
      go_upto_region 18 with fail
      clear fr c8
      generalize (w6.setCell _ _ : World) = w7 at K9 ⊢
      obtain ⟨d9, u9, K⟩ : ∃ (d' : RecD) (u' : Value), B9 w w7 g A n cap F d' u' := ⟨_, _, K9.out⟩
      clear K9
      obtain ⟨B, L7, C7, G7⟩ := bent_put K
      have X := K.rs
      have VR := K.vr
      replace B := Lib.hid B
      have hlen5 := Lib.hid K.len
      clear K
      go_wp2_with (first | (refine wpList_load_box 46 _ rfl w.heap.size rfl 46 (d9.cells u9) VR _ Tryz.underlying46 rfl IS.out (by first | rfl | simp [Region.wanted, yielded] | (simp [Region.wanted, yielded, Act.put] <;> omega)) ?_) | (refine wpList_store_row rfl 46 _ _ rfl (w.heap.size + 1) _ rfl rfl 46 #[.int .i64 0, .int .i64 0, .int .i64 0, .int .i64 0, .int .i64 0, .int .i64 0, .int .i64 0, .slice none 0 0, .int .i64 0] X IS.out rfl L7.one ?_))
      exact bodyPost_ret (v := .agg (d9.cells u9)) (results_row (Tryz.results77) _ _ (w.heap.size + 1) 46 (d9.cells u9) _ rfl B.out Tryz.underlying46 rfl IS.out) rfl ⟨_, d9, rfl, L7, hlen5.out, C7, G7⟩
  · go_wp2_with fail
    refine (l2DrawAny_any g A n cap w1 K.cur).mono ?_
    rintro e w2 ⟨r, r0, rfl, hc2, hg2⟩
    replace K := K.draw hg2 hc2
    have fr := K.vr.frozen
    obtain ⟨c0, c1, c2, c3, c4, c5, c6, c7, c8⟩ := Box.nine (v0 := .int .i64 d.r1) (v1 := .int .i64 d.r2) (v2 := .int .i64 d.r3) (v3 := .int .i64 d.r4) (v4 := .int .i64 d.r5) (v5 := .int .i64 d.r6) (v6 := .int .i64 d.r7) (v7 := u) (v8 := .int .i64 d.r8) K.vr
    have HK := Lib.hid ((K.set (d' := ⟨d.r1, d.r2, d.r3, d.r4, r, d.r6, d.r7, d.ps, d.r8⟩) 4 (.int .i64 r) rfl rfl).set (d' := ⟨d.r1, d.r2, d.r3, d.r4, r, r0, d.r7, d.ps, d.r8⟩) 5 (.int .i64 r0) rfl rfl)
    clear K hc2 hg2
    go_wp2_with fail
    clear c0 c1 c2 c3 c4 c5 c6 c7 c8 fr
    generalize ((w2.setCell _ _).setCell _ _ : World) = w4 at HK ⊢
    obtain ⟨d', u', K⟩ : ∃ (d' : RecD) (u' : Value), B9 w w4 g A n cap F d' u' := ⟨_, _, HK.out⟩
    clear HK
    refine (l1Once_any g A n cap 2 w4 (by omega) K.cur).mono ?_
    rintro e w5 ⟨y, rfl, hc5, hg5⟩
    replace K := K.draw hg5 hc5
    clear hc5 hg5
    have IS : Hid ((Tryz.prog.info? 46).map (·.size) = some 9) := Lib.hid (by kernel_rfl)
    have hps := ownPs_lt K.own.own
    rcases y with _ | _
    · obtain ⟨B, L7, C7, G7⟩ := bent_put K
      have X := K.rs
      have VR := K.vr
      replace B := Lib.hid B
      have hlen5 := Lib.hid K.len
      clear K hps
      go_wp2_with (first | (refine wpList_load_box 46 _ rfl w.heap.size rfl 46 (d'.cells u') VR _ Tryz.underlying46 rfl IS.out (by first | rfl | simp [Region.wanted, yielded] | (simp [Region.wanted, yielded, Act.put] <;> omega)) ?_) | (refine wpList_store_row rfl 46 _ _ rfl (w.heap.size + 1) _ rfl rfl 46 #[.int .i64 0, .int .i64 0, .int .i64 0, .int .i64 0, .int .i64 0, .int .i64 0, .int .i64 0, .slice none 0 0, .int .i64 0] X IS.out rfl L7.one ?_))
      exact bodyPost_ret (v := .agg (d'.cells u')) (results_row (Tryz.results77) _ _ (w.heap.size + 1) 46 (d'.cells u') _ rfl B.out Tryz.underlying46 rfl IS.out) rfl ⟨_, d', rfl, L7, hlen5.out, C7, G7⟩
    · obtain ⟨A7, n7, c7, hu⟩ := rowC_form K.own
      subst hu
      obtain ⟨hm7, hl7, hp7⟩ := rowC_at K.own
      have VR : Box w5 w.heap.size 46 #[.int .i64 d'.r1, .int .i64 d'.r2, .int .i64 d'.r3, .int .i64 d'.r4, .int .i64 d'.r5, .int .i64 d'.r6, .int .i64 d'.r7, .slice A7 n7 c7, .int .i64 d'.r8] := K.vr
      have hn7 : n7 ≤ 4194304 := by have := K.len; omega
      clear hps
      go_wp2_with (refine wpList_load_box 46 _ rfl w.heap.size rfl 46 #[.int .i64 d'.r1, .int .i64 d'.r2, .int .i64 d'.r3, .int .i64 d'.r4, .int .i64 d'.r5, .int .i64 d'.r6, .int .i64 d'.r7, .slice A7 n7 c7, .int .i64 d'.r8] VR _ Tryz.underlying46 rfl IS.out (by first | rfl | simp [Region.wanted, yielded] | (simp [Region.wanted, yielded, Act.put] <;> omega)) ?_)
      refine (specSumOf_is d'.r1 d'.r2 d'.r3 d'.r4 d'.r5 d'.r6 d'.r7 A7 n7 c7 d'.r8 d'.ps w5 hn7 hp7).mono ?_
      rintro e w6 ⟨rfl, hb⟩
      replace K := K.later hb
      clear hb hp7 VR hl7 hm7
      have fr := K.vr.frozen
      have c8 : w6.cell? ⟨w.heap.size, 8, none⟩ = some (.int .i64 d'.r8) := K.vr.cell 8
      have K9 := Lib.hid (K.set (d' := ⟨d'.r1, d'.r2, d'.r3, d'.r4, d'.r5, d'.r6, d'.r7, d'.ps, sumN d'.r1 d'.r2 d'.r3 d'.r4 d'.r5 d'.r6 d'.r7 d'.ps⟩) 8 (.int .i64 (sumN d'.r1 d'.r2 d'.r3 d'.r4 d'.r5 d'.r6 d'.r7 d'.ps)) rfl rfl)
      clear K
      go_upto_region 18 with fail
      clear fr c8
      generalize (w6.setCell _ _ : World) = w7 at K9 ⊢
      obtain ⟨d9, u9, K⟩ : ∃ (d' : RecD) (u' : Value), B9 w w7 g A n cap F d' u' := ⟨_, _, K9.out⟩
      clear K9
      obtain ⟨B, L7, C7, G7⟩ := bent_put K
      have X := K.rs
      have VR := K.vr
      replace B := Lib.hid B
      have hlen5 := Lib.hid K.len
      clear K
      go_wp2_with (first | (refine wpList_load_box 46 _ rfl w.heap.size rfl 46 (d9.cells u9) VR _ Tryz.underlying46 rfl IS.out (by first | rfl | simp [Region.wanted, yielded] | (simp [Region.wanted, yielded, Act.put] <;> omega)) ?_) | (refine wpList_store_row rfl 46 _ _ rfl (w.heap.size + 1) _ rfl rfl 46 #[.int .i64 0, .int .i64 0, .int .i64 0, .int .i64 0, .int .i64 0, .int .i64 0, .int .i64 0, .slice none 0 0, .int .i64 0] X IS.out rfl L7.one ?_))
      exact bodyPost_ret (v := .agg (d9.cells u9)) (results_row (Tryz.results77) _ _ (w.heap.size + 1) 46 (d9.cells u9) _ rfl B.out Tryz.underlying46 rfl IS.out) rfl ⟨_, d9, rfl, L7, hlen5.out, C7, G7⟩
  · go_wp2_with fail
    refine (l1Num_any g A n cap 9999 w1 (by omega) (by omega) K.cur).mono ?_
    rintro e w2 ⟨r, _, rfl, hc2, hg2⟩
    replace K := K.draw hg2 hc2
    have fr := K.vr.frozen
    obtain ⟨c0, c1, c2, c3, c4, c5, c6, c7, c8⟩ := Box.nine (v0 := .int .i64 d.r1) (v1 := .int .i64 d.r2) (v2 := .int .i64 d.r3) (v3 := .int .i64 d.r4) (v4 := .int .i64 d.r5) (v5 := .int .i64 d.r6) (v6 := .int .i64 d.r7) (v7 := u) (v8 := .int .i64 d.r8) K.vr
    have HK := Lib.hid (K.set (d' := ⟨d.r1, d.r2, d.r3, d.r4, d.r5, d.r6, r, d.ps, d.r8⟩) 6 (.int .i64 r) rfl rfl)
    clear K hc2 hg2
    go_wp2_with fail
    clear c0 c1 c2 c3 c4 c5 c6 c7 c8 fr
    generalize (w2.setCell _ _ : World) = w4 at HK ⊢
    obtain ⟨d', u', K⟩ : ∃ (d' : RecD) (u' : Value), B9 w w4 g A n cap F d' u' := ⟨_, _, HK.out⟩
    clear HK
    refine (l1Once_any g A n cap 2 w4 (by omega) K.cur).mono ?_
    rintro e w5 ⟨y, rfl, hc5, hg5⟩
    replace K := K.draw hg5 hc5
    clear hc5 hg5
    have IS : Hid ((Tryz.prog.info? 46).map (·.size) = some 9) := Lib.hid (by kernel_rfl)
    have hps := ownPs_lt K.own.own
    rcases y with _ | _
    · obtain ⟨B, L7, C7, G7⟩ := bent_put K
      have X := K.rs
      have VR := K.vr
      replace B := Lib.hid B
      have hlen5 := Lib.hid K.len
      clear K hps
      go_wp2_with (first | (refine wpList_load_box 46 _ rfl w.heap.size rfl 46 (d'.cells u') VR _ Tryz.underlying46 rfl IS.out (by first | rfl | simp [Region.wanted, yielded] | (simp [Region.wanted, yielded, Act.put] <;> omega)) ?_) | (refine wpList_store_row rfl 46 _ _ rfl (w.heap.size + 1) _ rfl rfl 46 #[.int .i64 0, .int .i64 0, .int .i64 0, .int .i64 0, .int .i64 0, .int .i64 0, .int .i64 0, .slice none 0 0, .int .i64 0] X IS.out rfl L7.one ?_))
      exact bodyPost_ret (v := .agg (d'.cells u')) (results_row (Tryz.results77) _ _ (w.heap.size + 1) 46 (d'.cells u') _ rfl B.out Tryz.underlying46 rfl IS.out) rfl ⟨_, d', rfl, L7, hlen5.out, C7, G7⟩
    · obtain ⟨A7, n7, c7, hu⟩ := rowC_form K.own
      subst hu
      obtain ⟨hm7, hl7, hp7⟩ := rowC_at K.own
      have VR : Box w5 w.heap.size 46 #[.int .i64 d'.r1, .int .i64 d'.r2, .int .i64 d'.r3, .int .i64 d'.r4, .int .i64 d'.r5, .int .i64 d'.r6, .int .i64 d'.r7, .slice A7 n7 c7, .int .i64 d'.r8] := K.vr
      have hn7 : n7 ≤ 4194304 := by have := K.len; omega
      clear hps
      go_wp2_with (refine wpList_load_box 46 _ rfl w.heap.size rfl 46 #[.int .i64 d'.r1, .int .i64 d'.r2, .int .i64 d'.r3, .int .i64 d'.r4, .int .i64 d'.r5, .int .i64 d'.r6, .int .i64 d'.r7, .slice A7 n7 c7, .int .i64 d'.r8] VR _ Tryz.underlying46 rfl IS.out (by first | rfl | simp [Region.wanted, yielded] | (simp [Region.wanted, yielded, Act.put] <;> omega)) ?_)
      refine (specSumOf_is d'.r1 d'.r2 d'.r3 d'.r4 d'.r5 d'.r6 d'.r7 A7 n7 c7 d'.r8 d'.ps w5 hn7 hp7).mono ?_
      rintro e w6 ⟨rfl, hb⟩
      replace K := K.later hb
      clear hb hp7 VR hl7 hm7
      have fr := K.vr.frozen
      have c8 : w6.cell? ⟨w.heap.size, 8, none⟩ = some (.int .i64 d'.r8) := K.vr.cell 8
      have K9 := Lib.hid (K.set (d' := ⟨d'.r1, d'.r2, d'.r3, d'.r4, d'.r5, d'.r6, d'.r7, d'.ps, sumN d'.r1 d'.r2 d'.r3 d'.r4 d'.r5 d'.r6 d'.r7 d'.ps⟩) 8 (.int .i64 (sumN d'.r1 d'.r2 d'.r3 d'.r4 d'.r5 d'.r6 d'.r7 d'.ps)) rfl rfl)
      clear K
      go_upto_region 18 with fail
      clear fr c8
      generalize (w6.setCell _ _ : World) = w7 at K9 ⊢
      obtain ⟨d9, u9, K⟩ : ∃ (d' : RecD) (u' : Value), B9 w w7 g A n cap F d' u' := ⟨_, _, K9.out⟩
      clear K9
      obtain ⟨B, L7, C7, G7⟩ := bent_put K
      have X := K.rs
      have VR := K.vr
      replace B := Lib.hid B
      have hlen5 := Lib.hid K.len
      clear K
      go_wp2_with (first | (refine wpList_load_box 46 _ rfl w.heap.size rfl 46 (d9.cells u9) VR _ Tryz.underlying46 rfl IS.out (by first | rfl | simp [Region.wanted, yielded] | (simp [Region.wanted, yielded, Act.put] <;> omega)) ?_) | (refine wpList_store_row rfl 46 _ _ rfl (w.heap.size + 1) _ rfl rfl 46 #[.int .i64 0, .int .i64 0, .int .i64 0, .int .i64 0, .int .i64 0, .int .i64 0, .int .i64 0, .slice none 0 0, .int .i64 0] X IS.out rfl L7.one ?_))
      exact bodyPost_ret (v := .agg (d9.cells u9)) (results_row (Tryz.results77) _ _ (w.heap.size + 1) 46 (d9.cells u9) _ rfl B.out Tryz.underlying46 rfl IS.out) rfl ⟨_, d9, rfl, L7, hlen5.out, C7, G7⟩
  · obtain ⟨gq, cq, hgq, rfl, hown⟩ := K.own
    have c7 : w1.cell? ⟨w.heap.size, 7, none⟩ = some (.slice (some ⟨gq, 0, none⟩) d.ps.length cq) := K.vr.cell 7
    have hR := K.rs.lt
    have hlt := (hown.lt gq rfl).2
    have hgqs : gq ≠ w.heap.size ∧ g < gq := by
      rcases hgq with hx | hx
      · have := K.hF gq hx; omega
      · omega
    have hlen := HL.out
    go_wp2_with fail
    go_region_law
      (first
        | (go_simp; go_at_call 67; refine (l1Below_any g A n cap 5 _ (by omega) ?_).mono ?_; exact K.cur; rintro e w2 ⟨r, _, rfl, hc2, hg2⟩; have K2 := K.draw (grown_of_drew hg2) hc2; have J1 : w2.cell? ⟨w.heap.size, 7, none⟩ = some (.slice (some ⟨gq, 0, none⟩) d.ps.length cq) := K2.vr.cell 7; have J1a : ∀ o, (w2.alloc o).cell? ⟨w.heap.size, 7, none⟩ = some (.slice (some ⟨gq, 0, none⟩) d.ps.length cq) := fun o => (K2.vr.alloc o).cell 7; have ho2 := hown.kept (grown_of_drew hg2) (.inr (by simp [Value.ownBlock]; omega)))
        | (refine step_append_lies _ (by rfl) _ _ _ (by rfl) 0 136 i0 _ 2 16 Tryz.underlying40 hi0 hz0 hz1 hz2 rfl (by omega) (.slice (some ⟨gq, 0, none⟩) d.ps.length cq) d.ps.length (flatP d.ps) (by rfl) (ho2.alloc _) ⟨w2.heap.size, 0, none⟩ 1 1 [.int .i64 r, .int .i64 0] (by rfl) (by rfl) (World.news_of_block (cs := #[.int .i64 r, .int .i64 0]) (t := 136) (fr := (0, 0)) (heap_alloc_new w2 _)) (by simp [Value.oneCell']) (by omega) (by unfold maxLen; omega) (by omega) (by omega) (w2.heap.size + 1) (by simp) ?_; intro gg cap2 w3 hown3 hgrow3 hat hlt3; replace hgrow3 : World.grownBy _ w3 (some gq) := hgrow3; have v3 := ((K2.vr.alloc (.cells #[.int .i64 r, .int .i64 0] 136)).kept hgrow3 (by intro e; injection e with e; omega)); have J2 : w3.cell? ⟨w.heap.size, 7, none⟩ = some (.slice (some ⟨gq, 0, none⟩) d.ps.length cq) := v3.cell 7; have fr := v3.frozen))
    all_goals
    have HK := Lib.hid (K2.push hlen hgq hown3 hgrow3 hat)
    clear J1 J1a c7 hown ho2 hown3 hgrow3 K K2 hat v3
    go_wp2_with fail
    clear J2 fr
    generalize (w3.setCell _ _ : World) = w4 at HK ⊢
    obtain ⟨d', u', K⟩ : ∃ (d' : RecD) (u' : Value), B9 w w4 g A n cap F d' u' := ⟨_, _, HK.out⟩
    clear HK
    refine (l1Once_any g A n cap 2 w4 (by omega) K.cur).mono ?_
    rintro e w5 ⟨y, rfl, hc5, hg5⟩
    replace K := K.draw hg5 hc5
    clear hc5 hg5
    have IS : Hid ((Tryz.prog.info? 46).map (·.size) = some 9) := Lib.hid (by kernel_rfl)
    have hps := ownPs_lt K.own.own
    rcases y with _ | _
    · obtain ⟨B, L7, C7, G7⟩ := bent_put K
      have X := K.rs
      have VR := K.vr
      replace B := Lib.hid B
      have hlen5 := Lib.hid K.len
      clear K hps
      go_wp2_with (first | (refine wpList_load_box 46 _ rfl w.heap.size rfl 46 (d'.cells u') VR _ Tryz.underlying46 rfl IS.out (by first | rfl | simp [Region.wanted, yielded] | (simp [Region.wanted, yielded, Act.put] <;> omega)) ?_) | (refine wpList_store_row rfl 46 _ _ rfl (w.heap.size + 1) _ rfl rfl 46 #[.int .i64 0, .int .i64 0, .int .i64 0, .int .i64 0, .int .i64 0, .int .i64 0, .int .i64 0, .slice none 0 0, .int .i64 0] X IS.out rfl L7.one ?_))
      exact bodyPost_ret (v := .agg (d'.cells u')) (results_row (Tryz.results77) _ _ (w.heap.size + 1) 46 (d'.cells u') _ rfl B.out Tryz.underlying46 rfl IS.out) rfl ⟨_, d', rfl, L7, hlen5.out, C7, G7⟩
    · obtain ⟨A7, n7, c7, hu⟩ := rowC_form K.own
      subst hu
      obtain ⟨hm7, hl7, hp7⟩ := rowC_at K.own
      have VR : Box w5 w.heap.size 46 #[.int .i64 d'.r1, .int .i64 d'.r2, .int .i64 d'.r3, .int .i64 d'.r4, .int .i64 d'.r5, .int .i64 d'.r6, .int .i64 d'.r7, .slice A7 n7 c7, .int .i64 d'.r8] := K.vr
      have hn7 : n7 ≤ 4194304 := by have := K.len; omega
      clear hps
      go_wp2_with (refine wpList_load_box 46 _ rfl w.heap.size rfl 46 #[.int .i64 d'.r1, .int .i64 d'.r2, .int .i64 d'.r3, .int .i64 d'.r4, .int .i64 d'.r5, .int .i64 d'.r6, .int .i64 d'.r7, .slice A7 n7 c7, .int .i64 d'.r8] VR _ Tryz.underlying46 rfl IS.out (by first | rfl | simp [Region.wanted, yielded] | (simp [Region.wanted, yielded, Act.put] <;> omega)) ?_)
      refine (specSumOf_is d'.r1 d'.r2 d'.r3 d'.r4 d'.r5 d'.r6 d'.r7 A7 n7 c7 d'.r8 d'.ps w5 hn7 hp7).mono ?_
      rintro e w6 ⟨rfl, hb⟩
      replace K := K.later hb
      clear hb hp7 VR hl7 hm7
      have fr := K.vr.frozen
      have c8 : w6.cell? ⟨w.heap.size, 8, none⟩ = some (.int .i64 d'.r8) := K.vr.cell 8
      have K9 := Lib.hid (K.set (d' := ⟨d'.r1, d'.r2, d'.r3, d'.r4, d'.r5, d'.r6, d'.r7, d'.ps, sumN d'.r1 d'.r2 d'.r3 d'.r4 d'.r5 d'.r6 d'.r7 d'.ps⟩) 8 (.int .i64 (sumN d'.r1 d'.r2 d'.r3 d'.r4 d'.r5 d'.r6 d'.r7 d'.ps)) rfl rfl)
      clear K
      go_upto_region 18 with fail
      clear fr c8
      generalize (w6.setCell _ _ : World) = w7 at K9 ⊢
      obtain ⟨d9, u9, K⟩ : ∃ (d' : RecD) (u' : Value), B9 w w7 g A n cap F d' u' := ⟨_, _, K9.out⟩
      clear K9
      obtain ⟨B, L7, C7, G7⟩ := bent_put K
      have X := K.rs
      have VR := K.vr
      replace B := Lib.hid B
      have hlen5 := Lib.hid K.len
      clear K
      go_wp2_with (first | (refine wpList_load_box 46 _ rfl w.heap.size rfl 46 (d9.cells u9) VR _ Tryz.underlying46 rfl IS.out (by first | rfl | simp [Region.wanted, yielded] | (simp [Region.wanted, yielded, Act.put] <;> omega)) ?_) | (refine wpList_store_row rfl 46 _ _ rfl (w.heap.size + 1) _ rfl rfl 46 #[.int .i64 0, .int .i64 0, .int .i64 0, .int .i64 0, .int .i64 0, .int .i64 0, .int .i64 0, .slice none 0 0, .int .i64 0] X IS.out rfl L7.one ?_))
      exact bodyPost_ret (v := .agg (d9.cells u9)) (results_row (Tryz.results77) _ _ (w.heap.size + 1) 46 (d9.cells u9) _ rfl B.out Tryz.underlying46 rfl IS.out) rfl ⟨_, d9, rfl, L7, hlen5.out, C7, G7⟩

end Go.Proofs.YtjdepjpjjgkmbaaGreat

/- What the model's DrawRecOk leaves: a group that can be read and a record of one's own (written by drawrec9.py); conditions: the bytes can be read. -/

namespace Go.Proofs.YtjdepjpjjgkmbaaGreat
open Go Go.RowKit

/-- The state of DrawRecOk: the cursor, the variables of the answers, the group and its variable; then the record and its. -/
structure DO (w wr : World) (g : Nat) (A : Option Addr) (n cap : Nat) (VG : Nat) (gd : GrpD) (G : Array Value) (q : Nat) : Prop where
  bel : Below w.heap.size w wr
  cur : Cur wr 169 .i64 g A n cap
  r2 : Box wr w.heap.size 26 #[.int .i64 0, .int .i64 0, .int .i64 0, .int .i64 0, .slice none 0 0]
  r3 : Box wr (w.heap.size + 1) 46 #[.int .i64 0, .int .i64 0, .int .i64 0, .int .i64 0, .int .i64 0, .int .i64 0, .int .i64 0, .slice none 0 0, .int .i64 0]
  vg : Box wr VG 26 G
  grp : AtG gd wr (· = q) (.agg G)
  gl : w.heap.size + 1 < g
  gV : g < VG
  gq : g < q
  qV : q ≠ VG
  glen : gd.zs.length ≤ 100
theorem DO.turn {w wr w' : World} {g : Nat} {A : Option Addr} {n cap VG : Nat} {gd : GrpD} {G : Array Value} {q : Nat} {T : Nat → Prop} (h : DO w wr g A n cap VG gd G q) (ht : Turns T wr w') (hc : Cur w' 169 .i64 g A n cap) (hT : ∀ b, T b → g ≤ b ∧ b ≠ VG ∧ b ≠ q) : DO w w' g A n cap VG gd G q := by
  have h1 := h.gl
  have h2 := h.gV
  have h3 := h.gq
  exact ⟨ht.below h.bel (fun i hi => by have := hT i hi; omega), hc, h.r2.turn ht (fun hi => by have := hT _ hi; omega), h.r3.turn ht (fun hi => by have := hT _ hi; omega), h.vg.turn ht (fun hi => (hT _ hi).2.1 rfl), (keepsG gd).turn h.grp ht (fun b hb hi => (hT b hi).2.2 hb), h1, h2, h3, h.qV, h.glen⟩
theorem DO.draw {w wr w' : World} {g : Nat} {A : Option Addr} {n cap VG : Nat} {gd : GrpD} {G : Array Value} {q : Nat} (h : DO w wr g A n cap VG gd G q) (hg : wr.grownBy w' (some g)) (hc : Cur w' 169 .i64 g A n cap) : DO w w' g A n cap VG gd G q :=
  h.turn (Turns.of_grown hg) hc (fun b hb => by have := h.gV; have := h.gq; omega)
theorem DO.later {w wr w' : World} {g : Nat} {A : Option Addr} {n cap VG : Nat} {gd : GrpD} {G : Array Value} {q : Nat} (h : DO w wr g A n cap VG gd G q) (hb : Below wr.heap.size wr w') : DO w w' g A n cap VG gd G q :=
  h.draw (grown_bel hb (some g)) (h.cur.kept (grown_bel hb none) (fun q hq => by cases hq))
theorem DO.lt {w wr : World} {g : Nat} {A : Option Addr} {n cap VG : Nat} {gd : GrpD} {G : Array Value} {q : Nat} (h : DO w wr g A n cap VG gd G q) : VG < wr.heap.size := h.vg.lt
/-- And the record. -/
structure DQ (w wr : World) (g : Nat) (A : Option Addr) (n cap : Nat) (VG : Nat) (gd : GrpD) (G : Array Value) (q VR : Nat) (d : RecD) (C : Array Value) (F : Nat → Prop) : Prop where
  o : DO w wr g A n cap VG gd G q
  vr : Box wr VR 46 C
  rc : LieCR d wr F (.agg C)
  len : d.ps.length ≤ 21
  gR : g < VR
  VV : VR ≠ VG
  Vq : VR ≠ q
  hF : ∀ b, F b → g < b ∧ b ≠ VG ∧ b ≠ q ∧ b ≠ VR
  ql : q < wr.heap.size
theorem DQ.draw {w wr w' : World} {g : Nat} {A : Option Addr} {n cap VG : Nat} {gd : GrpD} {G : Array Value} {q VR : Nat} {d : RecD} {C : Array Value} {F : Nat → Prop} (h : DQ w wr g A n cap VG gd G q VR d C F) (hg : wr.grownBy w' (some g)) (hc : Cur w' 169 .i64 g A n cap) : DQ w w' g A n cap VG gd G q VR d C F := by
  have ht := Turns.of_grown hg
  have h1 := h.gR
  exact ⟨h.o.draw hg hc, h.vr.turn ht (by omega), (keepsCR d).turn h.rc ht (fun b hb e => by have := (h.hF b hb).1; omega), h.len, h.gR, h.VV, h.Vq, h.hF, Nat.lt_of_lt_of_le h.ql hg.size⟩
/-- Both are laid: what is answered. -/
structure DE (w wr : World) (VG VR : Nat) (gd : GrpD) (G : Array Value) (d : RecD) (C : Array Value) : Prop where
  bel : Below w.heap.size w wr
  r2 : Box wr w.heap.size 26 #[.int .i64 0, .int .i64 0, .int .i64 0, .int .i64 0, .slice none 0 0]
  r3 : Box wr (w.heap.size + 1) 46 #[.int .i64 0, .int .i64 0, .int .i64 0, .int .i64 0, .int .i64 0, .int .i64 0, .int .i64 0, .slice none 0 0, .int .i64 0]
  vg : Box wr VG 26 G
  vr : Box wr VR 46 C
  grp : AtG gd wr (fun b => w.heap.size + 1 < b) (.agg G)
  rc : LieCR d wr (fun b => w.heap.size + 1 < b) (.agg C)
  hG : w.heap.size + 1 < VG
  hR : w.heap.size + 1 < VR
  glen : gd.zs.length ≤ 100
  len : d.ps.length ≤ 21
theorem DE.of {w wr : World} {g : Nat} {A : Option Addr} {n cap VG : Nat} {gd : GrpD} {G : Array Value} {q VR : Nat} {d : RecD} {C : Array Value} {F : Nat → Prop} (h : DQ w wr g A n cap VG gd G q VR d C F) : DE w wr VG VR gd G d C := by
  have h1 := h.o.gl
  have h2 := h.o.gV
  have h3 := h.o.gq
  have h4 := h.gR
  exact ⟨h.o.bel, h.o.r2, h.o.r3, h.o.vg, h.vr, (keepsG gd).sub h.o.grp (fun b hb => by omega), (keepsCR d).sub h.rc (fun b hb => by have := (h.hF b hb).1; omega), by omega, by omega, h.o.glen, h.len⟩
theorem DE.drew {w wr : World} {VG VR : Nat} {gd : GrpD} {G : Array Value} {d : RecD} {C : Array Value} (h : DE w wr VG VR gd G d C) : DE w wr.drew VG VR gd G d C := by
  have hb := (Below.refl wr.heap.size wr).drew
  exact ⟨bel_trans h.bel hb, h.r2.later hb h.r2.lt, h.r3.later hb h.r3.lt, h.vg.later hb h.vg.lt, h.vr.later hb h.vr.lt, (keepsG gd).later h.grp hb, (keepsCR d).later h.rc hb, h.hG, h.hR, h.glen, h.len⟩
theorem results_two9 {P : Program} {fn : Func} {x y : Tmp} {ty ty' : TypeId} (h : fn.results = #[.cell x ty, .cell y ty']) (tmps : Array Value) (w : World) (g g' : Nat) (t t' : TypeId) (cs cs' : Array Value) (d d' : TypeDesc)
    (hx : tmps.getD x undef = .pointer (some ⟨g, 0, none⟩)) (hy : tmps.getD y undef = .pointer (some ⟨g', 0, none⟩)) (hg : Box w g t cs) (hg' : Box w g' t' cs')
    (hu : P.underlying ty = some d) (hd : (match d with | .struct _ | .array _ _ => true | _ => false) = true) (hi : (P.info? ty).map (·.size) = some cs.size)
    (hu' : P.underlying ty' = some d') (hd' : (match d' with | .struct _ | .array _ _ => true | _ => false) = true) (hi' : (P.info? ty').map (·.size) = some cs'.size) :
    (results fn tmps).run P w = .ok (.tuple #[.agg cs, .agg cs']) w := by
  have ex : tmps[x]?.getD undef = .pointer (some ⟨g, 0, none⟩) := by simpa using hx
  have ey : tmps[y]?.getD undef = .pointer (some ⟨g', 0, none⟩) := by simpa using hy
  simp [results, h, ex, ey, asAddr, run_loadVar_row w g t ty cs (0, 0) d hg hu hd hi, run_loadVar_row w g' t' ty' cs' (0, 0) d' hg' hu' hd' hi']
theorem okB_len9 {s l c sh : Int} {zs : List Int} (h : okB s l c sh zs = true) : (zs.length : Int) = s + c := by
  simp only [okB, Bool.and_eq_true, decide_eq_true_eq] at h
  exact h.1.2
theorem rowG_of {gd : GrpD} {w : World} {F : Nat → Prop} {a b c d : Int} {A : Option Addr} {n cap : Nat} (h : AtG gd w F (.agg #[.int .i64 a, .int .i64 b, .int .i64 c, .int .i64 d, .slice A n cap])) : Row w w.heap.size A n gd.zs := by
  obtain ⟨A', n', cap', e, -, hr⟩ := h
  injection e with e
  injection e with e
  simp only [List.cons.injEq, Value.slice.injEq, and_true] at e
  obtain ⟨-, -, -, -, rfl, rfl, rfl⟩ := e
  exact hr.1
set_option maxRecDepth 100000 in
/-- The answers are laid, in either order. -/
theorem DE.fin {w wr w' : World} {VG VR : Nat} {gd : GrpD} {G : Array Value} {d : RecD} {C : Array Value} (h : DE w wr VG VR gd G d C) (hw : w' = (wr.setRow w.heap.size G).setRow (w.heap.size + 1) C ∨ w' = (wr.setRow (w.heap.size + 1) C).setRow w.heap.size G) :
    Box w' w.heap.size 26 G ∧ Box w' (w.heap.size + 1) 46 C ∧ AtG gd w' (w.heap.size ≤ ·) (.agg G) ∧ LieCR d w' (w.heap.size ≤ ·) (.agg C) ∧ Below w.heap.size w w' := by
  rcases hw with hw | hw
  · rw [hw]
    clear hw
    have t1 := turns_setRow wr w.heap.size G
    have t2 := turns_setRow (wr.setRow w.heap.size G) (w.heap.size + 1) C
    exact ⟨(h.r2.setRow G).turn t2 (by omega), (h.r3.turn t1 (by omega)).setRow C, (keepsG gd).sub ((keepsG gd).turn ((keepsG gd).turn h.grp t1 (fun b hb e => by omega)) t2 (fun b hb e => by omega)) (fun b hb => by omega), (keepsCR d).sub ((keepsCR d).turn ((keepsCR d).turn h.rc t1 (fun b hb e => by omega)) t2 (fun b hb e => by omega)) (fun b hb => by omega), t2.below (t1.below h.bel (fun i hi => by omega)) (fun i hi => by omega)⟩
  · rw [hw]
    clear hw
    have t1 := turns_setRow wr (w.heap.size + 1) C
    have t2 := turns_setRow (wr.setRow (w.heap.size + 1) C) w.heap.size G
    exact ⟨(h.r2.turn t1 (by omega)).setRow G, (h.r3.setRow C).turn t2 (by omega), (keepsG gd).sub ((keepsG gd).turn ((keepsG gd).turn h.grp t1 (fun b hb e => by omega)) t2 (fun b hb e => by omega)) (fun b hb => by omega), (keepsCR d).sub ((keepsCR d).turn ((keepsCR d).turn h.rc t1 (fun b hb e => by omega)) t2 (fun b hb e => by omega)) (fun b hb => by omega), t2.below (t1.below h.bel (fun i hi => by omega)) (fun i hi => by omega)⟩

end Go.Proofs.YtjdepjpjjgkmbaaGreat

/- What the model's DrawReplayed leaves: a right group and a short list of records, one of them bent perhaps; conditions: the bytes can be read. -/
namespace Go.Proofs.YtjdepjpjjgkmbaaGreat
open Go Go.RowKit Go.Deep

theorem RowC.somewhere {ps : List (Int × Int)} {w : World} {F : Nat → Prop} {v : Value} (h : RowC ps w F v) : SlcF w F v ps := OwnP.somewhere (RowC.own h)
/-- The cells of a row. -/
theorem RowR.cells {base : Nat} {wr : World} {k g cap : Nat} {ms : List (RecD × Value)} {Fs : Nat → Nat → Prop} (h : RowR base wr k g cap ms Fs) : CellsAt wr g 0 ms := fun j x hj => by
  have := flatC_lt hj
  rw [h.count] at this
  rw [Nat.zero_add, h.own.cellAt j this]
  exact hj
theorem RowR.caps {base : Nat} {wr : World} {k g cap : Nat} {ms : List (RecD × Value)} {Fs : Nat → Nat → Prop} (h : RowR base wr k g cap ms Fs) : k ≤ cap ∧ cap ≤ maxLen := by
  rcases h.own.2 with ⟨e, _⟩ | ⟨g', c', cur, e, _, _, h1, h2, _⟩
  · cases e
  · injection e with _ _ e
    subst e
    exact ⟨h1, h2⟩
theorem RowR.frozen {base : Nat} {wr : World} {k g cap : Nat} {ms : List (RecD × Value)} {Fs : Nat → Nat → Prop} (h : RowR base wr k g cap ms Fs) (o : Nat) : wr.frozen? ⟨g, o, none⟩ = false := by
  rcases h.own.2 with ⟨e, _⟩ | ⟨g', c', cur, e, _, hg, _⟩
  · cases e
  · injection e with e _ _
    injection e with e
    injection e with e _ _
    subst e
    simp [World.frozen?, hg]
/-- A row is a list somewhere. -/
theorem RowR.list {base : Nat} {wr : World} {k g cap : Nat} {ms : List (RecD × Value)} {Fs : Nat → Nat → Prop} (h : RowR base wr k g cap ms Fs) : ListS (ms.map (·.1)) wr (base ≤ ·) (.slice (some ⟨g, 0, none⟩) k cap) := by
  have hl : (ms.map (·.1)).length = k := by rw [List.length_map, h.count]
  obtain ⟨g1, g2⟩ := h.gl
  refine .inr ⟨g, 0, cap, by rw [hl], by rw [hl]; exact h.caps.1, h.caps.2, fun _ => ⟨g1, g2⟩, ms, rfl, fun p hp => ?_, h.cells⟩
  obtain ⟨i, hi, rfl⟩ := List.mem_iff_getElem.1 hp
  exact (h.cert i hi).somewhere.sub (fun b hb => (h.far i (by rw [h.count] at hi; exact hi) b hb).1)
/-- A list of up to eight records, each with a short list. -/
structure Short (ds : List RecD) : Prop where
  n : ds.length ≤ 8
  ps : ∀ d ∈ ds, d.ps.length ≤ 21
theorem Short.tot {ds : List RecD} (h : Short ds) : totC ds ≤ 176 := by
  have key : ∀ (ds : List RecD), (∀ d ∈ ds, d.ps.length ≤ 21) → totC ds ≤ 22 * ds.length := by
    intro ds
    induction ds with
    | nil => intro _; exact Nat.zero_le _
    | cons d ds ih =>
      intro hp
      have h1 := ih (fun x hx => hp x (List.mem_cons_of_mem _ hx))
      have h2 := hp d (List.mem_cons_self ..)
      have e : totC (d :: ds) = (1 + d.ps.length) + totC ds := by simp [totC]
      rw [e, List.length_cons]
      omega
  have h1 := key ds h.ps
  have h2 := h.n
  omega
theorem RowR.short {base : Nat} {wr : World} {k g cap : Nat} {ms : List (RecD × Value)} {Fs : Nat → Nat → Prop} (h : RowR base wr k g cap ms Fs) (hk : k < 9) : Short (ms.map (·.1)) := by
  refine ⟨by rw [List.length_map, h.count]; omega, fun d hd => ?_⟩
  obtain ⟨p, hp, rfl⟩ := List.mem_map.1 hd
  obtain ⟨i, hi, rfl⟩ := List.mem_iff_getElem.1 hp
  have := h.len i hi
  omega
theorem cells_there {w : World} {g : Nat} {ms : List (RecD × Value)} {i : Nat} (hi : i < ms.length) (h : CellsAt w g 0 ms) (hf : ∀ o, w.frozen? ⟨g, o, none⟩ = false) : w.there g (i * 9) 9 := fun j hj => by
  refine ⟨?_, hf _⟩
  have hr := flatC_at hi hj
  have hjl : j < ((ms[i]).1.cells (ms[i]).2).toList.length := by rw [cells_len]; exact hj
  rw [List.getElem?_eq_getElem hjl] at hr
  have h2 := h _ _ hr
  rw [Nat.zero_add] at h2
  rw [h2]
  rfl
/-- One record of a list is written anew, with another list. -/
theorem cells_put {w : World} {g : Nat} {ms : List (RecD × Value)} {i : Nat} (hi : i < ms.length) (h : CellsAt w g 0 ms) (hf : ∀ o, w.frozen? ⟨g, o, none⟩ = false) (d : RecD) (u : Value) : CellsAt (w.setCells g (i * 9) (d.cells u).toList) g 0 (ms.set i (d, u)) := by
  have hthere : w.there g (i * 9) 9 := fun j hj => by
    refine ⟨?_, hf _⟩
    have hr := flatC_at hi hj
    have hjl : j < ((ms[i]).1.cells (ms[i]).2).toList.length := by rw [cells_len]; exact hj
    rw [List.getElem?_eq_getElem hjl] at hr
    have h2 := h _ _ hr
    rw [Nat.zero_add] at h2
    rw [h2]
    rfl
  intro j x hj
  have hjl := flatC_lt hj
  rw [List.length_set] at hjl
  have hi9 : j / 9 < (ms.set i (d, u)).length := by rw [List.length_set]; omega
  have hjm : j % 9 < 9 := by omega
  have e := flatC_at hi9 hjm
  rw [show j / 9 * 9 + j % 9 = j by omega, hj] at e
  by_cases ei : j / 9 = i
  · have h3 := World.rangeAt_setCells_same w g (i * 9) (d.cells u).toList (by rw [cells_len]; exact hthere)
    have e2 : (ms.set i (d, u))[j / 9] = (d, u) := by
      have : (ms.set i (d, u))[i]'(by rw [List.length_set]; exact hi) = (d, u) := List.getElem_set_self ..
      simp only [ei, this]
    rw [e2] at e
    have h4 := h3 (j % 9) x e.symm
    rwa [show i * 9 + j % 9 = 0 + j by omega] at h4
  · have e2 : (ms.set i (d, u))[j / 9] = ms[j / 9]'(by omega) := List.getElem_set_ne (fun h => ei h.symm) _
    rw [e2] at e
    have h3 : w.rangeAt g (j / 9 * 9) ((ms[j / 9]'(by omega)).1.cells (ms[j / 9]'(by omega)).2).toList := fun p y hy => by
      have hp : p < 9 := by
        have := (List.getElem?_eq_some_iff.1 hy).1
        rwa [cells_len] at this
      have h5 := h (j / 9 * 9 + p) y (by rw [flatC_at (by omega) hp]; exact hy)
      rwa [Nat.zero_add] at h5
    have h4 := World.rangeAt_setCells_apart h3 g (i * 9) (d.cells u).toList (.inr (by simp only [cells_len]; omega)) (j % 9) x e.symm
    rwa [show j / 9 * 9 + j % 9 = 0 + j by omega] at h4
/-- The state of DrawReplayed: the cursor, the variable of the answer, the group and its variable. -/
structure DP (w wr : World) (g : Nat) (A : Option Addr) (n cap : Nat) (VG : Nat) (gd : GrpD) (G : Array Value) (q : Nat) : Prop where
  bel : Below w.heap.size w wr
  cur : Cur wr 169 .i64 g A n cap
  r2 : Box wr w.heap.size 26 #[.int .i64 0, .int .i64 0, .int .i64 0, .int .i64 0, .slice none 0 0]
  vg : Box wr VG 26 G
  grp : AtG gd wr (· = q) (.agg G)
  gl : w.heap.size < g
  gV : g < VG
  gq : g < q
  qV : q < VG
  glen : gd.zs.length ≤ 100
theorem DP.turn {w wr w' : World} {g : Nat} {A : Option Addr} {n cap VG : Nat} {gd : GrpD} {G : Array Value} {q : Nat} {T : Nat → Prop} (h : DP w wr g A n cap VG gd G q) (ht : Turns T wr w') (hc : Cur w' 169 .i64 g A n cap) (hT : ∀ b, T b → b = g ∨ VG < b) : DP w w' g A n cap VG gd G q := by
  have h1 := h.gl
  have h2 := h.gV
  have h3 := h.gq
  have h4 := h.qV
  exact ⟨ht.below h.bel (fun i hi => by have := hT i hi; omega), hc, h.r2.turn ht (fun hi => by have := hT _ hi; omega), h.vg.turn ht (fun hi => by have := hT _ hi; omega), (keepsG gd).turn h.grp ht (fun b hb hi => by have h5 := hT b hi; have h6 : b = q := hb; omega), h1, h2, h3, h4, h.glen⟩
theorem DP.draw {w wr w' : World} {g : Nat} {A : Option Addr} {n cap VG : Nat} {gd : GrpD} {G : Array Value} {q : Nat} (h : DP w wr g A n cap VG gd G q) (hg : wr.grownBy w' (some g)) (hc : Cur w' 169 .i64 g A n cap) : DP w w' g A n cap VG gd G q := h.turn (Turns.of_grown hg) hc (fun _ hb => .inl hb)

end Go.Proofs.YtjdepjpjjgkmbaaGreat

/- Sink's walk inside a fence that asks nothing of a function, in a round or in none: a region that draws its order, no operation of it a defer; no conditions. -/
namespace Go.Proofs.YtjdepjpjjgkmbaaGreat
open Go

/-- A fence that lets every function in, and a region without a defer. -/
def Plain (F : Fence) (ops : Array Oper) : Prop := (∀ f, F.fn f) ∧ ∀ (j : Nat) (o : Oper), ops[j]? = some o → ∀ ρ : Operand → Value, o.semAt F.round ρ = execOp ρ o
def noDefer (ops : Array Oper) : Bool := ops.all fun o => match o.op with | .defer _ => false | _ => true
theorem plain_of {F : Fence} {ops : Array Oper} (hF : ∀ f, F.fn f) (h : noDefer ops = true) : Plain F ops := ⟨hF, fun j o ho ρ => by
  refine Oper.semAt_eq _ _ _ (fun c hc => ?_)
  unfold noDefer at h
  rw [Array.all_eq_true_iff_forall_mem] at h
  have := h o (Array.mem_of_getElem? ho)
  rw [hc] at this
  cases this⟩

section
variable {F : Fence} {n : Nat} {P : Program} {ops : Array Oper} {Q : Exit → Act → World → Prop} {md : Region.Mode} {S T : World → Prop} {z : Nat}

theorem _root_.Go.YieldsIf.wpOpIn (hsem : Plain F ops) {i : Nat} {o : Oper} {v : Value} {a : Act} (hi : ops[i]? = some o) (hy : YieldsIf P ops S o v a)
    {K : Act → World → Prop} {w : World} (hS : S w) (h : K (a.put o.dst v) w) : wpOpIn F n P ops Q i K a w := by
  unfold Go.wpOpIn
  simp only [hi]
  rcases hy with ⟨hw, hv⟩ | ⟨hw, rfl⟩
  · simp only [hw, if_true, Oper.wpIn, hsem.2 i o hi, hv w hS, Oper.uponIn]; exact ⟨fun f _ => hsem.1 f, h⟩
  · simp only [hw, Bool.false_eq_true, if_false]; exact ⟨fun f _ => hsem.1 f, h⟩
theorem wpOpIn_putIf (hsem : Plain F ops) {j : Nat} {oi oj : Oper} {v : Value} (hj : ops[j]? = some oj) (hap : oi.apart ops oj = true)
    (hsi : ∀ cs b, oi.op ≠ .select cs b) (hsj : ∀ cs b, oj.op ≠ .select cs b)
    (hQ : ∀ c a w, Q (.panic c) (a.put oi.dst v) w → Q (.panic c) a w) {K : Act → World → Prop} {a : Act} {w : World}
    (hy : YieldsIf P ops S oi v a) (h : wpOpIn F n P ops Q j K (a.put oi.dst v) w) :
    wpOpIn F n P ops Q j (fun a' w' => YieldsIf P ops S oi v a' ∧ K (a'.put oi.dst v) w') a w := by
  obtain ⟨h1, h2, h3⟩ := Oper.apart_spec hap
  have keep : ∀ (a : Act), YieldsIf P ops S oi v a → ∀ u, YieldsIf P ops S oi v (a.put oj.dst u) := fun a hy u =>
    hy.of_same (execOp_put oi hsi a oj.dst u h3) (wanted_put oi a oj.dst u h3)
  have swap : ∀ {u : Value} {w' : World}, K ((a.put oi.dst v).put oj.dst u) w' → YieldsIf P ops S oi v (a.put oj.dst u) ∧ K ((a.put oj.dst u).put oi.dst v) w' :=
    fun h => ⟨keep a hy _, by rw [← Act.put_comm a v _ h2]; exact h⟩
  have hjs := hsem.2 j oj hj
  have hfn := hsem.1
  unfold wpOpIn at *
  simp only [hj] at h ⊢
  rw [wanted_put oj a oi.dst v h1] at h
  split
  · rename_i hw
    simp only [hw, if_true] at h
    unfold Oper.wpIn at *
    refine ⟨fun f _ => hfn f, ?_⟩
    have h := h.2
    rw [hjs, execOp_put oj hsj a oi.dst v h1] at h
    rw [hjs]
    generalize (execOp a.eval oj).run P w = r at *
    cases r with
    | ok x w' =>
      cases x <;> simp only [Oper.uponIn] at h ⊢
      case value u => exact swap h
      case skip => exact swap h
      case defer d =>
        refine ⟨keep { a with defers := d :: a.defers } (hy.of_same rfl rfl) _, ?_⟩
        rw [← Act.put_comm _ v undef h2, ← Act.put_defers]
        exact h
      case enter f args => exact ⟨h.1, CallsIn.mono h.2 fun e w'' he => by cases e <;> first | exact swap he | exact hQ _ _ _ he | exact he⟩
      case row row args => exact ⟨h.1, RowsIn.mono h.2 fun u w'' he => swap he⟩
      case round l f tmps assign body => exact ⟨h.1, RoundIn.mono h.2 fun e w'' he => by cases e <;> first | exact swap he | exact hQ _ _ _ he | exact he⟩
    | halt x w' =>
      cases x <;> simp only [Oper.uponIn] at h ⊢
      case panic u => exact hQ _ _ _ h
  · rename_i hw
    simp only [hw] at h
    exact ⟨fun f _ => hsem.1 f, swap h.2⟩

/-- Whatever order is picked from here on, and S holds behind every operation till number z has come up. -/
def wpAnyEI (F : Fence) (n : Nat) (P : Program) (md : Region.Mode) (ops : Array Oper) (Q : Exit → Act → World → Prop) (S : World → Prop) (z : Nat) : Nat → Array Bool → Act → World → Prop
  | 0, listed, a, w => Region.ready md ops listed = [] ∧ Q .normal a w
  | fuel + 1, listed, a, w =>
    (Region.ready md ops listed = [] → Q .normal a w) ∧
    ∀ i ∈ Region.ready md ops listed, wpOpIn F n P ops Q i (fun a' w' => (i ≠ z → listed.getD z false = false → S w') ∧ wpAnyEI F n P md ops Q S z fuel (listed.setIfInBounds i true) a' w') a w

theorem wpAnyIn_of_sink : ∀ (fuel : Nat) (listed : Array Bool) (a : Act) (w : World), wpAnyEI F n P md ops Q S z fuel listed a w → wpAnyIn F n P md ops Q fuel listed a w
  | 0, _, _, _, h => h
  | fuel + 1, _, _, _, h => ⟨h.1, fun i hi => wpOpIn_mono (fun a' w' h' => wpAnyIn_of_sink fuel _ a' w' h'.2) (h.2 i hi)⟩

theorem wpAnyEI_first {i : Nat} {oi : Oper} {v : Value} (hsem : Plain F ops) (hi : ops[i]? = some oi) (hsel : ∀ (j : Nat) (o : Oper) cs b, ops[j]? = some o → o.op ≠ .select cs b)
    (hQ : ∀ c a w, Q (.panic c) (a.put oi.dst v) w → Q (.panic c) a w) (hiz : i ≠ z) :
    ∀ (fuel : Nat) (listed : Array Bool) (a : Act) (w : World),
      (∀ j oj, ops[j]? = some oj → j ≠ i → listed.getD j true = false → (∀ e ∈ oj.after, Region.binds md e = true → e.on ≠ i) → oi.apart ops oj = true) →
      i ∈ Region.ready md ops listed → YieldsIf P ops T oi v a → FirstAt md ops S T z i listed → (listed.getD z false = false → S w) →
      wpAnyEI F n P md ops Q S z fuel (listed.setIfInBounds i true) (a.put oi.dst v) w → wpAnyEI F n P md ops Q S z (fuel + 1) listed a w := by
  intro fuel
  induction fuel with
  | zero =>
    intro listed a w _ hr hy hF hS H
    have hT : T w := by
      rcases hF with h | ⟨h, _, hl⟩
      · exact h w
      · exact h w (hS hl)
    refine ⟨fun h => (by rw [h] at hr; cases hr), fun j hj => ?_⟩
    by_cases hji : j = i
    · subst hji; exact hy.wpOpIn hsem hi hT ⟨fun _ h => hS h, H⟩
    · have := ready_mono hj hji
      rw [H.1] at this
      cases this
  | succ fuel ih =>
    intro listed a w hfree hr hy hF hS H
    have hT : T w := by
      rcases hF with h | ⟨h, _, hl⟩
      · exact h w
      · exact h w (hS hl)
    refine ⟨fun h => (by rw [h] at hr; cases hr), fun j hj => ?_⟩
    by_cases hji : j = i
    · subst hji; exact hy.wpOpIn hsem hi hT ⟨fun _ h => hS h, H⟩
    · have h1 := H.2 j (ready_mono hj hji)
      obtain ⟨hjun, oj, hoj, hall⟩ := mem_ready.1 hj
      have hun := (mem_ready.1 hr).1
      have hnot : ∀ e ∈ oj.after, Region.binds md e = true → e.on ≠ i := fun e he hb heq => by
        have h1 := hall e he hb
        rw [heq, getD_both hun] at h1
        cases h1
      have hzset : (listed.setIfInBounds i true).getD z false = listed.getD z false := getD_set_ne false hiz
      have h2 := wpOpIn_putIf hsem hoj (hfree j oj hoj hji hjun hnot) (fun cs b => hsel i oi cs b hi) (fun cs b => hsel j oj cs b hoj) hQ hy h1
      have hfree' : ∀ k ok, ops[k]? = some ok → k ≠ i → (listed.setIfInBounds j true).getD k true = false →
          (∀ e ∈ ok.after, Region.binds md e = true → e.on ≠ i) → oi.apart ops ok = true := fun k ok hk hki hun hno => by
        refine hfree k ok hk hki ?_ hno
        by_cases hjk : j = k
        · subst hjk; exact hjun
        · rw [getD_set_ne true hjk] at hun; exact hun
      have hF' : FirstAt md ops S T z i (listed.setIfInBounds j true) := by
        rcases hF with h | ⟨h, hw, hl⟩
        · exact .inl h
        · refine .inr ⟨h, hw, ?_⟩
          by_cases hjz : j = z
          · subst hjz
            obtain ⟨o', ho', e, he, hb, hon⟩ := Region.waitsFor_spec hw
            have : o' = oj := Option.some.inj (ho'.symm.trans hoj)
            subst this
            exact absurd hon (hnot e he hb)
          · rw [getD_set_ne false hjz]; exact hl
      refine wpOpIn_mono (fun a' w' h3 => ⟨fun hjz hlz => h3.2.1 hjz (hzset.trans hlz), ih (listed.setIfInBounds j true) a' w' hfree' (ready_mono hr (Ne.symm hji)) h3.1 hF' (fun hz' => ?_) ?_⟩) h2
      · by_cases hjz : j = z
        · subst hjz
          have hs : j < listed.size := by
            rcases Nat.lt_or_ge j listed.size with h | h
            · exact h
            · simp [Array.getElem?_eq_none h] at hjun
          simp [hs] at hz'
        · rw [getD_set_ne false hjz] at hz'
          exact h3.2.1 hjz (hzset.trans hz')
      · rw [Array.setIfInBounds_comm _ _ hji]
        exact h3.2.2

/-- Take number i first, which yields in whatever world. -/
theorem wpAnyEI_pure {i : Nat} {oi : Oper} {v : Value} (hsem : Plain F ops) {fuel : Nat} {listed : Array Bool} {a : Act} {w : World} (hi : ops[i]? = some oi)
    (hs : Region.noSelect ops = true) (hf : Region.free md ops listed i = true) (hr : (Region.ready md ops listed).contains i = true)
    (hQ : ∀ c a w, Q (.panic c) (a.put oi.dst v) w → Q (.panic c) a w) (hz : (i == z) = false) (hy : YieldsIf P ops (fun _ => True) oi v a) (hS : S w)
    (h : wpAnyEI F n P md ops Q S z fuel (listed.setIfInBounds i true) (a.put oi.dst v) w) : wpAnyEI F n P md ops Q S z (fuel + 1) listed a w :=
  wpAnyEI_first hsem hi (Region.noSelect_spec hs) hQ (by simpa using hz) fuel listed a w (Region.free_spec hi hf) (by simpa using hr) hy (.inl fun _ => trivial) (fun _ => hS) h
/-- Number i alone can come up, and is not the last: S is to be shown anew. -/
theorem wpAnyEI_one {i : Nat} {o : Oper} {fuel : Nat} {listed : Array Bool} {a : Act} {w : World} (hr : Region.ready md ops listed = [i]) (ho : ops[i]? = some o)
    (h : ∀ K' : Act → World → Prop, Shut (∀ a w, S w → (S w → wpAnyEI F n P md ops Q S z fuel (listed.setIfInBounds i true) a w) → K' a w) → if Region.wanted o (yielded ops a.tmps) = true then Oper.wpIn F n P o a w K' Q else (∀ f, o.about P w a.eval = some f → F.fn f) ∧ K' (a.put o.dst undef) w) : wpAnyEI F n P md ops Q S z (fuel + 1) listed a w := by
  refine ⟨fun h0 => (by rw [hr] at h0; cases h0), fun j hj => ?_⟩
  rw [hr] at hj
  have e : j = i := by simpa using hj
  subst e
  exact wpOpIn_step ho (fun K' hK => h K' (fun a w hS hW => hK a w ⟨fun _ _ => hS, hW hS⟩))
/-- The last one. -/
theorem wpAnyEI_last {o : Oper} {fuel : Nat} {listed : Array Bool} {a : Act} {w : World} (hr : Region.ready md ops listed = [z]) (ho : ops[z]? = some o) (hend : Region.ready md ops (listed.setIfInBounds z true) = [])
    (h : ∀ K' : Act → World → Prop, Shut (∀ a w, Q .normal a w → K' a w) → if Region.wanted o (yielded ops a.tmps) = true then Oper.wpIn F n P o a w K' Q else (∀ f, o.about P w a.eval = some f → F.fn f) ∧ K' (a.put o.dst undef) w) : wpAnyEI F n P md ops Q S z (fuel + 1) listed a w := by
  refine ⟨fun h0 => (by rw [hr] at h0; cases h0), fun j hj => ?_⟩
  rw [hr] at hj
  have e : j = z := by simpa using hj
  subst e
  refine wpOpIn_step ho (fun K' hK => h K' (fun a w hW => hK a w ⟨fun h => absurd rfl h, ?_⟩))
  cases fuel with
  | zero => exact ⟨hend, hW⟩
  | succ f => exact ⟨fun _ => hW, by rw [hend]; simp⟩
theorem wpIn_region_sink {id : Nat} {a : Act} {w : World} (z : Nat) (S : World → Prop) (hm : P.follows .mixedOrders = true) (hS : S w.drew)
    (h : S w.drew → wpAnyEI F n P .any ops Q S z ops.size (Array.replicate ops.size false) a w.drew) : (Code.region id ops true).wpIn F n P Q a w :=
  wpIn_region_any hm (wpAnyIn_of_sink _ _ _ _ (h hS))
/-- A way from i to z: each waits for the one before it. -/
def wayTo (md : Region.Mode) (ops : Array Oper) (z : Nat) : Nat → List Nat → Bool
  | i, [] => Region.waitsFor md ops z i
  | i, p :: ps => Region.waitsFor md ops p i && wayTo md ops z p ps
theorem not_on_way {j : Nat} {listed : Array Bool} (hj : j ∈ Region.ready md ops listed) : ∀ (path : List Nat) (i : Nat), wayTo md ops z i path = true → listed.getD i true = false → (∀ p ∈ z :: path, listed.getD p true = false) → j ∉ z :: path := by
  obtain ⟨hjun, oj, hoj, hall⟩ := mem_ready.1 hj
  have step : ∀ i p, Region.waitsFor md ops p i = true → listed.getD i true = false → j ≠ p := fun i p hw hun e => by
    subst e
    obtain ⟨o', ho', e, he, hb, hon⟩ := Region.waitsFor_spec hw
    have : o' = oj := Option.some.inj (ho'.symm.trans hoj)
    subst this
    have h1 := hall e he hb
    rw [hon, getD_both hun] at h1
    cases h1
  intro path
  induction path with
  | nil =>
    intro i hw hun _ hm
    have e : j = z := by simpa using hm
    exact step i z hw hun e
  | cons p ps ih =>
    intro i hw hun hp hm
    unfold wayTo at hw
    rw [Bool.and_eq_true] at hw
    have hne := step i p hw.1 hun
    have hz := ih p hw.2 (hp p (by simp)) (fun q hq => hp q (by
      rcases List.mem_cons.1 hq with rfl | hq
      · simp
      · simp [hq]))
    rcases List.mem_cons.1 hm with e | hm
    · exact hz (by rw [e]; simp)
    · rcases List.mem_cons.1 hm with e | hm
      · exact hne e
      · exact hz (List.mem_cons_of_mem _ hm)
/-- Take number i first, which yields where S holds, and z comes up behind it only. -/
theorem wpAnyEI_firstP {i : Nat} {oi : Oper} {v : Value} (hsem : Plain F ops) (hi : ops[i]? = some oi) (hsel : ∀ (j : Nat) (o : Oper) cs b, ops[j]? = some o → o.op ≠ .select cs b)
    (hQ : ∀ c a w, Q (.panic c) (a.put oi.dst v) w → Q (.panic c) a w) (hiz : i ≠ z) (path : List Nat) (hway : wayTo md ops z i path = true) :
    ∀ (fuel : Nat) (listed : Array Bool) (a : Act) (w : World),
      (∀ j oj, ops[j]? = some oj → j ≠ i → listed.getD j true = false → (∀ e ∈ oj.after, Region.binds md e = true → e.on ≠ i) → oi.apart ops oj = true) →
      i ∈ Region.ready md ops listed → YieldsIf P ops S oi v a → (∀ p ∈ z :: path, listed.getD p true = false) → S w →
      wpAnyEI F n P md ops Q S z fuel (listed.setIfInBounds i true) (a.put oi.dst v) w → wpAnyEI F n P md ops Q S z (fuel + 1) listed a w := by
  intro fuel
  induction fuel with
  | zero =>
    intro listed a w _ hr hy _ hS H
    refine ⟨fun h => (by rw [h] at hr; cases hr), fun j hj => ?_⟩
    by_cases hji : j = i
    · subst hji; exact hy.wpOpIn hsem hi hS ⟨fun _ _ => hS, H⟩
    · have := ready_mono hj hji
      rw [H.1] at this
      cases this
  | succ fuel ih =>
    intro listed a w hfree hr hy hl hS H
    refine ⟨fun h => (by rw [h] at hr; cases hr), fun j hj => ?_⟩
    by_cases hji : j = i
    · subst hji; exact hy.wpOpIn hsem hi hS ⟨fun _ _ => hS, H⟩
    · have h1 := H.2 j (ready_mono hj hji)
      have hun := (mem_ready.1 hr).1
      have hnw := not_on_way hj path i hway hun hl
      obtain ⟨hjun, oj, hoj, hall⟩ := mem_ready.1 hj
      have hjz : j ≠ z := fun e => hnw (by rw [e]; simp)
      have hnot : ∀ e ∈ oj.after, Region.binds md e = true → e.on ≠ i := fun e he hb heq => by
        have h1 := hall e he hb
        rw [heq, getD_both hun] at h1
        cases h1
      have hzset : (listed.setIfInBounds i true).getD z false = false := by rw [getD_set_ne false hiz]; exact getD_both (hl z (by simp))
      have h2 := wpOpIn_putIf hsem hoj (hfree j oj hoj hji hjun hnot) (fun cs b => hsel i oi cs b hi) (fun cs b => hsel j oj cs b hoj) hQ hy h1
      have hfree' : ∀ k ok, ops[k]? = some ok → k ≠ i → (listed.setIfInBounds j true).getD k true = false →
          (∀ e ∈ ok.after, Region.binds md e = true → e.on ≠ i) → oi.apart ops ok = true := fun k ok hk hki hun hno => by
        refine hfree k ok hk hki ?_ hno
        by_cases hjk : j = k
        · subst hjk; exact hjun
        · rw [getD_set_ne true hjk] at hun; exact hun
      refine wpOpIn_mono (fun a' w' h3 => ⟨fun hjz' _ => h3.2.1 hjz' hzset, ih (listed.setIfInBounds j true) a' w' hfree' (ready_mono hr (Ne.symm hji)) h3.1 (fun p hp => ?_) (h3.2.1 hjz hzset) ?_⟩) h2
      · rw [getD_set_ne true (fun e => hnw (by rw [e]; exact hp))]; exact hl p hp
      · rw [Array.setIfInBounds_comm _ _ hji]
        exact h3.2.2
theorem wpAnyEI_takeP {i : Nat} {oi : Oper} {v : Value} (path : List Nat) (hsem : Plain F ops) {fuel : Nat} {listed : Array Bool} {a : Act} {w : World} (hi : ops[i]? = some oi)
    (hs : Region.noSelect ops = true) (hf : Region.free md ops listed i = true) (hr : (Region.ready md ops listed).contains i = true)
    (hQ : ∀ c a w, Q (.panic c) (a.put oi.dst v) w → Q (.panic c) a w) (hz : ((z :: path).all (fun p => !listed.getD p true) && wayTo md ops z i path && !(i == z)) = true) (hy : YieldsIf P ops S oi v a) (hS : S w)
    (h : wpAnyEI F n P md ops Q S z fuel (listed.setIfInBounds i true) (a.put oi.dst v) w) : wpAnyEI F n P md ops Q S z (fuel + 1) listed a w := by
  simp only [Bool.and_eq_true, Bool.not_eq_true', beq_eq_false_iff_ne, List.all_eq_true] at hz
  exact wpAnyEI_firstP hsem hi (Region.noSelect_spec hs) hQ hz.2 path hz.1.2 fuel listed a w (Region.free_spec hi hf) (by simpa using hr) hy (fun p hp => by simpa using hz.1.1 p hp) hS h
/-- Number i alone can come up, and z has come or comes now: S is not asked any more. -/
theorem wpAnyEI_any {i : Nat} {o : Oper} {fuel : Nat} {listed : Array Bool} {a : Act} {w : World} (hr : Region.ready md ops listed = [i]) (ho : ops[i]? = some o) (hz : (i == z || listed.getD z false) = true)
    (h : ∀ K' : Act → World → Prop, Shut (∀ a w, wpAnyEI F n P md ops Q S z fuel (listed.setIfInBounds i true) a w → K' a w) → if Region.wanted o (yielded ops a.tmps) = true then Oper.wpIn F n P o a w K' Q else (∀ f, o.about P w a.eval = some f → F.fn f) ∧ K' (a.put o.dst undef) w) : wpAnyEI F n P md ops Q S z (fuel + 1) listed a w := by
  refine ⟨fun h0 => (by rw [hr] at h0; cases h0), fun j hj => ?_⟩
  rw [hr] at hj
  have e : j = i := by simpa using hj
  subst e
  refine wpOpIn_step ho (fun K' hK => h K' (fun a w hW => hK a w ⟨fun h1 h2 => ?_, hW⟩))
  rw [Bool.or_eq_true, beq_iff_eq] at hz
  rcases hz with e | e
  · exact absurd e h1
  · rw [h2] at e; cases e
theorem wpAnyEI_nil {fuel : Nat} {listed : Array Bool} {a : Act} {w : World} (hr : Region.ready md ops listed = []) (h : Q .normal a w) : wpAnyEI F n P md ops Q S z fuel listed a w := by
  cases fuel with
  | zero => exact ⟨hr, h⟩
  | succ f => exact ⟨fun _ => h, by rw [hr]; simp⟩
end

end Go.Proofs.YtjdepjpjjgkmbaaGreat

/- Rows stored and loaded whole inside a fence; a list of records with its lists named; what a function's iterator is handed; no conditions. -/
namespace Go.Proofs.YtjdepjpjjgkmbaaGreat
open Go Go.RowKit Go.Shelf

section
variable {F : Fence} {n : Nat} {P : Program} {ops : Array Oper} {rest : List Oper} {o : Oper} {a : Act} {w : World} {Q : Exit → Act → World → Prop}
theorem wpIn_store_row {K : Act → World → Prop} (hF : ∀ f, F.fn f) (ty : TypeId) (x y : Operand) (ho : o.op = .store ty x y)
    (g : Nat) (cells : Array Value) (hx : a.eval x = .pointer (some ⟨g, 0, none⟩)) (hy : a.eval y = .agg cells)
    (t : TypeId) (old : Array Value) (hg : Box w g t old) (hi : (P.info? ty).map (·.size) = some cells.size)
    (hold : old.size = cells.size) (h1 : cells.all (·.oneCell') = true)
    (h : K (a.put o.dst undef) (w.setRow g cells)) : o.wpIn F n P a w K Q := by
  unfold Oper.wpIn
  refine ⟨fun f _ => hF f, ?_⟩
  rw [Oper.semAt_plain F _ _ (by rw [ho]; intro c hc; cases hc)]
  unfold execOp
  simp only [ho, hx, hy, Instr.storeAt, Instr.sureAddr, Sem.run_bind, Sem.run_pure, Result.andThen_ok, run_storeVar_row w g t ty old cells hg hi hold h1]
  exact h
theorem wpListIn_store_row (hF : ∀ f, F.fn f) (hgd : o.guard = none) (ty : TypeId) (x y : Operand) (ho : o.op = .store ty x y)
    (g : Nat) (cells : Array Value) (hx : a.eval x = .pointer (some ⟨g, 0, none⟩)) (hy : a.eval y = .agg cells)
    (t : TypeId) (old : Array Value) (hg : Box w g t old) (hi : (P.info? ty).map (·.size) = some cells.size)
    (hold : old.size = cells.size) (h1 : cells.all (·.oneCell') = true)
    (h : wpListIn F n P ops Q rest (a.put o.dst undef) (w.setRow g cells)) : wpListIn F n P ops Q (o :: rest) a w :=
  wpListIn_plain hgd fun _ hK => wpIn_store_row hF ty x y ho g cells hx hy t old hg hi hold h1 (hK _ _ h)
end

/-- A list of records, its lists named. -/
def RecsV (ds : List RecD) (w : World) (F : Nat → Prop) (A : Option Addr) (n : Nat) (L : Nat → Option Addr) (m mc : Nat → Nat) : Prop :=
  ds.length = n ∧ (0 < n → ∃ b o, A = some ⟨b, o, none⟩ ∧ F b ∧ b < w.heap.size ∧ ∀ i (h : i < ds.length), RecAt w b (o + i * 9) ds[i] (.slice (L i) (m i) (mc i)) ∧ m i ≤ maxLen ∧ PairsF w F (L i) (m i) (ds[i]).ps)
theorem RecsV.turn {T : Nat → Prop} {w w' : World} {F : Nat → Prop} {A : Option Addr} {n : Nat} {ds : List RecD} {L : Nat → Option Addr} {m mc : Nat → Nat} (h : RecsV ds w F A n L m mc) (ht : Turns T w w') (hd : ∀ b, F b → ¬ T b) : RecsV ds w' F A n L m mc := by
  refine ⟨h.1, fun hn => ?_⟩
  obtain ⟨b, o, hA, hF, hb, hc⟩ := h.2 hn
  refine ⟨b, o, hA, hF, Nat.lt_of_lt_of_le hb ht.size, fun i hi => ?_⟩
  obtain ⟨h1, h2, h3⟩ := hc i hi
  exact ⟨h1.turn hb ht (hd b hF), h2, h3.turn ht hd⟩
theorem RecsF.vals {ds : List RecD} {w : World} {F : Nat → Prop} {A : Option Addr} {n : Nat} (h : RecsF ds w F A n) : ∃ L m mc, RecsV ds w F A n L m mc := by
  by_cases hn : 0 < n
  · obtain ⟨b, o, hA, hF, hb, hc⟩ := h.2 hn
    have hc' : ∀ i, ∃ p : Option Addr × Nat × Nat, ∀ hi : i < ds.length, RecAt w b (o + i * 9) ds[i] (.slice p.1 p.2.1 p.2.2) ∧ p.2.1 ≤ maxLen ∧ PairsF w F p.1 p.2.1 (ds[i]).ps := fun i => by
      by_cases hi : i < ds.length
      · obtain ⟨L, m, mc, h1, h2, h3⟩ := hc i hi
        exact ⟨(L, m, mc), fun _ => ⟨h1, h2, h3⟩⟩
      · exact ⟨(none, 0, 0), fun h => absurd h hi⟩
    exact ⟨fun i => (Classical.choose (hc' i)).1, fun i => (Classical.choose (hc' i)).2.1, fun i => (Classical.choose (hc' i)).2.2, h.1, fun _ => ⟨b, o, hA, hF, hb, fun i hi => Classical.choose_spec (hc' i) hi⟩⟩
  · exact ⟨fun _ => none, fun _ => 0, fun _ => 0, h.1, fun h => absurd h hn⟩
/-- A record's cells, its list at this place. -/
def cellsC (d : RecD) (L : Option Addr) (m mc : Nat) : Array Value := #[.int .i64 d.r1, .int .i64 d.r2, .int .i64 d.r3, .int .i64 d.r4, .int .i64 d.r5, .int .i64 d.r6, .int .i64 d.r7, .slice L m mc, .int .i64 d.r8]
/-- The numbers below k, below n. -/
def firsts (n k : Nat) : List (Fin n) := (List.finRange n).take k
theorem firsts_snoc (n k : Nat) (h : k < n) : firsts n (k + 1) = firsts n k ++ [⟨k, h⟩] := by
  unfold firsts
  rw [List.take_succ_eq_append_getElem (by simpa using h)]
  simp
theorem firsts_all (n : Nat) : firsts n n = List.finRange n := by
  unfold firsts
  exact List.take_of_length_le (by simp)
theorem firsts_pre (n k : Nat) : firsts n k <+: List.finRange n := List.take_prefix _ _
theorem firsts_len (n k : Nat) (h : k ≤ n) : (firsts n k).length = k := by
  unfold firsts
  simp only [List.length_take, List.length_finRange]
  omega
/-- New blocks alone. -/
theorem grown_none {a b : World} (h : Below a.heap.size a b) : a.grownBy b none := ⟨h.os, h.tape, h.output, h.size, fun i hi _ => h.block i hi⟩
/-- Whatever abides growth abides new blocks. -/
theorem AbidesFrom.later {β : Type} {B : Nat} {J : β → World → Prop} (h : AbidesFrom B J) {s : β} {w w' : World} (hj : J s w) (hb : Below w.heap.size w w') : J s w' :=
  h s w w' none hj (grown_none hb) (fun r e => by cases e)
/-- What a round keeps: whatever lay below N, and whatever is cells, but for the block G. -/
structure KeepC (G N : Nat) (w w' : World) : Prop where
  os : w'.os = w.os
  tape : w'.tape = w.tape
  output : w'.output = w.output
  size : w.heap.size ≤ w'.heap.size
  block : ∀ i o, w.heap[i]? = some o → i ≠ G → (i < N ∨ o.isCells = true) → w'.heap[i]? = some o
/-- The blocks that may have turned. -/
def TurnC (G N : Nat) (w : World) : Nat → Prop := fun i => i = G ∨ (N ≤ i ∧ ∃ o, w.heap[i]? = some o ∧ o.isCells = false)
theorem KeepC.turns {G N : Nat} {w w' : World} (h : KeepC G N w w') : Turns (TurnC G N w) w w' := ⟨h.os, h.tape, h.output, h.size, fun i hi hT => by
  have e : w.heap[i]? = some w.heap[i] := Array.getElem?_eq_getElem hi
  rw [e]
  refine h.block i _ e (fun hG => hT (.inl hG)) ?_
  by_cases hN : i < N
  · exact .inl hN
  · refine .inr ?_
    rcases hc : (w.heap[i]).isCells with _ | _
    · exact absurd (.inr ⟨by omega, _, e, hc⟩) hT
    · rfl⟩
theorem KeepC.trans {G N : Nat} {a b c : World} (h : KeepC G N a b) (k : KeepC G N b c) : KeepC G N a c :=
  ⟨k.os.trans h.os, k.tape.trans h.tape, k.output.trans h.output, Nat.le_trans h.size k.size, fun i o hi hG hN => k.block i o (h.block i o hi hG hN) hG hN⟩
theorem KeepC.of_below {G N : Nat} {a b : World} (h : Below a.heap.size a b) : KeepC G N a b :=
  ⟨h.os, h.tape, h.output, h.size, fun i _ hi _ _ => (h.block i (Array.getElem?_eq_some_iff.1 hi).1).trans hi⟩
theorem KeepC.of_turns {G N : Nat} {T : Nat → Prop} {a b : World} (h : Turns T a b) (hT : ∀ i, T i → i = G) : KeepC G N a b :=
  ⟨h.os, h.tape, h.output, h.size, fun i _ hi hG _ => (h.block i (Array.getElem?_eq_some_iff.1 hi).1 (fun ht => hG (hT i ht))).trans hi⟩
theorem KeepC.refl {G N : Nat} (w : World) : KeepC G N w w := KeepC.of_below (Below.refl _ _)
theorem keepC_put {G N : Nat} (W : World) (l : Nat) (o o' : Obj) (hl : N ≤ l) (h : W.heap[l]? = some o) (hc : o.isCells = false) : KeepC G N W (W.putObj l o') :=
  ⟨rfl, rfl, rfl, by simp [World.putObj], fun i x hi _ hx => by
    have hne : i ≠ l := fun e => by
      subst e
      rw [h] at hi
      injection hi with hi
      subst hi
      rcases hx with hx | hx
      · omega
      · rw [hc] at hx; cases hx
    exact (World.putObj_heap_other hne).trans hi⟩
theorem notC_box {G N : Nat} {w : World} {g : Nat} {t : TypeId} {cs : Array Value} (hx : Box w g t cs) (hg : g ≠ G) : ¬ TurnC G N w g := fun h => by
  rcases h with h | ⟨_, o, ho, hc⟩
  · exact hg h
  · rw [show w.heap[g]? = some (.cells cs t (0, 0)) from hx] at ho
    injection ho with ho
    subst ho
    cases hc
theorem notC_low {G N : Nat} {w : World} {b : Nat} (hb : b < N) (hg : b ≠ G) : ¬ TurnC G N w b := fun h => by
  rcases h with h | ⟨h, _⟩
  · exact hg h
  · omega
theorem Box.keepC {G N : Nat} {w w' : World} {g : Nat} {t : TypeId} {cs : Array Value} (hx : Box w g t cs) (h : KeepC G N w w') (hg : g ≠ G) : Box w' g t cs := hx.turn h.turns (notC_box hx hg)
end Go.Proofs.YtjdepjpjjgkmbaaGreat

/- The program's iterator over a list of records, each with whether it is right where it stands (written by iter9.py); conditions: the sizes. -/
namespace Go.Proofs.YtjdepjpjjgkmbaaGreat
open Go Go.RowKit Go.Shelf

attribute [local go_sem] Oper.semAt_some

/-- What a round is handed. -/
def encC (g : GrpD) (ds : List RecD) (L : Nat → Option Addr) (m mc : Nat → Nat) (k : Fin ds.length) : Array Value := #[.agg (cellsC ds[k.val] (L k.val) (m k.val) (mc k.val)), .bool (isAt g ds k.val)]

set_option maxRecDepth 100000 in
set_option maxHeartbeats 16000000 in
theorem recsIter_stops (g : GrpD) (ds : List RecD) (A : Option Addr) (n cap : Nat) (LA : Option Addr) (ln lc : Nat) (L : Nat → Option Addr) (m mc : Nat → Nat) (B1 B2 G N : Nat) (F : Nat → Prop) (w : World)
    (hG1 : B1 ≠ G) (hG2 : B2 ≠ G) (hF : ∀ b, F b → b < N ∧ b ≠ G) (h1 : Box w B1 27 #[.slice LA ln lc]) (h2 : Box w B2 26 #[.int .i64 g.s, .int .i64 g.l, .int .i64 g.c, .int .i64 g.sh, .slice A n cap]) (hm : n ≤ maxLen) (hR : RowF w F A n g.zs) (hD : RecsV ds w F LA ln L m mc) (hln : ln ≤ 1048576) (hmk : ∀ k, k < ds.length → m k ≤ 4194304) :
    SeqStopsK Fence.wide 2 Tryz.prog 217 #[.pointer (some ⟨B1, 0, none⟩), .pointer (some ⟨B2, 0, none⟩)] (encC g ds L m mc) (KeepC G N) (fun ys => ys = List.finRange ds.length) (fun pre => pre <+: List.finRange ds.length) ds.length w := by
  intro l J Jx W hW hJ hJx hY h0
  show CallsIn Fence.wide 2 Tryz.prog 217 #[.func (.yield l) #[] #[], .pointer (some ⟨B1, 0, none⟩), .pointer (some ⟨B2, 0, none⟩)] W _
  replace h1 := Lib.hid (h1.later hW h1.lt)
  replace h2 := Lib.hid (h2.later hW h2.lt)
  replace hR := Lib.hid (hR.turn (T := fun _ => False) (Turns.of_below hW) (fun _ _ h => h))
  replace hD := Lib.hid (hD.turn (T := fun _ => False) (Turns.of_below hW) (fun _ _ h => h))
  have HL := Lib.hid hD.out.1
  have HJ := Lib.hid hJ
  have HM := Lib.hid hm
  have HF := Lib.hid hF
  have HG1 := Lib.hid hG1
  have HG2 := Lib.hid hG2
  have HMK := Lib.hid hmk
  clear hW w hJ hJx hm hF hG1 hG2 hmk
  refine callsIn_of_wp Tryz.func217 rfl trivial ?_ rfl
  simp only [Tryz.ntmps217, List.size_toArray, List.length_cons, List.length_nil, Nat.reduceAdd, Nat.reduceSub, Array.replicate_succ, Array.replicate_zero, List.push_toArray, List.append_toArray, List.nil_append, List.cons_append]
  have c1 : W.cell? ⟨B1, 0, none⟩ = some (.slice LA ln lc) := h1.out.cell 0
  gi_wp2
  gi_loopw [8] (fun i wr => ∃ k : Nat, k ≤ ln ∧ i = .int .i64 k ∧ J (firsts ds.length k) wr ∧ KeepC G N W wr) (fun i _ => ln - (intOf i).toNat)
  case atStart => exact ⟨0, Nat.zero_le _, rfl, h0, KeepC.refl _⟩
  case round =>
    clear c1 h0
    obtain ⟨k, hk, rfl, hJk, ht⟩ := hrel
    have HJk := Lib.hid hJk
    have HT := Lib.hid ht
    clear hJk ht
    by_cases hlt : k < ln
    · skip
      have hkd : k < ds.length := by have := HL.out; omega
      have hDk := hD.out.turn HT.out.turns (fun b hb => notC_low (HF.out b hb).1 (HF.out b hb).2)
      obtain ⟨b, o, hA, hbF, hbl, hcell⟩ := hDk.2 (by omega)
      subst hA
      obtain ⟨hrec, hmm, hps⟩ := hcell k hkd
      clear hcell hDk
      have HRw := Lib.hid (hR.out.turn HT.out.turns (fun b hb => notC_low (HF.out b hb).1 (HF.out b hb).2)).1
      have HX2 := Lib.hid (h2.out.keepC HT.out HG2.out)
      have hIs := isAt_lt (g := g) hkd
      have hmk4 := HMK.out k hkd
      have hYk := fun W1 h => hY (firsts ds.length k) ⟨k, hkd⟩ W1 h (by rw [firsts_len _ _ (by omega)]; exact hkd)
      unfold encC at hYk
      rw [← firsts_snoc] at hYk
      dsimp only at hYk
      obtain ⟨d, hd⟩ : ∃ d : RecD, ds[k] = d := ⟨_, rfl⟩
      rw [hd] at hrec hps hIs hYk
      obtain ⟨Lk, hLk⟩ : ∃ x, L k = x := ⟨_, rfl⟩
      obtain ⟨mk, hmkk⟩ : ∃ x, m k = x := ⟨_, rfl⟩
      obtain ⟨mck, hmck⟩ : ∃ x, mc k = x := ⟨_, rfl⟩
      rw [hLk, hmkk] at hps
      rw [hLk, hmkk, hmck] at hrec hYk
      rw [hmkk] at hmm hmk4
      unfold cellsC at hYk
      have HPw := Lib.hid hps.1
      have HA := Lib.hid hIs
      have HY := Lib.hid hYk
      clear hd hIs hLk hmkk hmck hps hYk
      obtain ⟨c0, c1, c2, c3, c4, c5, c6, c7, c8⟩ := hrec
      have hltI : (k : Int) < (ln : Int) := by omega
      have hkw : IntKind.i64.wrap ((k : Int) + 1) = (k : Int) + 1 := IntWalk.i64_in _ (by omega)
      have ZB := Box.new wr 46 #[.int .i64 0, .int .i64 0, .int .i64 0, .int .i64 0, .int .i64 0, .int .i64 0, .int .i64 0, .slice none 0 0, .int .i64 0]
      have hn := bel_new_row wr #[.int .i64 0, .int .i64 0, .int .i64 0, .int .i64 0, .int .i64 0, .int .i64 0, .int .i64 0, .slice none 0 0, .int .i64 0] 46 #[.int .i64 d.r1, .int .i64 d.r2, .int .i64 d.r3, .int .i64 d.r4, .int .i64 d.r5, .int .i64 d.r6, .int .i64 d.r7, .slice Lk mk mck, .int .i64 d.r8]
      have X := (Box.new wr 46 #[.int .i64 0, .int .i64 0, .int .i64 0, .int .i64 0, .int .i64 0, .int .i64 0, .int .i64 0, .slice none 0 0, .int .i64 0]).setRow #[.int .i64 d.r1, .int .i64 d.r2, .int .i64 d.r3, .int .i64 d.r4, .int .i64 d.r5, .int .i64 d.r6, .int .i64 d.r7, .slice Lk mk mck, .int .i64 d.r8]
      gi_upto_region 3 with (refine wpListIn_store_row (fun _ => trivial) rfl 46 _ _ rfl wr.heap.size _ rfl rfl 46 #[.int .i64 0, .int .i64 0, .int .i64 0, .int .i64 0, .int .i64 0, .int .i64 0, .int .i64 0, .slice none 0 0, .int .i64 0] ZB (by kernel_rfl) rfl (by simp [Value.oneCell']) ?_)
      clear ZB c0 c1 c2 c3 c4 c5 c6 c7 c8 hbl
      try simp only [Act.put]
      have E := hn
      have HX := Lib.hid (HX2.out.later hn HX2.out.lt)
      clear hn HX2
      generalize ((wr.alloc _).setRow _ _ : World) = w1 at E X HX ⊢
      have hV : wr.heap.size = wr.heap.size := rfl
      obtain ⟨V, hVV⟩ : ∃ V, wr.heap.size = V := ⟨_, rfl⟩
      have HE := Lib.hid E
      clear hV E
      rw [hVV] at X ⊢
      have HV := Lib.hid hVV
      clear hVV
      have HK1 := Lib.hid (show True from trivial)
      clear HK1
      by_cases hno : d.r1 = (k : Int) + 1
      rotate_left
      · skip
        have hne : (d.r1 == (k : Int) + 1) = false := by simpa using hno
        have hf : isAt g ds k = false := by rw [HA.out]; simp [hno]
        rw [hf] at HY
        clear hf hno
        refine wpIn_region_sink 12 (fun w' => Box w' V 46 #[.int .i64 d.r1, .int .i64 d.r2, .int .i64 d.r3, .int .i64 d.r4, .int .i64 d.r5, .int .i64 d.r6, .int .i64 d.r7, .slice Lk mk mck, .int .i64 d.r8] ∧ Box w' B2 26 #[.int .i64 g.s, .int .i64 g.l, .int .i64 g.c, .int .i64 g.sh, .slice A n cap]) (by kernel_rfl) ⟨X.later ((Below.refl w1.heap.size w1).drew) X.lt, HX.out.later ((Below.refl w1.heap.size w1).drew) HX.out.lt⟩ (fun hH => ?_)
        replace HE := Lib.hid (bel_trans HE.out (Below.refl w1.heap.size w1).drew)
        clear X HX
        generalize w1.drew = w2 at HE hH ⊢
        refine wpAnyEI_pure (plain_of (fun _ => trivial) (by kernel_rfl)) (i := 0) (v := ?vu0_1) (by simp only [List.getElem?_toArray, List.getElem?_cons_zero]; rfl) (by kernel_rfl) (by kernel_rfl) (by kernel_rfl) (by exact fun _ _ _ h => h) (by kernel_rfl) (Or.inl ⟨by rfl, ?yu0_1⟩) hH ?_
        case yu0_1 => (intro w' hSw; (try dsimp only at hSw); go_simp; try with_reducible rfl)
        try simp only [Act.put, List.setIfInBounds_toArray, List.set_cons_zero, List.set_cons_succ]
        refine wpAnyEI_takeP [] (plain_of (fun _ => trivial) (by kernel_rfl)) (i := 1) (v := .agg #[.int .i64 d.r1, .int .i64 d.r2, .int .i64 d.r3, .int .i64 d.r4, .int .i64 d.r5, .int .i64 d.r6, .int .i64 d.r7, .slice Lk mk mck, .int .i64 d.r8]) (by simp only [List.getElem?_toArray, List.getElem?_cons_succ, List.getElem?_cons_zero]; rfl) (by kernel_rfl) (by kernel_rfl) (by kernel_rfl) (by exact fun _ _ _ h => h) (by kernel_rfl) ?y1 hH ?_
        case y1 => exact yields_box 46 _ rfl (V) rfl 46 #[.int .i64 d.r1, .int .i64 d.r2, .int .i64 d.r3, .int .i64 d.r4, .int .i64 d.r5, .int .i64 d.r6, .int .i64 d.r7, .slice Lk mk mck, .int .i64 d.r8] (fun _ h => h.1) _ Tryz.underlying46 rfl (by kernel_rfl) (by first | rfl | simp [Region.wanted, yielded] | (simp [Region.wanted, yielded, Act.put] <;> omega))
        try simp only [Act.put, List.setIfInBounds_toArray, List.set_cons_zero, List.set_cons_succ]
        refine wpAnyEI_pure (plain_of (fun _ => trivial) (by kernel_rfl)) (i := 2) (v := ?vu2_2) (by simp only [List.getElem?_toArray, List.getElem?_cons_succ, List.getElem?_cons_zero]; rfl) (by kernel_rfl) (by kernel_rfl) (by kernel_rfl) (by exact fun _ _ _ h => h) (by kernel_rfl) (Or.inl ⟨by rfl, ?yu2_2⟩) hH ?_
        case yu2_2 => (intro w' hSw; (try dsimp only at hSw); go_simp; try with_reducible rfl)
        try simp only [Act.put, List.setIfInBounds_toArray, List.set_cons_zero, List.set_cons_succ]
        refine wpAnyEI_takeP [6, 7, 11] (plain_of (fun _ => trivial) (by kernel_rfl)) (i := 3) (v := .int .i64 d.r1) (by simp only [List.getElem?_toArray, List.getElem?_cons_succ, List.getElem?_cons_zero]; rfl) (by kernel_rfl) (by kernel_rfl) (by kernel_rfl) (by exact fun _ _ _ h => h) (by kernel_rfl) (Or.inl ⟨(by first | rfl | simp [Region.wanted, yielded] | (simp [Region.wanted, yielded, Act.put] <;> omega)), ?y3⟩) hH ?_
        case y3 => (intro w' hSw; have hc0 : w'.cell? ⟨V, 0, none⟩ = some (.int .i64 d.r1) := hSw.1.cell 0; clear hSw; go_simp; try with_reducible rfl)
        try simp only [Act.put, List.setIfInBounds_toArray, List.set_cons_zero, List.set_cons_succ]
        refine wpAnyEI_pure (plain_of (fun _ => trivial) (by kernel_rfl)) (i := 4) (v := ?vu4_3) (by simp only [List.getElem?_toArray, List.getElem?_cons_succ, List.getElem?_cons_zero]; rfl) (by kernel_rfl) (by kernel_rfl) (by kernel_rfl) (by exact fun _ _ _ h => h) (by kernel_rfl) (Or.inl ⟨by rfl, ?yu4_3⟩) hH ?_
        case yu4_3 => (intro w' hSw; (try dsimp only at hSw); go_simp; try with_reducible rfl)
        try simp only [Act.put, List.setIfInBounds_toArray, List.set_cons_zero, List.set_cons_succ]
        refine wpAnyEI_pure (plain_of (fun _ => trivial) (by kernel_rfl)) (i := 5) (v := ?vu5_4) (by simp only [List.getElem?_toArray, List.getElem?_cons_succ, List.getElem?_cons_zero]; rfl) (by kernel_rfl) (by kernel_rfl) (by kernel_rfl) (by exact fun _ _ _ h => h) (by kernel_rfl) (Or.inl ⟨by rfl, ?yu5_4⟩) hH ?_
        case yu5_4 => (intro w' hSw; (try dsimp only at hSw); go_simp; try with_reducible rfl)
        try simp only [Act.put, List.setIfInBounds_toArray, List.set_cons_zero, List.set_cons_succ]
        refine wpAnyEI_pure (plain_of (fun _ => trivial) (by kernel_rfl)) (i := 6) (v := ?vu6_5) (by simp only [List.getElem?_toArray, List.getElem?_cons_succ, List.getElem?_cons_zero]; rfl) (by kernel_rfl) (by kernel_rfl) (by kernel_rfl) (by exact fun _ _ _ h => h) (by kernel_rfl) (Or.inl ⟨by rfl, ?yu6_5⟩) hH ?_
        case yu6_5 => (intro w' hSw; (try dsimp only at hSw); go_simp; try with_reducible rfl)
        try simp only [Act.put, List.setIfInBounds_toArray, List.set_cons_zero, List.set_cons_succ]
        refine wpAnyEI_pure (plain_of (fun _ => trivial) (by kernel_rfl)) (i := 7) (v := ?vu7_6) (by simp only [List.getElem?_toArray, List.getElem?_cons_succ, List.getElem?_cons_zero]; rfl) (by kernel_rfl) (by kernel_rfl) (by kernel_rfl) (by exact fun _ _ _ h => h) (by kernel_rfl) (Or.inl ⟨by rfl, ?yu7_6⟩) hH ?_
        case yu7_6 => (intro w' hSw; (try dsimp only at hSw); go_simp; try with_reducible rfl)
        try simp only [Act.put, List.setIfInBounds_toArray, List.set_cons_zero, List.set_cons_succ]
        refine wpAnyEI_pure (plain_of (fun _ => trivial) (by kernel_rfl)) (i := 8) (v := undef) (by simp only [List.getElem?_toArray, List.getElem?_cons_succ, List.getElem?_cons_zero]; rfl) (by kernel_rfl) (by kernel_rfl) (by kernel_rfl) (by exact fun _ _ _ h => h) (by kernel_rfl) (Or.inr ⟨(by first | rfl | simp [Region.wanted, yielded] | (simp [Region.wanted, yielded, Act.put] <;> omega)), rfl⟩) hH ?_
        try simp only [Act.put, List.setIfInBounds_toArray, List.set_cons_zero, List.set_cons_succ]
        refine wpAnyEI_pure (plain_of (fun _ => trivial) (by kernel_rfl)) (i := 9) (v := undef) (by simp only [List.getElem?_toArray, List.getElem?_cons_succ, List.getElem?_cons_zero]; rfl) (by kernel_rfl) (by kernel_rfl) (by kernel_rfl) (by exact fun _ _ _ h => h) (by kernel_rfl) (Or.inr ⟨(by first | rfl | simp [Region.wanted, yielded] | (simp [Region.wanted, yielded, Act.put] <;> omega)), rfl⟩) hH ?_
        try simp only [Act.put, List.setIfInBounds_toArray, List.set_cons_zero, List.set_cons_succ]
        refine wpAnyEI_pure (plain_of (fun _ => trivial) (by kernel_rfl)) (i := 10) (v := undef) (by simp only [List.getElem?_toArray, List.getElem?_cons_succ, List.getElem?_cons_zero]; rfl) (by kernel_rfl) (by kernel_rfl) (by kernel_rfl) (by exact fun _ _ _ h => h) (by kernel_rfl) (Or.inr ⟨(by first | rfl | simp [Region.wanted, yielded] | (simp [Region.wanted, yielded, Act.put] <;> omega)), rfl⟩) hH ?_
        try simp only [Act.put, List.setIfInBounds_toArray, List.set_cons_zero, List.set_cons_succ]
        refine wpAnyEI_pure (plain_of (fun _ => trivial) (by kernel_rfl)) (i := 11) (v := ?vu11_7) (by simp only [List.getElem?_toArray, List.getElem?_cons_succ, List.getElem?_cons_zero]; rfl) (by kernel_rfl) (by kernel_rfl) (by kernel_rfl) (by exact fun _ _ _ h => h) (by kernel_rfl) (Or.inl ⟨by rfl, ?yu11_7⟩) hH ?_
        case yu11_7 => (intro w' hSw; (try dsimp only at hSw); go_simp; try with_reducible rfl)
        try simp only [Act.put, List.setIfInBounds_toArray, List.set_cons_zero, List.set_cons_succ]
        obtain ⟨fnY, tmpsY, assignY, bodyY, hy, hRd⟩ := HY.out w2 (AbidesFrom.later HJ.out HJk.out HE.out)
        refine wpAnyEI_any (i := 12) (by kernel_rfl) (by simp only [List.getElem?_toArray, List.getElem?_cons_succ, List.getElem?_cons_zero]; rfl) (by kernel_rfl) (fun K' hK => ?_)
        clear hH
        go_simp
        refine hRd.mono ?_
        rintro e W3 (⟨rfl, hJ3, hk3⟩ | ⟨rfl, hJx3⟩)
        · skip
          refine hK.out _ _ ?_
          clear hK K' hy hRd
          try simp only [Act.put, List.setIfInBounds_toArray, List.set_cons_zero, List.set_cons_succ]
          refine wpAnyEI_any (i := 13) (by kernel_rfl) (by simp only [List.getElem?_toArray, List.getElem?_cons_succ, List.getElem?_cons_zero]; rfl) (by kernel_rfl) (fun K' hK => ?_)
          go_simp
          refine hK.out _ _ (wpAnyEI_nil (by kernel_rfl) ?_)
          clear hK K'
          try simp only [Act.put, List.setIfInBounds_toArray, List.set_cons_zero, List.set_cons_succ]
          have HK3 := Lib.hid ((KeepC.of_below (G := G) (N := N) HE.out).trans hk3)
          have HJ3 := Lib.hid hJ3
          clear hJ3 hk3 HE
          gi_wp2
          go_roundw
          case rel => exact ⟨k + 1, by omega, by go_num, HJ3.out, HT.out.trans HK3.out⟩
          case measure => simp [intOf]; omega
        · skip
          refine hK.out _ _ ?_
          clear hK K' hy hRd
          try simp only [Act.put, List.setIfInBounds_toArray, List.set_cons_zero, List.set_cons_succ]
          refine wpAnyEI_any (i := 13) (by kernel_rfl) (by simp only [List.getElem?_toArray, List.getElem?_cons_succ, List.getElem?_cons_zero]; rfl) (by kernel_rfl) (fun K' hK => ?_)
          go_simp
          refine hK.out _ _ (wpAnyEI_nil (by kernel_rfl) ?_)
          clear hK K'
          try simp only [Act.put, List.setIfInBounds_toArray, List.set_cons_zero, List.set_cons_succ]
          have HJ3 := Lib.hid hJx3
          clear hJx3 HE
          gi_wp2
          refine bodyPost_ret (results_none rfl _ _ _) rfl ?_
          exact ⟨⟨_, rfl⟩, .inr ⟨firsts ds.length (k + 1), firsts_pre _ _, HJ3.out⟩⟩
      have hne : (d.r1 == (k : Int) + 1) = true := by simpa using hno
      obtain ⟨z, hz⟩ : ∃ z, rokD g d = z := ⟨_, rfl⟩
      have hf : isAt g ds k = z := by rw [HA.out, hz]; simp [hno]
      rw [hf] at HY
      have HB : Hid (rokB g.s g.l g.c g.sh g.zs d.r1 d.r2 d.r3 d.r4 d.r5 d.r6 d.r7 d.ps d.r8 = z) := Lib.hid hz
      clear hf hno hz HA
      refine wpIn_region_sink 12 (fun w' => Box w' V 46 #[.int .i64 d.r1, .int .i64 d.r2, .int .i64 d.r3, .int .i64 d.r4, .int .i64 d.r5, .int .i64 d.r6, .int .i64 d.r7, .slice Lk mk mck, .int .i64 d.r8] ∧ Box w' B2 26 #[.int .i64 g.s, .int .i64 g.l, .int .i64 g.c, .int .i64 g.sh, .slice A n cap]) (by kernel_rfl) ⟨X.later ((Below.refl w1.heap.size w1).drew) X.lt, HX.out.later ((Below.refl w1.heap.size w1).drew) HX.out.lt⟩ (fun hH => ?_)
      replace HE := Lib.hid (bel_trans HE.out (Below.refl w1.heap.size w1).drew)
      clear X HX
      generalize w1.drew = w2 at HE hH ⊢
      refine wpAnyEI_pure (plain_of (fun _ => trivial) (by kernel_rfl)) (i := 0) (v := ?vu0_8) (by simp only [List.getElem?_toArray, List.getElem?_cons_zero]; rfl) (by kernel_rfl) (by kernel_rfl) (by kernel_rfl) (by exact fun _ _ _ h => h) (by kernel_rfl) (Or.inl ⟨by rfl, ?yu0_8⟩) hH ?_
      case yu0_8 => (intro w' hSw; (try dsimp only at hSw); go_simp; try with_reducible rfl)
      try simp only [Act.put, List.setIfInBounds_toArray, List.set_cons_zero, List.set_cons_succ]
      refine wpAnyEI_takeP [] (plain_of (fun _ => trivial) (by kernel_rfl)) (i := 1) (v := .agg #[.int .i64 d.r1, .int .i64 d.r2, .int .i64 d.r3, .int .i64 d.r4, .int .i64 d.r5, .int .i64 d.r6, .int .i64 d.r7, .slice Lk mk mck, .int .i64 d.r8]) (by simp only [List.getElem?_toArray, List.getElem?_cons_succ, List.getElem?_cons_zero]; rfl) (by kernel_rfl) (by kernel_rfl) (by kernel_rfl) (by exact fun _ _ _ h => h) (by kernel_rfl) ?y1 hH ?_
      case y1 => exact yields_box 46 _ rfl (V) rfl 46 #[.int .i64 d.r1, .int .i64 d.r2, .int .i64 d.r3, .int .i64 d.r4, .int .i64 d.r5, .int .i64 d.r6, .int .i64 d.r7, .slice Lk mk mck, .int .i64 d.r8] (fun _ h => h.1) _ Tryz.underlying46 rfl (by kernel_rfl) (by first | rfl | simp [Region.wanted, yielded] | (simp [Region.wanted, yielded, Act.put] <;> omega))
      try simp only [Act.put, List.setIfInBounds_toArray, List.set_cons_zero, List.set_cons_succ]
      refine wpAnyEI_pure (plain_of (fun _ => trivial) (by kernel_rfl)) (i := 2) (v := ?vu2_9) (by simp only [List.getElem?_toArray, List.getElem?_cons_succ, List.getElem?_cons_zero]; rfl) (by kernel_rfl) (by kernel_rfl) (by kernel_rfl) (by exact fun _ _ _ h => h) (by kernel_rfl) (Or.inl ⟨by rfl, ?yu2_9⟩) hH ?_
      case yu2_9 => (intro w' hSw; (try dsimp only at hSw); go_simp; try with_reducible rfl)
      try simp only [Act.put, List.setIfInBounds_toArray, List.set_cons_zero, List.set_cons_succ]
      refine wpAnyEI_takeP [6, 7, 11] (plain_of (fun _ => trivial) (by kernel_rfl)) (i := 3) (v := .int .i64 d.r1) (by simp only [List.getElem?_toArray, List.getElem?_cons_succ, List.getElem?_cons_zero]; rfl) (by kernel_rfl) (by kernel_rfl) (by kernel_rfl) (by exact fun _ _ _ h => h) (by kernel_rfl) (Or.inl ⟨(by first | rfl | simp [Region.wanted, yielded] | (simp [Region.wanted, yielded, Act.put] <;> omega)), ?y3⟩) hH ?_
      case y3 => (intro w' hSw; have hc0 : w'.cell? ⟨V, 0, none⟩ = some (.int .i64 d.r1) := hSw.1.cell 0; clear hSw; go_simp; try with_reducible rfl)
      try simp only [Act.put, List.setIfInBounds_toArray, List.set_cons_zero, List.set_cons_succ]
      refine wpAnyEI_pure (plain_of (fun _ => trivial) (by kernel_rfl)) (i := 4) (v := ?vu4_10) (by simp only [List.getElem?_toArray, List.getElem?_cons_succ, List.getElem?_cons_zero]; rfl) (by kernel_rfl) (by kernel_rfl) (by kernel_rfl) (by exact fun _ _ _ h => h) (by kernel_rfl) (Or.inl ⟨by rfl, ?yu4_10⟩) hH ?_
      case yu4_10 => (intro w' hSw; (try dsimp only at hSw); go_simp; try with_reducible rfl)
      try simp only [Act.put, List.setIfInBounds_toArray, List.set_cons_zero, List.set_cons_succ]
      refine wpAnyEI_pure (plain_of (fun _ => trivial) (by kernel_rfl)) (i := 5) (v := ?vu5_11) (by simp only [List.getElem?_toArray, List.getElem?_cons_succ, List.getElem?_cons_zero]; rfl) (by kernel_rfl) (by kernel_rfl) (by kernel_rfl) (by exact fun _ _ _ h => h) (by kernel_rfl) (Or.inl ⟨by rfl, ?yu5_11⟩) hH ?_
      case yu5_11 => (intro w' hSw; (try dsimp only at hSw); go_simp; try with_reducible rfl)
      try simp only [Act.put, List.setIfInBounds_toArray, List.set_cons_zero, List.set_cons_succ]
      refine wpAnyEI_pure (plain_of (fun _ => trivial) (by kernel_rfl)) (i := 6) (v := ?vu6_12) (by simp only [List.getElem?_toArray, List.getElem?_cons_succ, List.getElem?_cons_zero]; rfl) (by kernel_rfl) (by kernel_rfl) (by kernel_rfl) (by exact fun _ _ _ h => h) (by kernel_rfl) (Or.inl ⟨by rfl, ?yu6_12⟩) hH ?_
      case yu6_12 => (intro w' hSw; (try dsimp only at hSw); go_simp; try with_reducible rfl)
      try simp only [Act.put, List.setIfInBounds_toArray, List.set_cons_zero, List.set_cons_succ]
      refine wpAnyEI_pure (plain_of (fun _ => trivial) (by kernel_rfl)) (i := 7) (v := ?vu7_13) (by simp only [List.getElem?_toArray, List.getElem?_cons_succ, List.getElem?_cons_zero]; rfl) (by kernel_rfl) (by kernel_rfl) (by kernel_rfl) (by exact fun _ _ _ h => h) (by kernel_rfl) (Or.inl ⟨by rfl, ?yu7_13⟩) hH ?_
      case yu7_13 => (intro w' hSw; (try dsimp only at hSw); go_simp; try with_reducible rfl)
      try simp only [Act.put, List.setIfInBounds_toArray, List.set_cons_zero, List.set_cons_succ]
      refine wpAnyEI_takeP [10, 11] (plain_of (fun _ => trivial) (by kernel_rfl)) (i := 8) (v := .agg #[.int .i64 g.s, .int .i64 g.l, .int .i64 g.c, .int .i64 g.sh, .slice A n cap]) (by simp only [List.getElem?_toArray, List.getElem?_cons_succ, List.getElem?_cons_zero]; rfl) (by kernel_rfl) (by kernel_rfl) (by kernel_rfl) (by exact fun _ _ _ h => h) (by kernel_rfl) ?y8 hH ?_
      case y8 => exact yields_box 26 _ rfl (B2) rfl 26 #[.int .i64 g.s, .int .i64 g.l, .int .i64 g.c, .int .i64 g.sh, .slice A n cap] (fun _ h => h.2) _ Tryz.underlying26 rfl (by kernel_rfl) (by first | rfl | simp [Region.wanted, yielded] | (simp [Region.wanted, yielded, Act.put] <;> omega))
      try simp only [Act.put, List.setIfInBounds_toArray, List.set_cons_zero, List.set_cons_succ]
      refine wpAnyEI_takeP [10, 11] (plain_of (fun _ => trivial) (by kernel_rfl)) (i := 9) (v := .agg #[.int .i64 d.r1, .int .i64 d.r2, .int .i64 d.r3, .int .i64 d.r4, .int .i64 d.r5, .int .i64 d.r6, .int .i64 d.r7, .slice Lk mk mck, .int .i64 d.r8]) (by simp only [List.getElem?_toArray, List.getElem?_cons_succ, List.getElem?_cons_zero]; rfl) (by kernel_rfl) (by kernel_rfl) (by kernel_rfl) (by exact fun _ _ _ h => h) (by kernel_rfl) ?y9 hH ?_
      case y9 => exact yields_box 46 _ rfl (V) rfl 46 #[.int .i64 d.r1, .int .i64 d.r2, .int .i64 d.r3, .int .i64 d.r4, .int .i64 d.r5, .int .i64 d.r6, .int .i64 d.r7, .slice Lk mk mck, .int .i64 d.r8] (fun _ h => h.1) _ Tryz.underlying46 rfl (by kernel_rfl) (by first | rfl | simp [Region.wanted, yielded] | (simp [Region.wanted, yielded, Act.put] <;> omega))
      try simp only [Act.put, List.setIfInBounds_toArray, List.set_cons_zero, List.set_cons_succ]
      refine wpAnyEI_one (i := 10) (by kernel_rfl) (by simp only [List.getElem?_toArray, List.getElem?_cons_succ, List.getElem?_cons_zero]; rfl) (fun K' hK => ?_)
      have HH := Lib.hid hH
      clear hH
      go_simp
      refine ⟨trivial, ?_⟩
      refine (callsIn_wide.2 (recOk_is HB.out A n cap Lk mk mck w2 HM.out ((HRw.out.below HE.out (Nat.le_refl _)).more HE.out.size) hmk4 (HPw.out.later HE.out))).mono ?_
      rintro e w3 ⟨rfl, hb⟩
      replace HE := Lib.hid (bel_trans HE.out hb)
      refine hK.out _ _ ⟨HH.out.1.later hb HH.out.1.lt, HH.out.2.later hb HH.out.2.lt⟩ (fun hH => ?_)
      clear hK K' HH hb
      try simp only [Act.put, List.setIfInBounds_toArray, List.set_cons_zero, List.set_cons_succ]
      refine wpAnyEI_pure (plain_of (fun _ => trivial) (by kernel_rfl)) (i := 11) (v := ?vu11_14) (by simp only [List.getElem?_toArray, List.getElem?_cons_succ, List.getElem?_cons_zero]; rfl) (by kernel_rfl) (by kernel_rfl) (by kernel_rfl) (by exact fun _ _ _ h => h) (by kernel_rfl) (Or.inl ⟨by rfl, ?yu11_14⟩) hH ?_
      case yu11_14 => (intro w' hSw; (try dsimp only at hSw); go_simp; try with_reducible rfl)
      try simp only [Act.put, List.setIfInBounds_toArray, List.set_cons_zero, List.set_cons_succ]
      obtain ⟨fnY, tmpsY, assignY, bodyY, hy, hRd⟩ := HY.out w3 (AbidesFrom.later HJ.out HJk.out HE.out)
      refine wpAnyEI_any (i := 12) (by kernel_rfl) (by simp only [List.getElem?_toArray, List.getElem?_cons_succ, List.getElem?_cons_zero]; rfl) (by kernel_rfl) (fun K' hK => ?_)
      clear hH
      go_simp
      refine hRd.mono ?_
      rintro e W3 (⟨rfl, hJ3, hk3⟩ | ⟨rfl, hJx3⟩)
      · skip
        refine hK.out _ _ ?_
        clear hK K' hy hRd
        try simp only [Act.put, List.setIfInBounds_toArray, List.set_cons_zero, List.set_cons_succ]
        refine wpAnyEI_any (i := 13) (by kernel_rfl) (by simp only [List.getElem?_toArray, List.getElem?_cons_succ, List.getElem?_cons_zero]; rfl) (by kernel_rfl) (fun K' hK => ?_)
        go_simp
        refine hK.out _ _ (wpAnyEI_nil (by kernel_rfl) ?_)
        clear hK K'
        try simp only [Act.put, List.setIfInBounds_toArray, List.set_cons_zero, List.set_cons_succ]
        have HK3 := Lib.hid ((KeepC.of_below (G := G) (N := N) HE.out).trans hk3)
        have HJ3 := Lib.hid hJ3
        clear hJ3 hk3 HE
        gi_wp2
        go_roundw
        case rel => exact ⟨k + 1, by omega, by go_num, HJ3.out, HT.out.trans HK3.out⟩
        case measure => simp [intOf]; omega
      · skip
        refine hK.out _ _ ?_
        clear hK K' hy hRd
        try simp only [Act.put, List.setIfInBounds_toArray, List.set_cons_zero, List.set_cons_succ]
        refine wpAnyEI_any (i := 13) (by kernel_rfl) (by simp only [List.getElem?_toArray, List.getElem?_cons_succ, List.getElem?_cons_zero]; rfl) (by kernel_rfl) (fun K' hK => ?_)
        go_simp
        refine hK.out _ _ (wpAnyEI_nil (by kernel_rfl) ?_)
        clear hK K'
        try simp only [Act.put, List.setIfInBounds_toArray, List.set_cons_zero, List.set_cons_succ]
        have HJ3 := Lib.hid hJx3
        clear hJx3 HE
        gi_wp2
        refine bodyPost_ret (results_none rfl _ _ _) rfl ?_
        exact ⟨⟨_, rfl⟩, .inr ⟨firsts ds.length (k + 1), firsts_pre _ _, HJ3.out⟩⟩
    have hkn : k = ln := by omega
    subst hkn
    gi_wp2
    go_end0
    exact ⟨⟨_, rfl⟩, .inl ⟨_, by rw [← firsts_all, HL.out], HJk.out⟩⟩

end Go.Proofs.YtjdepjpjjgkmbaaGreat

/- A block of shelves of one's own: each with its lists in blocks of its own; read, written, made anew; no conditions. -/
namespace Go.Proofs.YtjdepjpjjgkmbaaGreat
open Go Go.RowKit

theorem turns_cell5 (w : World) (g o : Nat) (u : Value) : Turns (· = g) w (w.setCell ⟨g, o, none⟩ u) :=
  ⟨rfl, rfl, rfl, by rw [size_set]; exact Nat.le_refl _, fun i _ hne => Below.heap_setCell w ⟨g, o, none⟩ u i hne⟩
/-- The block g holds these shelves; the lists of the one at place i lie in blocks of Fs i, apart from all others'. -/
structure RegsAt (P : RegD → World → (Nat → Prop) → Value → Prop) (w : World) (g : Nat) (rs : List RegD) (Fs : Nat → Nat → Prop) : Prop where
  blk : ∃ cs, Box w g 80 cs ∧ cs.size = rs.length * 5 ∧ ∀ i (h : i < rs.length), ∃ u v, cs[i * 5]? = some (.int .i64 (rs[i]).t) ∧ cs[i * 5 + 1]? = some (.int .i64 (rs[i]).q) ∧ cs[i * 5 + 2]? = some (.int .i64 (rs[i]).v) ∧ cs[i * 5 + 3]? = some u ∧ cs[i * 5 + 4]? = some v ∧
    P rs[i] w (Fs i) (.agg #[.int .i64 (rs[i]).t, .int .i64 (rs[i]).q, .int .i64 (rs[i]).v, u, v])
  apart : ∀ i, i < rs.length → ∀ b, Fs i b → b ≠ g
  two : ∀ i j, i < rs.length → j < rs.length → i ≠ j → ∀ b, Fs i b → ¬ Fs j b
section
variable {P : RegD → World → (Nat → Prop) → Value → Prop}
theorem RegsAt.lt {w : World} {g : Nat} {rs : List RegD} {Fs : Nat → Nat → Prop} (h : RegsAt P w g rs Fs) : g < w.heap.size := by
  obtain ⟨cs, hb, _⟩ := h.blk
  exact hb.lt
variable (kp : ∀ d, Keeps (P d))
include kp in
theorem RegsAt.turn {w w' : World} {g : Nat} {rs : List RegD} {Fs : Nat → Nat → Prop} {T : Nat → Prop} (h : RegsAt P w g rs Fs) (ht : Turns T w w') (hg : ¬ T g) (hF : ∀ i, i < rs.length → ∀ b, Fs i b → ¬ T b) : RegsAt P w' g rs Fs := by
  obtain ⟨cs, hb, hs, hc⟩ := h.blk
  refine ⟨⟨cs, hb.turn ht hg, hs, fun i hi => ?_⟩, h.apart, h.two⟩
  obtain ⟨u, v, c0, c1, c2, c3, c4, hL⟩ := hc i hi
  exact ⟨u, v, c0, c1, c2, c3, c4, (kp _).turn hL ht (hF i hi)⟩
include kp in
theorem RegsAt.later {w w' : World} {g : Nat} {rs : List RegD} {Fs : Nat → Nat → Prop} (h : RegsAt P w g rs Fs) (hb : Below w.heap.size w w') : RegsAt P w' g rs Fs :=
  RegsAt.turn kp h (T := fun _ => False) (Turns.of_below hb) (fun h => h) (fun _ _ _ _ h => h)
/-- One of them, read: its cells, and what they are. -/
theorem RegsAt.get {w : World} {g : Nat} {rs : List RegD} {Fs : Nat → Nat → Prop} (h : RegsAt P w g rs Fs) {i : Nat} (hi : i < rs.length) :
    ∃ u v, w.cell? ⟨g, i * 5, none⟩ = some (.int .i64 (rs[i]).t) ∧ w.cell? ⟨g, i * 5 + 1, none⟩ = some (.int .i64 (rs[i]).q) ∧ w.cell? ⟨g, i * 5 + 2, none⟩ = some (.int .i64 (rs[i]).v) ∧ w.cell? ⟨g, i * 5 + 3, none⟩ = some u ∧ w.cell? ⟨g, i * 5 + 4, none⟩ = some v ∧
      P rs[i] w (Fs i) (.agg #[.int .i64 (rs[i]).t, .int .i64 (rs[i]).q, .int .i64 (rs[i]).v, u, v]) := by
  obtain ⟨cs, hb, hs, hc⟩ := h.blk
  obtain ⟨u, v, c0, c1, c2, c3, c4, hL⟩ := hc i hi
  exact ⟨u, v, (hb.cell _).trans c0, (hb.cell _).trans c1, (hb.cell _).trans c2, (hb.cell _).trans c3, (hb.cell _).trans c4, hL⟩
theorem RegsAt.frozen {w : World} {g : Nat} {rs : List RegD} {Fs : Nat → Nat → Prop} (h : RegsAt P w g rs Fs) (o : Nat) : w.frozen? ⟨g, o, none⟩ = false := by
  obtain ⟨cs, hb, _⟩ := h.blk
  exact hb.frozen o
theorem set5 (cs : Array Value) (i : Nat) (x0 x1 x2 x3 x4 : Value) (h : i * 5 + 4 < cs.size) (cs' : Array Value) (hcs : cs' = ((((cs.setIfInBounds (i * 5) x0).setIfInBounds (i * 5 + 1) x1).setIfInBounds (i * 5 + 2) x2).setIfInBounds (i * 5 + 3) x3).setIfInBounds (i * 5 + 4) x4) :
    cs'.size = cs.size ∧ (cs'[i * 5]? = some x0 ∧ cs'[i * 5 + 1]? = some x1 ∧ cs'[i * 5 + 2]? = some x2 ∧ cs'[i * 5 + 3]? = some x3 ∧ cs'[i * 5 + 4]? = some x4) ∧ ∀ k, (k < i * 5 ∨ i * 5 + 4 < k) → cs'[k]? = cs[k]? := by
  subst hcs
  refine ⟨by simp, ⟨?_, ?_, ?_, ?_, ?_⟩, fun k hk => ?_⟩
  all_goals simp only [Array.getElem?_setIfInBounds, Array.size_setIfInBounds]
  · rw [if_neg (by omega), if_neg (by omega), if_neg (by omega), if_neg (by omega), if_pos trivial, if_pos (by omega)]
  · rw [if_neg (by omega), if_neg (by omega), if_neg (by omega), if_pos trivial, if_pos (by omega)]
  · rw [if_neg (by omega), if_neg (by omega), if_pos trivial, if_pos (by omega)]
  · rw [if_neg (by omega), if_pos trivial, if_pos (by omega)]
  · rw [if_pos trivial, if_pos (by omega)]
  · rw [if_neg (by omega), if_neg (by omega), if_neg (by omega), if_neg (by omega), if_neg (by omega)]
def upF (Fs : Nat → Nat → Prop) (i : Nat) (F : Nat → Prop) : Nat → Nat → Prop := fun j => if j = i then F else Fs j
include kp in
/-- One of them is written anew. -/
theorem RegsAt.put {w : World} {g : Nat} {rs : List RegD} {Fs : Nat → Nat → Prop} (h : RegsAt P w g rs Fs) {i : Nat} (hi : i < rs.length) {d : RegD} {F : Nat → Prop} {u v : Value} (hL : P d w F (.agg #[.int .i64 d.t, .int .i64 d.q, .int .i64 d.v, u, v])) (hg : ∀ b, F b → b ≠ g) (ho : ∀ j, j < rs.length → j ≠ i → ∀ b, F b → ¬ Fs j b) :
    RegsAt P (((((w.setCell ⟨g, i * 5, none⟩ (.int .i64 d.t)).setCell ⟨g, i * 5 + 1, none⟩ (.int .i64 d.q)).setCell ⟨g, i * 5 + 2, none⟩ (.int .i64 d.v)).setCell ⟨g, i * 5 + 3, none⟩ u).setCell ⟨g, i * 5 + 4, none⟩ v) g (rs.set i d) (upF Fs i F) := by
  obtain ⟨cs, hb, hs, hc⟩ := h.blk
  have hb' := ((((hb.set (i * 5) (.int .i64 d.t)).set (i * 5 + 1) (.int .i64 d.q)).set (i * 5 + 2) (.int .i64 d.v)).set (i * 5 + 3) u).set (i * 5 + 4) v
  obtain ⟨s1, ⟨n0, n1, n2, n3, n4⟩, s3⟩ := set5 cs i (.int .i64 d.t) (.int .i64 d.q) (.int .i64 d.v) u v (by omega) _ rfl
  have t5 : Turns (· = g) w (((((w.setCell ⟨g, i * 5, none⟩ (.int .i64 d.t)).setCell ⟨g, i * 5 + 1, none⟩ (.int .i64 d.q)).setCell ⟨g, i * 5 + 2, none⟩ (.int .i64 d.v)).setCell ⟨g, i * 5 + 3, none⟩ u).setCell ⟨g, i * 5 + 4, none⟩ v) :=
    ((((turns_cell5 w g _ _).trans (turns_cell5 _ g _ _)).trans (turns_cell5 _ g _ _)).trans (turns_cell5 _ g _ _)).trans (turns_cell5 _ g _ _)
  refine ⟨⟨_, hb', by rw [s1, hs, List.length_set], fun j hj => ?_⟩, fun j hj b hbj => ?_, fun j k hj hk hjk b hbj hbk => ?_⟩
  · rw [List.length_set] at hj
    by_cases e : j = i
    · subst e
      simp only [List.getElem_set_self]
      refine ⟨u, v, n0, n1, n2, n3, n4, ?_⟩
      simp only [upF, if_true]
      exact (kp d).turn hL t5 hg
    · simp only [List.getElem_set_ne (Ne.symm e)]
      obtain ⟨u', v', c0, c1, c2, c3, c4, hLj⟩ := hc j hj
      refine ⟨u', v', (s3 _ (by omega)).trans c0, (s3 _ (by omega)).trans c1, (s3 _ (by omega)).trans c2, (s3 _ (by omega)).trans c3, (s3 _ (by omega)).trans c4, ?_⟩
      simp only [upF, if_neg e]
      exact (kp _).turn hLj t5 (h.apart j hj)
  · rw [List.length_set] at hj
    unfold upF at hbj
    split at hbj
    · exact hg b hbj
    · exact h.apart j hj b hbj
  · rw [List.length_set] at hj hk
    unfold upF at hbj hbk
    split at hbj <;> split at hbk
    · omega
    · exact ho k hk (by assumption) b hbj hbk
    · exact ho j hj (by assumption) b hbk hbj
    · exact h.two j k hj hk hjk b hbj hbk
/-- Shelves of one's own behind lo: no list lies below it. -/
def RegsOwn (P : RegD → World → (Nat → Prop) → Value → Prop) (w : World) (g lo : Nat) (rs : List RegD) : Prop :=
  lo ≤ g ∧ ∃ Fs, RegsAt P w g rs Fs ∧ ∀ i, i < rs.length → ∀ b, Fs i b → lo ≤ b ∧ b < w.heap.size
include kp in
theorem RegsOwn.turn {w w' : World} {g lo : Nat} {rs : List RegD} {T : Nat → Prop} (h : RegsOwn P w g lo rs) (ht : Turns T w w') (hT : ∀ b, T b → b < lo) : RegsOwn P w' g lo rs := by
  obtain ⟨hg, Fs, hR, hF⟩ := h
  exact ⟨hg, Fs, RegsAt.turn kp hR ht (fun h => by have := hT _ h; omega) (fun i hi b hb hb2 => by have := hT b hb2; have := (hF i hi b hb).1; omega), fun i hi b hb => ⟨(hF i hi b hb).1, Nat.lt_of_lt_of_le (hF i hi b hb).2 ht.size⟩⟩
include kp in
theorem RegsOwn.later {w w' : World} {g lo : Nat} {rs : List RegD} (h : RegsOwn P w g lo rs) (hb : Below w.heap.size w w') : RegsOwn P w' g lo rs := RegsOwn.turn kp h (T := fun _ => False) (Turns.of_below hb) (fun _ h => h.elim)
include kp in
/-- One of them is written anew, with new lists. -/
theorem RegsOwn.put {w w1 : World} {g lo : Nat} {rs : List RegD} (h : RegsOwn P w g lo rs) (hb : Below w.heap.size w w1) {i : Nat} (hi : i < rs.length) {d : RegD} {u v : Value} (hL : P d w1 (Iv w.heap.size w1.heap.size) (.agg #[.int .i64 d.t, .int .i64 d.q, .int .i64 d.v, u, v])) :
    RegsOwn P (((((w1.setCell ⟨g, i * 5, none⟩ (.int .i64 d.t)).setCell ⟨g, i * 5 + 1, none⟩ (.int .i64 d.q)).setCell ⟨g, i * 5 + 2, none⟩ (.int .i64 d.v)).setCell ⟨g, i * 5 + 3, none⟩ u).setCell ⟨g, i * 5 + 4, none⟩ v) g lo (rs.set i d) := by
  obtain ⟨hg, Fs, hR, hF⟩ := h
  have hlt := hR.lt
  have hR1 := RegsAt.later kp hR hb
  refine ⟨hg, _, RegsAt.put kp hR1 hi hL (fun b hb1 => by have := hb1.1; omega) (fun j hj _ b hb1 hb2 => by have := hb1.1; have := (hF j hj b hb2).2; omega), fun j hj b hb1 => ?_⟩
  rw [List.length_set] at hj
  simp only [size_set]
  unfold upF at hb1
  split at hb1
  · exact ⟨by have := hb1.1; omega, hb1.2⟩
  · have := hF j hj b hb1
    have := hb.size
    omega
end
/-- A value reads as a shelf, whose lists the model can take parts of. -/
def AtW (d : RegD) (w : World) (F : Nat → Prop) (v : Value) : Prop :=
  ∃ (A : Option Addr) (n cap : Nat) (A' : Option Addr) (n' cap' : Nat), v = .agg #[.int .i64 d.t, .int .i64 d.q, .int .i64 d.v, .slice A n cap, .slice A' n' cap'] ∧ n ≤ maxLen ∧ n' ≤ maxLen ∧ PairsF w F A n d.ps ∧ QuadsF w F A' n' d.os ∧
    ((∃ b o, A = some ⟨b, o, none⟩) ∨ (A = none ∧ n = 0 ∧ cap = 0)) ∧ ((∃ b o, A' = some ⟨b, o, none⟩ ∧ n' ≤ cap' ∧ cap' ≤ maxLen) ∨ (A' = none ∧ n' = 0 ∧ cap' = 0))
theorem AtW.at {d : RegD} {w : World} {F : Nat → Prop} {v : Value} (h : AtW d w F v) : AtR d w F v := by
  obtain ⟨A, n, cap, A', n', cap', e, h1, h2, h3, h4, -⟩ := h
  exact ⟨A, n, cap, A', n', cap', e, h1, h2, h3, h4⟩
theorem keepsW (d : RegD) : Keeps (AtW d) :=
  ⟨fun ⟨A, n, c, A', n', c', e, h1, h2, h3, h4, h5⟩ ht hd => ⟨A, n, c, A', n', c', e, h1, h2, h3.turn ht hd, h4.turn ht hd, h5⟩, fun ⟨A, n, c, A', n', c', e, h1, h2, h3, h4, h5⟩ hs => ⟨A, n, c, A', n', c', e, h1, h2, ⟨h3.1, fun hn b o e => hs b (h3.2 hn b o e)⟩, ⟨h4.1, fun hn b o e => hs b (h4.2 hn b o e)⟩, h5⟩⟩
theorem AtW.slc {d : RegD} {w : World} {F : Nat → Prop} {u v : Value} (h : AtW d w F (.agg #[.int .i64 d.t, .int .i64 d.q, .int .i64 d.v, u, v])) : ∃ (A : Option Addr) (n c : Nat) (A' : Option Addr) (n' c' : Nat), u = .slice A n c ∧ v = .slice A' n' c' ∧ Slc w (.slice A n c) d.ps ∧ SlcQ w (.slice A' n' c') d.os ∧ d.ps.length = n ∧ d.os.length = n' := by
  obtain ⟨A, n, c, A', n', c', e, h1, h2, h3, h4, h5, h6⟩ := h
  have l1 : d.ps.length = n := h3.1.1
  have l2 : d.os.length = n' := h4.1.1
  injection e with e
  injection e with e
  simp only [List.cons.injEq, and_true, true_and] at e
  refine ⟨A, n, c, A', n', c', e.1, e.2, ?_, ?_, l1, l2⟩
  · rcases h5 with ⟨b, o, rfl⟩ | ⟨rfl, rfl, rfl⟩
    · exact .inr ⟨b, o, n, c, rfl, h3.1⟩
    · exact .inl ⟨rfl, List.eq_nil_of_length_eq_zero l1⟩
  · rcases h6 with ⟨b, o, rfl, h7, h8⟩ | ⟨rfl, rfl, rfl⟩
    · exact .inr ⟨b, o, n', c', rfl, h7, h8, h4.1⟩
    · exact .inl ⟨rfl, List.eq_nil_of_length_eq_zero l2⟩
theorem LieR.atW {d : RegD} {w : World} {F : Nat → Prop} {v : Value} (h : LieR d w F v) : AtW d w F v := by
  obtain ⟨A, n, c, A', n', c', lo, B, hi, e, h1, h2, o1, o2, o3, hF⟩ := h
  have h := LieR.at ⟨A, n, c, A', n', c', lo, B, hi, e, h1, h2, o1, o2, o3, hF⟩
  obtain ⟨A1, n1, c1, A1', n1', c1', e1, m1, m2, p1, p2⟩ := h
  rw [e] at e1
  injection e1 with e1
  injection e1 with e1
  simp only [List.cons.injEq, Value.slice.injEq, and_true, true_and] at e1
  obtain ⟨⟨rfl, rfl, rfl⟩, rfl, rfl, rfl⟩ := e1
  refine ⟨A, n, c, A', n', c', e, m1, m2, p1, p2, ?_, ?_⟩
  · rcases h1 with ⟨h, _⟩ | ⟨g, cap, _, _, h, _⟩
    · injection h with a b c
      exact .inr ⟨a, b, c⟩
    · injection h with a b c
      exact .inl ⟨g, 0, a⟩
  · rcases h2 with ⟨h, _⟩ | ⟨g, cap, _, _, h, h3, h4, _⟩
    · injection h with a b c
      exact .inr ⟨a, b, c⟩
    · injection h with a b c
      exact .inl ⟨g, 0, a, by omega, by omega⟩
/-- Shelves that nothing was done to yet. -/
theorem regs_new (P : RegD → World → (Nat → Prop) → Value → Prop) (hz : ∀ w, P ⟨0, 0, 0, [], []⟩ w (fun _ => False) (.agg #[.int .i64 0, .int .i64 0, .int .i64 0, .slice none 0 0, .slice none 0 0])) (w : World) (n : Nat) :
    RegsOwn P (w.alloc (.cells (madeCells #[.int .i64 0, .int .i64 0, .int .i64 0, .slice none 0 0, .slice none 0 0] (n * 5)) 80)) w.heap.size w.heap.size (List.replicate n ⟨0, 0, 0, [], []⟩) := by
  refine ⟨Nat.le_refl _, fun _ _ => False, ⟨⟨_, Box.new w _ _, by simp [size_madeCells], fun i hi => ?_⟩, fun _ _ _ h => h.elim, fun _ _ _ _ _ _ h => h.elim⟩, fun _ _ _ h => h.elim⟩
  rw [List.length_replicate] at hi
  simp only [List.getElem_replicate]
  refine ⟨.slice none 0 0, .slice none 0 0, ?_, ?_, ?_, ?_, ?_, hz _⟩
  · simp [madeCells, show i * 5 < n * 5 by omega]
  · simp [madeCells, show i * 5 + 1 < n * 5 by omega, show (i * 5 + 1) % 5 = 1 by omega]
  · simp [madeCells, show i * 5 + 2 < n * 5 by omega, show (i * 5 + 2) % 5 = 2 by omega]
  · simp [madeCells, show i * 5 + 3 < n * 5 by omega, show (i * 5 + 3) % 5 = 3 by omega]
  · simp [madeCells, show i * 5 + 4 < n * 5 by omega, show (i * 5 + 4) % 5 = 4 by omega]
theorem zeroW (w : World) : AtW ⟨0, 0, 0, [], []⟩ w (fun _ => False) (.agg #[.int .i64 0, .int .i64 0, .int .i64 0, .slice none 0 0, .slice none 0 0]) :=
  ⟨none, 0, 0, none, 0, 0, rfl, Nat.zero_le _, Nat.zero_le _, ⟨⟨rfl, fun h => absurd h (by omega)⟩, fun h => absurd h (by omega)⟩, ⟨⟨rfl, fun h => absurd h (by omega)⟩, fun h => absurd h (by omega)⟩, .inr ⟨rfl, rfl, rfl⟩, .inr ⟨rfl, rfl, rfl⟩⟩
theorem zeroL (w : World) : LieR ⟨0, 0, 0, [], []⟩ w (fun _ => False) (.agg #[.int .i64 0, .int .i64 0, .int .i64 0, .slice none 0 0, .slice none 0 0]) :=
  ⟨none, 0, 0, none, 0, 0, 0, 0, 0, rfl, .inl ⟨rfl, rfl⟩, .inl ⟨rfl, rfl⟩, Nat.le_refl _, Nat.le_refl _, Nat.zero_le _, fun b hb => by unfold Iv at hb; omega⟩
end Go.Proofs.YtjdepjpjjgkmbaaGreat

/- What the program's Replayed carries from round to round: shelves that abide whatever a loop over a function does to its own blocks; how long they can get; no conditions. -/
namespace Go.Proofs.YtjdepjpjjgkmbaaGreat
open Go Go.RowKit Go.Shelf

/-- Whatever was cells lies as it lay. -/
structure CellsK (w w' : World) : Prop where
  size : w.heap.size ≤ w'.heap.size
  block : ∀ (i : Nat) (o : Obj), w.heap[i]? = some o → o.isCells = true → w'.heap[i]? = some o
theorem CellsK.same {w w' : World} (h : CellsK w w') {a : Addr} {v : Value} (hc : w.cell? a = some v) : w'.heap[a.block]? = w.heap[a.block]? := by
  unfold World.cell? at hc
  rcases ho : w.heap[a.block]? with _ | o
  · rw [ho] at hc; cases hc
  · rw [ho] at hc
    cases o with
    | cells c e f => exact h.block _ _ ho rfl
    | _ => simp at hc
theorem CellsK.cell {w w' : World} (h : CellsK w w') {a : Addr} {v : Value} (hc : w.cell? a = some v) : w'.cell? a = some v := (World.cell?_of_block (h.same hc)).trans hc
theorem CellsK.box {w w' : World} (h : CellsK w w') {g : Nat} {t : TypeId} {cs : Array Value} (hx : Box w g t cs) : Box w' g t cs := h.block g _ hx rfl
theorem CellsK.held {w w' : World} (h : CellsK w w') {g : Nat} {d : List (Int × Int)} (hx : Held w g d) (hd : 0 < d.length) : Held w' g d := by
  have hs := h.same (hx.at0 0 hd)
  exact ⟨Nat.lt_of_lt_of_le hx.lt h.size, fun o => (World.frozen?_of_block (a := ⟨g, o, none⟩) hs).trans (hx.fr o), fun i hi => (World.cell?_of_block (a := ⟨g, i * 2, none⟩) hs).trans (hx.at0 i hi), fun i hi => (World.cell?_of_block (a := ⟨g, i * 2 + 1, none⟩) hs).trans (hx.at1 i hi)⟩
theorem CellsK.heldQ {w w' : World} (h : CellsK w w') {g : Nat} {d : List Opn} (hx : HeldQ w g d) (hd : 0 < d.length) : HeldQ w' g d := by
  have hs := h.same (hx.cs 0 hd).1
  exact hx.keep (Nat.lt_of_lt_of_le hx.lt h.size) (fun o => World.frozen?_of_block (a := ⟨g, o, none⟩) hs) (fun o => World.cell?_of_block (a := ⟨g, o, none⟩) hs)
theorem cellsK_own {w w' : World} {row : Option Nat} (hg : w.grownBy w' row) (hr : ∀ r, row = some r → ∃ o : Obj, w.heap[r]? = some o ∧ o.isCells = false) : CellsK w w' :=
  ⟨hg.size, fun i o hi hc => (hg.block i (Array.getElem?_eq_some_iff.1 hi).1 (fun e => by
    obtain ⟨o', ho, hc'⟩ := hr i e.symm
    rw [hi] at ho
    injection ho with ho
    subst ho
    rw [hc] at hc'
    cases hc')).trans hi⟩

/-- A list in a block of its own, or an empty one. -/
def ResE (w : World) (lo hi : Nat) (u : Value) (D : List (Int × Int)) : Prop :=
  (u = .slice none 0 0 ∧ D = []) ∨ ∃ g cap, lo ≤ g ∧ g < hi ∧ u = .slice (some ⟨g, 0, none⟩) D.length cap ∧ D.length ≤ cap ∧ cap ≤ maxLen ∧ (0 < D.length → Held w g D)
def ResEQ (w : World) (lo hi : Nat) (u : Value) (D : List Opn) : Prop :=
  (u = .slice none 0 0 ∧ D = []) ∨ ∃ g cap, lo ≤ g ∧ g < hi ∧ u = .slice (some ⟨g, 0, none⟩) D.length cap ∧ D.length ≤ cap ∧ cap ≤ maxLen ∧ (0 < D.length → HeldQ w g D)
theorem ResE.turn {T : Nat → Prop} {w w' : World} {lo hi : Nat} {v : Value} {ps : List (Int × Int)} (h : ResE w lo hi v ps) (ht : Turns T w w') (hd : ∀ b, Iv lo hi b → ¬ T b) : ResE w' lo hi v ps := by
  rcases h with h | ⟨g, cap, h0, h0', h1, h2, h3, h4⟩
  · exact .inl h
  · exact .inr ⟨g, cap, h0, h0', h1, h2, h3, fun hp => (h4 hp).turn ht (hd g ⟨h0, h0'⟩)⟩
theorem ResEQ.turn {T : Nat → Prop} {w w' : World} {lo hi : Nat} {v : Value} {ps : List Opn} (h : ResEQ w lo hi v ps) (ht : Turns T w w') (hd : ∀ b, Iv lo hi b → ¬ T b) : ResEQ w' lo hi v ps := by
  rcases h with h | ⟨g, cap, h0, h0', h1, h2, h3, h4⟩
  · exact .inl h
  · exact .inr ⟨g, cap, h0, h0', h1, h2, h3, fun hp => (h4 hp).turn ht (hd g ⟨h0, h0'⟩)⟩
theorem ResE.cells {w w' : World} {lo hi : Nat} {v : Value} {ps : List (Int × Int)} (h : ResE w lo hi v ps) (hk : CellsK w w') : ResE w' lo hi v ps := by
  rcases h with h | ⟨g, cap, h0, h0', h1, h2, h3, h4⟩
  · exact .inl h
  · exact .inr ⟨g, cap, h0, h0', h1, h2, h3, fun hp => hk.held (h4 hp) hp⟩
theorem ResEQ.cells {w w' : World} {lo hi : Nat} {v : Value} {ps : List Opn} (h : ResEQ w lo hi v ps) (hk : CellsK w w') : ResEQ w' lo hi v ps := by
  rcases h with h | ⟨g, cap, h0, h0', h1, h2, h3, h4⟩
  · exact .inl h
  · exact .inr ⟨g, cap, h0, h0', h1, h2, h3, fun hp => hk.heldQ (h4 hp) hp⟩
theorem ResE.slc {w : World} {lo hi : Nat} {A : Option Addr} {n c : Nat} {ps : List (Int × Int)} (h : ResE w lo hi (.slice A n c) ps) : Slc w (.slice A n c) ps ∧ ps.length = n := by
  rcases h with ⟨h, rfl⟩ | ⟨g, cap, h0, h0', h1, h2, h3, h4⟩
  · injection h with h1 h2 h3
    exact ⟨.inl ⟨by rw [h1, h2, h3], rfl⟩, h2.symm⟩
  · injection h1 with e1 e2 e3
    subst e1 e2 e3
    refine ⟨.inr ⟨g, 0, _, _, rfl, ?_⟩, rfl⟩
    by_cases hp : 0 < ps.length
    · exact (h4 hp).pairs
    · exact ⟨rfl, fun h => absurd h hp⟩
theorem ResEQ.slc {w : World} {lo hi : Nat} {A : Option Addr} {n c : Nat} {ps : List Opn} (h : ResEQ w lo hi (.slice A n c) ps) : SlcQ w (.slice A n c) ps ∧ ps.length = n := by
  rcases h with ⟨h, rfl⟩ | ⟨g, cap, h0, h0', h1, h2, h3, h4⟩
  · injection h with h1 h2 h3
    exact ⟨.inl ⟨by rw [h1, h2, h3], rfl⟩, h2.symm⟩
  · injection h1 with e1 e2 e3
    subst e1 e2 e3
    refine ⟨.inr ⟨g, 0, _, _, rfl, h2, h3, ?_⟩, rfl⟩
    by_cases hp : 0 < ps.length
    · exact (h4 hp).quads
    · exact ⟨rfl, fun h => absurd h hp⟩
/-- A shelf of one's own, but for empty lists. -/
def LieE (d : RegD) (w : World) (F : Nat → Prop) (v : Value) : Prop := ∃ (A : Option Addr) (n c : Nat) (A' : Option Addr) (n' c' lo B hi : Nat), v = .agg #[.int .i64 d.t, .int .i64 d.q, .int .i64 d.v, .slice A n c, .slice A' n' c'] ∧ ResE w lo B (.slice A n c) d.ps ∧ ResEQ w B hi (.slice A' n' c') d.os ∧ lo ≤ B ∧ B ≤ hi ∧ hi ≤ w.heap.size ∧ ∀ b, Iv lo hi b → F b
theorem keepsLE (d : RegD) : Keeps (LieE d) :=
  ⟨fun ⟨A, n, c, A', n', c', lo, B, hi, e, h1, h2, o1, o2, o3, hF⟩ ht hd => ⟨A, n, c, A', n', c', lo, B, hi, e, h1.turn ht (fun b hb => hd b (hF b (iv_sub (Nat.le_refl _) o2 b hb))), h2.turn ht (fun b hb => hd b (hF b (iv_sub o1 (Nat.le_refl _) b hb))), o1, o2, Nat.le_trans o3 ht.size, hF⟩,
   fun ⟨A, n, c, A', n', c', lo, B, hi, e, h1, h2, o1, o2, o3, hF⟩ hs => ⟨A, n, c, A', n', c', lo, B, hi, e, h1, h2, o1, o2, o3, fun b hb => hs b (hF b hb)⟩⟩
theorem LieE.cells {d : RegD} {w w' : World} {F : Nat → Prop} {v : Value} (h : LieE d w F v) (hk : CellsK w w') : LieE d w' F v := by
  obtain ⟨A, n, c, A', n', c', lo, B, hi, e, h1, h2, o1, o2, o3, hF⟩ := h
  exact ⟨A, n, c, A', n', c', lo, B, hi, e, h1.cells hk, h2.cells hk, o1, o2, Nat.le_trans o3 hk.size, hF⟩
theorem LieR.lieE {d : RegD} {w : World} {F : Nat → Prop} {v : Value} (h : LieR d w F v) : LieE d w F v := by
  obtain ⟨A, n, c, A', n', c', lo, B, hi, e, h1, h2, o1, o2, o3, hF⟩ := h
  refine ⟨A, n, c, A', n', c', lo, B, hi, e, ?_, ?_, o1, o2, o3, hF⟩
  · rcases h1 with h | ⟨g, cap, h0, h0', h1, h2, h3, h4⟩
    · exact .inl h
    · exact .inr ⟨g, cap, h0, h0', h1, h2, h3, fun _ => h4⟩
  · rcases h2 with h | ⟨g, cap, h0, h0', h1, h2, h3, h4⟩
    · exact .inl h
    · exact .inr ⟨g, cap, h0, h0', h1, h2, h3, fun _ => h4⟩
theorem zeroE (w : World) : LieE ⟨0, 0, 0, [], []⟩ w (fun _ => False) (.agg #[.int .i64 0, .int .i64 0, .int .i64 0, .slice none 0 0, .slice none 0 0]) := (zeroL w).lieE
theorem LieE.slc {d : RegD} {w : World} {F : Nat → Prop} {u v : Value} (h : LieE d w F (.agg #[.int .i64 d.t, .int .i64 d.q, .int .i64 d.v, u, v])) : ∃ (A : Option Addr) (n c : Nat) (A' : Option Addr) (n' c' : Nat), u = .slice A n c ∧ v = .slice A' n' c' ∧ Slc w (.slice A n c) d.ps ∧ SlcQ w (.slice A' n' c') d.os ∧ d.ps.length = n ∧ d.os.length = n' := by
  obtain ⟨A, n, c, A', n', c', lo, B, hi, e, h1, h2, -⟩ := h
  injection e with e
  injection e with e
  simp only [List.cons.injEq, and_true, true_and] at e
  exact ⟨A, n, c, A', n', c', e.1, e.2, h1.slc.1, h2.slc.1, h1.slc.2, h2.slc.2⟩
theorem RegsOwn.cells {w w' : World} {G lo : Nat} {rs : List RegD} (h : RegsOwn LieE w G lo rs) (hk : CellsK w w') : RegsOwn LieE w' G lo rs := by
  obtain ⟨hg, Fs, hR, hF⟩ := h
  refine ⟨hg, Fs, ⟨?_, hR.apart, hR.two⟩, fun i hi b hb => ⟨(hF i hi b hb).1, Nat.lt_of_lt_of_le (hF i hi b hb).2 hk.size⟩⟩
  obtain ⟨cs, hb, hs, hc⟩ := hR.blk
  refine ⟨cs, hk.box hb, hs, fun i hi => ?_⟩
  obtain ⟨u, v, c0, c1, c2, c3, c4, hL⟩ := hc i hi
  exact ⟨u, v, c0, c1, c2, c3, c4, hL.cells hk⟩

/-- The shelves behind these rounds, in whatever order they came. -/
def shI (g : GrpD) (ds : List RecD) (pre : List (Fin ds.length)) : List RegD := pre.foldl (fun rs k => stepR g rs ds[k.val]) (List.replicate g.sh.toNat zeroR)
theorem shI_snoc (g : GrpD) (ds : List RecD) (pre : List (Fin ds.length)) (x : Fin ds.length) : shI g ds (pre ++ [x]) = stepR g (shI g ds pre) ds[x.val] := by
  unfold shI
  rw [List.foldl_append, List.foldl_cons, List.foldl_nil]
theorem shI_len (g : GrpD) (ds : List RecD) (pre : List (Fin ds.length)) : (shI g ds pre).length = g.sh.toNat := by
  have key : ∀ (pre : List (Fin ds.length)) (rs : List RegD), (pre.foldl (fun rs k => stepR g rs ds[k.val]) rs).length = rs.length := by
    intro pre
    induction pre with
    | nil => intro rs; rfl
    | cons d pre ih => intro rs; rw [List.foldl_cons, ih, stepR_len]
  unfold shI
  rw [key, List.length_replicate]
theorem shI_all (g : GrpD) (ds : List RecD) : shI g ds (List.finRange ds.length) = shelves g ds := by
  have key : ∀ k, k ≤ ds.length → shI g ds (firsts ds.length k) = shelves g (ds.take k) := by
    intro k
    induction k with
    | zero => intro _; rfl
    | succ k ih => intro hk; rw [firsts_snoc _ _ (by omega), shI_snoc, ih (by omega), shelves_snoc g ds (by omega)]
  have h := key ds.length (Nat.le_refl _)
  rw [firsts_all, List.take_length] at h
  exact h
theorem onto_len2 (g : GrpD) (d : RecD) (r : RegD) {M n : Nat} (h1 : r.ps.length ≤ M) (h2 : d.ps.length ≤ M) (h3 : r.os.length ≤ n) : (ontoD g d r).ps.length ≤ M ∧ (ontoD g d r).os.length ≤ n + 1 := by
  unfold ontoD
  split
  · have := withO_len r.os (d.r4, d.r5, d.r6, d.r7)
    show r.ps.length ≤ M ∧ (withO r.os (d.r4, d.r5, d.r6, d.r7)).length ≤ n + 1
    omega
  · unfold outW
    simp only
    split
    · simp
    split
    · exact ⟨h1, show r.os.length ≤ n + 1 by omega⟩
    split
    · have := goodP_le (rB g.s g.l g.c g.sh g.zs 1 d.r3 d.r5 d.r6 d.r7) d.ps
      show (goodP (rB g.s g.l g.c g.sh g.zs 1 d.r3 d.r5 d.r6 d.r7) d.ps).length ≤ M ∧ r.os.length ≤ n + 1
      omega
    · exact ⟨h1, show r.os.length ≤ n + 1 by omega⟩
theorem regOf_step (g : GrpD) (rs : List RegD) (d : RecD) (i : Nat) : regOf (stepR g rs d) i = regOf rs i ∨ regOf (stepR g rs d) i = ontoD g d (regOf rs i) := by
  unfold stepR
  by_cases hi : d.r3.toNat = i
  · subst hi
    by_cases hl : d.r3.toNat < rs.length
    · exact .inr (by simp [regOf, hl])
    · exact .inl (by rw [List.set_eq_of_length_le (by omega)])
  · exact .inl (by simp [regOf, hi])
theorem shI_sz (g : GrpD) (ds : List RecD) {M : Nat} (hM : ∀ k (h : k < ds.length), (ds[k]).ps.length ≤ M) (pre : List (Fin ds.length)) (i : Nat) : (regOf (shI g ds pre) i).ps.length ≤ M ∧ (regOf (shI g ds pre) i).os.length ≤ pre.length := by
  have key : ∀ (pre : List (Fin ds.length)) (rs : List RegD) (n : Nat), (∀ i, (regOf rs i).ps.length ≤ M ∧ (regOf rs i).os.length ≤ n) → ∀ i, (regOf (pre.foldl (fun rs k => stepR g rs ds[k.val]) rs) i).ps.length ≤ M ∧ (regOf (pre.foldl (fun rs k => stepR g rs ds[k.val]) rs) i).os.length ≤ n + pre.length := by
    intro pre
    induction pre with
    | nil => intro rs n h i; exact h i
    | cons k pre ih =>
      intro rs n h i
      have := ih (stepR g rs ds[k.val]) (n + 1) (fun i => by
        rcases regOf_step g rs ds[k.val] i with e | e
        · rw [e]; have := h i; omega
        · rw [e]; exact onto_len2 g _ _ (h i).1 (hM k.val k.isLt) (h i).2) i
      rw [List.foldl_cons, List.length_cons]
      omega
  have := key pre (List.replicate g.sh.toNat zeroR) 0 (fun i => by
    have h : regOf (List.replicate g.sh.toNat zeroR) i = zeroR := by
      unfold regOf
      simp only [List.getD_eq_getElem?_getD, List.getElem?_replicate]
      split <;> rfl
    rw [h]
    exact ⟨Nat.zero_le _, Nat.le_refl _⟩) i
  rw [Nat.zero_add] at this
  exact this
end Go.Proofs.YtjdepjpjjgkmbaaGreat

/- The model's writing on a shelf, its values and its lists told together (written by spec_write_v.py); conditions: the sizes. -/
namespace Go.Proofs.YtjdepjpjjgkmbaaGreat
open Go.RowKit Go.Deep

/-- A shelf and a flag, the lists in blocks of their own that are known whole. -/
def SpV (w : World) (t q v : Int) (cs : List (Int × Int)) (os : List Opn) (f : Bool) (e : Ending) (w' : World) : Prop :=
  ∃ (g1 c1 g2 c2 : Nat), e = .returned (.tuple #[.agg #[.int .i64 t, .int .i64 q, .int .i64 v, .slice (some ⟨g1, 0, none⟩) cs.length c1, .slice (some ⟨g2, 0, none⟩) os.length c2], .bool f]) ∧ g1 ≠ g2 ∧ w'.ownsRow w.heap.size 136 2 (.slice (some ⟨g1, 0, none⟩) cs.length c1) cs.length (flatP cs) ∧ w'.ownsRow w.heap.size 97 4 (.slice (some ⟨g2, 0, none⟩) os.length c2) os.length (flatO os) ∧ Below w.heap.size w w'
def WroteV (w : World) (s l c sh : Int) (zs : List Int) (x rt rq rv : Int) (ps : List (Int × Int)) (os : List Opn) (ct cq v : Int) (cs : List (Int × Int)) (e : Ending) (w' : World) : Prop :=
  (¬ 0 < cmpN ct cq rt rq ∧ SpV w rt rq rv ps os true e w') ∨ (0 < cmpN ct cq rt rq ∧ SpV w ct cq v (goodP (rB s l c sh zs 1 x ct cq v) cs) os true e w')
theorem lw_oldV {w wr : World} {S B : Nat} {s l c sh : Int} {A : Option Addr} {n cap : Nat} {rt rq rv : Int} {P : Option Addr} {p pc : Nat} {Q : Option Addr} {q qc : Nat} {ct cq : Int} {a5 c5 a6 c6 : Nat} {ps : List (Int × Int)} {os : List Opn} {f : Bool} (h : LWO w wr S B s l c sh A n cap rt rq rv P p pc Q q qc ct cq (.slice (some ⟨a5, 0, none⟩) ps.length c5) (.slice (some ⟨a6, 0, none⟩) os.length c6) ps os) (x0 x1 x2 x3 x4 : Value) :
    SpV w rt rq rv ps os f (.returned (.tuple #[.agg #[.int .i64 rt, .int .i64 rq, .int .i64 rv, .slice (some ⟨a5, 0, none⟩) ps.length c5, .slice (some ⟨a6, 0, none⟩) os.length c6], .bool f])) (((((wr.setCell ⟨w.heap.size + 1 + 1 + 1, 0, none⟩ x0).setCell ⟨w.heap.size + 1 + 1 + 1, 1, none⟩ x1).setCell ⟨w.heap.size + 1 + 1 + 1, 2, none⟩ x2).setCell ⟨w.heap.size + 1 + 1 + 1, 3, none⟩ x3).setCell ⟨w.heap.size + 1 + 1 + 1, 4, none⟩ x4) := by
  have hlo := h.hlo
  obtain ⟨g, k, h1, h2, e, h3⟩ := h.R.far5 (b := w.heap.size + 1 + 1 + 1) (by omega) x0 x1 x2 x3 x4
  obtain ⟨g', k', h1', h2', e', h3'⟩ := h.V.far5 (b := w.heap.size + 1 + 1 + 1) (by omega) x0 x1 x2 x3 x4
  cases e
  cases e'
  exact ⟨_, _, _, _, rfl, by omega, ownLow h3 (by omega), ownLow h3' (by omega), bel_five h.bel (by omega) x0 x1 x2 x3 x4⟩

theorem lv_newV {w w1 wr : World} {S B : Nat} {s l c sh : Int} {A : Option Addr} {n cap : Nat} {ct cq v : Int} {z : Value} {a6 c6 : Nat} {os : List Opn} (h : LVO w wr S B s l c sh A n cap ct cq v z (.slice (some ⟨a6, 0, none⟩) os.length c6) os) {g c5 : Nat} {J : List (Int × Int)} (hS1 : S < w1.heap.size) (hJ : wr.ownsRow w1.heap.size 136 2 (.slice (some ⟨g, 0, none⟩) J.length c5) J.length (flatP J)) (x0 x1 x2 x3 x4 : Value) :
    SpV w ct cq v J os true (.returned (.tuple #[.agg #[.int .i64 ct, .int .i64 cq, .int .i64 v, .slice (some ⟨g, 0, none⟩) J.length c5, .slice (some ⟨a6, 0, none⟩) os.length c6], .bool true])) ((((((wr.setCell ⟨S, 3, none⟩ (.slice (some ⟨g, 0, none⟩) J.length c5)).setCell ⟨w.heap.size + 1 + 1 + 1, 0, none⟩ x0).setCell ⟨w.heap.size + 1 + 1 + 1, 1, none⟩ x1).setCell ⟨w.heap.size + 1 + 1 + 1, 2, none⟩ x2).setCell ⟨w.heap.size + 1 + 1 + 1, 3, none⟩ x3).setCell ⟨w.heap.size + 1 + 1 + 1, 4, none⟩ x4) := by
  have hlo := h.hlo
  have hBS := h.hBS
  have hb : Below w.heap.size w (wr.setCell ⟨S, 3, none⟩ (.slice (some ⟨g, 0, none⟩) J.length c5)) := h.bel.setCell (p := ⟨S, 3, none⟩) (by show _ ≤ S; omega) _
  have hV := h.V.farHi (Nat.le_refl _) 3 (.slice (some ⟨g, 0, none⟩) J.length c5)
  obtain ⟨g', k', h1', h2', e', h3'⟩ := hV.far5 (b := w.heap.size + 1 + 1 + 1) (by omega) x0 x1 x2 x3 x4
  cases e'
  obtain ⟨k1, k2, h1, h2, e, h3⟩ := ((ownR_of hJ).far (b := S) hS1 3 (.slice (some ⟨g, 0, none⟩) J.length c5)).far5 (b := w.heap.size + 1 + 1 + 1) (by omega) x0 x1 x2 x3 x4
  cases e
  exact ⟨_, _, _, _, rfl, by omega, ownLow h3 (by omega), ownLow h3' (by omega), bel_five hb (by omega) x0 x1 x2 x3 x4⟩

theorem l7WriteV_yes (s l c sh : Int) (A : Option Addr) (n cap : Nat) (zs : List Int) (x rt rq rv : Int) (P : Option Addr) (p pc : Nat) (Q : Option Addr) (q qc : Nat) (ct cq v : Int) (L : Option Addr) (m mc : Nat) (ps : List (Int × Int)) (os : List Opn) (cs : List (Int × Int)) (w : World) (hm : n ≤ maxLen) (hr : Row w w.heap.size A n zs) (hp : ps.length ≤ 2000000) (hq : os.length ≤ 2000000) (h1 : Slc w (.slice P p pc) ps) (h2 : SlcQ w (.slice Q q qc) os) (hn : m ≤ 4194304) (h3 : Pairs w w.heap.size L m cs) (hW : wrtB s l c sh zs x ct cq v cs = true) :
    Calls Tryz.prog 182 #[.agg #[.int .i64 s, .int .i64 l, .int .i64 c, .int .i64 sh, .slice A n cap], .int .i64 x, .agg #[.int .i64 rt, .int .i64 rq, .int .i64 rv, .slice P p pc, .slice Q q qc], .agg #[.int .i64 ct, .int .i64 cq], .int .i64 v, .slice L m mc] w (WroteV w s l c sh zs x rt rq rv ps os ct cq v cs) := by
  have G := (((Box.new w 26 #[.int .i64 s, .int .i64 l, .int .i64 c, .int .i64 sh, .slice A n cap]).alloc (.cells #[.int .i64 rt, .int .i64 rq, .int .i64 rv, .slice P p pc, .slice Q q qc] 80)).alloc (.cells #[.int .i64 ct, .int .i64 cq] 39)).alloc (.cells #[.int .i64 0, .int .i64 0, .int .i64 0, .slice none 0 0, .slice none 0 0] 80)
  have D := ((Box.new (w.alloc (.cells #[.int .i64 s, .int .i64 l, .int .i64 c, .int .i64 sh, .slice A n cap] 26)) 80 #[.int .i64 rt, .int .i64 rq, .int .i64 rv, .slice P p pc, .slice Q q qc]).alloc (.cells #[.int .i64 ct, .int .i64 cq] 39)).alloc (.cells #[.int .i64 0, .int .i64 0, .int .i64 0, .slice none 0 0, .slice none 0 0] 80)
  have T := (Box.new ((w.alloc (.cells #[.int .i64 s, .int .i64 l, .int .i64 c, .int .i64 sh, .slice A n cap] 26)).alloc (.cells #[.int .i64 rt, .int .i64 rq, .int .i64 rv, .slice P p pc, .slice Q q qc] 80)) 39 #[.int .i64 ct, .int .i64 cq]).alloc (.cells #[.int .i64 0, .int .i64 0, .int .i64 0, .slice none 0 0, .slice none 0 0] 80)
  have X := Box.new (((w.alloc (.cells #[.int .i64 s, .int .i64 l, .int .i64 c, .int .i64 sh, .slice A n cap] 26)).alloc (.cells #[.int .i64 rt, .int .i64 rq, .int .i64 rv, .slice P p pc, .slice Q q qc] 80)).alloc (.cells #[.int .i64 ct, .int .i64 cq] 39)) 80 #[.int .i64 0, .int .i64 0, .int .i64 0, .slice none 0 0, .slice none 0 0]
  have E := bel_trans (bel_trans (bel_trans (bel_alloc w (.cells #[.int .i64 s, .int .i64 l, .int .i64 c, .int .i64 sh, .slice A n cap] 26)) (bel_alloc _ (.cells #[.int .i64 rt, .int .i64 rq, .int .i64 rv, .slice P p pc, .slice Q q qc] 80))) (bel_alloc _ (.cells #[.int .i64 ct, .int .i64 cq] 39))) (bel_alloc _ (.cells #[.int .i64 0, .int .i64 0, .int .i64 0, .slice none 0 0, .slice none 0 0] 80))
  simp only [World.size_alloc] at D T X
  have HR := Lib.hid hr
  have HM := Lib.hid hm
  have H1 := Lib.hid h1
  have H2 := Lib.hid h2
  have H3 := Lib.hid h3
  have HW := Lib.hid (wrt_parts hW)
  clear hr hm h1 h2 h3 hW
  go_enter Tryz.func182, Tryz.ntmps182
  go_wp2_with fail
  generalize ((((w.alloc _).alloc _).alloc _).alloc _ : World) = w0 at G D T X E ⊢
  refine (l7Copy_own rt rq rv P p pc Q q qc ps os w0 (by omega) (by omega) (H1.out.later E) (H2.out.later E)).mono ?_
  rintro e w1 ⟨B, u, v', hB, hB', rfl, hR, hV, hb1⟩
  obtain ⟨a5, c5, rfl⟩ := hR.form
  obtain ⟨a6, c6, rfl⟩ := hV.form
  have hb2 := bel_alloc w1 (.cells #[.int .i64 rt, .int .i64 rq, .int .i64 rv, .slice (some ⟨a5, 0, none⟩) ps.length c5, .slice (some ⟨a6, 0, none⟩) os.length c6] 80)
  have hXl := X.lt
  have K : LWO w (w1.alloc (.cells #[.int .i64 rt, .int .i64 rq, .int .i64 rv, .slice (some ⟨a5, 0, none⟩) ps.length c5, .slice (some ⟨a6, 0, none⟩) os.length c6] 80)) w1.heap.size B s l c sh A n cap rt rq rv P p pc Q q qc ct cq (.slice (some ⟨a5, 0, none⟩) ps.length c5) (.slice (some ⟨a6, 0, none⟩) os.length c6) ps os := by
    have hb12 := bel_trans hb1 hb2
    exact ⟨bel_trans E hb12, G.later hb12 G.lt, D.later hb12 D.lt, T.later hb12 T.lt, X.later hb12 X.lt, Box.new w1 _ _, by omega, hB', (hR.later hb2).wide (by omega) (Nat.le_refl _), hV.later hb2⟩
  have T1 := T.later hb1 T.lt
  have hT1 := T1.lt
  obtain ⟨t0, t1⟩ := T1.two
  clear hR hV G D T X E hb1 hb2 hB T1
  go_wp2_with fail
  generalize (w1.alloc _ : World) = w2 at K ⊢
  generalize w1.heap.size = S at K hB' hT1 ⊢
  clear t0 t1 hT1
  have hz := Lib.hid (show (ct == 0) = false ∨ ((ct == 0) = true ∧ (cq == 0) = false) from by
    rcases zero_cases ct cq with h | ⟨h, _⟩
    · exact absurd h HW.out.2.2.1
    · exact h)
  have HS := Lib.hid HW.out.1
  have HPF := Lib.hid HW.out.2.2.2
  have hm20 : m ≤ 20 := by have := HW.out.2.1; rw [H3.out.1] at this; exact this
  refine (l4Zero_no ct cq hz.out w2).mono ?_
  rintro e w3 ⟨rfl, hb3⟩
  have K3 := K.later hb3
  clear K hb3
  obtain ⟨t0, t1⟩ := K3.T.two
  go_wp2_with fail
  refine (specStampR_is HS.out w3).mono ?_
  rintro e w4 ⟨rfl, hb4⟩
  have K4 := K3.later hb4
  clear K3 hb4 t0 t1
  obtain ⟨t0, t1⟩ := K4.T.two
  obtain ⟨g0, g1, g2, g3, g4⟩ := K4.G.five
  go_wp2_with fail
  refine (specProvenR_is HPF.out A n cap L m mc w4 HM.out ((HR.out.below K4.bel (Nat.le_refl _)).more K4.bel.size) hn (H3.out.later K4.bel)).mono ?_
  rintro e w5 ⟨rfl, hb5⟩
  have K5 := K4.later hb5
  clear K4 hb5 t0 t1 g0 g1 g2 g3 g4
  obtain ⟨t0, t1⟩ := K5.T.two
  obtain ⟨d0, d1, d2, d3, d4⟩ := K5.D.five
  go_wp2_with fail
  refine (specCmp_any ct cq rt rq w5).mono ?_
  rintro e w6 ⟨rfl, hb6⟩
  have K6 := K5.later hb6
  clear K5 hb6 t0 t1 d0 d1 d2 d3 d4
  by_cases hc : 0 < cmpN ct cq rt rq
  · have HC := Lib.hid hc
    obtain ⟨y0, y1, y2, y3, y4⟩ := K6.Y.five
    obtain ⟨t0, t1⟩ := K6.T.two
    have fy := K6.Y.frozen
    have hlo := K6.hlo
    have hBS := K6.hBS
    have HV := Lib.hid (K6.put v)
    clear K6
    go_upto_region 7 with fail
    generalize (((w6.setCell _ _).setCell _ _).setCell _ _ : World) = w7 at HV ⊢
    have K7 := HV.out
    have HC := Lib.hid hc
    clear y0 y1 y2 y3 y4 t0 t1 fy HV hc
    obtain ⟨J, hJ⟩ : ∃ J, goodP (rB s l c sh zs 1 x ct cq v) cs = J := ⟨_, rfl⟩
    have HJL : Hid (J.length ≤ 20) := Lib.hid (by rw [← hJ]; exact Nat.le_trans (goodP_le _ _) (by rw [H3.out.1]; exact hm20))
    replace hJ := Lib.hid hJ
    obtain ⟨g0, g1, g2, g3, g4⟩ := K7.G.five
    obtain ⟨t0, t1⟩ := K7.T.two
    have R7 := (HR.out.below K7.bel (Nat.le_refl _)).more K7.bel.size
    have P7 := H3.out.later K7.bel
    have hSG : (⟨S, 3, none⟩ : Addr).block ≠ w.heap.size := by show S ≠ _; omega
    have hST : (⟨S, 3, none⟩ : Addr).block ≠ w.heap.size + 1 + 1 := by show S ≠ _; omega
    have hSl := K7.Y.lt
    go_region_held3 (fun w' => w'.cell? ⟨w.heap.size, 0, none⟩ = some (.int .i64 s) ∧ w'.cell? ⟨w.heap.size, 1, none⟩ = some (.int .i64 l) ∧ w'.cell? ⟨w.heap.size, 2, none⟩ = some (.int .i64 c) ∧ w'.cell? ⟨w.heap.size, 3, none⟩ = some (.int .i64 sh) ∧ w'.cell? ⟨w.heap.size, 4, none⟩ = some (.slice A n cap) ∧ w'.cell? ⟨w.heap.size + 1 + 1, 0, none⟩ = some (.int .i64 ct) ∧ w'.cell? ⟨w.heap.size + 1 + 1, 1, none⟩ = some (.int .i64 cq))
      (first | (with_reducible exact KD) | (with_reducible exact KB) | (with_reducible exact KA) | go_keep)
      (first
        | (go_at_call 137; refine (l4Ready_is x ct cq v _).mono ?_; rintro e w8 ⟨rfl, hb8⟩; have F8 := bel_drew' hb8; have K8 := K7.later F8; have R8 := (R7.below F8 (Nat.le_refl _)).more F8.size; have P8 := P7.later F8; have KA := sevenGD K8.G K8.T; have hs8 := F8.size)
        | (go_at_call 220; refine (specGoodO_is s l c sh A n cap zs 1 x ct cq v L m mc cs _ HM.out R8 hn P8).mono ?_; rintro e w9 ⟨q9, c9, rfl, hw9, hb9⟩; rw [hJ.out] at hw9 ⊢; have K9 := K8.later hb9; have KB := sevenGD K9.G K9.T; have KD := sevenGD (K9.G.far (p := ⟨S, 3, none⟩) hSG (.slice (some ⟨q9, 0, none⟩) J.length c9)) (K9.T.far (p := ⟨S, 3, none⟩) hST (.slice (some ⟨q9, 0, none⟩) J.length c9)); have y3 := K9.Y.cell 3; have fy := K9.Y.frozen; have HP := Lib.hid (lv_newV (w1 := w8) (c5 := c9) K9 (by omega) hw9); have Z9 := Lib.hid (K9.Y.set 3 (.slice (some ⟨q9, 0, none⟩) J.length c9)); have X9 := Lib.hid (K9.X.far (p := ⟨S, 3, none⟩) (by show S ≠ _; omega) (.slice (some ⟨q9, 0, none⟩) J.length c9))))
    obtain ⟨z0, z1, z2, z3, z4⟩ := (show Box _ S 80 #[.int .i64 ct, .int .i64 cq, .int .i64 v, .slice (some ⟨q9, 0, none⟩) J.length c9, .slice (some ⟨a6, 0, none⟩) os.length c6] from Z9.out).five
    obtain ⟨x0, x1, x2, x3, x4⟩ := X9.out.five
    have fx := X9.out.frozen
    clear KA KB KD K7 K8 K9 y3 fy R7 R8 P7 P8 g0 g1 g2 g3 g4 t0 t1 hw9 hb9 Z9 X9
    generalize (w9.setCell _ _ : World) = w10 at HP z0 z1 z2 z3 z4 x0 x1 x2 x3 x4 fx ⊢
    go_wp2
    exact bodyPost_ret (v := .tuple #[.agg #[.int .i64 ct, .int .i64 cq, .int .i64 v, .slice (some ⟨q9, 0, none⟩) J.length c9, .slice (some ⟨a6, 0, none⟩) os.length c6], .bool true]) (by simp [results, Tryz.results182, go_sem, x0, x1, x2, x3, x4]) rfl (.inr ⟨by have := HC.out; omega, hJ.out.symm ▸ HP.out _ _ _ _ _⟩)
  · have HC := Lib.hid hc
    have hc' : decide (0 < cmpN ct cq rt rq) = false := decide_eq_false hc
    obtain ⟨y0, y1, y2, y3, y4⟩ := K6.Y.five
    obtain ⟨x0, x1, x2, x3, x4⟩ := K6.X.five
    have fx := K6.X.frozen
    have HP := Lib.hid (lw_oldV (f := true) K6)
    clear K6
    go_wp2
    exact bodyPost_ret (v := .tuple #[.agg #[.int .i64 rt, .int .i64 rq, .int .i64 rv, .slice (some ⟨a5, 0, none⟩) ps.length c5, .slice (some ⟨a6, 0, none⟩) os.length c6], .bool true]) (by simp [results, Tryz.results182, go_sem, x0, x1, x2, x3, x4]) rfl (.inl ⟨by have := HC.out; omega, HP.out _ _ _ _ _⟩)

end Go.Proofs.YtjdepjpjjgkmbaaGreat

/- Opens that are put to their places stay in order; mathematics alone; no conditions. -/
namespace Go.Proofs.YtjdepjpjjgkmbaaGreat
open Go.RowKit

/-- Opens in order, all right. -/
theorem opsB_iff (R : Opn → Bool) (os : List Opn) : opsB R os = true ↔ (∀ i, i < os.length → R (oth os i) = true) ∧ ∀ i, i + 1 < os.length → (oth os i).1 < (oth os (i + 1)).1 := by
  constructor
  · intro h
    unfold opsB at h
    rw [List.all_eq_true] at h
    refine ⟨fun i hi => ?_, fun i hi => ?_⟩
    · have := h i (List.mem_range.2 hi)
      unfold stepB at this
      rw [Bool.and_eq_true] at this
      exact this.1
    · have := h (i + 1) (List.mem_range.2 hi)
      unfold stepB at this
      simp only [Bool.and_eq_true, Bool.or_eq_true, decide_eq_true_eq, Nat.add_sub_cancel] at this
      rcases this.2 with h1 | h1
      · omega
      · exact h1
  · rintro ⟨h1, h2⟩
    refine opsB_true fun i hi => ?_
    unfold stepB
    rcases i with _ | i
    · simp [h1 0 hi]
    · have := h2 i hi
      simp [h1 (i + 1) hi, this]
theorem opsB_lt {R : Opn → Bool} {os : List Opn} (h : opsB R os = true) : ∀ i j, i < j → j < os.length → (oth os i).1 < (oth os j).1 := by
  obtain ⟨-, h2⟩ := (opsB_iff R os).1 h
  intro i j hij
  induction j with
  | zero => omega
  | succ j ih =>
    intro hj
    have h3 := h2 j hj
    by_cases e : i = j
    · subst e; exact h3
    · have := ih (by omega) (by omega)
      omega
theorem oth_put {os : List Opn} {i j : Nat} {o : Opn} (hi : i ≤ os.length) (_hj : j ≤ os.length) (hij : i ≤ j) (x : Nat) :
    oth (putO os i j o) x = if x < i then oth os x else if x = i then o else oth os (x - (i + 1) + j) := by
  unfold oth putO
  simp only [List.getD_eq_getElem?_getD]
  rw [List.append_assoc]
  by_cases h1 : x < i
  · rw [if_pos h1, List.getElem?_append_left (by rw [List.length_take]; omega), List.getElem?_take, if_pos h1]
  · rw [if_neg h1, List.getElem?_append_right (by rw [List.length_take]; omega), List.length_take, Nat.min_eq_left hi]
    by_cases h2 : x = i
    · subst h2
      simp
    · rw [if_neg h2, List.getElem?_append_right (by simp; omega), List.getElem?_drop]
      simp only [List.length_singleton]
      rw [show j + (x - i - 1) = x - (i + 1) + j by omega]
theorem beh_ge {c : Int} {os : List Opn} : ∀ k, k ≤ os.length → (∀ j, behN c (os.take k) ≤ j → j < k → ¬ (oth os j).1 < c) ∧ (0 < behN c (os.take k) → (oth os (behN c (os.take k) - 1)).1 < c) := by
  intro k
  induction k with
  | zero => intro _; exact ⟨fun j _ hj => absurd hj (by omega), fun h => absurd h (by simp [behN])⟩
  | succ k ih =>
    intro hk
    obtain ⟨h1, h2⟩ := ih (by omega)
    rw [behN_snoc (by omega)]
    by_cases hc : (oth os k).1 < c
    · rw [if_pos hc]
      exact ⟨fun j h3 h4 => absurd h4 (by omega), fun _ => by simpa using hc⟩
    · rw [if_neg hc]
      refine ⟨fun j h3 h4 => ?_, h2⟩
      by_cases e : j = k
      · subst e; exact hc
      · exact h1 j h3 (by omega)
theorem opsB_with {R : Opn → Bool} {os : List Opn} {o : Opn} (h : opsB R os = true) (ho : R o = true) : opsB R (withO os o) = true := by
  have hlt := opsB_lt h
  obtain ⟨h1, h2⟩ := (opsB_iff R os).1 h
  rw [opsB_iff]
  rcases first_cases o.1 os with ⟨i, hf⟩ | hn
  · rw [withO_first hf]
    have hil := hf.1
    have hlen : (putO os i (i + 1) o).length = os.length := by rw [putO_len (by omega) (by omega)]; omega
    have hoth : ∀ x, oth (putO os i (i + 1) o) x = if x = i then o else oth os x := fun x => by
      rw [oth_put (by omega) (by omega) (by omega)]
      by_cases a : x < i
      · rw [if_pos a, if_neg (by omega)]
      · rw [if_neg a]
        by_cases b : x = i
        · rw [if_pos b, if_pos b]
        · rw [if_neg b, if_neg b, show x - (i + 1) + (i + 1) = x by omega]
    have hk := hf.2.1
    refine ⟨fun x hx => ?_, fun x hx => ?_⟩
    · rw [hoth]
      split
      · exact ho
      · exact h1 x (by omega)
    · rw [hoth, hoth]
      have := h2 x (by omega)
      split <;> split
      · omega
      · subst_vars; rw [hk] at this; exact this
      · rename_i a b; rw [← hk, ← b]; exact this
      · exact this
  · rw [withO_none hn]
    obtain ⟨b, hb⟩ : ∃ b, behN o.1 os = b := ⟨_, rfl⟩
    have hbl := behN_le o.1 os
    obtain ⟨g1, g2⟩ := beh_ge (c := o.1) os.length (Nat.le_refl _)
    rw [List.take_length] at g1 g2
    rw [hb] at hbl g1 g2 ⊢
    have hlen : (putO os b b o).length = os.length + 1 := by rw [putO_len hbl hbl]; omega
    have hoth := oth_put (o := o) hbl hbl (Nat.le_refl b)
    refine ⟨fun x hx => ?_, fun x hx => ?_⟩
    · rw [hoth]
      split
      · exact h1 x (by omega)
      · split
        · exact ho
        · exact h1 _ (by omega)
    · rw [hoth, hoth]
      by_cases a : x + 1 < b
      · rw [if_pos (by omega), if_pos a]
        exact h2 x (by omega)
      · by_cases e : x + 1 = b
        · rw [if_pos (by omega), if_neg (by omega), if_pos e]
          have := g2 (by omega)
          rw [show b - 1 = x by omega] at this
          exact this
        · by_cases f : x = b
          · subst f
            rw [if_neg (by omega), if_pos rfl, if_neg (by omega), if_neg (by omega), show x + 1 - (x + 1) + x = x by omega]
            have hx1 : x < os.length := by omega
            have := g1 x (Nat.le_refl _) hx1
            have := hn x hx1
            omega
          · rw [if_neg (by omega), if_neg f, if_neg (by omega), if_neg (by omega), show x - (b + 1) + b = x - 1 by omega, show x + 1 - (b + 1) + b = x - 1 + 1 by omega]
            exact h2 (x - 1) (by omega)

end Go.Proofs.YtjdepjpjjgkmbaaGreat

/- What is replayed keeps every shelf right; what the functions of chapter 7 answer, as a shelf's data; no conditions. -/
namespace Go.Proofs.YtjdepjpjjgkmbaaGreat
open Go Go.RowKit

/-- Is a shelf right? -/
def regG (g : GrpD) (x : Int) (r : RegD) : Bool := regB g.s g.l g.c g.sh g.zs x r.t r.q r.v r.ps r.os
def goodS (g : GrpD) (rs : List RegD) : Prop := ∀ i (h : i < rs.length), regG g (i : Int) rs[i] = true
theorem lef_wrt {s l c sh : Int} {zs : List Int} {x ct cq v : Int} {ps : List (Int × Int)} (h : lefB s l c sh zs x ct cq v ps = true) (hz : ¬ (ct = 0 ∧ cq = 0)) : wrtB s l c sh zs x ct cq v ps = true := by
  unfold lefB at h
  unfold wrtB
  simp only [Bool.and_eq_true, Bool.not_eq_true', decide_eq_false_iff_not] at h ⊢
  exact ⟨hz, h.1⟩
theorem knd_parts {s l c sh : Int} {zs : List Int} {r2 r3 r4 r5 r6 r7 : Int} {ps : List (Int × Int)} (h : kndB s l c sh zs r2 r3 r4 r5 r6 r7 ps = true) :
    (r2 = 1 ∧ ps = [] ∧ opnB s l c sh zs (r4, r5, r6, r7) = true) ∨ (r2 = 2 ∧ r4 = 0 ∧ ¬ (r5 = 0 ∧ r6 = 0) ∧ lefB s l c sh zs r3 r5 r6 r7 ps = true) := by
  unfold kndB at h
  split at h
  · simp only [Bool.and_eq_true, decide_eq_true_eq] at h
    exact .inl ⟨by assumption, h.1, h.2⟩
  · split at h
    · simp only [Bool.and_eq_true, Bool.not_eq_true', decide_eq_true_eq, decide_eq_false_iff_not] at h
      exact .inr ⟨by assumption, h.1.1, h.1.2, h.2⟩
    · cases h
theorem reg_zero {g : GrpD} {x : Int} (hok : okG g = true) (hx : inB x 0 (g.sh - 1) = true) : regG g x zeroR = true := by
  unfold okG at hok
  simp [regG, regB, lefB, proB, lefS, zeroR, hok, hx, opsB]
theorem good_zero {g : GrpD} (hok : okG g = true) : goodS g (List.replicate g.sh.toNat zeroR) := by
  intro i hi
  rw [List.length_replicate] at hi
  rw [List.getElem_replicate]
  have hs := okB_sh hok
  exact reg_zero hok (inB_true.2 ⟨by omega, by omega⟩)
/-- A shelf that is right stays so, whatever right record is done to it. -/
theorem onto_good {g : GrpD} {d : RecD} {r : RegD} (hr : regG g d.r3 r = true) (hk : kndB g.s g.l g.c g.sh g.zs d.r2 d.r3 d.r4 d.r5 d.r6 d.r7 d.ps = true) : regG g d.r3 (ontoD g d r) = true := by
  rcases knd_parts hk with ⟨h2, -, ho⟩ | ⟨h2, -, hz, hl⟩
  · unfold ontoD
    rw [if_pos h2]
    unfold regG regB at hr ⊢
    rw [Bool.and_eq_true] at hr ⊢
    exact ⟨hr.1, opsB_with hr.2 ho⟩
  · unfold ontoD
    rw [if_neg (by omega)]
    obtain ⟨-, -, h3, -⟩ := outW_again hr (lef_wrt hl hz) rfl
    exact h3
theorem step_good {g : GrpD} {rs : List RegD} {d : RecD} (hg : goodS g rs) (hk : kndB g.s g.l g.c g.sh g.zs d.r2 d.r3 d.r4 d.r5 d.r6 d.r7 d.ps = true) (h0 : 0 ≤ d.r3) (hl : d.r3.toNat < rs.length) : goodS g (stepR g rs d) := by
  intro i hi
  unfold stepR at hi ⊢
  rw [List.length_set] at hi
  by_cases e : d.r3.toNat = i
  · subst e
    have hx : ((d.r3.toNat : Nat) : Int) = d.r3 := by omega
    rw [List.getElem_set_self, hx]
    refine onto_good ?_ hk
    have h := hg _ hl
    rw [hx] at h
    unfold regOf
    rw [List.getD_eq_getElem?_getD, List.getElem?_eq_getElem hl]
    exact h
  · rw [List.getElem_set_ne e]
    exact hg i hi
theorem good_shelves {g : GrpD} {ds : List RecD} (hok : okG g = true) : ∀ k, k ≤ ds.length → (∀ i, i < k → isAt g ds i = true) → goodS g (shelves g (ds.take k)) := by
  intro k
  induction k with
  | zero => intro _ _; exact good_zero hok
  | succ k ih =>
    intro hk ha
    rw [shelves_snoc g ds (by omega)]
    have h := ha k (by omega)
    rw [isAt_lt (by omega)] at h
    simp only [Bool.and_eq_true] at h
    obtain ⟨h0, h1, -, hkn⟩ := rok_shelf h.2
    exact step_good (ih (by omega) (fun i hi => ha i (by omega))) hkn h0 (by rw [shelves_len]; omega)

theorem own_cap {w : World} {base : Nat} {t : TypeId} {k g n cap : Nat} {xs : List Value} (h : w.ownsRow base t k (.slice (some ⟨g, 0, none⟩) n cap) n xs) : n ≤ cap ∧ cap ≤ maxLen := by
  rcases h.2 with ⟨h', _⟩ | ⟨g', cap', cur, h', hb, hg, hnc, hcm, _⟩
  · cases h'
  · injection h' with _ _ e3
    subst e3
    exact ⟨hnc, hcm⟩
/-- What an open answers; what a writing answers: the shelf's data. -/
theorem regR_at {w w' : World} {e : Ending} {rt rq rv : Int} {ps : List (Int × Int)} {os : List Opn} (h : RegR w rt rq rv ps os e w') :
    ∃ u v, e = .returned (.agg #[.int .i64 rt, .int .i64 rq, .int .i64 rv, u, v]) ∧ LieR ⟨rt, rq, rv, ps, os⟩ w' (Iv w.heap.size w'.heap.size) (.agg #[.int .i64 rt, .int .i64 rq, .int .i64 rv, u, v]) ∧ Below w.heap.size w w' := by
  obtain ⟨B, u, v, hB, hB', rfl, h1, h2, hb⟩ := h
  obtain ⟨A, c, rfl, -⟩ := h1.form
  obtain ⟨A', c', rfl, -⟩ := h2.form
  exact ⟨_, _, rfl, ⟨A, _, c, A', _, c', w.heap.size, B, w'.heap.size, rfl, h1, h2.resQ, hB, hB', Nat.le_refl _, fun b hb => hb⟩, hb⟩
theorem spV_at {w w' : World} {e : Ending} {t q v : Int} {cs : List (Int × Int)} {os : List Opn} {f : Bool} (h : SpV w t q v cs os f e w') :
    ∃ u x, e = .returned (.tuple #[.agg #[.int .i64 t, .int .i64 q, .int .i64 v, u, x], .bool f]) ∧ AtW ⟨t, q, v, cs, os⟩ w' (Iv w.heap.size w'.heap.size) (.agg #[.int .i64 t, .int .i64 q, .int .i64 v, u, x]) ∧ Below w.heap.size w w' := by
  obtain ⟨g1, c1, g2, c2, rfl, -, h1, h2, hb⟩ := h
  obtain ⟨p1, p2⟩ := own_cap h1
  obtain ⟨q1, q2⟩ := own_cap h2
  exact ⟨_, _, rfl, ⟨_, _, c1, _, _, c2, rfl, Nat.le_trans p1 p2, Nat.le_trans q1 q2, ⟨own_pairs h1, fun _ b o e => by injection e with e; injection e with e; exact e ▸ h1.lt g1 rfl⟩, ⟨own_quads h2, fun _ b o e => by injection e with e; injection e with e; exact e ▸ h2.lt g2 rfl⟩, .inl ⟨g1, 0, rfl⟩, .inl ⟨g2, 0, rfl, q1, q2⟩⟩, hb⟩
theorem wroteV_at {w w' : World} {e : Ending} {g : GrpD} {d : RecD} {r : RegD} (hr : regG g d.r3 r = true) (hk : kndB g.s g.l g.c g.sh g.zs d.r2 d.r3 d.r4 d.r5 d.r6 d.r7 d.ps = true) (h2 : d.r2 ≠ 1) (h : WroteV w g.s g.l g.c g.sh g.zs d.r3 r.t r.q r.v r.ps r.os d.r5 d.r6 d.r7 d.ps e w') :
    ∃ u x, e = .returned (.tuple #[.agg #[.int .i64 (ontoD g d r).t, .int .i64 (ontoD g d r).q, .int .i64 (ontoD g d r).v, u, x], .bool true]) ∧ AtW (ontoD g d r) w' (Iv w.heap.size w'.heap.size) (.agg #[.int .i64 (ontoD g d r).t, .int .i64 (ontoD g d r).q, .int .i64 (ontoD g d r).v, u, x]) ∧ Below w.heap.size w w' := by
  rcases knd_parts hk with ⟨h, -⟩ | ⟨-, -, hz, hl⟩
  · exact absurd h h2
  have hw := lef_wrt hl hz
  have hc := cmp_pos (wrt_parts hw).1 (reg_stamp hr)
  have hr' : regB g.s g.l g.c g.sh g.zs d.r3 r.t r.q r.v r.ps r.os = true := hr
  have ho : ontoD g d r = if cmpN d.r5 d.r6 r.t r.q = 1 then ⟨d.r5, d.r6, d.r7, goodP (rB g.s g.l g.c g.sh g.zs 1 d.r3 d.r5 d.r6 d.r7) d.ps, r.os⟩ else ⟨r.t, r.q, r.v, r.ps, r.os⟩ := by
    unfold ontoD outW
    rw [if_neg h2, if_neg (by rw [hr']; simp), if_neg (by rw [hw]; simp)]
    split <;> rfl
  rw [ho]
  rcases h with ⟨hn, h⟩ | ⟨hp, h⟩
  · rw [if_neg (fun e => hn (hc.2 e))]
    exact spV_at h
  · rw [if_pos (hc.1 hp)]
    exact spV_at h
end Go.Proofs.YtjdepjpjjgkmbaaGreat

/- The program's onto: a record is done to a shelf (written by onto9.py); conditions: the sizes. -/
namespace Go.Proofs.YtjdepjpjjgkmbaaGreat
open Go Go.RowKit

theorem results_row9 {P : Program} {fn : Func} {x : Tmp} {ty : TypeId} (h : fn.results = #[.cell x ty]) (tmps : Array Value) (w : World) (g : Nat) (t : TypeId) (cs : Array Value) (d : TypeDesc)
    (hx : tmps.getD x undef = .pointer (some ⟨g, 0, none⟩)) (hg : Box w g t cs)
    (hu : P.underlying ty = some d) (hd : (match d with | .struct _ | .array _ _ => true | _ => false) = true) (hi : (P.info? ty).map (·.size) = some cs.size) :
    (results fn tmps).run P w = .ok (.agg cs) w := by
  have ex : tmps[x]?.getD undef = .pointer (some ⟨g, 0, none⟩) := by simpa using hx
  simp [results, h, ex, asAddr, run_loadVar_row w g t ty cs (0, 0) d hg hu hd hi]
/-- A shelf that is answered: its data, its lists in new blocks. -/
def MadeR (o : RegD) (w : World) (e : Ending) (w' : World) : Prop := ∃ u v, e = .returned (.agg #[.int .i64 o.t, .int .i64 o.q, .int .i64 o.v, u, v]) ∧ LieR o w' (Iv w.heap.size w'.heap.size) (.agg #[.int .i64 o.t, .int .i64 o.q, .int .i64 o.v, u, v]) ∧ Below w.heap.size w w'
theorem wrR_at {w w' : World} {o : Out} {e : Ending} (h : WrR w o e w') : ∃ u v, e = .returned (.tuple #[.agg #[.int .i64 o.t, .int .i64 o.q, .int .i64 o.v, u, v], .bool o.f]) ∧ LieR ⟨o.t, o.q, o.v, o.cs, o.os⟩ w' (Iv w.heap.size w'.heap.size) (.agg #[.int .i64 o.t, .int .i64 o.q, .int .i64 o.v, u, v]) ∧ Below w.heap.size w w' := by
  obtain ⟨B, A, n, c, A', n', c', hB, hB', rfl, h1, h2, hb⟩ := h
  exact ⟨_, _, rfl, ⟨A, n, c, A', n', c', w.heap.size, B, w'.heap.size, rfl, h1, h2.resQ, hB, hB', Nat.le_refl _, fun b hb => hb⟩, hb⟩
/-- The shelf is laid into the variable of the answer. -/
theorem madeR_put {o : RegD} {w w2 w3 : World} {R : Nat} {C : Array Value} {N : Nat} (hb : Below w.heap.size w w2) (hR : w.heap.size ≤ R) (hRN : R < N) (_hN : N ≤ w2.heap.size) (hL : LieR o w2 (Iv N w2.heap.size) (.agg C)) (hw : w3 = w2.setRow R C) :
    LieR o w3 (Iv w.heap.size w3.heap.size) (.agg C) ∧ Below w.heap.size w w3 := by
  have ht := turns_setRow w2 R C
  rw [hw]
  exact ⟨(keepsLR o).sub ((keepsLR o).turn hL ht (iv_one (.inl hRN))) (fun b hb => ⟨by have := hb.1; omega, by have := hb.2; rw [size_setRow]; exact this⟩), ht.below hb (fun i hi => by omega)⟩

set_option maxRecDepth 100000 in
set_option maxHeartbeats 16000000 in
theorem onto_is (g : GrpD) (d : RecD) (r : RegD) (A : Option Addr) (n cap : Nat) (L : Option Addr) (m mc : Nat) (P : Option Addr) (p pc : Nat) (Q : Option Addr) (q qc : Nat) (w : World)
    (hm : n ≤ maxLen) (hgr : Row w w.heap.size A n g.zs) (hmc : m ≤ 4194304) (hp : Pairs w w.heap.size L m d.ps) (h1 : Slc w (.slice P p pc) r.ps) (h2 : SlcQ w (.slice Q q qc) r.os) (hs1 : r.ps.length ≤ 2000000) (hs2 : r.os.length ≤ 2000000) (hlp : r.ps.length = p) (hlq : r.os.length = q) :
    Calls Tryz.prog 178 #[.agg #[.int .i64 d.r1, .int .i64 d.r2, .int .i64 d.r3, .int .i64 d.r4, .int .i64 d.r5, .int .i64 d.r6, .int .i64 d.r7, .slice L m mc, .int .i64 d.r8], .agg #[.int .i64 g.s, .int .i64 g.l, .int .i64 g.c, .int .i64 g.sh, .slice A n cap], .agg #[.int .i64 r.t, .int .i64 r.q, .int .i64 r.v, .slice P p pc, .slice Q q qc]] w (MadeR (ontoD g d r) w) := by
  have E := bel_trans (bel_trans (bel_trans (bel_alloc w (.cells #[.int .i64 d.r1, .int .i64 d.r2, .int .i64 d.r3, .int .i64 d.r4, .int .i64 d.r5, .int .i64 d.r6, .int .i64 d.r7, .slice L m mc, .int .i64 d.r8] 46)) (bel_alloc _ (.cells #[.int .i64 g.s, .int .i64 g.l, .int .i64 g.c, .int .i64 g.sh, .slice A n cap] 26))) (bel_alloc _ (.cells #[.int .i64 r.t, .int .i64 r.q, .int .i64 r.v, .slice P p pc, .slice Q q qc] 80))) (bel_alloc _ (.cells #[.int .i64 0, .int .i64 0, .int .i64 0, .slice none 0 0, .slice none 0 0] 80))
  have D := (((Box.new w 46 #[.int .i64 d.r1, .int .i64 d.r2, .int .i64 d.r3, .int .i64 d.r4, .int .i64 d.r5, .int .i64 d.r6, .int .i64 d.r7, .slice L m mc, .int .i64 d.r8]).alloc (.cells #[.int .i64 g.s, .int .i64 g.l, .int .i64 g.c, .int .i64 g.sh, .slice A n cap] 26)).alloc (.cells #[.int .i64 r.t, .int .i64 r.q, .int .i64 r.v, .slice P p pc, .slice Q q qc] 80)).alloc (.cells #[.int .i64 0, .int .i64 0, .int .i64 0, .slice none 0 0, .slice none 0 0] 80)
  have G := ((Box.new (w.alloc (.cells #[.int .i64 d.r1, .int .i64 d.r2, .int .i64 d.r3, .int .i64 d.r4, .int .i64 d.r5, .int .i64 d.r6, .int .i64 d.r7, .slice L m mc, .int .i64 d.r8] 46)) 26 #[.int .i64 g.s, .int .i64 g.l, .int .i64 g.c, .int .i64 g.sh, .slice A n cap]).alloc (.cells #[.int .i64 r.t, .int .i64 r.q, .int .i64 r.v, .slice P p pc, .slice Q q qc] 80)).alloc (.cells #[.int .i64 0, .int .i64 0, .int .i64 0, .slice none 0 0, .slice none 0 0] 80)
  have V := (Box.new ((w.alloc (.cells #[.int .i64 d.r1, .int .i64 d.r2, .int .i64 d.r3, .int .i64 d.r4, .int .i64 d.r5, .int .i64 d.r6, .int .i64 d.r7, .slice L m mc, .int .i64 d.r8] 46)).alloc (.cells #[.int .i64 g.s, .int .i64 g.l, .int .i64 g.c, .int .i64 g.sh, .slice A n cap] 26)) 80 #[.int .i64 r.t, .int .i64 r.q, .int .i64 r.v, .slice P p pc, .slice Q q qc]).alloc (.cells #[.int .i64 0, .int .i64 0, .int .i64 0, .slice none 0 0, .slice none 0 0] 80)
  have X := Box.new (((w.alloc (.cells #[.int .i64 d.r1, .int .i64 d.r2, .int .i64 d.r3, .int .i64 d.r4, .int .i64 d.r5, .int .i64 d.r6, .int .i64 d.r7, .slice L m mc, .int .i64 d.r8] 46)).alloc (.cells #[.int .i64 g.s, .int .i64 g.l, .int .i64 g.c, .int .i64 g.sh, .slice A n cap] 26)).alloc (.cells #[.int .i64 r.t, .int .i64 r.q, .int .i64 r.v, .slice P p pc, .slice Q q qc] 80)) 80 #[.int .i64 0, .int .i64 0, .int .i64 0, .slice none 0 0, .slice none 0 0]
  simp only [World.size_alloc] at G V X
  have HR := Lib.hid ((hgr.below E (Nat.le_refl _)).more E.size)
  have HP := Lib.hid (hp.later E)
  have H1 := Lib.hid (h1.later E)
  have H2 := Lib.hid (h2.later E)
  have HM := Lib.hid hm
  have HL1 := Lib.hid hlp
  have HL2 := Lib.hid hlq
  clear hgr hp h1 h2 hm hlp hlq
  go_enter Tryz.func178, Tryz.ntmps178
  go_upto_region 1 with fail
  generalize ((((w.alloc _).alloc _).alloc _).alloc _ : World) = w0 at E D G V X HR HP H1 H2 ⊢
  have d1 := D.cell 1
  have hXl := X.lt
  have IX := Lib.hid (show (Tryz.prog.info? 80).map (·.size) = some 5 from by kernel_rfl)
  by_cases h2 : d.r2 = 1
  · skip
    have h2b : (d.r2 == 1) = true := by simpa using h2
    have hh2 := Lib.hid h2
    clear h2
    go_upto_region 2 with fail
    clear d1 h2b
    refine wp_region_sink 5 (fun w' => Box w' w.heap.size 46 #[.int .i64 d.r1, .int .i64 d.r2, .int .i64 d.r3, .int .i64 d.r4, .int .i64 d.r5, .int .i64 d.r6, .int .i64 d.r7, .slice L m mc, .int .i64 d.r8] ∧ Box w' (w.heap.size + 1 + 1) 80 #[.int .i64 r.t, .int .i64 r.q, .int .i64 r.v, .slice P p pc, .slice Q q qc]) (by kernel_rfl) ⟨D, V⟩ (fun hH => ?_)
    have hb := (Below.refl w0.heap.size w0).drew
    replace E := bel_trans E hb
    replace D := D.later hb D.lt
    replace V := V.later hb V.lt
    replace X := X.later hb X.lt
    replace H1 := Lib.hid (H1.out.later hb)
    replace H2 := Lib.hid (H2.out.later hb)
    replace hXl := Nat.lt_of_lt_of_le hXl hb.size
    clear hb
    generalize w0.drew = w1 at E D V X H1 H2 hH hXl ⊢
    refine wpAnyE_takeS (i := 0) (v := .agg #[.int .i64 r.t, .int .i64 r.q, .int .i64 r.v, .slice P p pc, .slice Q q qc]) (by simp only [List.getElem?_toArray, List.getElem?_cons_zero]; rfl) (by kernel_rfl) (by kernel_rfl) (by kernel_rfl) (by exact fun _ _ _ h => h) (by kernel_rfl) ?y0 hH ?_
    case y0 => exact yields_box 80 _ rfl (w.heap.size + 1 + 1) rfl 80 #[.int .i64 r.t, .int .i64 r.q, .int .i64 r.v, .slice P p pc, .slice Q q qc] (fun _ h => h.2) _ Tryz.underlying80 rfl IX.out (by first | rfl | simp [Region.wanted, yielded] | (simp [Region.wanted, yielded, Act.put] <;> omega))
    try simp only [Act.put, List.setIfInBounds_toArray, List.set_cons_zero, List.set_cons_succ]
    refine wpAnyE_takeS (i := 1) (v := .agg #[.int .i64 d.r1, .int .i64 d.r2, .int .i64 d.r3, .int .i64 d.r4, .int .i64 d.r5, .int .i64 d.r6, .int .i64 d.r7, .slice L m mc, .int .i64 d.r8]) (by simp only [List.getElem?_toArray, List.getElem?_cons_succ, List.getElem?_cons_zero]; rfl) (by kernel_rfl) (by kernel_rfl) (by kernel_rfl) (by exact fun _ _ _ h => h) (by kernel_rfl) ?y1 hH ?_
    case y1 => exact yields_box 46 _ rfl (w.heap.size) rfl 46 #[.int .i64 d.r1, .int .i64 d.r2, .int .i64 d.r3, .int .i64 d.r4, .int .i64 d.r5, .int .i64 d.r6, .int .i64 d.r7, .slice L m mc, .int .i64 d.r8] (fun _ h => h.1) _ Tryz.underlying46 rfl (by kernel_rfl) (by first | rfl | simp [Region.wanted, yielded] | (simp [Region.wanted, yielded, Act.put] <;> omega))
    try simp only [Act.put, List.setIfInBounds_toArray, List.set_cons_zero, List.set_cons_succ]
    refine wpAnyE_one (i := 2) (by kernel_rfl) (by simp only [List.getElem?_toArray, List.getElem?_cons_succ, List.getElem?_cons_zero]; rfl) (fun K' hK => ?_)
    go_simp
    refine (recOpen_is d.r1 d.r2 d.r3 d.r4 d.r5 d.r6 d.r7 L m mc d.r8 w1).mono ?_
    rintro e w2 ⟨rfl, hb⟩
    replace E := bel_trans E hb
    replace D := D.later hb D.lt
    replace V := V.later hb V.lt
    replace X := X.later hb X.lt
    replace H1 := Lib.hid (H1.out.later hb)
    replace H2 := Lib.hid (H2.out.later hb)
    replace hXl := Nat.lt_of_lt_of_le hXl hb.size
    clear hb
    obtain ⟨w1, rfl⟩ : ∃ x, x = w2 := ⟨_, rfl⟩
    clear hH
    refine hK.out _ _ ⟨D, V⟩ (fun hH => ?_)
    clear hK K'
    try simp only [Act.put, List.setIfInBounds_toArray, List.set_cons_zero, List.set_cons_succ]
    refine wpAnyE_one (i := 3) (by kernel_rfl) (by simp only [List.getElem?_toArray, List.getElem?_cons_succ, List.getElem?_cons_zero]; rfl) (fun K' hK => ?_)
    go_simp
    refine (withOpen_is r.t r.q r.v P p pc Q q qc d.r4 d.r5 d.r6 d.r7 r.ps r.os w1 hs1 hs2 H1.out H2.out).mono ?_
    rintro e w2 hE
    obtain ⟨u, v, rfl, hL, hb⟩ := regR_at hE
    have hN := hb.size
    replace E := bel_trans E hb
    replace D := D.later hb D.lt
    replace V := V.later hb V.lt
    replace X := X.later hb X.lt
    have hz := X.lt
    clear hE hb
    have hon : ontoD g d r = ⟨r.t, r.q, r.v, r.ps, withO r.os (d.r4, d.r5, d.r6, d.r7)⟩ := by unfold ontoD; rw [if_pos hh2.out]
    replace hon := Lib.hid hon
    clear hH
    refine hK.out _ _ ⟨D, V⟩ (fun hH => ?_)
    clear hK K'
    try simp only [Act.put, List.setIfInBounds_toArray, List.set_cons_zero, List.set_cons_succ]
    have OL := Lib.hid (oneR hL.at)
    generalize w1.heap.size = N at hL hN hXl
    have ht := turns_setRow w2 (w.heap.size + 1 + 1 + 1) #[.int .i64 r.t, .int .i64 r.q, .int .i64 r.v, u, v]
    have B := Lib.hid (X.setRow #[.int .i64 r.t, .int .i64 r.q, .int .i64 r.v, u, v])
    obtain ⟨hL2, hb2⟩ := madeR_put (w3 := w2.setRow (w.heap.size + 1 + 1 + 1) #[.int .i64 r.t, .int .i64 r.q, .int .i64 r.v, u, v]) E (by omega) hXl hN hL rfl
    replace hL2 := Lib.hid hL2
    replace hb2 := Lib.hid hb2
    refine wpAnyE_end (i := 4) (by kernel_rfl) (by simp only [List.getElem?_toArray, List.getElem?_cons_succ, List.getElem?_cons_zero]; rfl) (by kernel_rfl) (fun K' hK => ?_)
    rw [if_pos (by first | rfl | kernel_rfl | simp [Region.wanted, yielded])]
    refine wp_store_row 80 _ _ rfl (w.heap.size + 1 + 1 + 1) #[.int .i64 r.t, .int .i64 r.q, .int .i64 r.v, u, v] rfl rfl 80 #[.int .i64 0, .int .i64 0, .int .i64 0, .slice none 0 0, .slice none 0 0] X IX.out rfl OL.out.2 ?_
    refine hK.out _ _ ⟨D.turn ht (by omega), V.turn ht (by omega)⟩ ?_
    clear hK K'
    try simp only [Act.put]
    clear hH D V X ht hL
    go_wp2
    exact bodyPost_ret (v := .agg #[.int .i64 r.t, .int .i64 r.q, .int .i64 r.v, u, v]) (results_row9 (Tryz.results178) _ _ (w.heap.size + 1 + 1 + 1) 80 #[.int .i64 r.t, .int .i64 r.q, .int .i64 r.v, u, v] _ rfl B.out Tryz.underlying80 rfl IX.out) rfl (by rw [hon.out]; exact ⟨u, v, rfl, hL2.out, hb2.out⟩)
  have h2b : (d.r2 == 1) = false := by simpa using h2
  have hh2 := Lib.hid h2
  clear h2
  go_upto_region 3 with fail
  clear d1 h2b
  obtain ⟨d0, d1, d2, d3, d4, d5, d6, d7, d8⟩ := D.nine
  obtain ⟨g0, g1, g2, g3, g4⟩ := G.five
  obtain ⟨v0, v1, v2, v3, v4⟩ := V.five
  go_wp2_with fail
  obtain ⟨O, hO⟩ : ∃ O, outW g.s g.l g.c g.sh g.zs d.r3 r.t r.q r.v r.ps r.os d.r5 d.r6 d.r7 d.ps = O := ⟨_, rfl⟩
  refine (written_is g.s g.l g.c g.sh A n cap g.zs d.r3 r.t r.q r.v P p pc Q q qc d.r5 d.r6 d.r7 L m mc r.ps r.os d.ps w0 HM.out HR.out (by have := HL1.out; omega) (by have := HL2.out; omega) H1.out H2.out hmc HP.out).mono ?_
  rintro e w1 hE
  rw [hO] at hE
  obtain ⟨u, v, rfl, hL, hb⟩ := wrR_at hE
  have hon : ontoD g d r = ⟨O.t, O.q, O.v, O.cs, O.os⟩ := by unfold ontoD; rw [if_neg hh2.out, hO]
  have HON := Lib.hid hon
  replace E := bel_trans E hb
  replace X := X.later hb X.lt
  have OL := Lib.hid (oneR hL.at)
  clear hE hO hon g0 g1 g2 g3 g4 v0 v1 v2 v3 v4 d0 d1 d2 d3 d4 d5 d6 d7 d8 D G V
  have hN := hb.size
  clear hb
  generalize w0.heap.size = N at hL hN hXl
  have ZB := Box.new w1 80 #[.int .i64 0, .int .i64 0, .int .i64 0, .slice none 0 0, .slice none 0 0]
  have hn := bel_new_row w1 #[.int .i64 0, .int .i64 0, .int .i64 0, .slice none 0 0, .slice none 0 0] 80 #[.int .i64 O.t, .int .i64 O.q, .int .i64 O.v, u, v]
  have VB := ZB.setRow #[.int .i64 O.t, .int .i64 O.q, .int .i64 O.v, u, v]
  have hV1 := X.lt
  replace hL := (keepsLR _).later hL hn
  replace E := bel_trans E hn
  replace X := X.later hn X.lt
  go_upto_region 4 with (refine wpList_store_row rfl 80 _ _ rfl w1.heap.size _ rfl rfl 80 #[.int .i64 0, .int .i64 0, .int .i64 0, .slice none 0 0, .slice none 0 0] ZB IX.out rfl OL.out.2 ?_)
  clear ZB
  have hz2 := hn.size
  clear hn
  generalize ((w1.alloc _).setRow _ _ : World) = w2 at hL E X VB hz2 ⊢
  generalize w1.heap.size = VV at hL hN hV1 VB hz2 ⊢
  have ht := turns_setRow w2 (w.heap.size + 1 + 1 + 1) #[.int .i64 O.t, .int .i64 O.q, .int .i64 O.v, u, v]
  have B := Lib.hid (X.setRow #[.int .i64 O.t, .int .i64 O.q, .int .i64 O.v, u, v])
  obtain ⟨hL2, hb2⟩ := madeR_put (w3 := w2.setRow (w.heap.size + 1 + 1 + 1) #[.int .i64 O.t, .int .i64 O.q, .int .i64 O.v, u, v]) E (by omega) hXl (by omega) ((keepsLR _).sub hL (fun b hb => ⟨hb.1, by have := hb.2; omega⟩)) rfl
  replace hL2 := Lib.hid hL2
  replace hb2 := Lib.hid hb2
  clear ht hL E
  go_wp2_with (first | (refine wpList_load_box 80 _ rfl VV rfl 80 #[.int .i64 O.t, .int .i64 O.q, .int .i64 O.v, u, v] VB _ Tryz.underlying80 rfl IX.out (by first | rfl | simp [Region.wanted, yielded] | (simp [Region.wanted, yielded, Act.put] <;> omega)) ?_) | (refine wpList_store_row rfl 80 _ _ rfl (w.heap.size + 1 + 1 + 1) _ rfl rfl 80 #[.int .i64 0, .int .i64 0, .int .i64 0, .slice none 0 0, .slice none 0 0] X IX.out rfl OL.out.2 ?_))
  exact bodyPost_ret (v := .agg #[.int .i64 O.t, .int .i64 O.q, .int .i64 O.v, u, v]) (results_row9 (Tryz.results178) _ _ (w.heap.size + 1 + 1 + 1) 80 #[.int .i64 O.t, .int .i64 O.q, .int .i64 O.v, u, v] _ rfl B.out Tryz.underlying80 rfl IX.out) rfl (by rw [HON.out]; exact ⟨u, v, rfl, hL2.out, hb2.out⟩)

end Go.Proofs.YtjdepjpjjgkmbaaGreat

/- The model's l9Apply: a right record is done to its shelf (written by apply_s.py); conditions: the shelves are right, the sizes. -/
namespace Go.Proofs.YtjdepjpjjgkmbaaGreat
open Go Go.RowKit

theorem hreg {P : RegD → World → (Nat → Prop) → Value → Prop} (kp : ∀ d, Keeps (P d)) {w : World} {g lo : Nat} {rs : List RegD} (h : RegsOwn P w g lo rs) {i : Nat} (hi : i < rs.length) :
    ∃ u v, w.cell? ⟨g, i * 5, none⟩ = some (.int .i64 (rs[i]).t) ∧ w.cell? ⟨g, i * 5 + 1, none⟩ = some (.int .i64 (rs[i]).q) ∧ w.cell? ⟨g, i * 5 + 2, none⟩ = some (.int .i64 (rs[i]).v) ∧ w.cell? ⟨g, i * 5 + 3, none⟩ = some u ∧ w.cell? ⟨g, i * 5 + 4, none⟩ = some v ∧
      P rs[i] w (fun b => lo ≤ b) (.agg #[.int .i64 (rs[i]).t, .int .i64 (rs[i]).q, .int .i64 (rs[i]).v, u, v]) := by
  obtain ⟨_, Fs, hR, hF⟩ := h
  obtain ⟨u, v, c0, c1, c2, c3, c4, hP⟩ := hR.get hi
  exact ⟨u, v, c0, c1, c2, c3, c4, (kp _).sub hP (fun b hb => (hF i hi b hb).1)⟩
theorem grownG5 {w w2 : World} (h : Below w.heap.size w w2) (G : Nat) {o0 o1 o2 o3 o4 : Nat} (x0 x1 x2 x3 x4 : Value) : w.grownBy (((((w2.setCell ⟨G, o0, none⟩ x0).setCell ⟨G, o1, none⟩ x1).setCell ⟨G, o2, none⟩ x2).setCell ⟨G, o3, none⟩ x3).setCell ⟨G, o4, none⟩ x4) (some G) := by
  have t5 : Turns (· = G) w2 (((((w2.setCell ⟨G, o0, none⟩ x0).setCell ⟨G, o1, none⟩ x1).setCell ⟨G, o2, none⟩ x2).setCell ⟨G, o3, none⟩ x3).setCell ⟨G, o4, none⟩ x4) :=
    ((((turns_cell5 w2 G _ _).trans (turns_cell5 _ G _ _)).trans (turns_cell5 _ G _ _)).trans (turns_cell5 _ G _ _)).trans (turns_cell5 _ G _ _)
  exact ⟨t5.os.trans h.os, t5.tape.trans h.tape, t5.output.trans h.output, Nat.le_trans h.size t5.size, fun i hi hne => (t5.block i (Nat.lt_of_lt_of_le hi h.size) (fun e => hne (by rw [e]))).trans (h.block i hi)⟩

set_option maxRecDepth 100000 in
set_option maxHeartbeats 16000000 in
theorem l9Apply_is (g : GrpD) (d : RecD) (A : Option Addr) (n cap : Nat) (L : Option Addr) (m mc : Nat) (G k cap' lo : Nat) (rs : List RegD) (i : Nat) (w : World) (hi : d.r3 = (i : Int)) (hil : i < rs.length) (hlen : rs.length = k)
    (hm : n ≤ maxLen) (hgr : Row w w.heap.size A n g.zs) (hmc : m ≤ 4194304) (hp : Pairs w w.heap.size L m d.ps) (hR : RegsOwn AtW w G lo rs)
    (hgood : regG g d.r3 rs[i] = true) (hkn : kndB g.s g.l g.c g.sh g.zs d.r2 d.r3 d.r4 d.r5 d.r6 d.r7 d.ps = true) (hs1 : (rs[i]).ps.length ≤ 2000000) (hs2 : (rs[i]).os.length ≤ 2000000) :
    Calls Tryz.prog 135 #[.agg #[.int .i64 g.s, .int .i64 g.l, .int .i64 g.c, .int .i64 g.sh, .slice A n cap], .slice (some ⟨G, 0, none⟩) k cap', .agg #[.int .i64 d.r1, .int .i64 d.r2, .int .i64 (i : Int), .int .i64 d.r4, .int .i64 d.r5, .int .i64 d.r6, .int .i64 d.r7, .slice L m mc, .int .i64 d.r8]] w fun e w' => (∃ v, e = .returned v) ∧ RegsOwn AtW w' G lo (rs.set i (ontoD g d rs[i])) ∧ w.grownBy w' (some G) := by
  have E := bel_trans (bel_alloc w (.cells #[.int .i64 g.s, .int .i64 g.l, .int .i64 g.c, .int .i64 g.sh, .slice A n cap] 26)) (bel_alloc _ (.cells #[.int .i64 d.r1, .int .i64 d.r2, .int .i64 (i : Int), .int .i64 d.r4, .int .i64 d.r5, .int .i64 d.r6, .int .i64 d.r7, .slice L m mc, .int .i64 d.r8] 46))
  have D := (Box.new w 26 #[.int .i64 g.s, .int .i64 g.l, .int .i64 g.c, .int .i64 g.sh, .slice A n cap]).alloc (.cells #[.int .i64 d.r1, .int .i64 d.r2, .int .i64 (i : Int), .int .i64 d.r4, .int .i64 d.r5, .int .i64 d.r6, .int .i64 d.r7, .slice L m mc, .int .i64 d.r8] 46)
  have R := Box.new (w.alloc (.cells #[.int .i64 g.s, .int .i64 g.l, .int .i64 g.c, .int .i64 g.sh, .slice A n cap] 26)) 46 #[.int .i64 d.r1, .int .i64 d.r2, .int .i64 (i : Int), .int .i64 d.r4, .int .i64 d.r5, .int .i64 d.r6, .int .i64 d.r7, .slice L m mc, .int .i64 d.r8]
  simp only [World.size_alloc] at R
  have HR := Lib.hid ((hgr.below E (Nat.le_refl _)).more E.size)
  have HP := Lib.hid (hp.later E)
  have K := RegsOwn.later keepsW hR E
  have HG := Lib.hid hgood
  have HK := Lib.hid hkn
  have HM := Lib.hid hm
  have HI := Lib.hid hi
  have hGl : G < w.heap.size := by
    obtain ⟨_, Fs, h, _⟩ := hR
    exact h.lt
  clear hgr hp hR hgood hkn hm hi
  have hlt : (i : Int) < (k : Int) := by omega
  obtain ⟨r, hr⟩ : ∃ r : RegD, rs[i] = r := ⟨_, rfl⟩
  rw [hr] at hs1 hs2 ⊢
  replace HG : Hid (regG g d.r3 r = true) := hr ▸ HG
  have hlen' := Lib.hid hlen
  clear hlen
  go_enter Tryz.func135, Tryz.ntmps135
  go_upto_region 1 with fail
  generalize ((w.alloc _).alloc _ : World) = w0 at E D R HR HP K ⊢
  have d1 := R.cell 1
  by_cases h2 : d.r2 = 1
  · skip
    have h2b : (d.r2 == 1) = true := by simpa using h2
    go_upto_region 2 with fail
    clear d1
    obtain ⟨u0, v0, c0, c1, c2, c3, c4, hA⟩ := hreg keepsW K hil
    rw [hr] at c0 c1 c2 hA
    obtain ⟨P, p, pc, Q, q, qc, rfl, rfl, hS1, hS2, hl1, hl2⟩ := hA.slc
    refine wp_region_sink 17 (fun w' => Box w' w.heap.size 26 #[.int .i64 g.s, .int .i64 g.l, .int .i64 g.c, .int .i64 g.sh, .slice A n cap] ∧ Box w' (w.heap.size + 1) 46 #[.int .i64 d.r1, .int .i64 d.r2, .int .i64 (i : Int), .int .i64 d.r4, .int .i64 d.r5, .int .i64 d.r6, .int .i64 d.r7, .slice L m mc, .int .i64 d.r8] ∧ w'.cell? ⟨G, i * 5, none⟩ = some (.int .i64 r.t) ∧ w'.cell? ⟨G, i * 5 + 1, none⟩ = some (.int .i64 r.q) ∧ w'.cell? ⟨G, i * 5 + 2, none⟩ = some (.int .i64 r.v) ∧ w'.cell? ⟨G, i * 5 + 3, none⟩ = some (.slice P p pc) ∧ w'.cell? ⟨G, i * 5 + 4, none⟩ = some (.slice Q q qc)) (by kernel_rfl) ⟨D, R, c0, c1, c2, c3, c4⟩ (fun hH => ?_)
    have hb := (Below.refl w0.heap.size w0).drew
    replace E := bel_trans E hb
    replace D := D.later hb D.lt
    replace R := R.later hb R.lt
    have K1 := RegsOwn.later keepsW K hb
    replace HR := Lib.hid ((HR.out.below hb (Nat.le_refl _)).more hb.size)
    replace HP := Lib.hid (HP.out.later hb)
    replace hS1 := hS1.later hb
    replace hS2 := hS2.later hb
    clear hb hA K
    have K := K1
    clear K1
    generalize w0.drew = w1 at E D R HR HP K hS1 hS2 hH ⊢
    refine wpAnyE_pure (i := 0) (v := ?vp1) (by simp only [List.getElem?_toArray, List.getElem?_cons_zero]; rfl) (by kernel_rfl) (by kernel_rfl) (by kernel_rfl) (by exact fun _ _ _ h => h) (by kernel_rfl) (Or.inl ⟨by rfl, ?yp1⟩) hH ?rp1
    case yp1 => (intro w' hSw; (try dsimp only at hSw); go_simp; try with_reducible rfl)
    try simp only [Act.put, List.setIfInBounds_toArray, List.set_cons_zero, List.set_cons_succ]
    refine wpAnyE_pure (i := 1) (v := ?vp2) (by simp only [List.getElem?_toArray, List.getElem?_cons_succ, List.getElem?_cons_zero]; rfl) (by kernel_rfl) (by kernel_rfl) (by kernel_rfl) (by exact fun _ _ _ h => h) (by kernel_rfl) (Or.inl ⟨by rfl, ?yp2⟩) hH ?rp2
    case yp2 => (intro w' hSw; (try dsimp only at hSw); go_simp; try with_reducible rfl)
    try simp only [Act.put, List.setIfInBounds_toArray, List.set_cons_zero, List.set_cons_succ]
    refine wpAnyE_take (i := 2) (v := .int .i64 (i : Int)) (by simp only [List.getElem?_toArray, List.getElem?_cons_succ, List.getElem?_cons_zero]; rfl) (by kernel_rfl) (by kernel_rfl) (by kernel_rfl) (by exact fun _ _ _ h => h) (by kernel_rfl) (Or.inl ⟨by rfl, ?y3⟩) hH ?r3
    case y3 => (intro w' hSw; have hc2 : w'.cell? ⟨w.heap.size + 1, 2, none⟩ = some (.int .i64 (i : Int)) := hSw.2.1.cell 2; clear hSw; go_simp; try with_reducible rfl)
    try simp only [Act.put, List.setIfInBounds_toArray, List.set_cons_zero, List.set_cons_succ]
    refine wpAnyE_pure (i := 3) (v := ?vp4) (by simp only [List.getElem?_toArray, List.getElem?_cons_succ, List.getElem?_cons_zero]; rfl) (by kernel_rfl) (by kernel_rfl) (by kernel_rfl) (by exact fun _ _ _ h => h) (by kernel_rfl) (Or.inl ⟨by rfl, ?yp4⟩) hH ?rp4
    case yp4 => (intro w' hSw; (try dsimp only at hSw); go_simp; try with_reducible rfl)
    try simp only [Act.put, List.setIfInBounds_toArray, List.set_cons_zero, List.set_cons_succ]
    refine wpAnyE_pure (i := 4) (v := ?vp5) (by simp only [List.getElem?_toArray, List.getElem?_cons_succ, List.getElem?_cons_zero]; rfl) (by kernel_rfl) (by kernel_rfl) (by kernel_rfl) (by exact fun _ _ _ h => h) (by kernel_rfl) (Or.inl ⟨by rfl, ?yp5⟩) hH ?rp5
    case yp5 => (intro w' hSw; (try dsimp only at hSw); go_simp; try with_reducible rfl)
    try simp only [Act.put, List.setIfInBounds_toArray, List.set_cons_zero, List.set_cons_succ]
    refine wpAnyE_take (i := 5) (v := .int .i64 (i : Int)) (by simp only [List.getElem?_toArray, List.getElem?_cons_succ, List.getElem?_cons_zero]; rfl) (by kernel_rfl) (by kernel_rfl) (by kernel_rfl) (by exact fun _ _ _ h => h) (by kernel_rfl) (Or.inl ⟨by rfl, ?y6⟩) hH ?r6
    case y6 => (intro w' hSw; have hc2 : w'.cell? ⟨w.heap.size + 1, 2, none⟩ = some (.int .i64 (i : Int)) := hSw.2.1.cell 2; clear hSw; go_simp; try with_reducible rfl)
    try simp only [Act.put, List.setIfInBounds_toArray, List.set_cons_zero, List.set_cons_succ]
    refine wpAnyE_pure (i := 6) (v := ?vp7) (by simp only [List.getElem?_toArray, List.getElem?_cons_succ, List.getElem?_cons_zero]; rfl) (by kernel_rfl) (by kernel_rfl) (by kernel_rfl) (by exact fun _ _ _ h => h) (by kernel_rfl) (Or.inl ⟨by rfl, ?yp7⟩) hH ?rp7
    case yp7 => (intro w' hSw; (try dsimp only at hSw); go_simp; try with_reducible rfl)
    try simp only [Act.put, List.setIfInBounds_toArray, List.set_cons_zero, List.set_cons_succ]
    refine wpAnyE_take (i := 7) (v := .agg #[.int .i64 r.t, .int .i64 r.q, .int .i64 r.v, .slice P p pc, .slice Q q qc]) (by simp only [List.getElem?_toArray, List.getElem?_cons_succ, List.getElem?_cons_zero]; rfl) (by kernel_rfl) (by kernel_rfl) (by kernel_rfl) (by exact fun _ _ _ h => h) (by kernel_rfl) (Or.inl ⟨by rfl, ?y8⟩) hH ?r8
    case y8 => (intro w' hSw; have hr0 : w'.cell? ⟨G, i * 5, none⟩ = some (.int .i64 r.t) := hSw.2.2.1; have hr1 : w'.cell? ⟨G, i * 5 + 1, none⟩ = some (.int .i64 r.q) := hSw.2.2.2.1; have hr2 : w'.cell? ⟨G, i * 5 + 2, none⟩ = some (.int .i64 r.v) := hSw.2.2.2.2.1; have hr3 : w'.cell? ⟨G, i * 5 + 3, none⟩ = some (.slice P p pc) := hSw.2.2.2.2.2.1; have hr4 : w'.cell? ⟨G, i * 5 + 4, none⟩ = some (.slice Q q qc) := hSw.2.2.2.2.2.2; clear hSw; go_simp; try with_reducible rfl)
    try simp only [Act.put, List.setIfInBounds_toArray, List.set_cons_zero, List.set_cons_succ]
    refine wpAnyE_pure (i := 8) (v := ?vp9) (by simp only [List.getElem?_toArray, List.getElem?_cons_succ, List.getElem?_cons_zero]; rfl) (by kernel_rfl) (by kernel_rfl) (by kernel_rfl) (by exact fun _ _ _ h => h) (by kernel_rfl) (Or.inl ⟨by rfl, ?yp9⟩) hH ?rp9
    case yp9 => (intro w' hSw; (try dsimp only at hSw); go_simp; try with_reducible rfl)
    try simp only [Act.put, List.setIfInBounds_toArray, List.set_cons_zero, List.set_cons_succ]
    refine wpAnyE_take (i := 9) (v := .int .i64 d.r4) (by simp only [List.getElem?_toArray, List.getElem?_cons_succ, List.getElem?_cons_zero]; rfl) (by kernel_rfl) (by kernel_rfl) (by kernel_rfl) (by exact fun _ _ _ h => h) (by kernel_rfl) (Or.inl ⟨by rfl, ?y10⟩) hH ?r10
    case y10 => (intro w' hSw; have hc3 : w'.cell? ⟨w.heap.size + 1, 3, none⟩ = some (.int .i64 d.r4) := hSw.2.1.cell 3; clear hSw; go_simp; try with_reducible rfl)
    try simp only [Act.put, List.setIfInBounds_toArray, List.set_cons_zero, List.set_cons_succ]
    refine wpAnyE_pure (i := 10) (v := ?vp11) (by simp only [List.getElem?_toArray, List.getElem?_cons_succ, List.getElem?_cons_zero]; rfl) (by kernel_rfl) (by kernel_rfl) (by kernel_rfl) (by exact fun _ _ _ h => h) (by kernel_rfl) (Or.inl ⟨by rfl, ?yp11⟩) hH ?rp11
    case yp11 => (intro w' hSw; (try dsimp only at hSw); go_simp; try with_reducible rfl)
    try simp only [Act.put, List.setIfInBounds_toArray, List.set_cons_zero, List.set_cons_succ]
    refine wpAnyE_take (i := 11) (v := .agg #[.int .i64 d.r5, .int .i64 d.r6]) (by simp only [List.getElem?_toArray, List.getElem?_cons_succ, List.getElem?_cons_zero]; rfl) (by kernel_rfl) (by kernel_rfl) (by kernel_rfl) (by exact fun _ _ _ h => h) (by kernel_rfl) (Or.inl ⟨by rfl, ?y12⟩) hH ?r12
    case y12 => (intro w' hSw; have hc4 : w'.cell? ⟨w.heap.size + 1, 4, none⟩ = some (.int .i64 d.r5) := hSw.2.1.cell 4; have hc5 : w'.cell? ⟨w.heap.size + 1, 5, none⟩ = some (.int .i64 d.r6) := hSw.2.1.cell 5; clear hSw; go_simp; try with_reducible rfl)
    try simp only [Act.put, List.setIfInBounds_toArray, List.set_cons_zero, List.set_cons_succ]
    refine wpAnyE_pure (i := 12) (v := ?vp13) (by simp only [List.getElem?_toArray, List.getElem?_cons_succ, List.getElem?_cons_zero]; rfl) (by kernel_rfl) (by kernel_rfl) (by kernel_rfl) (by exact fun _ _ _ h => h) (by kernel_rfl) (Or.inl ⟨by rfl, ?yp13⟩) hH ?rp13
    case yp13 => (intro w' hSw; (try dsimp only at hSw); go_simp; try with_reducible rfl)
    try simp only [Act.put, List.setIfInBounds_toArray, List.set_cons_zero, List.set_cons_succ]
    refine wpAnyE_take (i := 13) (v := .int .i64 d.r7) (by simp only [List.getElem?_toArray, List.getElem?_cons_succ, List.getElem?_cons_zero]; rfl) (by kernel_rfl) (by kernel_rfl) (by kernel_rfl) (by exact fun _ _ _ h => h) (by kernel_rfl) (Or.inl ⟨by rfl, ?y14⟩) hH ?r14
    case y14 => (intro w' hSw; have hc6 : w'.cell? ⟨w.heap.size + 1, 6, none⟩ = some (.int .i64 d.r7) := hSw.2.1.cell 6; clear hSw; go_simp; try with_reducible rfl)
    try simp only [Act.put, List.setIfInBounds_toArray, List.set_cons_zero, List.set_cons_succ]
    refine wpAnyE_pure (i := 14) (v := ?vp15) (by simp only [List.getElem?_toArray, List.getElem?_cons_succ, List.getElem?_cons_zero]; rfl) (by kernel_rfl) (by kernel_rfl) (by kernel_rfl) (by exact fun _ _ _ h => h) (by kernel_rfl) (Or.inl ⟨by rfl, ?yp15⟩) hH ?rp15
    case yp15 => (intro w' hSw; (try dsimp only at hSw); go_simp; try with_reducible rfl)
    try simp only [Act.put, List.setIfInBounds_toArray, List.set_cons_zero, List.set_cons_succ]
    refine wpAnyE_one (i := 15) (by kernel_rfl) (by simp only [List.getElem?_toArray, List.getElem?_cons_succ, List.getElem?_cons_zero]; rfl) (fun K' hK => ?_)
    go_simp
    refine (specWith_is r.t r.q r.v P p pc Q q qc d.r4 d.r5 d.r6 d.r7 r.ps r.os w1 hs1 hs2 hS1 hS2).mono ?_
    rintro e w2 hE
    obtain ⟨u, v, rfl, hL, hb⟩ := regR_at hE
    have hon : ontoD g d r = ⟨r.t, r.q, r.v, r.ps, withO r.os (d.r4, d.r5, d.r6, d.r7)⟩ := by unfold ontoD; rw [if_pos h2]
    replace hL := hL.atW
    obtain ⟨A1, n1, c1', A2, n2', c2', rfl, rfl, -, -, -, -⟩ := hL.slc
    have hcG : ∀ o x, w1.cell? ⟨G, o, none⟩ = some x → w2.cell? ⟨G, o, none⟩ = some x := fun o x h => (hb.cell (p := ⟨G, o, none⟩) (Nat.lt_of_lt_of_le hGl E.size)).trans h
    obtain ⟨D1, R1, q0, q1, q2, q3, q4⟩ := hH
    have n0 := hcG _ _ q0
    have n1 := hcG _ _ q1
    have n2 := hcG _ _ q2
    have n3 := hcG _ _ q3
    have n4 := hcG _ _ q4
    have D2 := D.later hb D.lt
    have R2 := R.later hb R.lt
    have Kf := Lib.hid (RegsOwn.put keepsW K hb hil hL)
    have E2 := Lib.hid (bel_trans E hb)
    have fG : ∀ o, w2.frozen? ⟨G, o, none⟩ = false := by
      obtain ⟨_, Fs, h, _⟩ := RegsOwn.later keepsW K hb
      exact h.frozen
    refine hK.out _ _ ⟨D2, R2, n0, n1, n2, n3, n4⟩ (fun hH => ?_)
    clear hK K' K hb hE hcG q0 q1 q2 q3 q4 D1 R1 hL
    try simp only [Act.put, List.setIfInBounds_toArray, List.set_cons_zero, List.set_cons_succ]
    refine wpAnyE_pure (i := 16) (v := ?vp16) (by simp only [List.getElem?_toArray, List.getElem?_cons_succ, List.getElem?_cons_zero]; rfl) (by kernel_rfl) (by kernel_rfl) (by kernel_rfl) (by exact fun _ _ _ h => h) (by kernel_rfl) (Or.inl ⟨by rfl, ?yp16⟩) hH ?rp16
    case yp16 => (intro w' hSw; (try dsimp only at hSw); go_simp; try with_reducible rfl)
    try simp only [Act.put, List.setIfInBounds_toArray, List.set_cons_zero, List.set_cons_succ]
    refine wpAnyE_last (by kernel_rfl) (by simp only [List.getElem?_toArray, List.getElem?_cons_succ, List.getElem?_cons_zero]; rfl) (by kernel_rfl) (fun K' hK => ?_)
    go_simp
    refine hK.out _ _ ?_
    clear hK K' hH
    try simp only [Act.put, List.setIfInBounds_toArray, List.set_cons_zero, List.set_cons_succ]
    clear n0 n1 n2 n3 n4 fG D2 R2
    go_wp2
    refine bodyPost_ret (results_none rfl _ _ _) rfl ?_
    refine ⟨⟨_, rfl⟩, hon ▸ Kf.out, grownG5 E2.out G _ _ _ _ _⟩
  · skip
    have h2b : (d.r2 == 1) = false := by simpa using h2
    go_upto_region 3 with fail
    clear d1
    obtain ⟨u0, v0, c0, c1, c2, c3, c4, hA⟩ := hreg keepsW K hil
    rw [hr] at c0 c1 c2 hA
    obtain ⟨P, p, pc, Q, q, qc, rfl, rfl, hS1, hS2, hl1, hl2⟩ := hA.slc
    refine wp_region_sink 22 (fun w' => Box w' w.heap.size 26 #[.int .i64 g.s, .int .i64 g.l, .int .i64 g.c, .int .i64 g.sh, .slice A n cap] ∧ Box w' (w.heap.size + 1) 46 #[.int .i64 d.r1, .int .i64 d.r2, .int .i64 (i : Int), .int .i64 d.r4, .int .i64 d.r5, .int .i64 d.r6, .int .i64 d.r7, .slice L m mc, .int .i64 d.r8] ∧ w'.cell? ⟨G, i * 5, none⟩ = some (.int .i64 r.t) ∧ w'.cell? ⟨G, i * 5 + 1, none⟩ = some (.int .i64 r.q) ∧ w'.cell? ⟨G, i * 5 + 2, none⟩ = some (.int .i64 r.v) ∧ w'.cell? ⟨G, i * 5 + 3, none⟩ = some (.slice P p pc) ∧ w'.cell? ⟨G, i * 5 + 4, none⟩ = some (.slice Q q qc)) (by kernel_rfl) ⟨D, R, c0, c1, c2, c3, c4⟩ (fun hH => ?_)
    have hb := (Below.refl w0.heap.size w0).drew
    replace E := bel_trans E hb
    replace D := D.later hb D.lt
    replace R := R.later hb R.lt
    have K1 := RegsOwn.later keepsW K hb
    replace HR := Lib.hid ((HR.out.below hb (Nat.le_refl _)).more hb.size)
    replace HP := Lib.hid (HP.out.later hb)
    replace hS1 := hS1.later hb
    replace hS2 := hS2.later hb
    clear hb hA K
    have K := K1
    clear K1
    generalize w0.drew = w1 at E D R HR HP K hS1 hS2 hH ⊢
    refine wpAnyE_pure (i := 0) (v := ?vp17) (by simp only [List.getElem?_toArray, List.getElem?_cons_zero]; rfl) (by kernel_rfl) (by kernel_rfl) (by kernel_rfl) (by exact fun _ _ _ h => h) (by kernel_rfl) (Or.inl ⟨by rfl, ?yp17⟩) hH ?rp17
    case yp17 => (intro w' hSw; (try dsimp only at hSw); go_simp; try with_reducible rfl)
    try simp only [Act.put, List.setIfInBounds_toArray, List.set_cons_zero, List.set_cons_succ]
    refine wpAnyE_pure (i := 1) (v := ?vp18) (by simp only [List.getElem?_toArray, List.getElem?_cons_succ, List.getElem?_cons_zero]; rfl) (by kernel_rfl) (by kernel_rfl) (by kernel_rfl) (by exact fun _ _ _ h => h) (by kernel_rfl) (Or.inl ⟨by rfl, ?yp18⟩) hH ?rp18
    case yp18 => (intro w' hSw; (try dsimp only at hSw); go_simp; try with_reducible rfl)
    try simp only [Act.put, List.setIfInBounds_toArray, List.set_cons_zero, List.set_cons_succ]
    refine wpAnyE_take (i := 2) (v := .int .i64 (i : Int)) (by simp only [List.getElem?_toArray, List.getElem?_cons_succ, List.getElem?_cons_zero]; rfl) (by kernel_rfl) (by kernel_rfl) (by kernel_rfl) (by exact fun _ _ _ h => h) (by kernel_rfl) (Or.inl ⟨by rfl, ?y19⟩) hH ?r19
    case y19 => (intro w' hSw; have hc2 : w'.cell? ⟨w.heap.size + 1, 2, none⟩ = some (.int .i64 (i : Int)) := hSw.2.1.cell 2; clear hSw; go_simp; try with_reducible rfl)
    try simp only [Act.put, List.setIfInBounds_toArray, List.set_cons_zero, List.set_cons_succ]
    refine wpAnyE_take (i := 3) (v := .agg #[.int .i64 g.s, .int .i64 g.l, .int .i64 g.c, .int .i64 g.sh, .slice A n cap]) (by simp only [List.getElem?_toArray, List.getElem?_cons_succ, List.getElem?_cons_zero]; rfl) (by kernel_rfl) (by kernel_rfl) (by kernel_rfl) (by exact fun _ _ _ h => h) (by kernel_rfl) (Or.inl ⟨by rfl, ?y20⟩) hH ?r20
    case y20 => (intro w' hSw; have hg0 : w'.cell? ⟨w.heap.size, 0, none⟩ = some (.int .i64 g.s) := hSw.1.cell 0; have hg1 : w'.cell? ⟨w.heap.size, 1, none⟩ = some (.int .i64 g.l) := hSw.1.cell 1; have hg2 : w'.cell? ⟨w.heap.size, 2, none⟩ = some (.int .i64 g.c) := hSw.1.cell 2; have hg3 : w'.cell? ⟨w.heap.size, 3, none⟩ = some (.int .i64 g.sh) := hSw.1.cell 3; have hg4 : w'.cell? ⟨w.heap.size, 4, none⟩ = some (.slice A n cap) := hSw.1.cell 4; clear hSw; go_simp; try with_reducible rfl)
    try simp only [Act.put, List.setIfInBounds_toArray, List.set_cons_zero, List.set_cons_succ]
    refine wpAnyE_pure (i := 4) (v := ?vp21) (by simp only [List.getElem?_toArray, List.getElem?_cons_succ, List.getElem?_cons_zero]; rfl) (by kernel_rfl) (by kernel_rfl) (by kernel_rfl) (by exact fun _ _ _ h => h) (by kernel_rfl) (Or.inl ⟨by rfl, ?yp21⟩) hH ?rp21
    case yp21 => (intro w' hSw; (try dsimp only at hSw); go_simp; try with_reducible rfl)
    try simp only [Act.put, List.setIfInBounds_toArray, List.set_cons_zero, List.set_cons_succ]
    refine wpAnyE_take (i := 5) (v := .int .i64 (i : Int)) (by simp only [List.getElem?_toArray, List.getElem?_cons_succ, List.getElem?_cons_zero]; rfl) (by kernel_rfl) (by kernel_rfl) (by kernel_rfl) (by exact fun _ _ _ h => h) (by kernel_rfl) (Or.inl ⟨by rfl, ?y22⟩) hH ?r22
    case y22 => (intro w' hSw; have hc2 : w'.cell? ⟨w.heap.size + 1, 2, none⟩ = some (.int .i64 (i : Int)) := hSw.2.1.cell 2; clear hSw; go_simp; try with_reducible rfl)
    try simp only [Act.put, List.setIfInBounds_toArray, List.set_cons_zero, List.set_cons_succ]
    refine wpAnyE_pure (i := 6) (v := ?vp23) (by simp only [List.getElem?_toArray, List.getElem?_cons_succ, List.getElem?_cons_zero]; rfl) (by kernel_rfl) (by kernel_rfl) (by kernel_rfl) (by exact fun _ _ _ h => h) (by kernel_rfl) (Or.inl ⟨by rfl, ?yp23⟩) hH ?rp23
    case yp23 => (intro w' hSw; (try dsimp only at hSw); go_simp; try with_reducible rfl)
    try simp only [Act.put, List.setIfInBounds_toArray, List.set_cons_zero, List.set_cons_succ]
    refine wpAnyE_pure (i := 7) (v := ?vp24) (by simp only [List.getElem?_toArray, List.getElem?_cons_succ, List.getElem?_cons_zero]; rfl) (by kernel_rfl) (by kernel_rfl) (by kernel_rfl) (by exact fun _ _ _ h => h) (by kernel_rfl) (Or.inl ⟨by rfl, ?yp24⟩) hH ?rp24
    case yp24 => (intro w' hSw; (try dsimp only at hSw); go_simp; try with_reducible rfl)
    try simp only [Act.put, List.setIfInBounds_toArray, List.set_cons_zero, List.set_cons_succ]
    refine wpAnyE_take (i := 8) (v := .int .i64 (i : Int)) (by simp only [List.getElem?_toArray, List.getElem?_cons_succ, List.getElem?_cons_zero]; rfl) (by kernel_rfl) (by kernel_rfl) (by kernel_rfl) (by exact fun _ _ _ h => h) (by kernel_rfl) (Or.inl ⟨by rfl, ?y25⟩) hH ?r25
    case y25 => (intro w' hSw; have hc2 : w'.cell? ⟨w.heap.size + 1, 2, none⟩ = some (.int .i64 (i : Int)) := hSw.2.1.cell 2; clear hSw; go_simp; try with_reducible rfl)
    try simp only [Act.put, List.setIfInBounds_toArray, List.set_cons_zero, List.set_cons_succ]
    refine wpAnyE_pure (i := 9) (v := ?vp26) (by simp only [List.getElem?_toArray, List.getElem?_cons_succ, List.getElem?_cons_zero]; rfl) (by kernel_rfl) (by kernel_rfl) (by kernel_rfl) (by exact fun _ _ _ h => h) (by kernel_rfl) (Or.inl ⟨by rfl, ?yp26⟩) hH ?rp26
    case yp26 => (intro w' hSw; (try dsimp only at hSw); go_simp; try with_reducible rfl)
    try simp only [Act.put, List.setIfInBounds_toArray, List.set_cons_zero, List.set_cons_succ]
    refine wpAnyE_take (i := 10) (v := .agg #[.int .i64 r.t, .int .i64 r.q, .int .i64 r.v, .slice P p pc, .slice Q q qc]) (by simp only [List.getElem?_toArray, List.getElem?_cons_succ, List.getElem?_cons_zero]; rfl) (by kernel_rfl) (by kernel_rfl) (by kernel_rfl) (by exact fun _ _ _ h => h) (by kernel_rfl) (Or.inl ⟨by rfl, ?y27⟩) hH ?r27
    case y27 => (intro w' hSw; have hr0 : w'.cell? ⟨G, i * 5, none⟩ = some (.int .i64 r.t) := hSw.2.2.1; have hr1 : w'.cell? ⟨G, i * 5 + 1, none⟩ = some (.int .i64 r.q) := hSw.2.2.2.1; have hr2 : w'.cell? ⟨G, i * 5 + 2, none⟩ = some (.int .i64 r.v) := hSw.2.2.2.2.1; have hr3 : w'.cell? ⟨G, i * 5 + 3, none⟩ = some (.slice P p pc) := hSw.2.2.2.2.2.1; have hr4 : w'.cell? ⟨G, i * 5 + 4, none⟩ = some (.slice Q q qc) := hSw.2.2.2.2.2.2; clear hSw; go_simp; try with_reducible rfl)
    try simp only [Act.put, List.setIfInBounds_toArray, List.set_cons_zero, List.set_cons_succ]
    refine wpAnyE_pure (i := 11) (v := ?vp28) (by simp only [List.getElem?_toArray, List.getElem?_cons_succ, List.getElem?_cons_zero]; rfl) (by kernel_rfl) (by kernel_rfl) (by kernel_rfl) (by exact fun _ _ _ h => h) (by kernel_rfl) (Or.inl ⟨by rfl, ?yp28⟩) hH ?rp28
    case yp28 => (intro w' hSw; (try dsimp only at hSw); go_simp; try with_reducible rfl)
    try simp only [Act.put, List.setIfInBounds_toArray, List.set_cons_zero, List.set_cons_succ]
    refine wpAnyE_take (i := 12) (v := .agg #[.int .i64 d.r5, .int .i64 d.r6]) (by simp only [List.getElem?_toArray, List.getElem?_cons_succ, List.getElem?_cons_zero]; rfl) (by kernel_rfl) (by kernel_rfl) (by kernel_rfl) (by exact fun _ _ _ h => h) (by kernel_rfl) (Or.inl ⟨by rfl, ?y29⟩) hH ?r29
    case y29 => (intro w' hSw; have hc4 : w'.cell? ⟨w.heap.size + 1, 4, none⟩ = some (.int .i64 d.r5) := hSw.2.1.cell 4; have hc5 : w'.cell? ⟨w.heap.size + 1, 5, none⟩ = some (.int .i64 d.r6) := hSw.2.1.cell 5; clear hSw; go_simp; try with_reducible rfl)
    try simp only [Act.put, List.setIfInBounds_toArray, List.set_cons_zero, List.set_cons_succ]
    refine wpAnyE_pure (i := 13) (v := ?vp30) (by simp only [List.getElem?_toArray, List.getElem?_cons_succ, List.getElem?_cons_zero]; rfl) (by kernel_rfl) (by kernel_rfl) (by kernel_rfl) (by exact fun _ _ _ h => h) (by kernel_rfl) (Or.inl ⟨by rfl, ?yp30⟩) hH ?rp30
    case yp30 => (intro w' hSw; (try dsimp only at hSw); go_simp; try with_reducible rfl)
    try simp only [Act.put, List.setIfInBounds_toArray, List.set_cons_zero, List.set_cons_succ]
    refine wpAnyE_take (i := 14) (v := .int .i64 d.r7) (by simp only [List.getElem?_toArray, List.getElem?_cons_succ, List.getElem?_cons_zero]; rfl) (by kernel_rfl) (by kernel_rfl) (by kernel_rfl) (by exact fun _ _ _ h => h) (by kernel_rfl) (Or.inl ⟨by rfl, ?y31⟩) hH ?r31
    case y31 => (intro w' hSw; have hc6 : w'.cell? ⟨w.heap.size + 1, 6, none⟩ = some (.int .i64 d.r7) := hSw.2.1.cell 6; clear hSw; go_simp; try with_reducible rfl)
    try simp only [Act.put, List.setIfInBounds_toArray, List.set_cons_zero, List.set_cons_succ]
    refine wpAnyE_pure (i := 15) (v := ?vp32) (by simp only [List.getElem?_toArray, List.getElem?_cons_succ, List.getElem?_cons_zero]; rfl) (by kernel_rfl) (by kernel_rfl) (by kernel_rfl) (by exact fun _ _ _ h => h) (by kernel_rfl) (Or.inl ⟨by rfl, ?yp32⟩) hH ?rp32
    case yp32 => (intro w' hSw; (try dsimp only at hSw); go_simp; try with_reducible rfl)
    try simp only [Act.put, List.setIfInBounds_toArray, List.set_cons_zero, List.set_cons_succ]
    refine wpAnyE_take (i := 16) (v := .slice L m mc) (by simp only [List.getElem?_toArray, List.getElem?_cons_succ, List.getElem?_cons_zero]; rfl) (by kernel_rfl) (by kernel_rfl) (by kernel_rfl) (by exact fun _ _ _ h => h) (by kernel_rfl) (Or.inl ⟨by rfl, ?y33⟩) hH ?r33
    case y33 => (intro w' hSw; have hc7 : w'.cell? ⟨w.heap.size + 1, 7, none⟩ = some (.slice L m mc) := hSw.2.1.cell 7; clear hSw; go_simp; try with_reducible rfl)
    try simp only [Act.put, List.setIfInBounds_toArray, List.set_cons_zero, List.set_cons_succ]
    refine wpAnyE_one (i := 17) (by kernel_rfl) (by simp only [List.getElem?_toArray, List.getElem?_cons_succ, List.getElem?_cons_zero]; rfl) (fun K' hK => ?_)
    go_simp
    have hw : wrtB g.s g.l g.c g.sh g.zs (i : Int) d.r5 d.r6 d.r7 d.ps = true := by
      rcases knd_parts HK.out with ⟨h, -⟩ | ⟨-, -, hz, hl⟩
      · exact absurd h h2
      · rw [← HI.out]; exact lef_wrt hl hz
    refine (l7WriteV_yes g.s g.l g.c g.sh A n cap g.zs (i : Int) r.t r.q r.v P p pc Q q qc d.r5 d.r6 d.r7 L m mc r.ps r.os d.ps w1 HM.out HR.out hs1 hs2 hS1 hS2 hmc HP.out hw).mono ?_
    rintro e w2 hE
    rw [← HI.out] at hE
    obtain ⟨u, v, rfl, hL, hb⟩ := wroteV_at HG.out HK.out h2 hE
    obtain ⟨o, ho⟩ : ∃ o : RegD, ontoD g d r = o := ⟨_, rfl⟩
    rw [ho] at hL ⊢
    obtain ⟨A1, n1, c1', A2, n2', c2', rfl, rfl, -, -, -, -⟩ := hL.slc
    have hcG : ∀ o x, w1.cell? ⟨G, o, none⟩ = some x → w2.cell? ⟨G, o, none⟩ = some x := fun o x h => (hb.cell (p := ⟨G, o, none⟩) (Nat.lt_of_lt_of_le hGl E.size)).trans h
    obtain ⟨D1, R1, q0, q1, q2, q3, q4⟩ := hH
    have n0 := hcG _ _ q0
    have n1 := hcG _ _ q1
    have n2 := hcG _ _ q2
    have n3 := hcG _ _ q3
    have n4 := hcG _ _ q4
    have D2 := D.later hb D.lt
    have R2 := R.later hb R.lt
    have Kf := Lib.hid (RegsOwn.put keepsW K hb hil hL)
    have E2 := Lib.hid (bel_trans E hb)
    have fG : ∀ o, w2.frozen? ⟨G, o, none⟩ = false := by
      obtain ⟨_, Fs, h, _⟩ := RegsOwn.later keepsW K hb
      exact h.frozen
    refine hK.out _ _ ⟨D2, R2, n0, n1, n2, n3, n4⟩ (fun hH => ?_)
    clear hK K' K hb hE hcG q0 q1 q2 q3 q4 D1 R1 hL hw
    try simp only [Act.put, List.setIfInBounds_toArray, List.set_cons_zero, List.set_cons_succ]
    refine wpAnyE_pure (i := 18) (v := ?vp34) (by simp only [List.getElem?_toArray, List.getElem?_cons_succ, List.getElem?_cons_zero]; rfl) (by kernel_rfl) (by kernel_rfl) (by kernel_rfl) (by exact fun _ _ _ h => h) (by kernel_rfl) (Or.inl ⟨by rfl, ?yp34⟩) hH ?rp34
    case yp34 => (intro w' hSw; (try dsimp only at hSw); go_simp; try with_reducible rfl)
    try simp only [Act.put, List.setIfInBounds_toArray, List.set_cons_zero, List.set_cons_succ]
    refine wpAnyE_pure (i := 19) (v := ?vp35) (by simp only [List.getElem?_toArray, List.getElem?_cons_succ, List.getElem?_cons_zero]; rfl) (by kernel_rfl) (by kernel_rfl) (by kernel_rfl) (by exact fun _ _ _ h => h) (by kernel_rfl) (Or.inl ⟨by rfl, ?yp35⟩) hH ?rp35
    case yp35 => (intro w' hSw; (try dsimp only at hSw); go_simp; try with_reducible rfl)
    try simp only [Act.put, List.setIfInBounds_toArray, List.set_cons_zero, List.set_cons_succ]
    refine wpAnyE_pure (i := 20) (v := ?vp36) (by simp only [List.getElem?_toArray, List.getElem?_cons_succ, List.getElem?_cons_zero]; rfl) (by kernel_rfl) (by kernel_rfl) (by kernel_rfl) (by exact fun _ _ _ h => h) (by kernel_rfl) (Or.inl ⟨by rfl, ?yp36⟩) hH ?rp36
    case yp36 => (intro w' hSw; (try dsimp only at hSw); go_simp; try with_reducible rfl)
    try simp only [Act.put, List.setIfInBounds_toArray, List.set_cons_zero, List.set_cons_succ]
    refine wpAnyE_pure (i := 21) (v := ?vp37) (by simp only [List.getElem?_toArray, List.getElem?_cons_succ, List.getElem?_cons_zero]; rfl) (by kernel_rfl) (by kernel_rfl) (by kernel_rfl) (by exact fun _ _ _ h => h) (by kernel_rfl) (Or.inl ⟨by rfl, ?yp37⟩) hH ?rp37
    case yp37 => (intro w' hSw; (try dsimp only at hSw); go_simp; try with_reducible rfl)
    try simp only [Act.put, List.setIfInBounds_toArray, List.set_cons_zero, List.set_cons_succ]
    refine wpAnyE_last (by kernel_rfl) (by simp only [List.getElem?_toArray, List.getElem?_cons_succ, List.getElem?_cons_zero]; rfl) (by kernel_rfl) (fun K' hK => ?_)
    go_simp
    refine hK.out _ _ ?_
    clear hK K' hH
    try simp only [Act.put, List.setIfInBounds_toArray, List.set_cons_zero, List.set_cons_succ]
    clear n0 n1 n2 n3 n4 fG D2 R2
    go_wp2
    go_end0
    refine ⟨⟨_, rfl⟩, (by rw [ho]; exact Kf.out), grownG5 E2.out G _ _ _ _ _⟩

end Go.Proofs.YtjdepjpjjgkmbaaGreat

/- The model's Replayed: what was done to each shelf, one record after the other (written by rep_s.py); conditions: the sizes. -/
namespace Go.Proofs.YtjdepjpjjgkmbaaGreat
open Go Go.RowKit

theorem Tryz.infoReg9 : (Tryz.prog.info? 80).map (fun i => (i.zero, i.size, i.bytes)) = some (some (.agg #[.int .i64 0, .int .i64 0, .int .i64 0, .slice none 0 0, .slice none 0 0]), 5, 72) := by kernel_rfl
theorem run_make_regs {P : Program} (t e : TypeId) (ht : P.underlying t = some (.slice e)) (hinfo : (P.info? e).map (fun i => (i.zero, i.size, i.bytes)) = some (some (.agg #[.int .i64 0, .int .i64 0, .int .i64 0, .slice none 0 0, .slice none 0 0]), 5, 72))
    (n : Nat) (hn : n ≤ 1048576) (w : World) :
    (Instr.makeSlice t (.int .i64 (n : Int)) (.int .i64 (n : Int))).run P w = .ok (.slice (some ⟨w.heap.size, 0, none⟩) n n) (w.alloc (.cells (madeCells #[.int .i64 0, .int .i64 0, .int .i64 0, .slice none 0 0, .slice none 0 0] (n * 5)) e)) := by
  obtain ⟨i, hi, hzz⟩ := Option.map_eq_some_iff.1 hinfo
  simp only [Prod.mk.injEq] at hzz
  obtain ⟨hz, hs, hb⟩ := hzz
  have hr := run_make (P := P) w t e i _ ht hi hz .i64 .i64 n n (by omega) (Int.le_refl _) (by rw [hb]; omega) (by omega)
  simp only [Int.toNat_natCast, hs] at hr
  exact hr
/-- No shelves at all. -/
theorem regs_none (P : RegD → World → (Nat → Prop) → Value → Prop) (w : World) : RegsOwn P (w.alloc (.cells #[] 80)) w.heap.size w.heap.size [] :=
  ⟨Nat.le_refl _, fun _ _ => False, ⟨⟨#[], Box.new w _ _, rfl, fun i hi => absurd hi (by simp)⟩, fun _ _ _ h => h.elim, fun _ _ _ _ _ _ h => h.elim⟩, fun _ _ _ h => h.elim⟩
/-- What Replayed leaves: shelves of one's own, and a flag. -/
def MadeReps (P : RegD → World → (Nat → Prop) → Value → Prop) (rs : List RegD) (f : Bool) (w : World) (e : Ending) (w' : World) : Prop :=
  ∃ G c, e = .returned (.tuple #[.slice (some ⟨G, 0, none⟩) rs.length c, .bool f]) ∧ RegsOwn P w' G w.heap.size rs ∧ Below w.heap.size w w'
theorem RegsOwn.low {P : RegD → World → (Nat → Prop) → Value → Prop} {w : World} {g lo lo' : Nat} {rs : List RegD} (h : RegsOwn P w g lo rs) (hl : lo' ≤ lo) : RegsOwn P w g lo' rs := by
  obtain ⟨hg, Fs, hR, hF⟩ := h
  exact ⟨by omega, Fs, hR, fun i hi b hb => ⟨by have := (hF i hi b hb).1; omega, (hF i hi b hb).2⟩⟩
theorem regOf_lt {rs : List RegD} {i : Nat} (h : i < rs.length) : regOf rs i = rs[i] := by
  unfold regOf
  rw [List.getD_eq_getElem?_getD, List.getElem?_eq_getElem h]
  rfl

theorem RowF.later {w w' : World} {F : Nat → Prop} {A : Option Addr} {n : Nat} {zs : List Int} (h : RowF w F A n zs) (hb : Below w.heap.size w w') : RowF w' F A n zs := h.turn (T := fun _ => False) (Turns.of_below hb) (fun _ _ h => h)
set_option maxRecDepth 100000 in
set_option maxHeartbeats 16000000 in
theorem specReplayed_is (g : GrpD) (ds : List RecD) (A : Option Addr) (n cap : Nat) (LA : Option Addr) (ln lc : Nat) (w : World) (hm : n ≤ maxLen) (hgr : Row w w.heap.size A n g.zs) (hds : RecsF ds w (· < w.heap.size) LA ln) (htot : totC ds ≤ 1048576) :
    Calls Tryz.prog 74 #[.agg #[.int .i64 g.s, .int .i64 g.l, .int .i64 g.c, .int .i64 g.sh, .slice A n cap], .slice LA ln lc] w (MadeReps AtW (replD g ds).1 (replD g ds).2 w) := by
  have D := Box.new w 26 #[.int .i64 g.s, .int .i64 g.l, .int .i64 g.c, .int .i64 g.sh, .slice A n cap]
  have E := bel_alloc w (.cells #[.int .i64 g.s, .int .i64 g.l, .int .i64 g.c, .int .i64 g.sh, .slice A n cap] 26)
  have HR := Lib.hid (RowF.later hgr.all E)
  have HD := Lib.hid (hds.later E)
  have HM := Lib.hid hm
  have hln := hds.1
  have HT := Lib.hid htot
  have hlnb : ln ≤ 1048576 := by
    have h : ds.length ≤ totC ds := by
      unfold totC
      clear hds htot HD HT hln
      induction ds with
      | nil => exact Nat.zero_le _
      | cons d ds ih => simp only [List.map_cons, List.sum_cons, List.length_cons]; omega
    omega
  have HL := Lib.hid hln
  clear hgr hds hm htot hln
  go_enter Tryz.func74, Tryz.ntmps74
  go_upto_region 1 with fail
  generalize (w.alloc _ : World) = w0 at D E HR HD ⊢
  obtain ⟨g0, g1, g2, g3, g4⟩ := D.five
  rcases hok : okG g with _ | _
  · skip
    have hrep := Lib.hid (show replD g ds = ([], false) from by unfold replD; rw [hok]; rfl)
    have HO := Lib.hid hok
    clear hok
    go_wp2_with fail
    refine (specOkR_is HO.out A n cap w0 HM.out HR.out.1).mono ?_
    rintro e w1 ⟨rfl, hb⟩
    have E1 := bel_trans E hb
    have K := (regs_none AtW w1).low E1.size
    have E2 := bel_trans E1 (bel_alloc w1 (.cells #[] 80))
    go_wp2
    exact bodyPost_ret (v := .tuple #[.slice (some ⟨w1.heap.size, 0, none⟩) 0 0, .bool false]) (by simp [results, Tryz.results74, go_sem]) rfl (by rw [hrep.out]; exact ⟨w1.heap.size, 0, rfl, K, E2⟩)
  obtain ⟨hs1, hs4⟩ := okB_sh hok
  obtain ⟨ns, hns⟩ : ∃ ns : Nat, g.sh = (ns : Int) := ⟨g.sh.toNat, by omega⟩
  have hnn : g.sh.toNat = ns := by omega
  have hns1 : ns ≤ 4 := by omega
  have hmk := fun W => run_make_regs (P := Tryz.prog) 101 80 Tryz.underlying101 Tryz.infoReg9 ns (by omega) W
  have HO := Lib.hid hok
  have HN := Lib.hid hnn
  have HS := Lib.hid hns
  clear hok hnn hns
  go_wp2_with fail
  refine (specOkR_is HO.out A n cap w0 HM.out HR.out.1).mono ?_
  rintro e w1 ⟨rfl, hb⟩
  have E1 := bel_trans E hb
  have D1 := D.later hb D.lt
  have gn3 : w1.cell? ⟨w.heap.size, 3, none⟩ = some (.int .i64 (ns : Int)) := (D1.cell 3).trans (by rw [← HS.out]; rfl)
  replace HR := Lib.hid (RowF.later HR.out hb)
  replace HD := Lib.hid (HD.out.later hb)
  clear g0 g1 g2 g3 g4 hb E D hs1 hs4
  have K0 := (regs_new AtW zeroW w1 ns).low E1.size
  have hb := bel_alloc w1 (.cells (madeCells #[.int .i64 0, .int .i64 0, .int .i64 0, .slice none 0 0, .slice none 0 0] (ns * 5)) 80)
  have D2 := D1.later hb D1.lt
  have E2 := bel_trans E1 hb
  replace HR := Lib.hid (RowF.later HR.out hb)
  replace HD := Lib.hid (HD.out.later hb)
  have hVG : w.heap.size < w1.heap.size := D1.lt
  go_wp2_with fail
  clear gn3 hmk hb D1
  generalize (w1.alloc (.cells (madeCells #[.int .i64 0, .int .i64 0, .int .i64 0, .slice none 0 0, .slice none 0 0] (ns * 5)) 80)) = w2 at K0 D2 E2 HR HD ⊢
  generalize w1.heap.size = G at K0 hVG ⊢
  clear E1
  have hsh : ∀ k, (shelves g (ds.take k)).length = ns := fun k => by rw [shelves_len]; exact HN.out
  go_loopw [7] (fun i wr => ∃ k : Nat, k ≤ ln ∧ i = .int .i64 k ∧ Hid (∀ j, j < k → isAt g ds j = true) ∧ RegsOwn AtW wr G w.heap.size (shelves g (ds.take k)) ∧ w2.grownBy wr (some G)) (fun i _ => ln - (intOf i).toNat)
  case atStart => exact ⟨0, Nat.zero_le _, rfl, Lib.hid (fun j hj => absurd hj (by omega)), by unfold shelves; rw [List.take_zero, List.foldl_nil, HN.out]; exact K0, grown_refl _ _⟩
  case round =>
    clear K0
    obtain ⟨k, hk, rfl, hall, K, hgw⟩ := hrel
    have E := bel_grown E2 hgw (by omega)
    have D := D2.kept hgw (by intro e; injection e with e; omega)
    have TG := Turns.of_grown hgw
    by_cases hlt : k < ln
    · skip
      obtain ⟨b, o, hA, hbF, hbl, hcell⟩ := (HD.out.turn TG (fun b hb e => by omega)).2 (by omega)
      subst hA
      have hkd : k < ds.length := by have := HL.out; omega
      obtain ⟨L, m, mc, hrec, hmm, hps⟩ := hcell k hkd
      clear hcell
      have HRw := Lib.hid (HR.out.turn TG (fun b hb e => by omega)).1
      obtain ⟨d, hd⟩ : ∃ d : RecD, ds[k] = d := ⟨_, rfl⟩
      have hAt := isAt_lt (g := g) hkd
      have htm := totC_mem ds hkd
      have hstep := shelves_snoc g ds hkd
      rw [hd] at hrec hps hAt htm hstep
      have HPw := Lib.hid hps.1
      have hmd : d.ps.length = m := hps.1.1
      have hm4 : m ≤ 4194304 := by have := HT.out; omega
      have HS2 := Lib.hid hstep
      have HA := Lib.hid hAt
      clear hd hmd htm hstep hAt hps
      obtain ⟨c0, c1, c2, c3, c4, c5, c6, c7, c8⟩ := hrec
      have hDl := D.lt
      obtain ⟨e0, e1, e2, e3, e4⟩ := fiveAfter D
      have f0 := After.cell hbl c0
      have f1 := After.cell hbl c1
      have f2 := After.cell hbl c2
      have f3 := After.cell hbl c3
      have f4 := After.cell hbl c4
      have f5 := After.cell hbl c5
      have f6 := After.cell hbl c6
      have f7 := After.cell hbl c7
      have f8 := After.cell hbl c8
      have hltI : (k : Int) < (ln : Int) := by omega
      have hkw : IntKind.i64.wrap ((k : Int) + 1) = (k : Int) + 1 := IntWalk.i64_in _ (by omega)
      go_upto_region 7 with fail
      by_cases hno : d.r1 = (k : Int) + 1
      rotate_left
      · skip
        have hne : (d.r1 != (k : Int) + 1) = true := by simpa using hno
        have hf : isAt g ds k = false := by rw [HA.out]; simp [hno]
        clear hno
        refine wp_region_after (by kernel_rfl) (by kernel_rfl) ?_
        repeat (first | go_big_quiet_step (fail) | quiet_step (fail))
        refine wpQuiet_nil ?_
        intro pw
        have hrep := Lib.hid (show replD g ds = ([], false) from by unfold replD; rw [allAt_false hkd hf, Bool.and_false]; rfl)
        have E3 := bel_trans E pw.bel
        have K3 := (regs_none AtW pw.x).low E3.size
        have E4 := bel_trans E3 (bel_alloc pw.x (.cells #[] 80))
        go_wp2
        exact bodyPost_ret (v := .tuple #[.slice (some ⟨pw.x.heap.size, 0, none⟩) 0 0, .bool false]) (by simp [results, Tryz.results74, go_sem]) rfl (by rw [hrep.out]; exact ⟨pw.x.heap.size, 0, rfl, K3, E4⟩)
      have hne : (d.r1 != (k : Int) + 1) = false := by simpa using hno
      rcases hrb : rokD g d with _ | _
      · skip
        have hf : isAt g ds k = false := by rw [HA.out, hrb, Bool.and_false]
        have HB : Hid (rokB g.s g.l g.c g.sh g.zs d.r1 d.r2 d.r3 d.r4 d.r5 d.r6 d.r7 d.ps d.r8 = false) := Lib.hid hrb
        clear hrb hno
        refine wp_region_after (by kernel_rfl) (by kernel_rfl) ?_
        repeat (first | go_big_quiet_step ((go_at_call 134; exact after_of (specRecOk_is HB.out A n cap L m mc _ HM.out (rowAfter HRw.out _) hm4 (pairsAfter HPw.out _)))) | quiet_step ((go_at_call 134; exact after_of (specRecOk_is HB.out A n cap L m mc _ HM.out (rowAfter HRw.out _) hm4 (pairsAfter HPw.out _)))))
        refine wpQuiet_nil ?_
        intro pw
        have hrep := Lib.hid (show replD g ds = ([], false) from by unfold replD; rw [allAt_false hkd hf, Bool.and_false]; rfl)
        have E3 := bel_trans E pw.bel
        have K3 := (regs_none AtW pw.x).low E3.size
        have E4 := bel_trans E3 (bel_alloc pw.x (.cells #[] 80))
        go_wp2
        exact bodyPost_ret (v := .tuple #[.slice (some ⟨pw.x.heap.size, 0, none⟩) 0 0, .bool false]) (by simp [results, Tryz.results74, go_sem]) rfl (by rw [hrep.out]; exact ⟨pw.x.heap.size, 0, rfl, K3, E4⟩)
      have hf : isAt g ds k = true := by rw [HA.out, hrb]; simp [hno]
      have HB : Hid (rokB g.s g.l g.c g.sh g.zs d.r1 d.r2 d.r3 d.r4 d.r5 d.r6 d.r7 d.ps d.r8 = true) := Lib.hid hrb
      obtain ⟨hr0, hr1, -, hkn⟩ := rok_shelf hrb
      clear hrb hno
      refine wp_region_after (by kernel_rfl) (by kernel_rfl) ?_
      repeat (first | go_big_quiet_step ((go_at_call 134; exact after_of (specRecOk_is HB.out A n cap L m mc _ HM.out (rowAfter HRw.out _) hm4 (pairsAfter HPw.out _)))) | quiet_step ((go_at_call 134; exact after_of (specRecOk_is HB.out A n cap L m mc _ HM.out (rowAfter HRw.out _) hm4 (pairsAfter HPw.out _)))))
      refine wpQuiet_nil ?_
      intro pw
      clear f0 f1 f2 f3 f4 f5 f6 f7 f8 e0 e1 e2 e3 e4 hkw
      have hb := pw.bel
      have hgw3 := grown_trans hgw (grown_bel hb (some G))
      replace K := RegsOwn.later keepsW K hb
      replace D := D.later hb D.lt
      replace E := bel_trans E hb
      replace HRw := Lib.hid (rowAfter HRw.out pw)
      replace HPw := Lib.hid (pairsAfter HPw.out pw)
      have T : ∀ j x, wr.cell? ⟨b, j, none⟩ = some x → pw.x.cell? ⟨b, j, none⟩ = some x := fun j x h => (hb.cell (p := ⟨b, j, none⟩) hbl).trans h
      replace c0 := T _ _ c0
      replace c1 := T _ _ c1
      replace c2 := T _ _ c2
      replace c3 := T _ _ c3
      replace c4 := T _ _ c4
      replace c5 := T _ _ c5
      replace c6 := T _ _ c6
      replace c7 := T _ _ c7
      replace c8 := T _ _ c8
      obtain ⟨i, hi⟩ : ∃ i : Nat, d.r3 = (i : Int) := ⟨d.r3.toNat, by omega⟩
      have hin : i < ns := by have := HS.out; omega
      rw [hi] at c2
      have hbG : b ≠ G := by omega
      clear T hb
      generalize pw.x = w3 at K D E HRw HPw hgw3 c0 c1 c2 c3 c4 c5 c6 c7 c8 ⊢
      have hit : d.r3.toNat = i := by omega
      have hil : i < (shelves g (ds.take k)).length := by rw [hsh]; exact hin
      have hall2 : ∀ j, j < k + 1 → isAt g ds j = true := fun j hj => by
        by_cases e : j = k
        · rw [e]; exact hf
        · exact hall.out j (by omega)
      have hgd : regG g d.r3 ((shelves g (ds.take k))[i]) = true := by rw [hi]; exact good_shelves HO.out k (by omega) hall.out i hil
      have hsz := shelves_sz g ds k (by omega) i
      have htk := totC_take ds k
      rw [regOf_lt hil] at hsz
      have hsn : shelves g (ds.take (k + 1)) = (shelves g (ds.take k)).set i (ontoD g d ((shelves g (ds.take k))[i])) := by rw [HS2.out]; unfold stepR; rw [hit, regOf_lt hil]
      have hs1 : ((shelves g (ds.take k))[i]).ps.length ≤ 2000000 := by have := HT.out; omega
      have hs2 : ((shelves g (ds.take k))[i]).os.length ≤ 2000000 := by have := HT.out; omega
      have HI := Lib.hid hi
      have HSN := Lib.hid hsn
      have HA2 := Lib.hid hall2
      have HIT := Lib.hid hit
      clear hi hsn hall2 hit hf hsz htk hr0 hr1 HA HB hall hgw
      go_upto_region 9 with fail
      refine wp_region_sink 6 (fun w' => Box w' w.heap.size 26 #[.int .i64 g.s, .int .i64 g.l, .int .i64 g.c, .int .i64 g.sh, .slice A n cap] ∧ w'.cell? ⟨b, o + k * 9, none⟩ = some (.int .i64 d.r1) ∧ w'.cell? ⟨b, o + k * 9 + 1, none⟩ = some (.int .i64 d.r2) ∧ w'.cell? ⟨b, o + k * 9 + 2, none⟩ = some (.int .i64 (i : Int)) ∧ w'.cell? ⟨b, o + k * 9 + 3, none⟩ = some (.int .i64 d.r4) ∧ w'.cell? ⟨b, o + k * 9 + 4, none⟩ = some (.int .i64 d.r5) ∧ w'.cell? ⟨b, o + k * 9 + 5, none⟩ = some (.int .i64 d.r6) ∧ w'.cell? ⟨b, o + k * 9 + 6, none⟩ = some (.int .i64 d.r7) ∧ w'.cell? ⟨b, o + k * 9 + 7, none⟩ = some (.slice L m mc) ∧ w'.cell? ⟨b, o + k * 9 + 8, none⟩ = some (.int .i64 d.r8)) (by kernel_rfl) ⟨D, c0, c1, c2, c3, c4, c5, c6, c7, c8⟩ (fun hH => ?_)
      have hb := (Below.refl w3.heap.size w3).drew
      replace K := RegsOwn.later keepsW K hb
      replace E := bel_trans E hb
      replace HRw := Lib.hid ((HRw.out.below hb (Nat.le_refl _)).more hb.size)
      replace HPw := Lib.hid (HPw.out.later hb)
      replace hgw3 := grown_trans hgw3 (grown_bel hb (some G))
      clear hb D c0 c1 c2 c3 c4 c5 c6 c7 c8
      generalize w3.drew = w4 at K E HRw HPw hgw3 hH ⊢
      refine wpAnyE_take (i := 0) (v := .agg #[.int .i64 g.s, .int .i64 g.l, .int .i64 g.c, .int .i64 g.sh, .slice A n cap]) (by simp only [List.getElem?_toArray, List.getElem?_cons_zero]; rfl) (by kernel_rfl) (by kernel_rfl) (by kernel_rfl) (by exact fun _ _ _ h => h) (by kernel_rfl) (Or.inl ⟨by rfl, ?y1⟩) hH ?r1
      case y1 => (intro w' hSw; have hg0 : w'.cell? ⟨w.heap.size, 0, none⟩ = some (.int .i64 g.s) := hSw.1.cell 0; have hg1 : w'.cell? ⟨w.heap.size, 1, none⟩ = some (.int .i64 g.l) := hSw.1.cell 1; have hg2 : w'.cell? ⟨w.heap.size, 2, none⟩ = some (.int .i64 g.c) := hSw.1.cell 2; have hg3 : w'.cell? ⟨w.heap.size, 3, none⟩ = some (.int .i64 g.sh) := hSw.1.cell 3; have hg4 : w'.cell? ⟨w.heap.size, 4, none⟩ = some (.slice A n cap) := hSw.1.cell 4; clear hSw; go_simp; try with_reducible rfl)
      try simp only [Act.put, List.setIfInBounds_toArray, List.set_cons_zero, List.set_cons_succ]
      refine wpAnyE_pure (i := 1) (v := ?vu1) (by simp only [List.getElem?_toArray, List.getElem?_cons_succ, List.getElem?_cons_zero]; rfl) (by kernel_rfl) (by kernel_rfl) (by kernel_rfl) (by exact fun _ _ _ h => h) (by kernel_rfl) (Or.inl ⟨by rfl, ?yu1⟩) hH ?ru1
      case yu1 => (intro w' hSw; (try dsimp only at hSw); go_simp; try with_reducible rfl)
      try simp only [Act.put, List.setIfInBounds_toArray, List.set_cons_zero, List.set_cons_succ]
      refine wpAnyE_pure (i := 2) (v := ?vu2) (by simp only [List.getElem?_toArray, List.getElem?_cons_succ, List.getElem?_cons_zero]; rfl) (by kernel_rfl) (by kernel_rfl) (by kernel_rfl) (by exact fun _ _ _ h => h) (by kernel_rfl) (Or.inl ⟨by rfl, ?yu2⟩) hH ?ru2
      case yu2 => (intro w' hSw; (try dsimp only at hSw); go_simp; try with_reducible rfl)
      try simp only [Act.put, List.setIfInBounds_toArray, List.set_cons_zero, List.set_cons_succ]
      refine wpAnyE_pure (i := 3) (v := ?vu3) (by simp only [List.getElem?_toArray, List.getElem?_cons_succ, List.getElem?_cons_zero]; rfl) (by kernel_rfl) (by kernel_rfl) (by kernel_rfl) (by exact fun _ _ _ h => h) (by kernel_rfl) (Or.inl ⟨by rfl, ?yu3⟩) hH ?ru3
      case yu3 => (intro w' hSw; (try dsimp only at hSw); go_simp; try with_reducible rfl)
      try simp only [Act.put, List.setIfInBounds_toArray, List.set_cons_zero, List.set_cons_succ]
      refine wpAnyE_pure (i := 4) (v := ?vu4) (by simp only [List.getElem?_toArray, List.getElem?_cons_succ, List.getElem?_cons_zero]; rfl) (by kernel_rfl) (by kernel_rfl) (by kernel_rfl) (by exact fun _ _ _ h => h) (by kernel_rfl) (Or.inl ⟨by rfl, ?yu4⟩) hH ?ru4
      case yu4 => (intro w' hSw; (try dsimp only at hSw); go_simp; try with_reducible rfl)
      try simp only [Act.put, List.setIfInBounds_toArray, List.set_cons_zero, List.set_cons_succ]
      refine wpAnyE_take (i := 5) (v := .agg #[.int .i64 d.r1, .int .i64 d.r2, .int .i64 (i : Int), .int .i64 d.r4, .int .i64 d.r5, .int .i64 d.r6, .int .i64 d.r7, .slice L m mc, .int .i64 d.r8]) (by simp only [List.getElem?_toArray, List.getElem?_cons_succ, List.getElem?_cons_zero]; rfl) (by kernel_rfl) (by kernel_rfl) (by kernel_rfl) (by exact fun _ _ _ h => h) (by kernel_rfl) (Or.inl ⟨by rfl, ?y2⟩) hH ?r2
      case y2 => (intro w' hSw; have hc0 : w'.cell? ⟨b, o + k * 9, none⟩ = some (.int .i64 d.r1) := hSw.2.1; have hc1 : w'.cell? ⟨b, o + k * 9 + 1, none⟩ = some (.int .i64 d.r2) := hSw.2.2.1; have hc2 : w'.cell? ⟨b, o + k * 9 + 2, none⟩ = some (.int .i64 (i : Int)) := hSw.2.2.2.1; have hc3 : w'.cell? ⟨b, o + k * 9 + 3, none⟩ = some (.int .i64 d.r4) := hSw.2.2.2.2.1; have hc4 : w'.cell? ⟨b, o + k * 9 + 4, none⟩ = some (.int .i64 d.r5) := hSw.2.2.2.2.2.1; have hc5 : w'.cell? ⟨b, o + k * 9 + 5, none⟩ = some (.int .i64 d.r6) := hSw.2.2.2.2.2.2.1; have hc6 : w'.cell? ⟨b, o + k * 9 + 6, none⟩ = some (.int .i64 d.r7) := hSw.2.2.2.2.2.2.2.1; have hc7 : w'.cell? ⟨b, o + k * 9 + 7, none⟩ = some (.slice L m mc) := hSw.2.2.2.2.2.2.2.2.1; have hc8 : w'.cell? ⟨b, o + k * 9 + 8, none⟩ = some (.int .i64 d.r8) := hSw.2.2.2.2.2.2.2.2.2; clear hSw; go_simp; try with_reducible rfl)
      try simp only [Act.put, List.setIfInBounds_toArray, List.set_cons_zero, List.set_cons_succ]
      refine wpAnyE_last (by kernel_rfl) (by simp only [List.getElem?_toArray, List.getElem?_cons_succ, List.getElem?_cons_zero]; rfl) (by kernel_rfl) (fun K' hK => ?_)
      go_simp
      refine (l9Apply_is g d A n cap L m mc G ns ns w.heap.size (shelves g (ds.take k)) i w4 HI.out hil (hsh k) HM.out HRw.out hm4 HPw.out K hgd hkn hs1 hs2).mono ?_
      rintro e w5 ⟨⟨v, rfl⟩, K5, hg5⟩
      have hgw5 := grown_trans hgw3 hg5
      rw [← HSN.out] at K5
      refine hK.out _ _ ?_
      clear hK K' hH K
      try simp only [Act.put, List.setIfInBounds_toArray, List.set_cons_zero, List.set_cons_succ]
      have hkw : IntKind.i64.wrap ((k : Int) + 1) = (k : Int) + 1 := IntWalk.i64_in _ (by omega)
      go_wp2
      go_roundw
      case rel => exact ⟨k + 1, by omega, by go_num, HA2, K5, hgw5⟩
      case measure => simp [intOf]; omega
    · skip
      have hkn : k = ln := by omega
      subst hkn
      have hrep := Lib.hid (show replD g ds = (shelves g ds, true) from by
        unfold replD
        rw [HO.out, allAt_true (fun j hj => hall.out j (by have := HL.out; omega))]
        rfl)
      have hfull : ds.take k = ds := List.take_of_length_le (by have := HL.out; omega)
      rw [hfull] at K
      have hshl : (shelves g ds).length = ns := by rw [shelves_len]; exact HN.out
      have HSL := Lib.hid hshl
      clear hshl hfull hsh
      go_wp2
      exact bodyPost_ret (v := .tuple #[.slice (some ⟨G, 0, none⟩) ns ns, .bool true]) (by simp [results, Tryz.results74, go_sem]) rfl (by rw [hrep.out]; exact ⟨G, ns, by rw [HSL.out], K, E⟩)

end Go.Proofs.YtjdepjpjjgkmbaaGreat

/- The program's Replayed: a loop over the iterator of the records (written by replay_i.py); conditions: the sizes. -/
namespace Go.Proofs.YtjdepjpjjgkmbaaGreat
open Go Go.RowKit Go.Shelf

attribute [local go_sem] Oper.semAt_some

theorem recsOf_is (g : GrpD) (A : Option Addr) (n cap : Nat) (LA : Option Addr) (ln lc : Nat) (w : World) :
    Calls Tryz.prog 177 #[.agg #[.int .i64 g.s, .int .i64 g.l, .int .i64 g.c, .int .i64 g.sh, .slice A n cap], .slice LA ln lc] w fun e w' => e = .returned (.func (.func 217) #[] #[.pointer (some ⟨w.heap.size + 1, 0, none⟩), .pointer (some ⟨w.heap.size, 0, none⟩)]) ∧ w' = (w.alloc (.cells #[.int .i64 g.s, .int .i64 g.l, .int .i64 g.c, .int .i64 g.sh, .slice A n cap] 26)).alloc (.cells #[.slice LA ln lc] 27) := by
  go_enter Tryz.func177, Tryz.ntmps177
  go_wp2
  go_ret
  exact ⟨by simp, rfl⟩

theorem results_cells2 {P : Program} {fn : Func} {x y : Tmp} {t1 t2 : TypeId} (h : fn.results = #[.cell x t1, .cell y t2]) (tmps : Array Value) (w : World) {a b : Addr} {v1 v2 : Value} (hx : tmps.getD x undef = .pointer (some a)) (hy : tmps.getD y undef = .pointer (some b))
    (h1 : (loadVar t1 a).run P w = .ok v1 w) (h2 : (loadVar t2 b).run P w = .ok v2 w) : (results fn tmps).run P w = .ok (.tuple #[v1, v2]) w := by
  have ex : tmps[x]?.getD undef = .pointer (some a) := by simpa using hx
  have ey : tmps[y]?.getD undef = .pointer (some b) := by simpa using hy
  simp [results, h, ex, ey, asAddr, h1, h2]
theorem load_oneR {w : World} {a : Addr} {v : Value} (hc : w.cell? a = some v) : (loadVar 101 a).run Tryz.prog w = .ok v w := by
  simp [loadVar, isAgg, underlying, Tryz.underlying101, hc, go_sem]
theorem load_oneB {w : World} {a : Addr} {v : Value} (hc : w.cell? a = some v) : (loadVar 4 a).run Tryz.prog w = .ok v w := by
  simp [loadVar, isAgg, underlying, Tryz.underlying4, hc, go_sem]
theorem cell_set_self {w : World} {a : Addr} {u v : Value} (h : w.cell? a = some u) : (w.setCell a v).cell? a = some v := World.cell?_setCell_same' _ _ _ (by rw [h]; rfl)
theorem cell_set_other {w : World} {g g' o o' : Nat} {u v : Value} (h : w.cell? ⟨g, o, none⟩ = some u) (hne : g ≠ g') : (w.setCell ⟨g', o', none⟩ v).cell? ⟨g, o, none⟩ = some u := by
  rw [World.cell?_of_block (Below.heap_setCell w ⟨g', o', none⟩ v g hne)]
  exact h

/-- Between two rounds. -/
structure InvR (g : GrpD) (ds : List RecD) (A : Option Addr) (n cap : Nat) (w : World) (G ns : Nat) (pre : List (Fin ds.length)) (W : World) : Prop where
  D : Box W w.heap.size 26 #[.int .i64 g.s, .int .i64 g.l, .int .i64 g.c, .int .i64 g.sh, .slice A n cap]
  R4 : Box W (w.heap.size + 1) 101 #[.slice none 0 0]
  R5 : Box W (w.heap.size + 1 + 1) 4 #[.bool false]
  R6 : Box W (G + 1) 101 #[.slice (some ⟨G, 0, none⟩) ns ns]
  K : RegsOwn LieE W G G (shI g ds pre)
  all : ∀ k, k ∈ pre → isAt g ds k.val = true
  E : Below w.heap.size w W
theorem InvR.own {g : GrpD} {ds : List RecD} {A : Option Addr} {n cap : Nat} {w : World} {G ns N : Nat} (hN : w.heap.size ≤ N) : OwnFrom N (fun pre W => InvR g ds A n cap w G ns pre W) := fun pre X Y row hs hg hr => by
  have hk := cellsK_own hg (fun r e => (hr r e).2)
  exact ⟨hk.box hs.D, hk.box hs.R4, hk.box hs.R5, hk.box hs.R6, hs.K.cells hk, hs.all, ownFrom_below (β := Unit) (Nat.le_refl _) hN () X Y row hs.E hg hr⟩
theorem InvR.later {g : GrpD} {ds : List RecD} {A : Option Addr} {n cap : Nat} {w : World} {G ns : Nat} {pre : List (Fin ds.length)} {W W' : World} (h : InvR g ds A n cap w G ns pre W) (hb : Below W.heap.size W W') : InvR g ds A n cap w G ns pre W' :=
  ⟨h.D.later hb h.D.lt, h.R4.later hb h.R4.lt, h.R5.later hb h.R5.lt, h.R6.later hb h.R6.lt, RegsOwn.later keepsLE h.K hb, h.all, bel_trans h.E hb⟩
theorem InvR.put {g : GrpD} {ds : List RecD} {A : Option Addr} {n cap : Nat} {w : World} {G ns : Nat} {pre pre' : List (Fin ds.length)} {W W' : World} (h : InvR g ds A n cap w G ns pre W) (ht : Turns (· = G) W W') (hG : w.heap.size + 1 + 1 < G) (hK : RegsOwn LieE W' G G (shI g ds pre')) (hall : ∀ k, k ∈ pre' → isAt g ds k.val = true) : InvR g ds A n cap w G ns pre' W' :=
  ⟨h.D.turn ht (by omega), h.R4.turn ht (by omega), h.R5.turn ht (by omega), h.R6.turn ht (by omega), hK, hall, ht.below h.E (fun i e => by omega)⟩
/-- A round that goes on: what it keeps. -/
theorem turns_row5 (w2 : World) (G : Nat) {o0 o1 o2 o3 o4 : Nat} (x0 x1 x2 x3 x4 : Value) : Turns (· = G) w2 (((((w2.setCell ⟨G, o0, none⟩ x0).setCell ⟨G, o1, none⟩ x1).setCell ⟨G, o2, none⟩ x2).setCell ⟨G, o3, none⟩ x3).setCell ⟨G, o4, none⟩ x4) :=
  ((((turns_cell5 w2 G _ _).trans (turns_cell5 _ G _ _)).trans (turns_cell5 _ G _ _)).trans (turns_cell5 _ G _ _)).trans (turns_cell5 _ G _ _)
/-- A round that left. -/
structure OutR (g : GrpD) (ds : List RecD) (w : World) (W : World) : Prop where
  no : ∃ k : Fin ds.length, isAt g ds k.val = false
  res : ∃ E0, Box W (w.heap.size + 1) 101 #[.slice (some ⟨E0, 0, none⟩) 0 0] ∧ Box W (w.heap.size + 1 + 1) 4 #[.bool false] ∧ RegsOwn LieE W E0 E0 [] ∧ w.heap.size ≤ E0
  E : Below w.heap.size w W
theorem OutR.own {g : GrpD} {ds : List RecD} {w : World} {N : Nat} (hN : w.heap.size ≤ N) {β : Type} (p : β → Prop) : OwnFrom N (fun s W => p s ∧ OutR g ds w W) := fun s X Y row hs hg hr => by
  have hk := cellsK_own hg (fun r e => (hr r e).2)
  obtain ⟨E0, h1, h2, h3, h4⟩ := hs.2.res
  exact ⟨hs.1, hs.2.no, ⟨E0, hk.box h1, hk.box h2, h3.cells hk, h4⟩, ownFrom_below (β := Unit) (Nat.le_refl _) hN () X Y row hs.2.E hg hr⟩
theorem totC_len (ds : List RecD) : ds.length ≤ totC ds := by
  unfold totC
  induction ds with
  | nil => exact Nat.zero_le _
  | cons d ds ih => simp only [List.map_cons, List.sum_cons, List.length_cons]; omega
theorem keepsFrom_below {N : Nat} {W W' : World} (h : Below W.heap.size W W') : KeepsFrom N W W' := ⟨h.size, fun k _ _ hk _ => (h.block k (Array.getElem?_eq_some_iff.1 hk).1).trans hk⟩
/-- The frame in which a round's body runs. -/
def frmR (g : GrpD) (ds : List RecD) (A : Option Addr) (n cap : Nat) (LA : Option Addr) (ln lc : Nat) (L : Nat → Option Addr) (m mc : Nat → Nat) (w : World) (G ns B : Nat) (x : Fin ds.length) (Bx : Nat) : Act :=
  { tmps := #[.agg #[.int .i64 g.s, .int .i64 g.l, .int .i64 g.c, .int .i64 g.sh, .slice A n cap], .slice LA ln lc, .pointer (some ⟨w.heap.size, 0, none⟩), undef, .pointer (some ⟨w.heap.size + 1, 0, none⟩), .pointer (some ⟨w.heap.size + 1 + 1, 0, none⟩), .pointer (some ⟨G + 1, 0, none⟩), .pointer (some ⟨Bx, 0, none⟩), .bool (isAt g ds x.val), .agg #[.int .i64 g.s, .int .i64 g.l, .int .i64 g.c, .int .i64 g.sh, .slice A n cap], .bool true, .bool false, undef, .pointer (some ⟨w.heap.size, 3, none⟩), .int .i64 ns, .slice (some ⟨G, 0, none⟩) ns ns, .agg #[.int .i64 g.s, .int .i64 g.l, .int .i64 g.c, .int .i64 g.sh, .slice A n cap], .slice LA ln lc, .func (.func 217) #[] #[.pointer (some ⟨B + 1, 0, none⟩), .pointer (some ⟨B, 0, none⟩)], .agg (cellsC ds[x.val] (L x.val) (m x.val) (mc x.val)), .bool (isAt g ds x.val), undef, undef, undef, undef, undef, undef, undef, undef, undef, undef, undef, undef, undef, undef, undef, undef], defers := [] }

set_option maxRecDepth 100000 in
set_option maxHeartbeats 16000000 in
theorem replayed_is (g : GrpD) (ds : List RecD) (A : Option Addr) (n cap : Nat) (LA : Option Addr) (ln lc : Nat) (w : World) (hm : n ≤ maxLen) (hgr : Row w w.heap.size A n g.zs) (hds : RecsF ds w (· < w.heap.size) LA ln) (htot : totC ds ≤ 1048576) :
    Calls Tryz.prog 131 #[.agg #[.int .i64 g.s, .int .i64 g.l, .int .i64 g.c, .int .i64 g.sh, .slice A n cap], .slice LA ln lc] w (MadeReps LieE (replD g ds).1 (replD g ds).2 w) := by
  refine (callsIn_wide (n := 3)).1 ?_
  refine callsIn_of_wp_marks Tryz.func131 rfl trivial ?_ rfl
  simp only [Tryz.ntmps131, List.size_toArray, List.length_cons, List.length_nil, Nat.reduceAdd, Nat.reduceSub, Array.replicate_succ, Array.replicate_zero, List.push_toArray, List.append_toArray, List.nil_append, List.cons_append]
  have E := bel_trans (bel_trans (bel_alloc w (.cells #[.int .i64 g.s, .int .i64 g.l, .int .i64 g.c, .int .i64 g.sh, .slice A n cap] 26)) (bel_alloc _ (.cells #[.slice none 0 0] 101))) (bel_alloc _ (.cells #[.bool false] 4))
  have D := ((Box.new w 26 #[.int .i64 g.s, .int .i64 g.l, .int .i64 g.c, .int .i64 g.sh, .slice A n cap]).alloc (.cells #[.slice none 0 0] 101)).alloc (.cells #[.bool false] 4)
  have R4 := (Box.new (w.alloc (.cells #[.int .i64 g.s, .int .i64 g.l, .int .i64 g.c, .int .i64 g.sh, .slice A n cap] 26)) 101 #[.slice none 0 0]).alloc (.cells #[.bool false] 4)
  have R5 := Box.new ((w.alloc (.cells #[.int .i64 g.s, .int .i64 g.l, .int .i64 g.c, .int .i64 g.sh, .slice A n cap] 26)).alloc (.cells #[.slice none 0 0] 101)) 4 #[.bool false]
  simp only [World.size_alloc] at R4 R5
  have HR := Lib.hid (RowF.later hgr.all E)
  have HD := Lib.hid (hds.later E)
  have HM := Lib.hid hm
  have HL := Lib.hid hds.1
  have HT := Lib.hid htot
  have HRW := Lib.hid hgr.all
  obtain ⟨L, m, mc, hVw⟩ := hds.vals
  have HVW := Lib.hid hVw
  clear hgr hds hm htot hVw
  gi_upto_region 1 with fail
  generalize (((w.alloc _).alloc _).alloc _ : World) = w0 at D E R4 R5 HR HD ⊢
  obtain ⟨g0, g1, g2, g3, g4⟩ := D.five
  rcases hok : okG g with _ | _
  · skip
    have hrep := Lib.hid (show replD g ds = ([], false) from by unfold replD; rw [hok]; rfl)
    have HO := Lib.hid hok
    clear hok
    gi_upto_region 2 with (refine ⟨trivial, ?_⟩; gi_at_call 175; refine (callsIn_wide.2 (groupB_is (show okB g.s g.l g.c g.sh g.zs = _ from HO.out) A n cap w0 HM.out HR.out.1)).mono ?_; rintro e w1 ⟨rfl, hb⟩)
    have E1 := bel_trans E hb
    have K := (regs_none LieE w1).low E1.size
    clear g0 g1 g2 g3 g4 D HR HD E
    replace R4 := R4.later hb R4.lt
    replace R5 := R5.later hb R5.lt
    have hz := R5.lt
    clear hb
    have E2 := bel_trans E1 (bel_alloc w1 (.cells #[] 80))
    replace R4 := R4.alloc (.cells #[] 80)
    replace R5 := R5.alloc (.cells #[] 80)
    have f4 := R4.frozen 0
    have f5 := R5.frozen 0
    have c4 : (w1.alloc (.cells #[] 80)).cell? ⟨w.heap.size + 1, 0, none⟩ = some (.slice none 0 0) := R4.cell 0
    have c5 : (w1.alloc (.cells #[] 80)).cell? ⟨w.heap.size + 1 + 1, 0, none⟩ = some (.bool false) := R5.cell 0
    replace K := (regs_none LieE w1)
    gi_wp2
    refine ⟨_, results_cells2 Tryz.results131 _ _ rfl rfl (load_oneR (cell_set_other (cell_set_self c4) (by omega))) (load_oneB (cell_set_self (cell_set_other c5 (by omega)))), ?_⟩
    rw [hrep.out]
    exact ⟨w1.heap.size, 0, rfl, (RegsOwn.turn keepsLE (RegsOwn.turn keepsLE K (turns_cell5 _ (w.heap.size + 1) 0 _) (fun b e => by omega)) (turns_cell5 _ (w.heap.size + 1 + 1) 0 _) (fun b e => by omega)).low E1.size, (turns_cell5 _ (w.heap.size + 1 + 1) 0 _).below ((turns_cell5 _ (w.heap.size + 1) 0 _).below E2 (fun i e => by omega)) (fun i e => by omega)⟩
  obtain ⟨hs1, hs4⟩ := okB_sh hok
  obtain ⟨ns, hns⟩ : ∃ ns : Nat, g.sh = (ns : Int) := ⟨g.sh.toNat, by omega⟩
  have hnn : g.sh.toNat = ns := by omega
  have hns1 : ns ≤ 4 := by omega
  have hmk := fun W => run_make_regs (P := Tryz.prog) 101 80 Tryz.underlying101 Tryz.infoReg9 ns (by omega) W
  have HO := Lib.hid hok
  have HN := Lib.hid hnn
  have HS := Lib.hid hns
  clear hok hnn hns hs1 hs4
  gi_upto_region 3 with (refine ⟨trivial, ?_⟩; gi_at_call 175; refine (callsIn_wide.2 (groupB_is (show okB g.s g.l g.c g.sh g.zs = _ from HO.out) A n cap w0 HM.out HR.out.1)).mono ?_; rintro e w1 ⟨rfl, hb⟩)
  have E1 := bel_trans E hb
  have D1 := D.later hb D.lt
  have gn3 : w1.cell? ⟨w.heap.size, 3, none⟩ = some (.int .i64 (ns : Int)) := (D1.cell 3).trans (by rw [← HS.out]; rfl)
  replace HR := Lib.hid (RowF.later HR.out hb)
  replace HD := Lib.hid (HD.out.later hb)
  replace R4 := R4.later hb R4.lt
  replace R5 := R5.later hb R5.lt
  have hz5 := R5.lt
  clear g0 g1 g2 g3 g4 hb E D
  have K0 := regs_new LieE zeroE w1 ns
  have hb1 := bel_alloc w1 (.cells (madeCells #[.int .i64 0, .int .i64 0, .int .i64 0, .slice none 0 0, .slice none 0 0] (ns * 5)) 80)
  have hb2 := bel_alloc (w1.alloc (.cells (madeCells #[.int .i64 0, .int .i64 0, .int .i64 0, .slice none 0 0, .slice none 0 0] (ns * 5)) 80)) (.cells #[.slice (some ⟨w1.heap.size, 0, none⟩) ns ns] 101)
  have R6 := Box.new (w1.alloc (.cells (madeCells #[.int .i64 0, .int .i64 0, .int .i64 0, .slice none 0 0, .slice none 0 0] (ns * 5)) 80)) 101 #[.slice (some ⟨w1.heap.size, 0, none⟩) ns ns]
  rw [World.size_alloc] at R6
  have K := RegsOwn.later keepsLE K0 hb2
  have hb3 := bel_trans hb1 hb2
  have D2 := D1.later hb3 D1.lt
  have E2 := bel_trans E1 hb3
  replace HR := Lib.hid (RowF.later HR.out hb3)
  replace HD := Lib.hid (HD.out.later hb3)
  replace R4 := R4.later hb3 R4.lt
  replace R5 := R5.later hb3 R5.lt
  have hVG : w.heap.size + 1 + 1 < w1.heap.size := hz5
  gi_upto_region 4 with fail
  clear gn3 hmk hb1 hb2 hb3 D1 K0 E1
  generalize ((w1.alloc (.cells (madeCells #[.int .i64 0, .int .i64 0, .int .i64 0, .slice none 0 0, .slice none 0 0] (ns * 5)) 80)).alloc _ : World) = w2 at K R4 R5 R6 D2 E2 HR HD ⊢
  generalize w1.heap.size = G at K R6 hVG ⊢
  obtain ⟨g0, g1, g2, g3, g4⟩ := D2.five
  gi_wp2_with (refine ⟨trivial, ?_⟩; gi_at_call 177; refine (callsIn_wide.2 (recsOf_is g A n cap LA ln lc _)).mono ?_; rintro e w' ⟨rfl, rfl⟩)
  clear g0 g1 g2 g3 g4
  have hb0 : Below w2.heap.size w2 ((w2.alloc (.cells #[.int .i64 g.s, .int .i64 g.l, .int .i64 g.c, .int .i64 g.sh, .slice A n cap] 26)).alloc (.cells #[.slice LA ln lc] 27)) := bel_trans (bel_alloc w2 (.cells #[.int .i64 g.s, .int .i64 g.l, .int .i64 g.c, .int .i64 g.sh, .slice A n cap] 26)) (bel_alloc (w2.alloc (.cells #[.int .i64 g.s, .int .i64 g.l, .int .i64 g.c, .int .i64 g.sh, .slice A n cap] 26)) (.cells #[.slice LA ln lc] 27))
  have X2 := (Box.new w2 26 #[.int .i64 g.s, .int .i64 g.l, .int .i64 g.c, .int .i64 g.sh, .slice A n cap]).alloc (.cells #[.slice LA ln lc] 27)
  have X1 := Box.new (w2.alloc (.cells #[.int .i64 g.s, .int .i64 g.l, .int .i64 g.c, .int .i64 g.sh, .slice A n cap] 26)) 27 #[.slice LA ln lc]
  rw [World.size_alloc] at X1
  have hGB := R6.lt
  have IV : InvR g ds A n cap w G ns [] w2 := ⟨D2, R4, R5, R6, by unfold shI; rw [List.foldl_nil, HN.out]; exact K, fun k hk => (by cases hk), E2⟩
  replace IV := IV.later hb0
  replace HR := Lib.hid (RowF.later HR.out hb0)
  replace HD := Lib.hid (HD.out.later hb0)
  have hV := HVW.out.turn (T := fun _ => False) (Turns.of_below IV.E) (fun _ _ h => h)
  have hsB := hb0.size
  have hEs := E2.size
  have hx1 := X1.lt
  clear D2 R4 R5 R6 K E2 HD hb0
  generalize (((w2.alloc (.cells #[.int .i64 g.s, .int .i64 g.l, .int .i64 g.c, .int .i64 g.sh, .slice A n cap] 26)).alloc (.cells #[.slice LA ln lc] 27)) : World) = W0 at X1 X2 IV HR hV hsB hx1 ⊢
  generalize w2.heap.size = B at X1 X2 hGB hsB hEs hx1 ⊢
  have hGw : w.heap.size ≤ G := by omega
  have hmk4 : ∀ k, k < ds.length → m k ≤ 4194304 := fun k hk => by
    by_cases h0 : 0 < ln
    · obtain ⟨b, o, -, -, -, hc⟩ := hV.2 h0
      have h1 : (ds[k]).ps.length = m k := (hc k hk).2.2.1.1
      have h2 := totC_mem ds hk
      have h3 := HT.out
      omega
    · have := HL.out
      omega
  have hln : ln ≤ 1048576 := by
    have h := totC_len ds
    have h1 := HL.out
    have h2 := HT.out
    omega
  refine wpIn_rangeFunc_ownH rfl (by decide) (gf := 217) (lb := #[.pointer (some ⟨B + 1, 0, none⟩), .pointer (some ⟨B, 0, none⟩)]) rfl trivial (enters_of Tryz.func217 (by kernel_rfl) rfl)
    (recsIter_stops g ds A n cap LA ln lc L m mc (B + 1) B G W0.heap.size (· < w.heap.size) W0 (by omega) (by omega) (fun b hb => ⟨by omega, by omega⟩) X1 X2 HM.out HR.out hV hln hmk4) (fun h k => h.trans k) (fun W l o o' hl h hc _ => keepC_put W l o o' hl h hc) (Below.refl _ _) (fun _ => rfl)
    (fun pre W => InvR g ds A n cap w G ns pre W) (fun c _ W => c = .ret ∧ OutR g ds w W) (InvR.own (by omega)) (fun c => OutR.own (by omega) (fun _ => c = .ret)) IV
    (fun x a' W => ∃ Bx, G + 1 < Bx ∧ Box W Bx 46 (cellsC ds[x.val] (L x.val) (m x.val) (mc x.val)) ∧ a' = frmR g ds A n cap LA ln lc L m mc w G ns B x Bx)
    (fun x a' _ X Y row hs hg hr => by obtain ⟨Bx, h1, h2, h3⟩ := hs; exact ⟨Bx, h1, (cellsK_own hg (fun r e => (hr r e).2)).box h2, h3⟩)
    ?assign ?body ?done ?stop
  case assign =>
    rintro l pre x W K hi hK
    simp only [encC]
    have ZB := Box.new W 46 #[.int .i64 0, .int .i64 0, .int .i64 0, .int .i64 0, .int .i64 0, .int .i64 0, .int .i64 0, .slice none 0 0, .int .i64 0]
    have hn := bel_new_row W #[.int .i64 0, .int .i64 0, .int .i64 0, .int .i64 0, .int .i64 0, .int .i64 0, .int .i64 0, .slice none 0 0, .int .i64 0] 46 (cellsC ds[x.val] (L x.val) (m x.val) (mc x.val))
    have X := (Box.new W 46 #[.int .i64 0, .int .i64 0, .int .i64 0, .int .i64 0, .int .i64 0, .int .i64 0, .int .i64 0, .slice none 0 0, .int .i64 0]).setRow (cellsC ds[x.val] (L x.val) (m x.val) (mc x.val))
    have hlt := hi.R6.lt
    gi_wp2_with (refine wpListIn_store_row (fun _ => trivial) rfl 46 _ _ rfl W.heap.size (cellsC ds[x.val] (L x.val) (m x.val) (mc x.val)) rfl rfl 46 #[.int .i64 0, .int .i64 0, .int .i64 0, .int .i64 0, .int .i64 0, .int .i64 0, .int .i64 0, .slice none 0 0, .int .i64 0] ZB (by kernel_rfl) rfl (by simp [cellsC, Value.oneCell']) ?_)
    exact hK _ _ (keepsFrom_below hn) (KeepC.of_below hn) (hi.later hn) ⟨W.heap.size, hlt, X, rfl⟩
  case body =>
    rintro l pre x a' W hl - hi ⟨Bx, hBx, bX, rfl⟩ hlt
    unfold frmR
    obtain ⟨z, hz⟩ : ∃ z, isAt g ds x.val = z := ⟨_, rfl⟩
    rw [hz]
    rcases z with _ | _
    · skip
      have R4 := hi.R4.alloc (.cells #[] 80)
      have R5 := hi.R5.alloc (.cells #[] 80)
      have f4 := R4.frozen 0
      have f5 := R5.frozen 0
      have c4 : (W.alloc (.cells #[] 80)).cell? ⟨w.heap.size + 1, 0, none⟩ = some (.slice none 0 0) := R4.cell 0
      have c5 : (W.alloc (.cells #[] 80)).cell? ⟨w.heap.size + 1 + 1, 0, none⟩ = some (.bool false) := R5.cell 0
      have HI := Lib.hid hi
      have HZ := Lib.hid hz
      have hz5 := hi.R5.lt
      clear hi hz
      gi_wp2
      have hb := bel_alloc W (.cells #[] 80)
      have t1 := turns_cell5 (W.alloc (.cells #[] 80)) (w.heap.size + 1) 0 (.slice (some ⟨W.heap.size, 0, none⟩) 0 0)
      have t2 := turns_cell5 ((W.alloc (.cells #[] 80)).setCell ⟨w.heap.size + 1, 0, none⟩ (.slice (some ⟨W.heap.size, 0, none⟩) 0 0)) (w.heap.size + 1 + 1) 0 (.bool false)
      refine ⟨((keepsFrom_below hb).trans ((KeepsOthers.setCell _ _ _).from _)).trans ((KeepsOthers.setCell _ _ _).from _), rfl, ⟨⟨x, HZ.out⟩, ⟨W.heap.size, ?_, ?_, ?_, ?_⟩, ?_⟩⟩
      · exact (R4.set 0 (.slice (some ⟨W.heap.size, 0, none⟩) 0 0)).turn t2 (by omega)
      · exact (R5.turn t1 (by omega)).set 0 (.bool false)
      · exact RegsOwn.turn keepsLE (RegsOwn.turn keepsLE (regs_none LieE W) t1 (fun b e => by omega)) t2 (fun b e => by omega)
      · exact HI.out.E.size
      · exact t2.below (t1.below (bel_trans HI.out.E hb) (fun i e => by omega)) (fun i e => by omega)
    have hAt := isAt_lt (g := g) x.isLt
    have hVx := HVW.out.2 (by have := x.isLt; have := HL.out; omega)
    obtain ⟨b, o, -, -, -, hcell⟩ := hVx
    obtain ⟨-, -, hps⟩ := hcell x.val x.isLt
    clear hcell
    have hsz := shI_sz g ds (M := 1048576) (fun k hk => by have := totC_mem ds hk; have := HT.out; omega) pre
    have hmx := hmk4 x.val x.isLt
    have hsn := shI_snoc g ds pre x
    obtain ⟨d, hd⟩ : ∃ d : RecD, ds[x.val] = d := ⟨_, rfl⟩
    rw [hd] at hAt hps hsn bX ⊢
    obtain ⟨Lk, hLk⟩ : ∃ y, L x.val = y := ⟨_, rfl⟩
    obtain ⟨mk, hmkk⟩ : ∃ y, m x.val = y := ⟨_, rfl⟩
    obtain ⟨mck, hmck⟩ : ∃ y, mc x.val = y := ⟨_, rfl⟩
    rw [hLk, hmkk] at hps
    rw [hLk, hmkk, hmck] at bX ⊢
    rw [hmkk] at hmx
    rw [hz] at hAt
    have hrk : rokD g d = true := by
      have h := hAt.symm
      rw [Bool.and_eq_true] at h
      exact h.2
    obtain ⟨hr0, hr1, -, -⟩ := rok_shelf hrk
    obtain ⟨i, hi3⟩ : ∃ i : Nat, d.r3 = (i : Int) := ⟨d.r3.toNat, by omega⟩
    have hin : i < ns := by have := HS.out; omega
    have hit : d.r3.toNat = i := by omega
    have hil : i < (shI g ds pre).length := by rw [shI_len, HN.out]; exact hin
    replace hsz := hsz i
    rw [regOf_lt hil] at hsz
    unfold stepR at hsn
    rw [hit, regOf_lt hil] at hsn
    have hpl : pre.length ≤ 1048576 := by have := HL.out; omega
    obtain ⟨r, hr⟩ : ∃ r : RegD, (shI g ds pre)[i] = r := ⟨_, rfl⟩
    rw [hr] at hsz hsn
    obtain ⟨u0, v0, c0, c1, c2, c3, c4, hA⟩ := hreg keepsLE hi.K hil
    rw [hr] at c0 c1 c2 hA
    obtain ⟨P, p, pc, Q, q, qc, rfl, rfl, hS1, hS2, hl1, hl2⟩ := hA.slc
    unfold cellsC at bX ⊢
    rw [hi3] at bX ⊢
    have HPw := Lib.hid (hps.1.later hi.E)
    have HRx := Lib.hid ((RowF.later HRW.out hi.E)).1
    have HI := Lib.hid hi
    have HSN := Lib.hid hsn
    have HSZ := Lib.hid hsz
    have HI3 := Lib.hid hi3
    have HZ := Lib.hid hz
    have HS1 := Lib.hid hS1
    have HS2 := Lib.hid hS2
    have HL1 := Lib.hid hl1
    have HL2 := Lib.hid hl2
    have hltI : (i : Int) < (ns : Int) := by omega
    have S6 := hi.R6
    have SD := hi.D
    clear hi hsn hsz hi3 hz hS1 hS2 hl1 hl2 hA hd hLk hmkk hmck hps hr0 hr1 hit hAt hrk hr
    gi_upto_region 9 with fail
    have hb := (Below.refl W.heap.size W).drew
    have hgG : G < W.heap.size := by have := S6.lt; omega
    refine wpIn_region_sink 12 (fun w' => Box w' Bx 46 #[.int .i64 d.r1, .int .i64 d.r2, .int .i64 (i : Int), .int .i64 d.r4, .int .i64 d.r5, .int .i64 d.r6, .int .i64 d.r7, .slice Lk mk mck, .int .i64 d.r8] ∧ Box w' w.heap.size 26 #[.int .i64 g.s, .int .i64 g.l, .int .i64 g.c, .int .i64 g.sh, .slice A n cap] ∧ Box w' (G + 1) 101 #[.slice (some ⟨G, 0, none⟩) ns ns] ∧ w'.cell? ⟨G, i * 5, none⟩ = some (.int .i64 r.t) ∧ w'.cell? ⟨G, i * 5 + 1, none⟩ = some (.int .i64 r.q) ∧ w'.cell? ⟨G, i * 5 + 2, none⟩ = some (.int .i64 r.v) ∧ w'.cell? ⟨G, i * 5 + 3, none⟩ = some (.slice P p pc) ∧ w'.cell? ⟨G, i * 5 + 4, none⟩ = some (.slice Q q qc)) (by kernel_rfl) ⟨bX.later hb bX.lt, SD.later hb SD.lt, S6.later hb S6.lt, c0, c1, c2, c3, c4⟩ (fun hH => ?_)
    have HB := Lib.hid hb
    replace HI := Lib.hid (HI.out.later hb)
    replace HPw := Lib.hid (HPw.out.later hb)
    replace HRx := Lib.hid ((HRx.out.below hb (Nat.le_refl _)).more hb.size)
    replace HS1 := Lib.hid (HS1.out.later hb)
    replace HS2 := Lib.hid (HS2.out.later hb)
    clear hb bX SD S6 c0 c1 c2 c3 c4
    generalize W.drew = w3 at HI HB HPw HRx HS1 HS2 hH ⊢
    refine wpAnyEI_takeP [] (plain_of (fun _ => trivial) (by kernel_rfl)) (i := 0) (v := .slice (some ⟨G, 0, none⟩) ns ns) (by simp only [List.getElem?_toArray, List.getElem?_cons_zero]; rfl) (by kernel_rfl) (by kernel_rfl) (by kernel_rfl) (by exact fun _ _ _ h => h) (by kernel_rfl) (Or.inl ⟨(by first | rfl | simp [Region.wanted, yielded] | (simp [Region.wanted, yielded, Act.put] <;> omega)), ?y0⟩) hH ?_
    case y0 => (intro w' hSw; have h0 : w'.cell? ⟨G + 1, 0, none⟩ = some (.slice (some ⟨G, 0, none⟩) ns ns) := hSw.2.2.1.cell 0; clear hSw; go_simp; try with_reducible rfl)
    try simp only [Act.put, List.setIfInBounds_toArray, List.set_cons_zero, List.set_cons_succ]
    refine wpAnyEI_pure (plain_of (fun _ => trivial) (by kernel_rfl)) (i := 1) (v := ?vu1_1) (by simp only [List.getElem?_toArray, List.getElem?_cons_succ, List.getElem?_cons_zero]; rfl) (by kernel_rfl) (by kernel_rfl) (by kernel_rfl) (by exact fun _ _ _ h => h) (by kernel_rfl) (Or.inl ⟨by rfl, ?yu1_1⟩) hH ?_
    case yu1_1 => (intro w' hSw; (try dsimp only at hSw); clear hSw; go_simp; try with_reducible rfl)
    try simp only [Act.put, List.setIfInBounds_toArray, List.set_cons_zero, List.set_cons_succ]
    refine wpAnyEI_takeP [] (plain_of (fun _ => trivial) (by kernel_rfl)) (i := 2) (v := .int .i64 (i : Int)) (by simp only [List.getElem?_toArray, List.getElem?_cons_succ, List.getElem?_cons_zero]; rfl) (by kernel_rfl) (by kernel_rfl) (by kernel_rfl) (by exact fun _ _ _ h => h) (by kernel_rfl) (Or.inl ⟨(by first | rfl | simp [Region.wanted, yielded] | (simp [Region.wanted, yielded, Act.put] <;> omega)), ?y2⟩) hH ?_
    case y2 => (intro w' hSw; have h2 : w'.cell? ⟨Bx, 2, none⟩ = some (.int .i64 (i : Int)) := hSw.1.cell 2; clear hSw; go_simp; try with_reducible rfl)
    try simp only [Act.put, List.setIfInBounds_toArray, List.set_cons_zero, List.set_cons_succ]
    refine wpAnyEI_takeP [] (plain_of (fun _ => trivial) (by kernel_rfl)) (i := 3) (v := .agg #[.int .i64 d.r1, .int .i64 d.r2, .int .i64 (i : Int), .int .i64 d.r4, .int .i64 d.r5, .int .i64 d.r6, .int .i64 d.r7, .slice Lk mk mck, .int .i64 d.r8]) (by simp only [List.getElem?_toArray, List.getElem?_cons_succ, List.getElem?_cons_zero]; rfl) (by kernel_rfl) (by kernel_rfl) (by kernel_rfl) (by exact fun _ _ _ h => h) (by kernel_rfl) ?y3 hH ?_
    case y3 => exact yields_box 46 _ rfl (Bx) rfl 46 #[.int .i64 d.r1, .int .i64 d.r2, .int .i64 (i : Int), .int .i64 d.r4, .int .i64 d.r5, .int .i64 d.r6, .int .i64 d.r7, .slice Lk mk mck, .int .i64 d.r8] (fun _ h => h.1) _ Tryz.underlying46 rfl (by kernel_rfl) (by first | rfl | simp [Region.wanted, yielded] | (simp [Region.wanted, yielded, Act.put] <;> omega))
    try simp only [Act.put, List.setIfInBounds_toArray, List.set_cons_zero, List.set_cons_succ]
    refine wpAnyEI_takeP [] (plain_of (fun _ => trivial) (by kernel_rfl)) (i := 4) (v := .agg #[.int .i64 g.s, .int .i64 g.l, .int .i64 g.c, .int .i64 g.sh, .slice A n cap]) (by simp only [List.getElem?_toArray, List.getElem?_cons_succ, List.getElem?_cons_zero]; rfl) (by kernel_rfl) (by kernel_rfl) (by kernel_rfl) (by exact fun _ _ _ h => h) (by kernel_rfl) ?y4 hH ?_
    case y4 => exact yields_box 26 _ rfl (w.heap.size) rfl 26 #[.int .i64 g.s, .int .i64 g.l, .int .i64 g.c, .int .i64 g.sh, .slice A n cap] (fun _ h => h.2.1) _ Tryz.underlying26 rfl (by kernel_rfl) (by first | rfl | simp [Region.wanted, yielded] | (simp [Region.wanted, yielded, Act.put] <;> omega))
    try simp only [Act.put, List.setIfInBounds_toArray, List.set_cons_zero, List.set_cons_succ]
    refine wpAnyEI_takeP [] (plain_of (fun _ => trivial) (by kernel_rfl)) (i := 5) (v := .slice (some ⟨G, 0, none⟩) ns ns) (by simp only [List.getElem?_toArray, List.getElem?_cons_succ, List.getElem?_cons_zero]; rfl) (by kernel_rfl) (by kernel_rfl) (by kernel_rfl) (by exact fun _ _ _ h => h) (by kernel_rfl) (Or.inl ⟨(by first | rfl | simp [Region.wanted, yielded] | (simp [Region.wanted, yielded, Act.put] <;> omega)), ?y5⟩) hH ?_
    case y5 => (intro w' hSw; have h0 : w'.cell? ⟨G + 1, 0, none⟩ = some (.slice (some ⟨G, 0, none⟩) ns ns) := hSw.2.2.1.cell 0; clear hSw; go_simp; try with_reducible rfl)
    try simp only [Act.put, List.setIfInBounds_toArray, List.set_cons_zero, List.set_cons_succ]
    refine wpAnyEI_pure (plain_of (fun _ => trivial) (by kernel_rfl)) (i := 6) (v := ?vu6_2) (by simp only [List.getElem?_toArray, List.getElem?_cons_succ, List.getElem?_cons_zero]; rfl) (by kernel_rfl) (by kernel_rfl) (by kernel_rfl) (by exact fun _ _ _ h => h) (by kernel_rfl) (Or.inl ⟨by rfl, ?yu6_2⟩) hH ?_
    case yu6_2 => (intro w' hSw; (try dsimp only at hSw); clear hSw; go_simp; try with_reducible rfl)
    try simp only [Act.put, List.setIfInBounds_toArray, List.set_cons_zero, List.set_cons_succ]
    refine wpAnyEI_takeP [] (plain_of (fun _ => trivial) (by kernel_rfl)) (i := 7) (v := .int .i64 (i : Int)) (by simp only [List.getElem?_toArray, List.getElem?_cons_succ, List.getElem?_cons_zero]; rfl) (by kernel_rfl) (by kernel_rfl) (by kernel_rfl) (by exact fun _ _ _ h => h) (by kernel_rfl) (Or.inl ⟨(by first | rfl | simp [Region.wanted, yielded] | (simp [Region.wanted, yielded, Act.put] <;> omega)), ?y7⟩) hH ?_
    case y7 => (intro w' hSw; have h2 : w'.cell? ⟨Bx, 2, none⟩ = some (.int .i64 (i : Int)) := hSw.1.cell 2; clear hSw; go_simp; try with_reducible rfl)
    try simp only [Act.put, List.setIfInBounds_toArray, List.set_cons_zero, List.set_cons_succ]
    refine wpAnyEI_pure (plain_of (fun _ => trivial) (by kernel_rfl)) (i := 8) (v := ?vu8_3) (by simp only [List.getElem?_toArray, List.getElem?_cons_succ, List.getElem?_cons_zero]; rfl) (by kernel_rfl) (by kernel_rfl) (by kernel_rfl) (by exact fun _ _ _ h => h) (by kernel_rfl) (Or.inl ⟨by rfl, ?yu8_3⟩) hH ?_
    case yu8_3 => (intro w' hSw; (try dsimp only at hSw); clear hSw; go_simp; try with_reducible rfl)
    try simp only [Act.put, List.setIfInBounds_toArray, List.set_cons_zero, List.set_cons_succ]
    refine wpAnyEI_takeP [] (plain_of (fun _ => trivial) (by kernel_rfl)) (i := 9) (v := .agg #[.int .i64 r.t, .int .i64 r.q, .int .i64 r.v, .slice P p pc, .slice Q q qc]) (by simp only [List.getElem?_toArray, List.getElem?_cons_succ, List.getElem?_cons_zero]; rfl) (by kernel_rfl) (by kernel_rfl) (by kernel_rfl) (by exact fun _ _ _ h => h) (by kernel_rfl) (Or.inl ⟨(by first | rfl | simp [Region.wanted, yielded] | (simp [Region.wanted, yielded, Act.put] <;> omega)), ?y9⟩) hH ?_
    case y9 => (intro w' hSw; have k0 := hSw.2.2.2.1; have k1 := hSw.2.2.2.2.1; have k2 := hSw.2.2.2.2.2.1; have k3 := hSw.2.2.2.2.2.2.1; have k4 := hSw.2.2.2.2.2.2.2; clear hSw; go_simp; try with_reducible rfl)
    try simp only [Act.put, List.setIfInBounds_toArray, List.set_cons_zero, List.set_cons_succ]
    refine wpAnyEI_one (i := 10) (by kernel_rfl) (by simp only [List.getElem?_toArray, List.getElem?_cons_succ, List.getElem?_cons_zero]; rfl) (fun K' hK => ?_)
    have HH := Lib.hid hH
    clear hH
    have HON := Lib.hid (onto_is g d r A n cap Lk mk mck P p pc Q q qc w3 HM.out HRx.out hmx HPw.out HS1.out HS2.out (by have := HSZ.out; omega) (by have := HSZ.out; omega) HL1.out HL2.out)
    replace HON := Lib.hid (HI3.out ▸ HON.out)
    go_simp
    refine ⟨trivial, ?_⟩
    refine (CallsIn.inRound l (callsIn_wide.2 HON.out)).mono ?_
    rintro e w4 ⟨u', v', rfl, hL, hb⟩
    obtain ⟨DD, hDD⟩ : ∃ DD : RegD, ontoD g d r = DD := ⟨_, rfl⟩
    replace HSN := HSN.out
    rw [hDD] at hL HSN ⊢
    replace HSN := Lib.hid HSN
    clear hDD HON
    have hL := hL.lieE
    obtain ⟨A1, n1, c1', A2, n2', c2', rfl, rfl, -, -, -, -⟩ := hL.slc
    have K4 := Lib.hid (RegsOwn.put keepsLE HI.out.K hb hil hL)
    have fG : ∀ o, w4.frozen? ⟨G, o, none⟩ = false := by
      obtain ⟨_, Fs, h, _⟩ := RegsOwn.later keepsLE HI.out.K hb
      exact h.frozen
    have hG3 : G < w3.heap.size := by have := HB.out.size; omega
    have hcG : ∀ o y, w3.cell? ⟨G, o, none⟩ = some y → w4.cell? ⟨G, o, none⟩ = some y := fun o y h => (hb.cell (p := ⟨G, o, none⟩) hG3).trans h
    obtain ⟨q1, q2, q3, q4, q5, q6, q7, q8⟩ := HH.out
    have n0 := hcG _ _ q4
    have n1 := hcG _ _ q5
    have n2 := hcG _ _ q6
    have n3 := hcG _ _ q7
    have n4 := hcG _ _ q8
    have hI4 := Lib.hid (InvR.later HI.out hb)
    have hBW := Lib.hid (bel_trans HB.out hb)
    refine hK.out _ _ ⟨q1.later hb q1.lt, q2.later hb q2.lt, q3.later hb q3.lt, n0, n1, n2, n3, n4⟩ (fun hH => ?_)
    clear hK K' HH hb hcG q1 q2 q3 q4 q5 q6 q7 q8 hL HI HB
    try simp only [Act.put, List.setIfInBounds_toArray, List.set_cons_zero, List.set_cons_succ]
    refine wpAnyEI_pure (plain_of (fun _ => trivial) (by kernel_rfl)) (i := 11) (v := ?vu11_4) (by simp only [List.getElem?_toArray, List.getElem?_cons_succ, List.getElem?_cons_zero]; rfl) (by kernel_rfl) (by kernel_rfl) (by kernel_rfl) (by exact fun _ _ _ h => h) (by kernel_rfl) (Or.inl ⟨by rfl, ?yu11_4⟩) hH ?_
    case yu11_4 => (intro w' hSw; (try dsimp only at hSw); clear hSw; go_simp; try with_reducible rfl)
    try simp only [Act.put, List.setIfInBounds_toArray, List.set_cons_zero, List.set_cons_succ]
    refine wpAnyEI_last (by kernel_rfl) (by simp only [List.getElem?_toArray, List.getElem?_cons_succ, List.getElem?_cons_zero]; rfl) (by kernel_rfl) (fun K' hK => ?_)
    go_simp
    refine hK.out _ _ ?_
    clear hK K' hH
    try simp only [Act.put, List.setIfInBounds_toArray, List.set_cons_zero, List.set_cons_succ]
    clear n0 n1 n2 n3 n4 fG
    gi_wp2
    refine ⟨KeepsFrom.of_grownBy (grownG5 hBW.out G _ _ _ _ _) (fun j e => by cases e; omega), (KeepC.of_below hBW.out).trans (KeepC.of_turns (turns_row5 w4 G _ _ _ _ _) (fun i e => e)), hI4.out.put (turns_row5 w4 G _ _ _ _ _) hVG (by rw [HSN.out]; exact K4.out) (fun k hk => ?_)⟩
    rcases List.mem_append.1 hk with hk | hk
    · exact hI4.out.all k hk
    · rw [List.mem_singleton] at hk
      rw [hk]
      exact HZ.out
  case done =>
    rintro D' xs W hD rfl hi hK
    have c4 : W.cell? ⟨w.heap.size + 1, 0, none⟩ = some (.slice none 0 0) := hi.R4.cell 0
    have c5 : W.cell? ⟨w.heap.size + 1 + 1, 0, none⟩ = some (.bool false) := hi.R5.cell 0
    have f4 := hi.R4.frozen 0
    have f5 := hi.R5.frozen 0
    have c6 : W.cell? ⟨G + 1, 0, none⟩ = some (.slice (some ⟨G, 0, none⟩) ns ns) := hi.R6.cell 0
    have HI := Lib.hid hi
    have HK := Lib.hid hK
    clear hi hK
    gi_wp2
    have hK1 := (((KeepsOthers.setCell W ⟨w.heap.size + 1, 0, none⟩ (.slice (some ⟨G, 0, none⟩) ns ns)).trans (KeepsOthers.setCell _ ⟨w.heap.size + 1 + 1, 0, none⟩ (.bool true)))).same _ _ HK.out rfl
    refine ⟨by simp, .inl ⟨_, _, rfl, run_takeDeferred hK1, ?_⟩⟩
    have hg := grownBy_putObj' ((W.setCell ⟨w.heap.size + 1, 0, none⟩ (.slice (some ⟨G, 0, none⟩) ns ns)).setCell ⟨w.heap.size + 1 + 1, 0, none⟩ (.bool true)) D' (.deferred none)
    have hk := cellsK_own hg (fun r e => by cases e; exact ⟨_, hK1, rfl⟩)
    refine ⟨_, results_cells2 Tryz.results131 _ _ rfl rfl (load_oneR (hk.cell (cell_set_other (cell_set_self c4) (by omega)))) (load_oneB (hk.cell (cell_set_self (cell_set_other c5 (by omega))))), ?_⟩
    have hrep : replD g ds = (shelves g ds, true) := by
      unfold replD
      rw [HO.out, allAt_true (fun i hi => HI.out.all ⟨i, hi⟩ (List.mem_finRange _))]
      rfl
    have hsl : (shelves g ds).length = ns := by rw [shelves_len]; exact HN.out
    rw [hrep]
    have K1 := HI.out.K
    rw [shI_all] at K1
    have K2 := (RegsOwn.turn keepsLE (RegsOwn.turn keepsLE K1 (turns_cell5 _ (w.heap.size + 1) 0 (.slice (some ⟨G, 0, none⟩) ns ns)) (fun b e => by omega)) (turns_cell5 _ (w.heap.size + 1 + 1) 0 (.bool true)) (fun b e => by omega)).cells hk
    have hB := (turns_cell5 _ (w.heap.size + 1 + 1) 0 (.bool true)).below ((turns_cell5 W (w.heap.size + 1) 0 (.slice (some ⟨G, 0, none⟩) ns ns)).below HI.out.E (fun i e => by omega)) (fun i e => by omega)
    exact ⟨G, ns, by rw [hsl], K2.low hGw, hB.grown hg hB.size (fun k e => by cases e; omega)⟩
  case stop =>
    rintro D' c pre W hD hS ⟨rfl, ho⟩ hK
    gi_wp2
    refine ⟨by simp, .inl ⟨_, _, rfl, run_takeDeferred hK, ?_⟩⟩
    have hg := grownBy_putObj' W D' (.deferred none)
    have hk := cellsK_own hg (fun r e => by cases e; exact ⟨_, hK, rfl⟩)
    obtain ⟨E0, h1, h2, h3, h4⟩ := ho.res
    refine ⟨_, results_cells2 Tryz.results131 _ _ rfl rfl (load_oneR (hk.cell (h1.cell 0))) (load_oneB (hk.cell (h2.cell 0))), ?_⟩
    obtain ⟨k, hk0⟩ := ho.no
    have hrep : replD g ds = ([], false) := by unfold replD; rw [allAt_false k.isLt hk0, Bool.and_false]; rfl
    rw [hrep]
    exact ⟨E0, 0, rfl, (h3.cells hk).low h4, ho.E.grown hg ho.E.size (fun k e => by cases e; omega)⟩
end Go.Proofs.YtjdepjpjjgkmbaaGreat

namespace Go.Proofs.YtjdepjpjjgkmbaaGreat
open Go Go.RowKit

theorem specReplayed8_is {g : GrpD} {ds : List RecD} {w : World} {F0 : Nat → Prop} {C0 : Array Value} {LA : Option Addr} {ln lc : Nat} (h0 : AtG g w F0 (.agg C0)) (h1 : RecsF ds w (· < w.heap.size) LA ln) (hz : totC ds ≤ 1048576) :
    Calls Tryz.prog 74 #[.agg C0, .slice LA ln lc] w (MadeReps AtW (replD g ds).1 (replD g ds).2 w) := by
  obtain ⟨A, n, cap, e0, m0, hr⟩ := h0
  injection e0 with e0
  subst e0
  exact specReplayed_is g ds A n cap LA ln lc w m0 hr.1 h1 hz
theorem replayed8_is {g : GrpD} {ds : List RecD} {w : World} {F0 : Nat → Prop} {C0 : Array Value} {LA : Option Addr} {ln lc : Nat} (h0 : AtG g w F0 (.agg C0)) (h1 : RecsF ds w (· < w.heap.size) LA ln) (hz : totC ds ≤ 1048576) :
    Calls Tryz.prog 131 #[.agg C0, .slice LA ln lc] w (MadeReps LieE (replD g ds).1 (replD g ds).2 w) := by
  obtain ⟨A, n, cap, e0, m0, hr⟩ := h0
  injection e0 with e0
  subst e0
  exact replayed_is g ds A n cap LA ln lc w m0 hr.1 h1 hz
end Go.Proofs.YtjdepjpjjgkmbaaGreat
