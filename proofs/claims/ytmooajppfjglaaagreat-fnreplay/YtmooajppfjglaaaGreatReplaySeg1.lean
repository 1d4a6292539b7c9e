/- What the program's Replayed carries from round to round: shelves that abide whatever a loop over a function does to its own blocks; how long they can get; no conditions. -/
import Derived.Test.YtmooajppfjglaaaGreatReplaySeg0
import Derived.Test.YtmooajppfjglaaaGreatBoxWalk
import Derived.OrdersIn
import Derived.RangeFuncNested
import Derived.RangeFuncBound
import Derived.RangeFuncCalls
import Derived.RangeFuncLeaves
import Derived.Shelf.Abstract
import Derived.Shelf.RegionOpen
import Derived.WalkKit
import Derived.OwnWalkIn
import Derived.TacticsInMore
import Derived.LoopNIn
import Derived.LoopIn
import Derived.Sort.CutIn
import Derived.Test.YtmooajppfjglaaaGreatRecsBlock
import Derived.Test.YtmooajppfjglaaaGreatRecOk9
import Derived.Test.YtmooajppfjglaaaGreatKinds8a
import Derived.Test.YtmooajppfjglaaaGreatCopiesReg

/- What the model's DrawReplayed leaves: a right group and a short list of records, one of them bent perhaps; conditions: the bytes can be read. -/
namespace Go.Proofs.YtmooajppfjglaaaGreat
open Go Go.RowKit Go.Deep

theorem RowC.somewhere {ps : List (Int × Int)} {w : World} {F : Nat → Prop} {v : Value} (h : RowC ps w F v) : SlcF w F v ps := OwnP.somewhere (RowC.own h)
/-- The cells of a row. -/
theorem RowR.cells {base : Nat} {wr : World} {k g cap : Nat} {ms : List (RecD × Value)} {Fs : Nat → Nat → Prop} (h : RowR base wr k g cap ms Fs) : CellsAt wr g 0 ms := fun j x hj => by
  have := flatC_lt hj
  rw [h.count] at this
  rw [Nat.zero_add, h.own.cellAt j this]
  exact hj
theorem RowR.caps {base : Nat} {wr : World} {k g cap : Nat} {ms : List (RecD × Value)} {Fs : Nat → Nat → Prop} (h : RowR base wr k g cap ms Fs) : k ≤ cap ∧ cap ≤ maxLen := by
  rcases h.own.2 with ⟨e, _⟩ | ⟨g', c', cur, e, _, _, h1, h2, _⟩
  · cases e
  · injection e with _ _ e
    subst e
    exact ⟨h1, h2⟩
theorem RowR.frozen {base : Nat} {wr : World} {k g cap : Nat} {ms : List (RecD × Value)} {Fs : Nat → Nat → Prop} (h : RowR base wr k g cap ms Fs) (o : Nat) : wr.frozen? ⟨g, o, none⟩ = false := by
  rcases h.own.2 with ⟨e, _⟩ | ⟨g', c', cur, e, _, hg, _⟩
  · cases e
  · injection e with e _ _
    injection e with e
    injection e with e _ _
    subst e
    simp [World.frozen?, hg]
/-- A row is a list somewhere. -/
theorem RowR.list {base : Nat} {wr : World} {k g cap : Nat} {ms : List (RecD × Value)} {Fs : Nat → Nat → Prop} (h : RowR base wr k g cap ms Fs) : ListS (ms.map (·.1)) wr (base ≤ ·) (.slice (some ⟨g, 0, none⟩) k cap) := by
  have hl : (ms.map (·.1)).length = k := by rw [List.length_map, h.count]
  obtain ⟨g1, g2⟩ := h.gl
  refine .inr ⟨g, 0, cap, by rw [hl], by rw [hl]; exact h.caps.1, h.caps.2, fun _ => ⟨g1, g2⟩, ms, rfl, fun p hp => ?_, h.cells⟩
  obtain ⟨i, hi, rfl⟩ := List.mem_iff_getElem.1 hp
  exact (h.cert i hi).somewhere.sub (fun b hb => (h.far i (by rw [h.count] at hi; exact hi) b hb).1)
/-- A list of up to eight records, each with a short list. -/
structure Short (ds : List RecD) : Prop where
  n : ds.length ≤ 8
  ps : ∀ d ∈ ds, d.ps.length ≤ 21
theorem Short.tot {ds : List RecD} (h : Short ds) : totC ds ≤ 176 := by
  have key : ∀ (ds : List RecD), (∀ d ∈ ds, d.ps.length ≤ 21) → totC ds ≤ 22 * ds.length := by
    intro ds
    induction ds with
    | nil => intro _; exact Nat.zero_le _
    | cons d ds ih =>
      intro hp
      have h1 := ih (fun x hx => hp x (List.mem_cons_of_mem _ hx))
      have h2 := hp d (List.mem_cons_self ..)
      have e : totC (d :: ds) = (1 + d.ps.length) + totC ds := by simp [totC]
      rw [e, List.length_cons]
      omega
  have h1 := key ds h.ps
  have h2 := h.n
  omega
theorem RowR.short {base : Nat} {wr : World} {k g cap : Nat} {ms : List (RecD × Value)} {Fs : Nat → Nat → Prop} (h : RowR base wr k g cap ms Fs) (hk : k < 9) : Short (ms.map (·.1)) := by
  refine ⟨by rw [List.length_map, h.count]; omega, fun d hd => ?_⟩
  obtain ⟨p, hp, rfl⟩ := List.mem_map.1 hd
  obtain ⟨i, hi, rfl⟩ := List.mem_iff_getElem.1 hp
  have := h.len i hi
  omega
theorem cells_there {w : World} {g : Nat} {ms : List (RecD × Value)} {i : Nat} (hi : i < ms.length) (h : CellsAt w g 0 ms) (hf : ∀ o, w.frozen? ⟨g, o, none⟩ = false) : w.there g (i * 9) 9 := fun j hj => by
  refine ⟨?_, hf _⟩
  have hr := flatC_at hi hj
  have hjl : j < ((ms[i]).1.cells (ms[i]).2).toList.length := by rw [cells_len]; exact hj
  rw [List.getElem?_eq_getElem hjl] at hr
  have h2 := h _ _ hr
  rw [Nat.zero_add] at h2
  rw [h2]
  rfl
/-- One record of a list is written anew, with another list. -/
theorem cells_put {w : World} {g : Nat} {ms : List (RecD × Value)} {i : Nat} (hi : i < ms.length) (h : CellsAt w g 0 ms) (hf : ∀ o, w.frozen? ⟨g, o, none⟩ = false) (d : RecD) (u : Value) : CellsAt (w.setCells g (i * 9) (d.cells u).toList) g 0 (ms.set i (d, u)) := by
  have hthere : w.there g (i * 9) 9 := fun j hj => by
    refine ⟨?_, hf _⟩
    have hr := flatC_at hi hj
    have hjl : j < ((ms[i]).1.cells (ms[i]).2).toList.length := by rw [cells_len]; exact hj
    rw [List.getElem?_eq_getElem hjl] at hr
    have h2 := h _ _ hr
    rw [Nat.zero_add] at h2
    rw [h2]
    rfl
  intro j x hj
  have hjl := flatC_lt hj
  rw [List.length_set] at hjl
  have hi9 : j / 9 < (ms.set i (d, u)).length := by rw [List.length_set]; omega
  have hjm : j % 9 < 9 := by omega
  have e := flatC_at hi9 hjm
  rw [show j / 9 * 9 + j % 9 = j by omega, hj] at e
  by_cases ei : j / 9 = i
  · have h3 := World.rangeAt_setCells_same w g (i * 9) (d.cells u).toList (by rw [cells_len]; exact hthere)
    have e2 : (ms.set i (d, u))[j / 9] = (d, u) := by
      have : (ms.set i (d, u))[i]'(by rw [List.length_set]; exact hi) = (d, u) := List.getElem_set_self ..
      simp only [ei, this]
    rw [e2] at e
    have h4 := h3 (j % 9) x e.symm
    rwa [show i * 9 + j % 9 = 0 + j by omega] at h4
  · have e2 : (ms.set i (d, u))[j / 9] = ms[j / 9]'(by omega) := List.getElem_set_ne (fun h => ei h.symm) _
    rw [e2] at e
    have h3 : w.rangeAt g (j / 9 * 9) ((ms[j / 9]'(by omega)).1.cells (ms[j / 9]'(by omega)).2).toList := fun p y hy => by
      have hp : p < 9 := by
        have := (List.getElem?_eq_some_iff.1 hy).1
        rwa [cells_len] at this
      have h5 := h (j / 9 * 9 + p) y (by rw [flatC_at (by omega) hp]; exact hy)
      rwa [Nat.zero_add] at h5
    have h4 := World.rangeAt_setCells_apart h3 g (i * 9) (d.cells u).toList (.inr (by simp only [cells_len]; omega)) (j % 9) x e.symm
    rwa [show j / 9 * 9 + j % 9 = 0 + j by omega] at h4
/-- What DrawReplayed leaves. -/
def MadeDR (w : World) (e : Ending) (w' : World) : Prop := ∃ (G : Array Value) (v : Value) (gd : GrpD) (ds : List RecD), e = .returned (.tuple #[.agg G, v]) ∧ AtG gd w' (w.heap.size ≤ ·) (.agg G) ∧ ListS ds w' (w.heap.size ≤ ·) v ∧ gd.zs.length ≤ 100 ∧ Short ds ∧ Below w.heap.size w w'

/-- The state of DrawReplayed: the cursor, the variable of the answer, the group and its variable. -/
structure DP (w wr : World) (g : Nat) (A : Option Addr) (n cap : Nat) (VG : Nat) (gd : GrpD) (G : Array Value) (q : Nat) : Prop where
  bel : Below w.heap.size w wr
  cur : Cur wr 132 .i64 g A n cap
  r2 : Box wr w.heap.size 26 #[.int .i64 0, .int .i64 0, .int .i64 0, .int .i64 0, .slice none 0 0]
  vg : Box wr VG 26 G
  grp : AtG gd wr (· = q) (.agg G)
  gl : w.heap.size < g
  gV : g < VG
  gq : g < q
  qV : q < VG
  glen : gd.zs.length ≤ 100
theorem DP.turn {w wr w' : World} {g : Nat} {A : Option Addr} {n cap VG : Nat} {gd : GrpD} {G : Array Value} {q : Nat} {T : Nat → Prop} (h : DP w wr g A n cap VG gd G q) (ht : Turns T wr w') (hc : Cur w' 132 .i64 g A n cap) (hT : ∀ b, T b → b = g ∨ VG < b) : DP w w' g A n cap VG gd G q := by
  have h1 := h.gl
  have h2 := h.gV
  have h3 := h.gq
  have h4 := h.qV
  exact ⟨ht.below h.bel (fun i hi => by have := hT i hi; omega), hc, h.r2.turn ht (fun hi => by have := hT _ hi; omega), h.vg.turn ht (fun hi => by have := hT _ hi; omega), (keepsG gd).turn h.grp ht (fun b hb hi => by have h5 := hT b hi; have h6 : b = q := hb; omega), h1, h2, h3, h4, h.glen⟩
theorem DP.draw {w wr w' : World} {g : Nat} {A : Option Addr} {n cap VG : Nat} {gd : GrpD} {G : Array Value} {q : Nat} (h : DP w wr g A n cap VG gd G q) (hg : wr.grownBy w' (some g)) (hc : Cur w' 132 .i64 g A n cap) : DP w w' g A n cap VG gd G q := h.turn (Turns.of_grown hg) hc (fun _ hb => .inl hb)

set_option maxRecDepth 100000 in
set_option maxHeartbeats 8000000 in
theorem drawReplayed_any (A : Option Addr) (n cap : Nat) (w : World) (hn : n ≤ 4096) (hB : Bytes w w.heap.size A n) :
    Calls Tryz.prog 12 #[.slice A n cap] w (MadeDR w) := by
  have E0 := bel_alloc w (.cells #[.int .i64 0, .int .i64 0, .int .i64 0, .int .i64 0, .slice none 0 0] 26)
  have R2 := Box.new w 26 #[.int .i64 0, .int .i64 0, .int .i64 0, .int .i64 0, .slice none 0 0]
  have HB := Lib.hid hB
  clear hB
  go_enter Tryz.func12, Tryz.ntmps12
  go_upto_region 1 with fail
  generalize (w.alloc _ : World) = w0 at E0 R2 ⊢
  go_wp2_with fail
  refine (l1New_any A n cap w0 hn ((HB.out.below E0 (Nat.le_refl _)).more E0.size)).mono ?_
  rintro e w1 ⟨g, hg, rfl, hc1, hb1⟩
  have hgl : w.heap.size < g := Nat.lt_of_lt_of_le R2.lt hg
  replace R2 := R2.later hb1 R2.lt
  replace E0 := bel_trans E0 hb1
  have hg1 := hc1.lt
  clear hb1 hg
  go_wp2_with fail
  refine (l1DrawGroup_any g A n cap w1 hc1).mono ?_
  rintro e w2 ⟨s, l, c, sh, q, cap', zs, rfl, hown, hok, hs6, hc3, hc2, hg2⟩
  have hq := hown.lt q rfl
  have hrow := own_row hown
  obtain ⟨p1, p2, p3, p4, p5, p6⟩ := okB_parts hok
  obtain ⟨hh1, hh4⟩ := okB_sh hok
  have hzl : zs.length ≤ 100 := by
    have hk := okB_len9 hok
    omega
  replace R2 := R2.kept hg2 (by intro e; injection e with e; omega)
  replace E0 := bel_grown E0 hg2 (by omega)
  clear hown hok hg2 hc1
  have hbn := bel_new_row w2 #[.int .i64 0, .int .i64 0, .int .i64 0, .int .i64 0, .slice none 0 0] 26 #[.int .i64 s, .int .i64 l, .int .i64 c, .int .i64 sh, .slice (some ⟨q, 0, none⟩) zs.length cap']
  have VGb := (Box.new w2 26 #[.int .i64 0, .int .i64 0, .int .i64 0, .int .i64 0, .slice none 0 0]).setRow #[.int .i64 s, .int .i64 l, .int .i64 c, .int .i64 sh, .slice (some ⟨q, 0, none⟩) zs.length cap']
  have ZB := Box.new w2 26 #[.int .i64 0, .int .i64 0, .int .i64 0, .int .i64 0, .slice none 0 0]
  have K : DP w ((w2.alloc (.cells #[.int .i64 0, .int .i64 0, .int .i64 0, .int .i64 0, .slice none 0 0] 26)).setRow w2.heap.size #[.int .i64 s, .int .i64 l, .int .i64 c, .int .i64 sh, .slice (some ⟨q, 0, none⟩) zs.length cap']) g A n cap w2.heap.size ⟨s, l, c, sh, zs⟩ #[.int .i64 s, .int .i64 l, .int .i64 c, .int .i64 sh, .slice (some ⟨q, 0, none⟩) zs.length cap'] q := ⟨bel_trans E0 hbn, hc2.kept (grown_bel hbn none) (fun q hq => by cases hq), R2.later hbn R2.lt, VGb, (keepsG _).later ⟨_, _, cap', rfl, by unfold maxLen; omega, hrow, fun _ b o e => by injection e with e; injection e with e; exact e.symm⟩ hbn, hgl, hc2.lt, by have := hq.1; omega, hq.2, hzl⟩
  go_upto_region 3 with (refine wpList_store_row rfl 26 _ _ rfl w2.heap.size _ rfl rfl 26 #[.int .i64 0, .int .i64 0, .int .i64 0, .int .i64 0, .slice none 0 0] ZB (by kernel_rfl) rfl (by simp [Value.oneCell']) ?_)
  clear ZB VGb hbn R2 E0 hrow hc2
  generalize ((w2.alloc _).setRow _ _ : World) = w3 at K ⊢
  generalize w2.heap.size = VG at K hq
  try simp only [Act.put]
  have hgq := K.gq
  have hVGl := K.vg.lt
  have hqV := K.qV
  go_wp2_with (refine wpList_load_box 26 _ rfl VG rfl 26 #[.int .i64 s, .int .i64 l, .int .i64 c, .int .i64 sh, .slice (some ⟨q, 0, none⟩) zs.length cap'] K.vg _ Tryz.underlying26 rfl (by kernel_rfl) (by first | rfl | simp [Region.wanted, yielded] | (simp [Region.wanted, yielded, Act.put] <;> omega)) ?_)
  refine (l9DrawList_any g A n cap s l c sh q 0 zs.length cap' zs w3 (by unfold maxLen; omega) (by omega) (by omega) (by omega) (by omega) (by omega) (by omega) K.cur (rowG_of K.grp) (by omega) (by omega)).mono ?_
  rintro e w4 ⟨k, gl, lc, ms, Fs, rfl, RL, hk9, hc4, hg4⟩
  replace K := K.draw hg4 hc4
  have hVG3 := hVGl
  generalize w3.heap.size = base at RL hVG3
  have hbl := RL.gl
  clear hVGl hg4 hc4
  go_wp2_with fail
  refine (l1Once_any g A n cap 5 w4 (by omega) K.cur).mono ?_
  rintro e w5 ⟨b5, rfl, hc5, hg5⟩
  have hgV := K.gV
  replace K := K.draw hg5 hc5
  replace RL := RL.turn (Turns.of_grown hg5) (by omega) (fun i hi b hb e => by have := (RL.far i hi b hb).1; have e : b = g := e; omega)
  clear hg5 hc5
  have LS := RL.list
  have SH := RL.short hk9
  have hcnt := RL.count
  by_cases hbk : b5 = true ∧ 0 < k
  · obtain ⟨rfl, hk0⟩ := hbk
    have hkI : (0 : Int) < (k : Int) := by omega
    clear LS SH
    go_wp2_with fail
    refine (l1Below_any g A n cap (k : Int) w5 hkI K.cur).mono ?_
    rintro e w6 ⟨r, ⟨hr0, hrk⟩, rfl, hc6, hg6⟩
    obtain ⟨i, rfl⟩ : ∃ i : Nat, r = (i : Int) := ⟨r.toNat, by omega⟩
    replace K := K.draw hg6 hc6
    replace RL := RL.turn (Turns.of_grown hg6) (by omega) (fun i hi b hb e => by have := (RL.far i hi b hb).1; have e : b = g := e; omega)
    clear hg6 hc6
    have hik : i < k := by omega
    have him : i < ms.length := by omega
    obtain ⟨c0, c1, c2, c3, c4, c5, c6, c7, c8⟩ := flatC_row RL.cells him
    have hcert := RL.cert i him
    have hlen := RL.len i him
    obtain ⟨d, hd⟩ : ∃ d, (ms[i]).1 = d := ⟨_, rfl⟩
    rw [hd] at c0 c1 c2 c3 c4 c5 c6 c8 hcert hlen
    obtain ⟨gq, cq, hFq, eu, hownC⟩ := hcert
    rw [eu] at c7
    rw [eu] at hownC
    have HCe := Lib.hid (show RowC d.ps w6 (Fs i) (.slice (some ⟨gq, 0, none⟩) d.ps.length cq) from ⟨gq, cq, hFq, rfl, hownC⟩)
    have hFi := RL.far i hik
    have HFI := Lib.hid hFi
    have hg6l := RL.gl
    rw [Nat.zero_add] at c0 c1 c2 c3 c4 c5 c6 c7 c8
    have HRL := Lib.hid RL
    clear RL hd eu hownC hFi
    go_upto_region 7 with (first | (go_at_call 59; refine (l9Bend_any g A n cap (Fs i) #[.int .i64 d.r1, .int .i64 d.r2, .int .i64 d.r3, .int .i64 d.r4, .int .i64 d.r5, .int .i64 d.r6, .int .i64 d.r7, .slice (some ⟨gq, 0, none⟩) d.ps.length cq, .int .i64 d.r8] d w6 K.cur ⟨_, rfl, HCe.out⟩ hlen (fun b hb => ⟨by have := (HFI.out b hb).1; omega, (HFI.out b hb).2.1⟩)).mono ?_; rintro e w7 ⟨C', d', rfl, hL', hdl', hc7, ht7⟩; obtain ⟨u', eC', hR'⟩ := hL'; injection eC' with eC'; obtain ⟨gq', cq', hFq', eu', hown'⟩ := hR'; subst eC' eu'; have HR7 := Lib.hid (show RowC d'.ps w7 (fun b => Fs i b ∨ w6.heap.size + 1 < b) (.slice (some ⟨gq', 0, none⟩) d'.ps.length cq') from ⟨gq', cq', hFq', rfl, hown'⟩); have hnT : ¬ (gl = g ∨ Fs i gl) := (fun h => by rcases h with h | h; omega; exact (HFI.out gl h).2.2 rfl); have CC7 := Lib.hid (show CellsAt w7 gl 0 ms from fun j x hj => (ht7.cell hg6l.2 hnT _).trans (HRL.out.cells j x hj)); have HF7 := Lib.hid (show ∀ o, w7.frozen? ⟨gl, o, none⟩ = false from fun o => (ht7.frozen hg6l.2 hnT o).trans (HRL.out.frozen o)); have HTH := Lib.hid (cells_there him CC7.out HF7.out); have HT7 := Lib.hid ht7; clear hFq' hown' ht7) | (refine wpList_store_mid rfl 42 _ _ rfl gl (i * 9) (d'.cells (.slice (some ⟨gq', 0, none⟩) d'.ps.length cq')) rfl rfl HTH.out (by kernel_rfl) (by simp [RecD.cells, Value.oneCell']) ?_; have CC8 := Lib.hid (cells_put him CC7.out HF7.out d' (.slice (some ⟨gq', 0, none⟩) d'.ps.length cq')); have T8 := Lib.hid (turns_setCells9 gl (d'.cells (.slice (some ⟨gq', 0, none⟩) d'.ps.length cq')).toList (i * 9) w7); generalize (World.setCells w7 _ _ _) = w8 at CC8 T8 ⊢; try simp only [Act.put]))
    have t8 := T8.out
    have t7 := HT7.out
    have g8 : w7.grownBy w8 (some gl) := ⟨t8.os, t8.tape, t8.output, t8.size, fun i hi hne => t8.block i hi (fun e => hne (by rw [e]))⟩
    have hFb : ∀ b, Fs i b → base ≤ b := fun b hb => (HFI.out b hb).1
    replace K := (K.turn t7 hc7 (fun b hb => by
      rcases hb with hb | hb
      · exact .inl hb
      · have := hFb b hb; exact .inr (by omega))).turn t8 (hc7.kept g8 (fun q hq => by injection hq with hq; omega)) (fun b hb => by have e : b = gl := hb; exact .inr (by omega))
    have hml : (ms.set i (d', (.slice (some ⟨gq', 0, none⟩) d'.ps.length cq'))).length = k := by rw [List.length_set, hcnt]
    have LS8 : ListS ((ms.set i (d', (.slice (some ⟨gq', 0, none⟩) d'.ps.length cq'))).map (·.1)) w8 (base ≤ ·) (.slice (some ⟨gl, 0, none⟩) k lc) := by
      have hl : ((ms.set i (d', (.slice (some ⟨gq', 0, none⟩) d'.ps.length cq'))).map (·.1)).length = k := by rw [List.length_map, hml]
      refine .inr ⟨gl, 0, lc, by rw [hl], by rw [hl]; exact HRL.out.caps.1, HRL.out.caps.2, fun _ => ⟨hg6l.1, Nat.lt_of_lt_of_le hg6l.2 (Nat.le_trans t7.size t8.size)⟩, _, rfl, fun p hp => ?_, CC8.out⟩
      obtain ⟨j, hj, rfl⟩ := List.mem_iff_getElem.1 hp
      rw [hml] at hj
      by_cases e : j = i
      · subst e
        rw [List.getElem_set_self]
        refine ((SlcF.turn HR7.out.somewhere t8 (fun b hb e => ?_)).sub (fun b hb => ?_))
        · have e : b = gl := e
          rcases hb with hb | hb
          · exact (HFI.out b hb).2.2 e
          · omega
        · show base ≤ b
          rcases hb with hb | hb
          · exact hFb b hb
          · omega
      · rw [List.getElem_set_ne (Ne.symm e)]
        have hjf := HRL.out.far j hj
        refine ((SlcF.turn (SlcF.turn (HRL.out.cert j (by omega)).somewhere t7 (fun b hb h => ?_)) t8 (fun b hb h => ?_)).sub (fun b hb => (hjf b hb).1))
        · rcases h with h | h
          · have := (hjf b hb).1
            omega
          · exact HRL.out.two j i hj hik e b hb h
        · exact (hjf b hb).2.2 h
    have SH8 : Short ((ms.set i (d', (.slice (some ⟨gq', 0, none⟩) d'.ps.length cq'))).map (·.1)) := by
      refine ⟨by rw [List.length_map, hml]; omega, fun x hx => ?_⟩
      obtain ⟨p, hp, rfl⟩ := List.mem_map.1 hx
      obtain ⟨j, hj, rfl⟩ := List.mem_iff_getElem.1 hp
      rw [hml] at hj
      by_cases e : j = i
      · subst e
        rw [List.getElem_set_self]
        exact hdl'
      · rw [List.getElem_set_ne (Ne.symm e)]
        have := HRL.out.len j (by omega)
        omega
    clear CC8 T8 HT7 HR7 HRL HTH CC7 HF7 t7 t8 g8 HCe
    have hR := K.r2.setRow #[.int .i64 s, .int .i64 l, .int .i64 c, .int .i64 sh, .slice (some ⟨q, 0, none⟩) zs.length cap']
    have ht := turns_setRow w8 w.heap.size #[.int .i64 s, .int .i64 l, .int .i64 c, .int .i64 sh, .slice (some ⟨q, 0, none⟩) zs.length cap']
    have HG := Lib.hid ((keepsG _).sub (F' := (w.heap.size ≤ ·)) ((keepsG _).turn K.grp ht (fun b hb e => by have h6 : b = q := hb; have e : b = w.heap.size := e; omega)) (fun b hb => by have h6 : b = q := hb; show w.heap.size ≤ b; omega))
    have HLS := Lib.hid ((ListS.turn LS8 ht (fun b hb e => by have h6 : base ≤ b := hb; have e : b = w.heap.size := e; omega)).sub (F' := (w.heap.size ≤ ·)) (fun b hb => by have h6 : base ≤ b := hb; show w.heap.size ≤ b; omega))
    have EE := Lib.hid (ht.below K.bel (fun b hb => by have e : b = w.heap.size := hb; omega))
    have HSH := Lib.hid SH8
    obtain ⟨r0, r1, r2, r3, r4⟩ := hR.five
    have hgn := K.glen
    clear hR ht
    go_wp2_with (first | (refine wpList_load_box 26 _ rfl VG rfl 26 #[.int .i64 s, .int .i64 l, .int .i64 c, .int .i64 sh, .slice (some ⟨q, 0, none⟩) zs.length cap'] K.vg _ Tryz.underlying26 rfl (by kernel_rfl) (by first | rfl | simp [Region.wanted, yielded] | (simp [Region.wanted, yielded, Act.put] <;> omega)) ?_) | (refine wpList_store_row rfl 26 _ _ rfl w.heap.size _ rfl rfl 26 #[.int .i64 0, .int .i64 0, .int .i64 0, .int .i64 0, .slice none 0 0] K.r2 (by kernel_rfl) rfl (by simp [Value.oneCell']) ?_))
    exact bodyPost_ret (v := .tuple #[.agg #[.int .i64 s, .int .i64 l, .int .i64 c, .int .i64 sh, .slice (some ⟨q, 0, none⟩) zs.length cap'], .slice (some ⟨gl, 0, none⟩) k lc]) (by simp [results, Tryz.results12, go_sem, r0, r1, r2, r3, r4]) rfl ⟨#[.int .i64 s, .int .i64 l, .int .i64 c, .int .i64 sh, .slice (some ⟨q, 0, none⟩) zs.length cap'], _, ⟨s, l, c, sh, zs⟩, (ms.set i (d', (.slice (some ⟨gq', 0, none⟩) d'.ps.length cq'))).map (·.1), rfl, HG.out, HLS.out, hgn, HSH.out, EE.out⟩
  · have hbb : ((b5 && decide ((0 : Int) < (k : Int))) = false) := by
      cases b5
      · rfl
      · have : ¬ 0 < k := fun h => hbk ⟨rfl, h⟩
        simp; omega
    have hk8 : b5 = true → ¬ ((0 : Int) < (k : Int)) := fun h1 h2 => hbk ⟨h1, by omega⟩
    clear hbk
    cases b5
    · skip
      have hR := K.r2.setRow #[.int .i64 s, .int .i64 l, .int .i64 c, .int .i64 sh, .slice (some ⟨q, 0, none⟩) zs.length cap']
      have ht := turns_setRow w5 w.heap.size #[.int .i64 s, .int .i64 l, .int .i64 c, .int .i64 sh, .slice (some ⟨q, 0, none⟩) zs.length cap']
      have HG := Lib.hid ((keepsG _).sub (F' := (w.heap.size ≤ ·)) ((keepsG _).turn K.grp ht (fun b hb e => by have h6 : b = q := hb; have e : b = w.heap.size := e; omega)) (fun b hb => by have h6 : b = q := hb; show w.heap.size ≤ b; omega))
      have HLS := Lib.hid ((ListS.turn LS ht (fun b hb e => by have h6 : base ≤ b := hb; have e : b = w.heap.size := e; omega)).sub (F' := (w.heap.size ≤ ·)) (fun b hb => by have h6 : base ≤ b := hb; show w.heap.size ≤ b; omega))
      have EE := Lib.hid (ht.below K.bel (fun b hb => by have e : b = w.heap.size := hb; omega))
      have HSH := Lib.hid SH
      obtain ⟨r0, r1, r2, r3, r4⟩ := hR.five
      have hgn := K.glen
      clear hR ht
      go_wp2_with (first | (refine wpList_load_box 26 _ rfl VG rfl 26 #[.int .i64 s, .int .i64 l, .int .i64 c, .int .i64 sh, .slice (some ⟨q, 0, none⟩) zs.length cap'] K.vg _ Tryz.underlying26 rfl (by kernel_rfl) (by first | rfl | simp [Region.wanted, yielded] | (simp [Region.wanted, yielded, Act.put] <;> omega)) ?_) | (refine wpList_store_row rfl 26 _ _ rfl w.heap.size _ rfl rfl 26 #[.int .i64 0, .int .i64 0, .int .i64 0, .int .i64 0, .slice none 0 0] K.r2 (by kernel_rfl) rfl (by simp [Value.oneCell']) ?_))
      exact bodyPost_ret (v := .tuple #[.agg #[.int .i64 s, .int .i64 l, .int .i64 c, .int .i64 sh, .slice (some ⟨q, 0, none⟩) zs.length cap'], .slice (some ⟨gl, 0, none⟩) k lc]) (by simp [results, Tryz.results12, go_sem, r0, r1, r2, r3, r4]) rfl ⟨#[.int .i64 s, .int .i64 l, .int .i64 c, .int .i64 sh, .slice (some ⟨q, 0, none⟩) zs.length cap'], _, ⟨s, l, c, sh, zs⟩, ms.map (·.1), rfl, HG.out, HLS.out, hgn, HSH.out, EE.out⟩
    · have hk8 := hk8 rfl
      have hR := K.r2.setRow #[.int .i64 s, .int .i64 l, .int .i64 c, .int .i64 sh, .slice (some ⟨q, 0, none⟩) zs.length cap']
      have ht := turns_setRow w5 w.heap.size #[.int .i64 s, .int .i64 l, .int .i64 c, .int .i64 sh, .slice (some ⟨q, 0, none⟩) zs.length cap']
      have HG := Lib.hid ((keepsG _).sub (F' := (w.heap.size ≤ ·)) ((keepsG _).turn K.grp ht (fun b hb e => by have h6 : b = q := hb; have e : b = w.heap.size := e; omega)) (fun b hb => by have h6 : b = q := hb; show w.heap.size ≤ b; omega))
      have HLS := Lib.hid ((ListS.turn LS ht (fun b hb e => by have h6 : base ≤ b := hb; have e : b = w.heap.size := e; omega)).sub (F' := (w.heap.size ≤ ·)) (fun b hb => by have h6 : base ≤ b := hb; show w.heap.size ≤ b; omega))
      have EE := Lib.hid (ht.below K.bel (fun b hb => by have e : b = w.heap.size := hb; omega))
      have HSH := Lib.hid SH
      obtain ⟨r0, r1, r2, r3, r4⟩ := hR.five
      have hgn := K.glen
      clear hR ht
      go_wp2_with (first | (refine wpList_load_box 26 _ rfl VG rfl 26 #[.int .i64 s, .int .i64 l, .int .i64 c, .int .i64 sh, .slice (some ⟨q, 0, none⟩) zs.length cap'] K.vg _ Tryz.underlying26 rfl (by kernel_rfl) (by first | rfl | simp [Region.wanted, yielded] | (simp [Region.wanted, yielded, Act.put] <;> omega)) ?_) | (refine wpList_store_row rfl 26 _ _ rfl w.heap.size _ rfl rfl 26 #[.int .i64 0, .int .i64 0, .int .i64 0, .int .i64 0, .slice none 0 0] K.r2 (by kernel_rfl) rfl (by simp [Value.oneCell']) ?_))
      exact bodyPost_ret (v := .tuple #[.agg #[.int .i64 s, .int .i64 l, .int .i64 c, .int .i64 sh, .slice (some ⟨q, 0, none⟩) zs.length cap'], .slice (some ⟨gl, 0, none⟩) k lc]) (by simp [results, Tryz.results12, go_sem, r0, r1, r2, r3, r4]) rfl ⟨#[.int .i64 s, .int .i64 l, .int .i64 c, .int .i64 sh, .slice (some ⟨q, 0, none⟩) zs.length cap'], _, ⟨s, l, c, sh, zs⟩, ms.map (·.1), rfl, HG.out, HLS.out, hgn, HSH.out, EE.out⟩
end Go.Proofs.YtmooajppfjglaaaGreat

/- Sink's walk inside a fence that asks nothing of a function, in a round or in none: a region that draws its order, no operation of it a defer; no conditions. -/
namespace Go.Proofs.YtmooajppfjglaaaGreat
open Go

/-- A fence that lets every function in, and a region without a defer. -/
def Plain (F : Fence) (ops : Array Oper) : Prop := (∀ f, F.fn f) ∧ ∀ (j : Nat) (o : Oper), ops[j]? = some o → ∀ ρ : Operand → Value, o.semAt F.round ρ = execOp ρ o
def noDefer (ops : Array Oper) : Bool := ops.all fun o => match o.op with | .defer _ => false | _ => true
theorem plain_of {F : Fence} {ops : Array Oper} (hF : ∀ f, F.fn f) (h : noDefer ops = true) : Plain F ops := ⟨hF, fun j o ho ρ => by
  refine Oper.semAt_eq _ _ _ (fun c hc => ?_)
  unfold noDefer at h
  rw [Array.all_eq_true_iff_forall_mem] at h
  have := h o (Array.mem_of_getElem? ho)
  rw [hc] at this
  cases this⟩

section
variable {F : Fence} {n : Nat} {P : Program} {ops : Array Oper} {Q : Exit → Act → World → Prop} {md : Region.Mode} {S T : World → Prop} {z : Nat}

theorem _root_.Go.YieldsIf.wpOpIn (hsem : Plain F ops) {i : Nat} {o : Oper} {v : Value} {a : Act} (hi : ops[i]? = some o) (hy : YieldsIf P ops S o v a)
    {K : Act → World → Prop} {w : World} (hS : S w) (h : K (a.put o.dst v) w) : wpOpIn F n P ops Q i K a w := by
  unfold Go.wpOpIn
  simp only [hi]
  rcases hy with ⟨hw, hv⟩ | ⟨hw, rfl⟩
  · simp only [hw, if_true, Oper.wpIn, hsem.2 i o hi, hv w hS, Oper.uponIn]; exact ⟨fun f _ => hsem.1 f, h⟩
  · simp only [hw, Bool.false_eq_true, if_false]; exact ⟨fun f _ => hsem.1 f, h⟩
theorem wpOpIn_putIf (hsem : Plain F ops) {j : Nat} {oi oj : Oper} {v : Value} (hj : ops[j]? = some oj) (hap : oi.apart ops oj = true)
    (hsi : ∀ cs b, oi.op ≠ .select cs b) (hsj : ∀ cs b, oj.op ≠ .select cs b)
    (hQ : ∀ c a w, Q (.panic c) (a.put oi.dst v) w → Q (.panic c) a w) {K : Act → World → Prop} {a : Act} {w : World}
    (hy : YieldsIf P ops S oi v a) (h : wpOpIn F n P ops Q j K (a.put oi.dst v) w) :
    wpOpIn F n P ops Q j (fun a' w' => YieldsIf P ops S oi v a' ∧ K (a'.put oi.dst v) w') a w := by
  obtain ⟨h1, h2, h3⟩ := Oper.apart_spec hap
  have keep : ∀ (a : Act), YieldsIf P ops S oi v a → ∀ u, YieldsIf P ops S oi v (a.put oj.dst u) := fun a hy u =>
    hy.of_same (execOp_put oi hsi a oj.dst u h3) (wanted_put oi a oj.dst u h3)
  have swap : ∀ {u : Value} {w' : World}, K ((a.put oi.dst v).put oj.dst u) w' → YieldsIf P ops S oi v (a.put oj.dst u) ∧ K ((a.put oj.dst u).put oi.dst v) w' :=
    fun h => ⟨keep a hy _, by rw [← Act.put_comm a v _ h2]; exact h⟩
  have hjs := hsem.2 j oj hj
  have hfn := hsem.1
  unfold wpOpIn at *
  simp only [hj] at h ⊢
  rw [wanted_put oj a oi.dst v h1] at h
  split
  · rename_i hw
    simp only [hw, if_true] at h
    unfold Oper.wpIn at *
    refine ⟨fun f _ => hfn f, ?_⟩
    have h := h.2
    rw [hjs, execOp_put oj hsj a oi.dst v h1] at h
    rw [hjs]
    generalize (execOp a.eval oj).run P w = r at *
    cases r with
    | ok x w' =>
      cases x <;> simp only [Oper.uponIn] at h ⊢
      case value u => exact swap h
      case skip => exact swap h
      case defer d =>
        refine ⟨keep { a with defers := d :: a.defers } (hy.of_same rfl rfl) _, ?_⟩
        rw [← Act.put_comm _ v undef h2, ← Act.put_defers]
        exact h
      case enter f args => exact ⟨h.1, CallsIn.mono h.2 fun e w'' he => by cases e <;> first | exact swap he | exact hQ _ _ _ he | exact he⟩
      case row row args => exact ⟨h.1, RowsIn.mono h.2 fun u w'' he => swap he⟩
      case round l f tmps assign body => exact ⟨h.1, RoundIn.mono h.2 fun e w'' he => by cases e <;> first | exact swap he | exact hQ _ _ _ he | exact he⟩
    | halt x w' =>
      cases x <;> simp only [Oper.uponIn] at h ⊢
      case panic u => exact hQ _ _ _ h
  · rename_i hw
    simp only [hw] at h
    exact ⟨fun f _ => hsem.1 f, swap h.2⟩

/-- Whatever order is picked from here on, and S holds behind every operation till number z has come up. -/
def wpAnyEI (F : Fence) (n : Nat) (P : Program) (md : Region.Mode) (ops : Array Oper) (Q : Exit → Act → World → Prop) (S : World → Prop) (z : Nat) : Nat → Array Bool → Act → World → Prop
  | 0, listed, a, w => Region.ready md ops listed = [] ∧ Q .normal a w
  | fuel + 1, listed, a, w =>
    (Region.ready md ops listed = [] → Q .normal a w) ∧
    ∀ i ∈ Region.ready md ops listed, wpOpIn F n P ops Q i (fun a' w' => (i ≠ z → listed.getD z false = false → S w') ∧ wpAnyEI F n P md ops Q S z fuel (listed.setIfInBounds i true) a' w') a w

theorem wpAnyIn_of_sink : ∀ (fuel : Nat) (listed : Array Bool) (a : Act) (w : World), wpAnyEI F n P md ops Q S z fuel listed a w → wpAnyIn F n P md ops Q fuel listed a w
  | 0, _, _, _, h => h
  | fuel + 1, _, _, _, h => ⟨h.1, fun i hi => wpOpIn_mono (fun a' w' h' => wpAnyIn_of_sink fuel _ a' w' h'.2) (h.2 i hi)⟩

theorem wpAnyEI_first {i : Nat} {oi : Oper} {v : Value} (hsem : Plain F ops) (hi : ops[i]? = some oi) (hsel : ∀ (j : Nat) (o : Oper) cs b, ops[j]? = some o → o.op ≠ .select cs b)
    (hQ : ∀ c a w, Q (.panic c) (a.put oi.dst v) w → Q (.panic c) a w) (hiz : i ≠ z) :
    ∀ (fuel : Nat) (listed : Array Bool) (a : Act) (w : World),
      (∀ j oj, ops[j]? = some oj → j ≠ i → listed.getD j true = false → (∀ e ∈ oj.after, Region.binds md e = true → e.on ≠ i) → oi.apart ops oj = true) →
      i ∈ Region.ready md ops listed → YieldsIf P ops T oi v a → FirstAt md ops S T z i listed → (listed.getD z false = false → S w) →
      wpAnyEI F n P md ops Q S z fuel (listed.setIfInBounds i true) (a.put oi.dst v) w → wpAnyEI F n P md ops Q S z (fuel + 1) listed a w := by
  intro fuel
  induction fuel with
  | zero =>
    intro listed a w _ hr hy hF hS H
    have hT : T w := by
      rcases hF with h | ⟨h, _, hl⟩
      · exact h w
      · exact h w (hS hl)
    refine ⟨fun h => (by rw [h] at hr; cases hr), fun j hj => ?_⟩
    by_cases hji : j = i
    · subst hji; exact hy.wpOpIn hsem hi hT ⟨fun _ h => hS h, H⟩
    · have := ready_mono hj hji
      rw [H.1] at this
      cases this
  | succ fuel ih =>
    intro listed a w hfree hr hy hF hS H
    have hT : T w := by
      rcases hF with h | ⟨h, _, hl⟩
      · exact h w
      · exact h w (hS hl)
    refine ⟨fun h => (by rw [h] at hr; cases hr), fun j hj => ?_⟩
    by_cases hji : j = i
    · subst hji; exact hy.wpOpIn hsem hi hT ⟨fun _ h => hS h, H⟩
    · have h1 := H.2 j (ready_mono hj hji)
      obtain ⟨hjun, oj, hoj, hall⟩ := mem_ready.1 hj
      have hun := (mem_ready.1 hr).1
      have hnot : ∀ e ∈ oj.after, Region.binds md e = true → e.on ≠ i := fun e he hb heq => by
        have h1 := hall e he hb
        rw [heq, getD_both hun] at h1
        cases h1
      have hzset : (listed.setIfInBounds i true).getD z false = listed.getD z false := getD_set_ne false hiz
      have h2 := wpOpIn_putIf hsem hoj (hfree j oj hoj hji hjun hnot) (fun cs b => hsel i oi cs b hi) (fun cs b => hsel j oj cs b hoj) hQ hy h1
      have hfree' : ∀ k ok, ops[k]? = some ok → k ≠ i → (listed.setIfInBounds j true).getD k true = false →
          (∀ e ∈ ok.after, Region.binds md e = true → e.on ≠ i) → oi.apart ops ok = true := fun k ok hk hki hun hno => by
        refine hfree k ok hk hki ?_ hno
        by_cases hjk : j = k
        · subst hjk; exact hjun
        · rw [getD_set_ne true hjk] at hun; exact hun
      have hF' : FirstAt md ops S T z i (listed.setIfInBounds j true) := by
        rcases hF with h | ⟨h, hw, hl⟩
        · exact .inl h
        · refine .inr ⟨h, hw, ?_⟩
          by_cases hjz : j = z
          · subst hjz
            obtain ⟨o', ho', e, he, hb, hon⟩ := Region.waitsFor_spec hw
            have : o' = oj := Option.some.inj (ho'.symm.trans hoj)
            subst this
            exact absurd hon (hnot e he hb)
          · rw [getD_set_ne false hjz]; exact hl
      refine wpOpIn_mono (fun a' w' h3 => ⟨fun hjz hlz => h3.2.1 hjz (hzset.trans hlz), ih (listed.setIfInBounds j true) a' w' hfree' (ready_mono hr (Ne.symm hji)) h3.1 hF' (fun hz' => ?_) ?_⟩) h2
      · by_cases hjz : j = z
        · subst hjz
          have hs : j < listed.size := by
            rcases Nat.lt_or_ge j listed.size with h | h
            · exact h
            · simp [Array.getElem?_eq_none h] at hjun
          simp [hs] at hz'
        · rw [getD_set_ne false hjz] at hz'
          exact h3.2.1 hjz (hzset.trans hz')
      · rw [Array.setIfInBounds_comm _ _ hji]
        exact h3.2.2

/-- Take number i first, which yields in whatever world. -/
theorem wpAnyEI_pure {i : Nat} {oi : Oper} {v : Value} (hsem : Plain F ops) {fuel : Nat} {listed : Array Bool} {a : Act} {w : World} (hi : ops[i]? = some oi)
    (hs : Region.noSelect ops = true) (hf : Region.free md ops listed i = true) (hr : (Region.ready md ops listed).contains i = true)
    (hQ : ∀ c a w, Q (.panic c) (a.put oi.dst v) w → Q (.panic c) a w) (hz : (i == z) = false) (hy : YieldsIf P ops (fun _ => True) oi v a) (hS : S w)
    (h : wpAnyEI F n P md ops Q S z fuel (listed.setIfInBounds i true) (a.put oi.dst v) w) : wpAnyEI F n P md ops Q S z (fuel + 1) listed a w :=
  wpAnyEI_first hsem hi (Region.noSelect_spec hs) hQ (by simpa using hz) fuel listed a w (Region.free_spec hi hf) (by simpa using hr) hy (.inl fun _ => trivial) (fun _ => hS) h
/-- Number i alone can come up, and is not the last: S is to be shown anew. -/
theorem wpAnyEI_one {i : Nat} {o : Oper} {fuel : Nat} {listed : Array Bool} {a : Act} {w : World} (hr : Region.ready md ops listed = [i]) (ho : ops[i]? = some o)
    (h : ∀ K' : Act → World → Prop, Shut (∀ a w, S w → (S w → wpAnyEI F n P md ops Q S z fuel (listed.setIfInBounds i true) a w) → K' a w) → if Region.wanted o (yielded ops a.tmps) = true then Oper.wpIn F n P o a w K' Q else (∀ f, o.about P w a.eval = some f → F.fn f) ∧ K' (a.put o.dst undef) w) : wpAnyEI F n P md ops Q S z (fuel + 1) listed a w := by
  refine ⟨fun h0 => (by rw [hr] at h0; cases h0), fun j hj => ?_⟩
  rw [hr] at hj
  have e : j = i := by simpa using hj
  subst e
  exact wpOpIn_step ho (fun K' hK => h K' (fun a w hS hW => hK a w ⟨fun _ _ => hS, hW hS⟩))
/-- The last one. -/
theorem wpAnyEI_last {o : Oper} {fuel : Nat} {listed : Array Bool} {a : Act} {w : World} (hr : Region.ready md ops listed = [z]) (ho : ops[z]? = some o) (hend : Region.ready md ops (listed.setIfInBounds z true) = [])
    (h : ∀ K' : Act → World → Prop, Shut (∀ a w, Q .normal a w → K' a w) → if Region.wanted o (yielded ops a.tmps) = true then Oper.wpIn F n P o a w K' Q else (∀ f, o.about P w a.eval = some f → F.fn f) ∧ K' (a.put o.dst undef) w) : wpAnyEI F n P md ops Q S z (fuel + 1) listed a w := by
  refine ⟨fun h0 => (by rw [hr] at h0; cases h0), fun j hj => ?_⟩
  rw [hr] at hj
  have e : j = z := by simpa using hj
  subst e
  refine wpOpIn_step ho (fun K' hK => h K' (fun a w hW => hK a w ⟨fun h => absurd rfl h, ?_⟩))
  cases fuel with
  | zero => exact ⟨hend, hW⟩
  | succ f => exact ⟨fun _ => hW, by rw [hend]; simp⟩
theorem wpIn_region_sink {id : Nat} {a : Act} {w : World} (z : Nat) (S : World → Prop) (hm : P.follows .mixedOrders = true) (hS : S w.drew)
    (h : S w.drew → wpAnyEI F n P .any ops Q S z ops.size (Array.replicate ops.size false) a w.drew) : (Code.region id ops true).wpIn F n P Q a w :=
  wpIn_region_any hm (wpAnyIn_of_sink _ _ _ _ (h hS))
/-- A way from i to z: each waits for the one before it. -/
def wayTo (md : Region.Mode) (ops : Array Oper) (z : Nat) : Nat → List Nat → Bool
  | i, [] => Region.waitsFor md ops z i
  | i, p :: ps => Region.waitsFor md ops p i && wayTo md ops z p ps
theorem not_on_way {j : Nat} {listed : Array Bool} (hj : j ∈ Region.ready md ops listed) : ∀ (path : List Nat) (i : Nat), wayTo md ops z i path = true → listed.getD i true = false → (∀ p ∈ z :: path, listed.getD p true = false) → j ∉ z :: path := by
  obtain ⟨hjun, oj, hoj, hall⟩ := mem_ready.1 hj
  have step : ∀ i p, Region.waitsFor md ops p i = true → listed.getD i true = false → j ≠ p := fun i p hw hun e => by
    subst e
    obtain ⟨o', ho', e, he, hb, hon⟩ := Region.waitsFor_spec hw
    have : o' = oj := Option.some.inj (ho'.symm.trans hoj)
    subst this
    have h1 := hall e he hb
    rw [hon, getD_both hun] at h1
    cases h1
  intro path
  induction path with
  | nil =>
    intro i hw hun _ hm
    have e : j = z := by simpa using hm
    exact step i z hw hun e
  | cons p ps ih =>
    intro i hw hun hp hm
    unfold wayTo at hw
    rw [Bool.and_eq_true] at hw
    have hne := step i p hw.1 hun
    have hz := ih p hw.2 (hp p (by simp)) (fun q hq => hp q (by
      rcases List.mem_cons.1 hq with rfl | hq
      · simp
      · simp [hq]))
    rcases List.mem_cons.1 hm with e | hm
    · exact hz (by rw [e]; simp)
    · rcases List.mem_cons.1 hm with e | hm
      · exact hne e
      · exact hz (List.mem_cons_of_mem _ hm)
/-- Take number i first, which yields where S holds, and z comes up behind it only. -/
theorem wpAnyEI_firstP {i : Nat} {oi : Oper} {v : Value} (hsem : Plain F ops) (hi : ops[i]? = some oi) (hsel : ∀ (j : Nat) (o : Oper) cs b, ops[j]? = some o → o.op ≠ .select cs b)
    (hQ : ∀ c a w, Q (.panic c) (a.put oi.dst v) w → Q (.panic c) a w) (hiz : i ≠ z) (path : List Nat) (hway : wayTo md ops z i path = true) :
    ∀ (fuel : Nat) (listed : Array Bool) (a : Act) (w : World),
      (∀ j oj, ops[j]? = some oj → j ≠ i → listed.getD j true = false → (∀ e ∈ oj.after, Region.binds md e = true → e.on ≠ i) → oi.apart ops oj = true) →
      i ∈ Region.ready md ops listed → YieldsIf P ops S oi v a → (∀ p ∈ z :: path, listed.getD p true = false) → S w →
      wpAnyEI F n P md ops Q S z fuel (listed.setIfInBounds i true) (a.put oi.dst v) w → wpAnyEI F n P md ops Q S z (fuel + 1) listed a w := by
  intro fuel
  induction fuel with
  | zero =>
    intro listed a w _ hr hy _ hS H
    refine ⟨fun h => (by rw [h] at hr; cases hr), fun j hj => ?_⟩
    by_cases hji : j = i
    · subst hji; exact hy.wpOpIn hsem hi hS ⟨fun _ _ => hS, H⟩
    · have := ready_mono hj hji
      rw [H.1] at this
      cases this
  | succ fuel ih =>
    intro listed a w hfree hr hy hl hS H
    refine ⟨fun h => (by rw [h] at hr; cases hr), fun j hj => ?_⟩
    by_cases hji : j = i
    · subst hji; exact hy.wpOpIn hsem hi hS ⟨fun _ _ => hS, H⟩
    · have h1 := H.2 j (ready_mono hj hji)
      have hun := (mem_ready.1 hr).1
      have hnw := not_on_way hj path i hway hun hl
      obtain ⟨hjun, oj, hoj, hall⟩ := mem_ready.1 hj
      have hjz : j ≠ z := fun e => hnw (by rw [e]; simp)
      have hnot : ∀ e ∈ oj.after, Region.binds md e = true → e.on ≠ i := fun e he hb heq => by
        have h1 := hall e he hb
        rw [heq, getD_both hun] at h1
        cases h1
      have hzset : (listed.setIfInBounds i true).getD z false = false := by rw [getD_set_ne false hiz]; exact getD_both (hl z (by simp))
      have h2 := wpOpIn_putIf hsem hoj (hfree j oj hoj hji hjun hnot) (fun cs b => hsel i oi cs b hi) (fun cs b => hsel j oj cs b hoj) hQ hy h1
      have hfree' : ∀ k ok, ops[k]? = some ok → k ≠ i → (listed.setIfInBounds j true).getD k true = false →
          (∀ e ∈ ok.after, Region.binds md e = true → e.on ≠ i) → oi.apart ops ok = true := fun k ok hk hki hun hno => by
        refine hfree k ok hk hki ?_ hno
        by_cases hjk : j = k
        · subst hjk; exact hjun
        · rw [getD_set_ne true hjk] at hun; exact hun
      refine wpOpIn_mono (fun a' w' h3 => ⟨fun hjz' _ => h3.2.1 hjz' hzset, ih (listed.setIfInBounds j true) a' w' hfree' (ready_mono hr (Ne.symm hji)) h3.1 (fun p hp => ?_) (h3.2.1 hjz hzset) ?_⟩) h2
      · rw [getD_set_ne true (fun e => hnw (by rw [e]; exact hp))]; exact hl p hp
      · rw [Array.setIfInBounds_comm _ _ hji]
        exact h3.2.2
theorem wpAnyEI_takeP {i : Nat} {oi : Oper} {v : Value} (path : List Nat) (hsem : Plain F ops) {fuel : Nat} {listed : Array Bool} {a : Act} {w : World} (hi : ops[i]? = some oi)
    (hs : Region.noSelect ops = true) (hf : Region.free md ops listed i = true) (hr : (Region.ready md ops listed).contains i = true)
    (hQ : ∀ c a w, Q (.panic c) (a.put oi.dst v) w → Q (.panic c) a w) (hz : ((z :: path).all (fun p => !listed.getD p true) && wayTo md ops z i path && !(i == z)) = true) (hy : YieldsIf P ops S oi v a) (hS : S w)
    (h : wpAnyEI F n P md ops Q S z fuel (listed.setIfInBounds i true) (a.put oi.dst v) w) : wpAnyEI F n P md ops Q S z (fuel + 1) listed a w := by
  simp only [Bool.and_eq_true, Bool.not_eq_true', beq_eq_false_iff_ne, List.all_eq_true] at hz
  exact wpAnyEI_firstP hsem hi (Region.noSelect_spec hs) hQ hz.2 path hz.1.2 fuel listed a w (Region.free_spec hi hf) (by simpa using hr) hy (fun p hp => by simpa using hz.1.1 p hp) hS h
/-- Number i alone can come up, and z has come or comes now: S is not asked any more. -/
theorem wpAnyEI_any {i : Nat} {o : Oper} {fuel : Nat} {listed : Array Bool} {a : Act} {w : World} (hr : Region.ready md ops listed = [i]) (ho : ops[i]? = some o) (hz : (i == z || listed.getD z false) = true)
    (h : ∀ K' : Act → World → Prop, Shut (∀ a w, wpAnyEI F n P md ops Q S z fuel (listed.setIfInBounds i true) a w → K' a w) → if Region.wanted o (yielded ops a.tmps) = true then Oper.wpIn F n P o a w K' Q else (∀ f, o.about P w a.eval = some f → F.fn f) ∧ K' (a.put o.dst undef) w) : wpAnyEI F n P md ops Q S z (fuel + 1) listed a w := by
  refine ⟨fun h0 => (by rw [hr] at h0; cases h0), fun j hj => ?_⟩
  rw [hr] at hj
  have e : j = i := by simpa using hj
  subst e
  refine wpOpIn_step ho (fun K' hK => h K' (fun a w hW => hK a w ⟨fun h1 h2 => ?_, hW⟩))
  rw [Bool.or_eq_true, beq_iff_eq] at hz
  rcases hz with e | e
  · exact absurd e h1
  · rw [h2] at e; cases e
theorem wpAnyEI_nil {fuel : Nat} {listed : Array Bool} {a : Act} {w : World} (hr : Region.ready md ops listed = []) (h : Q .normal a w) : wpAnyEI F n P md ops Q S z fuel listed a w := by
  cases fuel with
  | zero => exact ⟨hr, h⟩
  | succ f => exact ⟨fun _ => h, by rw [hr]; simp⟩
end

end Go.Proofs.YtmooajppfjglaaaGreat

/- Rows stored and loaded whole inside a fence; a list of records with its lists named; what a function's iterator is handed; no conditions. -/
namespace Go.Proofs.YtmooajppfjglaaaGreat
open Go Go.RowKit Go.Shelf

section
variable {F : Fence} {n : Nat} {P : Program} {ops : Array Oper} {rest : List Oper} {o : Oper} {a : Act} {w : World} {Q : Exit → Act → World → Prop}
theorem wpIn_store_row {K : Act → World → Prop} (hF : ∀ f, F.fn f) (ty : TypeId) (x y : Operand) (ho : o.op = .store ty x y)
    (g : Nat) (cells : Array Value) (hx : a.eval x = .pointer (some ⟨g, 0, none⟩)) (hy : a.eval y = .agg cells)
    (t : TypeId) (old : Array Value) (hg : Box w g t old) (hi : (P.info? ty).map (·.size) = some cells.size)
    (hold : old.size = cells.size) (h1 : cells.all (·.oneCell') = true)
    (h : K (a.put o.dst undef) (w.setRow g cells)) : o.wpIn F n P a w K Q := by
  unfold Oper.wpIn
  refine ⟨fun f _ => hF f, ?_⟩
  rw [Oper.semAt_plain F _ _ (by rw [ho]; intro c hc; cases hc)]
  unfold execOp
  simp only [ho, hx, hy, Instr.storeAt, Instr.sureAddr, Sem.run_bind, Sem.run_pure, Result.andThen_ok, run_storeVar_row w g t ty old cells hg hi hold h1]
  exact h
theorem wpListIn_store_row (hF : ∀ f, F.fn f) (hgd : o.guard = none) (ty : TypeId) (x y : Operand) (ho : o.op = .store ty x y)
    (g : Nat) (cells : Array Value) (hx : a.eval x = .pointer (some ⟨g, 0, none⟩)) (hy : a.eval y = .agg cells)
    (t : TypeId) (old : Array Value) (hg : Box w g t old) (hi : (P.info? ty).map (·.size) = some cells.size)
    (hold : old.size = cells.size) (h1 : cells.all (·.oneCell') = true)
    (h : wpListIn F n P ops Q rest (a.put o.dst undef) (w.setRow g cells)) : wpListIn F n P ops Q (o :: rest) a w :=
  wpListIn_plain hgd fun _ hK => wpIn_store_row hF ty x y ho g cells hx hy t old hg hi hold h1 (hK _ _ h)
end

/-- A list of records, its lists named. -/
def RecsV (ds : List RecD) (w : World) (F : Nat → Prop) (A : Option Addr) (n : Nat) (L : Nat → Option Addr) (m mc : Nat → Nat) : Prop :=
  ds.length = n ∧ (0 < n → ∃ b o, A = some ⟨b, o, none⟩ ∧ F b ∧ b < w.heap.size ∧ ∀ i (h : i < ds.length), RecAt w b (o + i * 9) ds[i] (.slice (L i) (m i) (mc i)) ∧ m i ≤ maxLen ∧ PairsF w F (L i) (m i) (ds[i]).ps)
theorem RecsV.turn {T : Nat → Prop} {w w' : World} {F : Nat → Prop} {A : Option Addr} {n : Nat} {ds : List RecD} {L : Nat → Option Addr} {m mc : Nat → Nat} (h : RecsV ds w F A n L m mc) (ht : Turns T w w') (hd : ∀ b, F b → ¬ T b) : RecsV ds w' F A n L m mc := by
  refine ⟨h.1, fun hn => ?_⟩
  obtain ⟨b, o, hA, hF, hb, hc⟩ := h.2 hn
  refine ⟨b, o, hA, hF, Nat.lt_of_lt_of_le hb ht.size, fun i hi => ?_⟩
  obtain ⟨h1, h2, h3⟩ := hc i hi
  exact ⟨h1.turn hb ht (hd b hF), h2, h3.turn ht hd⟩
theorem RecsF.vals {ds : List RecD} {w : World} {F : Nat → Prop} {A : Option Addr} {n : Nat} (h : RecsF ds w F A n) : ∃ L m mc, RecsV ds w F A n L m mc := by
  by_cases hn : 0 < n
  · obtain ⟨b, o, hA, hF, hb, hc⟩ := h.2 hn
    have hc' : ∀ i, ∃ p : Option Addr × Nat × Nat, ∀ hi : i < ds.length, RecAt w b (o + i * 9) ds[i] (.slice p.1 p.2.1 p.2.2) ∧ p.2.1 ≤ maxLen ∧ PairsF w F p.1 p.2.1 (ds[i]).ps := fun i => by
      by_cases hi : i < ds.length
      · obtain ⟨L, m, mc, h1, h2, h3⟩ := hc i hi
        exact ⟨(L, m, mc), fun _ => ⟨h1, h2, h3⟩⟩
      · exact ⟨(none, 0, 0), fun h => absurd h hi⟩
    exact ⟨fun i => (Classical.choose (hc' i)).1, fun i => (Classical.choose (hc' i)).2.1, fun i => (Classical.choose (hc' i)).2.2, h.1, fun _ => ⟨b, o, hA, hF, hb, fun i hi => Classical.choose_spec (hc' i) hi⟩⟩
  · exact ⟨fun _ => none, fun _ => 0, fun _ => 0, h.1, fun h => absurd h hn⟩
/-- A record's cells, its list at this place. -/
def cellsC (d : RecD) (L : Option Addr) (m mc : Nat) : Array Value := #[.int .i64 d.r1, .int .i64 d.r2, .int .i64 d.r3, .int .i64 d.r4, .int .i64 d.r5, .int .i64 d.r6, .int .i64 d.r7, .slice L m mc, .int .i64 d.r8]
/-- The numbers below k, below n. -/
def firsts (n k : Nat) : List (Fin n) := (List.finRange n).take k
theorem firsts_snoc (n k : Nat) (h : k < n) : firsts n (k + 1) = firsts n k ++ [⟨k, h⟩] := by
  unfold firsts
  rw [List.take_succ_eq_append_getElem (by simpa using h)]
  simp
theorem firsts_all (n : Nat) : firsts n n = List.finRange n := by
  unfold firsts
  exact List.take_of_length_le (by simp)
theorem firsts_pre (n k : Nat) : firsts n k <+: List.finRange n := List.take_prefix _ _
theorem firsts_len (n k : Nat) (h : k ≤ n) : (firsts n k).length = k := by
  unfold firsts
  simp only [List.length_take, List.length_finRange]
  omega
/-- New blocks alone. -/
theorem grown_none {a b : World} (h : Below a.heap.size a b) : a.grownBy b none := ⟨h.os, h.tape, h.output, h.size, fun i hi _ => h.block i hi⟩
/-- Whatever abides growth abides new blocks. -/
theorem AbidesFrom.later {β : Type} {B : Nat} {J : β → World → Prop} (h : AbidesFrom B J) {s : β} {w w' : World} (hj : J s w) (hb : Below w.heap.size w w') : J s w' :=
  h s w w' none hj (grown_none hb) (fun r e => by cases e)
/-- What a round keeps: whatever lay below N, and whatever is cells, but for the block G. -/
structure KeepC (G N : Nat) (w w' : World) : Prop where
  os : w'.os = w.os
  tape : w'.tape = w.tape
  output : w'.output = w.output
  size : w.heap.size ≤ w'.heap.size
  block : ∀ i o, w.heap[i]? = some o → i ≠ G → (i < N ∨ o.isCells = true) → w'.heap[i]? = some o
/-- The blocks that may have turned. -/
def TurnC (G N : Nat) (w : World) : Nat → Prop := fun i => i = G ∨ (N ≤ i ∧ ∃ o, w.heap[i]? = some o ∧ o.isCells = false)
theorem KeepC.turns {G N : Nat} {w w' : World} (h : KeepC G N w w') : Turns (TurnC G N w) w w' := ⟨h.os, h.tape, h.output, h.size, fun i hi hT => by
  have e : w.heap[i]? = some w.heap[i] := Array.getElem?_eq_getElem hi
  rw [e]
  refine h.block i _ e (fun hG => hT (.inl hG)) ?_
  by_cases hN : i < N
  · exact .inl hN
  · refine .inr ?_
    rcases hc : (w.heap[i]).isCells with _ | _
    · exact absurd (.inr ⟨by omega, _, e, hc⟩) hT
    · rfl⟩
theorem KeepC.trans {G N : Nat} {a b c : World} (h : KeepC G N a b) (k : KeepC G N b c) : KeepC G N a c :=
  ⟨k.os.trans h.os, k.tape.trans h.tape, k.output.trans h.output, Nat.le_trans h.size k.size, fun i o hi hG hN => k.block i o (h.block i o hi hG hN) hG hN⟩
theorem KeepC.of_below {G N : Nat} {a b : World} (h : Below a.heap.size a b) : KeepC G N a b :=
  ⟨h.os, h.tape, h.output, h.size, fun i _ hi _ _ => (h.block i (Array.getElem?_eq_some_iff.1 hi).1).trans hi⟩
theorem KeepC.of_turns {G N : Nat} {T : Nat → Prop} {a b : World} (h : Turns T a b) (hT : ∀ i, T i → i = G) : KeepC G N a b :=
  ⟨h.os, h.tape, h.output, h.size, fun i _ hi hG _ => (h.block i (Array.getElem?_eq_some_iff.1 hi).1 (fun ht => hG (hT i ht))).trans hi⟩
theorem KeepC.refl {G N : Nat} (w : World) : KeepC G N w w := KeepC.of_below (Below.refl _ _)
theorem keepC_put {G N : Nat} (W : World) (l : Nat) (o o' : Obj) (hl : N ≤ l) (h : W.heap[l]? = some o) (hc : o.isCells = false) : KeepC G N W (W.putObj l o') :=
  ⟨rfl, rfl, rfl, by simp [World.putObj], fun i x hi _ hx => by
    have hne : i ≠ l := fun e => by
      subst e
      rw [h] at hi
      injection hi with hi
      subst hi
      rcases hx with hx | hx
      · omega
      · rw [hc] at hx; cases hx
    exact (World.putObj_heap_other hne).trans hi⟩
theorem notC_box {G N : Nat} {w : World} {g : Nat} {t : TypeId} {cs : Array Value} (hx : Box w g t cs) (hg : g ≠ G) : ¬ TurnC G N w g := fun h => by
  rcases h with h | ⟨_, o, ho, hc⟩
  · exact hg h
  · rw [show w.heap[g]? = some (.cells cs t (0, 0)) from hx] at ho
    injection ho with ho
    subst ho
    cases hc
theorem notC_low {G N : Nat} {w : World} {b : Nat} (hb : b < N) (hg : b ≠ G) : ¬ TurnC G N w b := fun h => by
  rcases h with h | ⟨h, _⟩
  · exact hg h
  · omega
theorem Box.keepC {G N : Nat} {w w' : World} {g : Nat} {t : TypeId} {cs : Array Value} (hx : Box w g t cs) (h : KeepC G N w w') (hg : g ≠ G) : Box w' g t cs := hx.turn h.turns (notC_box hx hg)
end Go.Proofs.YtmooajppfjglaaaGreat

/- The program's iterator over a list of records, each with whether it is right where it stands (written by iter9.py); conditions: the sizes. -/
namespace Go.Proofs.YtmooajppfjglaaaGreat
open Go Go.RowKit Go.Shelf

attribute [local go_sem] Oper.semAt_some

/-- What a round is handed. -/
def encC (g : GrpD) (ds : List RecD) (L : Nat → Option Addr) (m mc : Nat → Nat) (k : Fin ds.length) : Array Value := #[.agg (cellsC ds[k.val] (L k.val) (m k.val) (mc k.val)), .bool (isAt g ds k.val)]

set_option maxRecDepth 100000 in
set_option maxHeartbeats 16000000 in
theorem recsIter_stops (g : GrpD) (ds : List RecD) (A : Option Addr) (n cap : Nat) (LA : Option Addr) (ln lc : Nat) (L : Nat → Option Addr) (m mc : Nat → Nat) (B1 B2 G N : Nat) (F : Nat → Prop) (w : World)
    (hG1 : B1 ≠ G) (hG2 : B2 ≠ G) (hF : ∀ b, F b → b < N ∧ b ≠ G) (h1 : Box w B1 27 #[.slice LA ln lc]) (h2 : Box w B2 26 #[.int .i64 g.s, .int .i64 g.l, .int .i64 g.c, .int .i64 g.sh, .slice A n cap]) (hm : n ≤ maxLen) (hR : RowF w F A n g.zs) (hD : RecsV ds w F LA ln L m mc) (hln : ln ≤ 1048576) (hmk : ∀ k, k < ds.length → m k ≤ 4194304) :
    SeqStopsK Fence.wide 2 Tryz.prog 107 #[.pointer (some ⟨B1, 0, none⟩), .pointer (some ⟨B2, 0, none⟩)] (encC g ds L m mc) (KeepC G N) (fun ys => ys = List.finRange ds.length) (fun pre => pre <+: List.finRange ds.length) ds.length w := by
  intro l J Jx W hW hJ hJx hY h0
  show CallsIn Fence.wide 2 Tryz.prog 107 #[.func (.yield l) #[] #[], .pointer (some ⟨B1, 0, none⟩), .pointer (some ⟨B2, 0, none⟩)] W _
  replace h1 := Lib.hid (h1.later hW h1.lt)
  replace h2 := Lib.hid (h2.later hW h2.lt)
  replace hR := Lib.hid (hR.turn (T := fun _ => False) (Turns.of_below hW) (fun _ _ h => h))
  replace hD := Lib.hid (hD.turn (T := fun _ => False) (Turns.of_below hW) (fun _ _ h => h))
  have HL := Lib.hid hD.out.1
  have HJ := Lib.hid hJ
  have HM := Lib.hid hm
  have HF := Lib.hid hF
  have HG1 := Lib.hid hG1
  have HG2 := Lib.hid hG2
  have HMK := Lib.hid hmk
  clear hW w hJ hJx hm hF hG1 hG2 hmk
  refine callsIn_of_wp Tryz.func107 rfl trivial ?_ rfl
  simp only [Tryz.ntmps107, List.size_toArray, List.length_cons, List.length_nil, Nat.reduceAdd, Nat.reduceSub, Array.replicate_succ, Array.replicate_zero, List.push_toArray, List.append_toArray, List.nil_append, List.cons_append]
  have c1 : W.cell? ⟨B1, 0, none⟩ = some (.slice LA ln lc) := h1.out.cell 0
  gi_wp2
  gi_loopw [8] (fun i wr => ∃ k : Nat, k ≤ ln ∧ i = .int .i64 k ∧ J (firsts ds.length k) wr ∧ KeepC G N W wr) (fun i _ => ln - (intOf i).toNat)
  case atStart => exact ⟨0, Nat.zero_le _, rfl, h0, KeepC.refl _⟩
  case round =>
    clear c1 h0
    obtain ⟨k, hk, rfl, hJk, ht⟩ := hrel
    have HJk := Lib.hid hJk
    have HT := Lib.hid ht
    clear hJk ht
    by_cases hlt : k < ln
    · skip
      have hkd : k < ds.length := by have := HL.out; omega
      have hDk := hD.out.turn HT.out.turns (fun b hb => notC_low (HF.out b hb).1 (HF.out b hb).2)
      obtain ⟨b, o, hA, hbF, hbl, hcell⟩ := hDk.2 (by omega)
      subst hA
      obtain ⟨hrec, hmm, hps⟩ := hcell k hkd
      clear hcell hDk
      have HRw := Lib.hid (hR.out.turn HT.out.turns (fun b hb => notC_low (HF.out b hb).1 (HF.out b hb).2)).1
      have HX2 := Lib.hid (h2.out.keepC HT.out HG2.out)
      have hIs := isAt_lt (g := g) hkd
      have hmk4 := HMK.out k hkd
      have hYk := fun W1 h => hY (firsts ds.length k) ⟨k, hkd⟩ W1 h (by rw [firsts_len _ _ (by omega)]; exact hkd)
      unfold encC at hYk
      rw [← firsts_snoc] at hYk
      dsimp only at hYk
      obtain ⟨d, hd⟩ : ∃ d : RecD, ds[k] = d := ⟨_, rfl⟩
      rw [hd] at hrec hps hIs hYk
      obtain ⟨Lk, hLk⟩ : ∃ x, L k = x := ⟨_, rfl⟩
      obtain ⟨mk, hmkk⟩ : ∃ x, m k = x := ⟨_, rfl⟩
      obtain ⟨mck, hmck⟩ : ∃ x, mc k = x := ⟨_, rfl⟩
      rw [hLk, hmkk] at hps
      rw [hLk, hmkk, hmck] at hrec hYk
      rw [hmkk] at hmm hmk4
      unfold cellsC at hYk
      have HPw := Lib.hid hps.1
      have HA := Lib.hid hIs
      have HY := Lib.hid hYk
      clear hd hIs hLk hmkk hmck hps hYk
      obtain ⟨c0, c1, c2, c3, c4, c5, c6, c7, c8⟩ := hrec
      have hltI : (k : Int) < (ln : Int) := by omega
      have hkw : IntKind.i64.wrap ((k : Int) + 1) = (k : Int) + 1 := IntWalk.i64_in _ (by omega)
      have ZB := Box.new wr 42 #[.int .i64 0, .int .i64 0, .int .i64 0, .int .i64 0, .int .i64 0, .int .i64 0, .int .i64 0, .slice none 0 0, .int .i64 0]
      have hn := bel_new_row wr #[.int .i64 0, .int .i64 0, .int .i64 0, .int .i64 0, .int .i64 0, .int .i64 0, .int .i64 0, .slice none 0 0, .int .i64 0] 42 #[.int .i64 d.r1, .int .i64 d.r2, .int .i64 d.r3, .int .i64 d.r4, .int .i64 d.r5, .int .i64 d.r6, .int .i64 d.r7, .slice Lk mk mck, .int .i64 d.r8]
      have X := (Box.new wr 42 #[.int .i64 0, .int .i64 0, .int .i64 0, .int .i64 0, .int .i64 0, .int .i64 0, .int .i64 0, .slice none 0 0, .int .i64 0]).setRow #[.int .i64 d.r1, .int .i64 d.r2, .int .i64 d.r3, .int .i64 d.r4, .int .i64 d.r5, .int .i64 d.r6, .int .i64 d.r7, .slice Lk mk mck, .int .i64 d.r8]
      gi_upto_region 3 with (refine wpListIn_store_row (fun _ => trivial) rfl 42 _ _ rfl wr.heap.size _ rfl rfl 42 #[.int .i64 0, .int .i64 0, .int .i64 0, .int .i64 0, .int .i64 0, .int .i64 0, .int .i64 0, .slice none 0 0, .int .i64 0] ZB (by kernel_rfl) rfl (by simp [Value.oneCell']) ?_)
      clear ZB c0 c1 c2 c3 c4 c5 c6 c7 c8 hbl
      try simp only [Act.put]
      have E := hn
      have HX := Lib.hid (HX2.out.later hn HX2.out.lt)
      clear hn HX2
      generalize ((wr.alloc _).setRow _ _ : World) = w1 at E X HX ⊢
      have hV : wr.heap.size = wr.heap.size := rfl
      obtain ⟨V, hVV⟩ : ∃ V, wr.heap.size = V := ⟨_, rfl⟩
      have HE := Lib.hid E
      clear hV E
      rw [hVV] at X ⊢
      have HV := Lib.hid hVV
      clear hVV
      have HK1 := Lib.hid (show True from trivial)
      clear HK1
      by_cases hno : d.r1 = (k : Int) + 1
      rotate_left
      · skip
        have hne : (d.r1 == (k : Int) + 1) = false := by simpa using hno
        have hf : isAt g ds k = false := by rw [HA.out]; simp [hno]
        rw [hf] at HY
        clear hf hno
        refine wpIn_region_sink 12 (fun w' => Box w' V 42 #[.int .i64 d.r1, .int .i64 d.r2, .int .i64 d.r3, .int .i64 d.r4, .int .i64 d.r5, .int .i64 d.r6, .int .i64 d.r7, .slice Lk mk mck, .int .i64 d.r8] ∧ Box w' B2 26 #[.int .i64 g.s, .int .i64 g.l, .int .i64 g.c, .int .i64 g.sh, .slice A n cap]) (by kernel_rfl) ⟨X.later ((Below.refl w1.heap.size w1).drew) X.lt, HX.out.later ((Below.refl w1.heap.size w1).drew) HX.out.lt⟩ (fun hH => ?_)
        replace HE := Lib.hid (bel_trans HE.out (Below.refl w1.heap.size w1).drew)
        clear X HX
        generalize w1.drew = w2 at HE hH ⊢
        refine wpAnyEI_pure (plain_of (fun _ => trivial) (by kernel_rfl)) (i := 0) (v := ?vu0_1) (by simp only [List.getElem?_toArray, List.getElem?_cons_zero]; rfl) (by kernel_rfl) (by kernel_rfl) (by kernel_rfl) (by exact fun _ _ _ h => h) (by kernel_rfl) (Or.inl ⟨by rfl, ?yu0_1⟩) hH ?_
        case yu0_1 => (intro w' hSw; (try dsimp only at hSw); go_simp; try with_reducible rfl)
        try simp only [Act.put, List.setIfInBounds_toArray, List.set_cons_zero, List.set_cons_succ]
        refine wpAnyEI_takeP [] (plain_of (fun _ => trivial) (by kernel_rfl)) (i := 1) (v := .agg #[.int .i64 d.r1, .int .i64 d.r2, .int .i64 d.r3, .int .i64 d.r4, .int .i64 d.r5, .int .i64 d.r6, .int .i64 d.r7, .slice Lk mk mck, .int .i64 d.r8]) (by simp only [List.getElem?_toArray, List.getElem?_cons_succ, List.getElem?_cons_zero]; rfl) (by kernel_rfl) (by kernel_rfl) (by kernel_rfl) (by exact fun _ _ _ h => h) (by kernel_rfl) ?y1 hH ?_
        case y1 => exact yields_box 42 _ rfl (V) rfl 42 #[.int .i64 d.r1, .int .i64 d.r2, .int .i64 d.r3, .int .i64 d.r4, .int .i64 d.r5, .int .i64 d.r6, .int .i64 d.r7, .slice Lk mk mck, .int .i64 d.r8] (fun _ h => h.1) _ Tryz.underlying42 rfl (by kernel_rfl) (by first | rfl | simp [Region.wanted, yielded] | (simp [Region.wanted, yielded, Act.put] <;> omega))
        try simp only [Act.put, List.setIfInBounds_toArray, List.set_cons_zero, List.set_cons_succ]
        refine wpAnyEI_pure (plain_of (fun _ => trivial) (by kernel_rfl)) (i := 2) (v := ?vu2_2) (by simp only [List.getElem?_toArray, List.getElem?_cons_succ, List.getElem?_cons_zero]; rfl) (by kernel_rfl) (by kernel_rfl) (by kernel_rfl) (by exact fun _ _ _ h => h) (by kernel_rfl) (Or.inl ⟨by rfl, ?yu2_2⟩) hH ?_
        case yu2_2 => (intro w' hSw; (try dsimp only at hSw); go_simp; try with_reducible rfl)
        try simp only [Act.put, List.setIfInBounds_toArray, List.set_cons_zero, List.set_cons_succ]
        refine wpAnyEI_takeP [6, 7, 11] (plain_of (fun _ => trivial) (by kernel_rfl)) (i := 3) (v := .int .i64 d.r1) (by simp only [List.getElem?_toArray, List.getElem?_cons_succ, List.getElem?_cons_zero]; rfl) (by kernel_rfl) (by kernel_rfl) (by kernel_rfl) (by exact fun _ _ _ h => h) (by kernel_rfl) (Or.inl ⟨(by first | rfl | simp [Region.wanted, yielded] | (simp [Region.wanted, yielded, Act.put] <;> omega)), ?y3⟩) hH ?_
        case y3 => (intro w' hSw; have hc0 : w'.cell? ⟨V, 0, none⟩ = some (.int .i64 d.r1) := hSw.1.cell 0; clear hSw; go_simp; try with_reducible rfl)
        try simp only [Act.put, List.setIfInBounds_toArray, List.set_cons_zero, List.set_cons_succ]
        refine wpAnyEI_pure (plain_of (fun _ => trivial) (by kernel_rfl)) (i := 4) (v := ?vu4_3) (by simp only [List.getElem?_toArray, List.getElem?_cons_succ, List.getElem?_cons_zero]; rfl) (by kernel_rfl) (by kernel_rfl) (by kernel_rfl) (by exact fun _ _ _ h => h) (by kernel_rfl) (Or.inl ⟨by rfl, ?yu4_3⟩) hH ?_
        case yu4_3 => (intro w' hSw; (try dsimp only at hSw); go_simp; try with_reducible rfl)
        try simp only [Act.put, List.setIfInBounds_toArray, List.set_cons_zero, List.set_cons_succ]
        refine wpAnyEI_pure (plain_of (fun _ => trivial) (by kernel_rfl)) (i := 5) (v := ?vu5_4) (by simp only [List.getElem?_toArray, List.getElem?_cons_succ, List.getElem?_cons_zero]; rfl) (by kernel_rfl) (by kernel_rfl) (by kernel_rfl) (by exact fun _ _ _ h => h) (by kernel_rfl) (Or.inl ⟨by rfl, ?yu5_4⟩) hH ?_
        case yu5_4 => (intro w' hSw; (try dsimp only at hSw); go_simp; try with_reducible rfl)
        try simp only [Act.put, List.setIfInBounds_toArray, List.set_cons_zero, List.set_cons_succ]
        refine wpAnyEI_pure (plain_of (fun _ => trivial) (by kernel_rfl)) (i := 6) (v := ?vu6_5) (by simp only [List.getElem?_toArray, List.getElem?_cons_succ, List.getElem?_cons_zero]; rfl) (by kernel_rfl) (by kernel_rfl) (by kernel_rfl) (by exact fun _ _ _ h => h) (by kernel_rfl) (Or.inl ⟨by rfl, ?yu6_5⟩) hH ?_
        case yu6_5 => (intro w' hSw; (try dsimp only at hSw); go_simp; try with_reducible rfl)
        try simp only [Act.put, List.setIfInBounds_toArray, List.set_cons_zero, List.set_cons_succ]
        refine wpAnyEI_pure (plain_of (fun _ => trivial) (by kernel_rfl)) (i := 7) (v := ?vu7_6) (by simp only [List.getElem?_toArray, List.getElem?_cons_succ, List.getElem?_cons_zero]; rfl) (by kernel_rfl) (by kernel_rfl) (by kernel_rfl) (by exact fun _ _ _ h => h) (by kernel_rfl) (Or.inl ⟨by rfl, ?yu7_6⟩) hH ?_
        case yu7_6 => (intro w' hSw; (try dsimp only at hSw); go_simp; try with_reducible rfl)
        try simp only [Act.put, List.setIfInBounds_toArray, List.set_cons_zero, List.set_cons_succ]
        refine wpAnyEI_pure (plain_of (fun _ => trivial) (by kernel_rfl)) (i := 8) (v := undef) (by simp only [List.getElem?_toArray, List.getElem?_cons_succ, List.getElem?_cons_zero]; rfl) (by kernel_rfl) (by kernel_rfl) (by kernel_rfl) (by exact fun _ _ _ h => h) (by kernel_rfl) (Or.inr ⟨(by first | rfl | simp [Region.wanted, yielded] | (simp [Region.wanted, yielded, Act.put] <;> omega)), rfl⟩) hH ?_
        try simp only [Act.put, List.setIfInBounds_toArray, List.set_cons_zero, List.set_cons_succ]
        refine wpAnyEI_pure (plain_of (fun _ => trivial) (by kernel_rfl)) (i := 9) (v := undef) (by simp only [List.getElem?_toArray, List.getElem?_cons_succ, List.getElem?_cons_zero]; rfl) (by kernel_rfl) (by kernel_rfl) (by kernel_rfl) (by exact fun _ _ _ h => h) (by kernel_rfl) (Or.inr ⟨(by first | rfl | simp [Region.wanted, yielded] | (simp [Region.wanted, yielded, Act.put] <;> omega)), rfl⟩) hH ?_
        try simp only [Act.put, List.setIfInBounds_toArray, List.set_cons_zero, List.set_cons_succ]
        refine wpAnyEI_pure (plain_of (fun _ => trivial) (by kernel_rfl)) (i := 10) (v := undef) (by simp only [List.getElem?_toArray, List.getElem?_cons_succ, List.getElem?_cons_zero]; rfl) (by kernel_rfl) (by kernel_rfl) (by kernel_rfl) (by exact fun _ _ _ h => h) (by kernel_rfl) (Or.inr ⟨(by first | rfl | simp [Region.wanted, yielded] | (simp [Region.wanted, yielded, Act.put] <;> omega)), rfl⟩) hH ?_
        try simp only [Act.put, List.setIfInBounds_toArray, List.set_cons_zero, List.set_cons_succ]
        refine wpAnyEI_pure (plain_of (fun _ => trivial) (by kernel_rfl)) (i := 11) (v := ?vu11_7) (by simp only [List.getElem?_toArray, List.getElem?_cons_succ, List.getElem?_cons_zero]; rfl) (by kernel_rfl) (by kernel_rfl) (by kernel_rfl) (by exact fun _ _ _ h => h) (by kernel_rfl) (Or.inl ⟨by rfl, ?yu11_7⟩) hH ?_
        case yu11_7 => (intro w' hSw; (try dsimp only at hSw); go_simp; try with_reducible rfl)
        try simp only [Act.put, List.setIfInBounds_toArray, List.set_cons_zero, List.set_cons_succ]
        obtain ⟨fnY, tmpsY, assignY, bodyY, hy, hRd⟩ := HY.out w2 (AbidesFrom.later HJ.out HJk.out HE.out)
        refine wpAnyEI_any (i := 12) (by kernel_rfl) (by simp only [List.getElem?_toArray, List.getElem?_cons_succ, List.getElem?_cons_zero]; rfl) (by kernel_rfl) (fun K' hK => ?_)
        clear hH
        go_simp
        refine hRd.mono ?_
        rintro e W3 (⟨rfl, hJ3, hk3⟩ | ⟨rfl, hJx3⟩)
        · skip
          refine hK.out _ _ ?_
          clear hK K' hy hRd
          try simp only [Act.put, List.setIfInBounds_toArray, List.set_cons_zero, List.set_cons_succ]
          refine wpAnyEI_any (i := 13) (by kernel_rfl) (by simp only [List.getElem?_toArray, List.getElem?_cons_succ, List.getElem?_cons_zero]; rfl) (by kernel_rfl) (fun K' hK => ?_)
          go_simp
          refine hK.out _ _ (wpAnyEI_nil (by kernel_rfl) ?_)
          clear hK K'
          try simp only [Act.put, List.setIfInBounds_toArray, List.set_cons_zero, List.set_cons_succ]
          have HK3 := Lib.hid ((KeepC.of_below (G := G) (N := N) HE.out).trans hk3)
          have HJ3 := Lib.hid hJ3
          clear hJ3 hk3 HE
          gi_wp2
          go_roundw
          case rel => exact ⟨k + 1, by omega, by go_num, HJ3.out, HT.out.trans HK3.out⟩
          case measure => simp [intOf]; omega
        · skip
          refine hK.out _ _ ?_
          clear hK K' hy hRd
          try simp only [Act.put, List.setIfInBounds_toArray, List.set_cons_zero, List.set_cons_succ]
          refine wpAnyEI_any (i := 13) (by kernel_rfl) (by simp only [List.getElem?_toArray, List.getElem?_cons_succ, List.getElem?_cons_zero]; rfl) (by kernel_rfl) (fun K' hK => ?_)
          go_simp
          refine hK.out _ _ (wpAnyEI_nil (by kernel_rfl) ?_)
          clear hK K'
          try simp only [Act.put, List.setIfInBounds_toArray, List.set_cons_zero, List.set_cons_succ]
          have HJ3 := Lib.hid hJx3
          clear hJx3 HE
          gi_wp2
          refine bodyPost_ret (results_none rfl _ _ _) rfl ?_
          exact ⟨⟨_, rfl⟩, .inr ⟨firsts ds.length (k + 1), firsts_pre _ _, HJ3.out⟩⟩
      have hne : (d.r1 == (k : Int) + 1) = true := by simpa using hno
      obtain ⟨z, hz⟩ : ∃ z, rokD g d = z := ⟨_, rfl⟩
      have hf : isAt g ds k = z := by rw [HA.out, hz]; simp [hno]
      rw [hf] at HY
      have HB : Hid (rokB g.s g.l g.c g.sh g.zs d.r1 d.r2 d.r3 d.r4 d.r5 d.r6 d.r7 d.ps d.r8 = z) := Lib.hid hz
      clear hf hno hz HA
      refine wpIn_region_sink 12 (fun w' => Box w' V 42 #[.int .i64 d.r1, .int .i64 d.r2, .int .i64 d.r3, .int .i64 d.r4, .int .i64 d.r5, .int .i64 d.r6, .int .i64 d.r7, .slice Lk mk mck, .int .i64 d.r8] ∧ Box w' B2 26 #[.int .i64 g.s, .int .i64 g.l, .int .i64 g.c, .int .i64 g.sh, .slice A n cap]) (by kernel_rfl) ⟨X.later ((Below.refl w1.heap.size w1).drew) X.lt, HX.out.later ((Below.refl w1.heap.size w1).drew) HX.out.lt⟩ (fun hH => ?_)
      replace HE := Lib.hid (bel_trans HE.out (Below.refl w1.heap.size w1).drew)
      clear X HX
      generalize w1.drew = w2 at HE hH ⊢
      refine wpAnyEI_pure (plain_of (fun _ => trivial) (by kernel_rfl)) (i := 0) (v := ?vu0_8) (by simp only [List.getElem?_toArray, List.getElem?_cons_zero]; rfl) (by kernel_rfl) (by kernel_rfl) (by kernel_rfl) (by exact fun _ _ _ h => h) (by kernel_rfl) (Or.inl ⟨by rfl, ?yu0_8⟩) hH ?_
      case yu0_8 => (intro w' hSw; (try dsimp only at hSw); go_simp; try with_reducible rfl)
      try simp only [Act.put, List.setIfInBounds_toArray, List.set_cons_zero, List.set_cons_succ]
      refine wpAnyEI_takeP [] (plain_of (fun _ => trivial) (by kernel_rfl)) (i := 1) (v := .agg #[.int .i64 d.r1, .int .i64 d.r2, .int .i64 d.r3, .int .i64 d.r4, .int .i64 d.r5, .int .i64 d.r6, .int .i64 d.r7, .slice Lk mk mck, .int .i64 d.r8]) (by simp only [List.getElem?_toArray, List.getElem?_cons_succ, List.getElem?_cons_zero]; rfl) (by kernel_rfl) (by kernel_rfl) (by kernel_rfl) (by exact fun _ _ _ h => h) (by kernel_rfl) ?y1 hH ?_
      case y1 => exact yields_box 42 _ rfl (V) rfl 42 #[.int .i64 d.r1, .int .i64 d.r2, .int .i64 d.r3, .int .i64 d.r4, .int .i64 d.r5, .int .i64 d.r6, .int .i64 d.r7, .slice Lk mk mck, .int .i64 d.r8] (fun _ h => h.1) _ Tryz.underlying42 rfl (by kernel_rfl) (by first | rfl | simp [Region.wanted, yielded] | (simp [Region.wanted, yielded, Act.put] <;> omega))
      try simp only [Act.put, List.setIfInBounds_toArray, List.set_cons_zero, List.set_cons_succ]
      refine wpAnyEI_pure (plain_of (fun _ => trivial) (by kernel_rfl)) (i := 2) (v := ?vu2_9) (by simp only [List.getElem?_toArray, List.getElem?_cons_succ, List.getElem?_cons_zero]; rfl) (by kernel_rfl) (by kernel_rfl) (by kernel_rfl) (by exact fun _ _ _ h => h) (by kernel_rfl) (Or.inl ⟨by rfl, ?yu2_9⟩) hH ?_
      case yu2_9 => (intro w' hSw; (try dsimp only at hSw); go_simp; try with_reducible rfl)
      try simp only [Act.put, List.setIfInBounds_toArray, List.set_cons_zero, List.set_cons_succ]
      refine wpAnyEI_takeP [6, 7, 11] (plain_of (fun _ => trivial) (by kernel_rfl)) (i := 3) (v := .int .i64 d.r1) (by simp only [List.getElem?_toArray, List.getElem?_cons_succ, List.getElem?_cons_zero]; rfl) (by kernel_rfl) (by kernel_rfl) (by kernel_rfl) (by exact fun _ _ _ h => h) (by kernel_rfl) (Or.inl ⟨(by first | rfl | simp [Region.wanted, yielded] | (simp [Region.wanted, yielded, Act.put] <;> omega)), ?y3⟩) hH ?_
      case y3 => (intro w' hSw; have hc0 : w'.cell? ⟨V, 0, none⟩ = some (.int .i64 d.r1) := hSw.1.cell 0; clear hSw; go_simp; try with_reducible rfl)
      try simp only [Act.put, List.setIfInBounds_toArray, List.set_cons_zero, List.set_cons_succ]
      refine wpAnyEI_pure (plain_of (fun _ => trivial) (by kernel_rfl)) (i := 4) (v := ?vu4_10) (by simp only [List.getElem?_toArray, List.getElem?_cons_succ, List.getElem?_cons_zero]; rfl) (by kernel_rfl) (by kernel_rfl) (by kernel_rfl) (by exact fun _ _ _ h => h) (by kernel_rfl) (Or.inl ⟨by rfl, ?yu4_10⟩) hH ?_
      case yu4_10 => (intro w' hSw; (try dsimp only at hSw); go_simp; try with_reducible rfl)
      try simp only [Act.put, List.setIfInBounds_toArray, List.set_cons_zero, List.set_cons_succ]
      refine wpAnyEI_pure (plain_of (fun _ => trivial) (by kernel_rfl)) (i := 5) (v := ?vu5_11) (by simp only [List.getElem?_toArray, List.getElem?_cons_succ, List.getElem?_cons_zero]; rfl) (by kernel_rfl) (by kernel_rfl) (by kernel_rfl) (by exact fun _ _ _ h => h) (by kernel_rfl) (Or.inl ⟨by rfl, ?yu5_11⟩) hH ?_
      case yu5_11 => (intro w' hSw; (try dsimp only at hSw); go_simp; try with_reducible rfl)
      try simp only [Act.put, List.setIfInBounds_toArray, List.set_cons_zero, List.set_cons_succ]
      refine wpAnyEI_pure (plain_of (fun _ => trivial) (by kernel_rfl)) (i := 6) (v := ?vu6_12) (by simp only [List.getElem?_toArray, List.getElem?_cons_succ, List.getElem?_cons_zero]; rfl) (by kernel_rfl) (by kernel_rfl) (by kernel_rfl) (by exact fun _ _ _ h => h) (by kernel_rfl) (Or.inl ⟨by rfl, ?yu6_12⟩) hH ?_
      case yu6_12 => (intro w' hSw; (try dsimp only at hSw); go_simp; try with_reducible rfl)
      try simp only [Act.put, List.setIfInBounds_toArray, List.set_cons_zero, List.set_cons_succ]
      refine wpAnyEI_pure (plain_of (fun _ => trivial) (by kernel_rfl)) (i := 7) (v := ?vu7_13) (by simp only [List.getElem?_toArray, List.getElem?_cons_succ, List.getElem?_cons_zero]; rfl) (by kernel_rfl) (by kernel_rfl) (by kernel_rfl) (by exact fun _ _ _ h => h) (by kernel_rfl) (Or.inl ⟨by rfl, ?yu7_13⟩) hH ?_
      case yu7_13 => (intro w' hSw; (try dsimp only at hSw); go_simp; try with_reducible rfl)
      try simp only [Act.put, List.setIfInBounds_toArray, List.set_cons_zero, List.set_cons_succ]
      refine wpAnyEI_takeP [10, 11] (plain_of (fun _ => trivial) (by kernel_rfl)) (i := 8) (v := .agg #[.int .i64 g.s, .int .i64 g.l, .int .i64 g.c, .int .i64 g.sh, .slice A n cap]) (by simp only [List.getElem?_toArray, List.getElem?_cons_succ, List.getElem?_cons_zero]; rfl) (by kernel_rfl) (by kernel_rfl) (by kernel_rfl) (by exact fun _ _ _ h => h) (by kernel_rfl) ?y8 hH ?_
      case y8 => exact yields_box 26 _ rfl (B2) rfl 26 #[.int .i64 g.s, .int .i64 g.l, .int .i64 g.c, .int .i64 g.sh, .slice A n cap] (fun _ h => h.2) _ Tryz.underlying26 rfl (by kernel_rfl) (by first | rfl | simp [Region.wanted, yielded] | (simp [Region.wanted, yielded, Act.put] <;> omega))
      try simp only [Act.put, List.setIfInBounds_toArray, List.set_cons_zero, List.set_cons_succ]
      refine wpAnyEI_takeP [10, 11] (plain_of (fun _ => trivial) (by kernel_rfl)) (i := 9) (v := .agg #[.int .i64 d.r1, .int .i64 d.r2, .int .i64 d.r3, .int .i64 d.r4, .int .i64 d.r5, .int .i64 d.r6, .int .i64 d.r7, .slice Lk mk mck, .int .i64 d.r8]) (by simp only [List.getElem?_toArray, List.getElem?_cons_succ, List.getElem?_cons_zero]; rfl) (by kernel_rfl) (by kernel_rfl) (by kernel_rfl) (by exact fun _ _ _ h => h) (by kernel_rfl) ?y9 hH ?_
      case y9 => exact yields_box 42 _ rfl (V) rfl 42 #[.int .i64 d.r1, .int .i64 d.r2, .int .i64 d.r3, .int .i64 d.r4, .int .i64 d.r5, .int .i64 d.r6, .int .i64 d.r7, .slice Lk mk mck, .int .i64 d.r8] (fun _ h => h.1) _ Tryz.underlying42 rfl (by kernel_rfl) (by first | rfl | simp [Region.wanted, yielded] | (simp [Region.wanted, yielded, Act.put] <;> omega))
      try simp only [Act.put, List.setIfInBounds_toArray, List.set_cons_zero, List.set_cons_succ]
      refine wpAnyEI_one (i := 10) (by kernel_rfl) (by simp only [List.getElem?_toArray, List.getElem?_cons_succ, List.getElem?_cons_zero]; rfl) (fun K' hK => ?_)
      have HH := Lib.hid hH
      clear hH
      go_simp
      refine ⟨trivial, ?_⟩
      refine (callsIn_wide.2 (recOk_is HB.out A n cap Lk mk mck w2 HM.out ((HRw.out.below HE.out (Nat.le_refl _)).more HE.out.size) hmk4 (HPw.out.later HE.out))).mono ?_
      rintro e w3 ⟨rfl, hb⟩
      replace HE := Lib.hid (bel_trans HE.out hb)
      refine hK.out _ _ ⟨HH.out.1.later hb HH.out.1.lt, HH.out.2.later hb HH.out.2.lt⟩ (fun hH => ?_)
      clear hK K' HH hb
      try simp only [Act.put, List.setIfInBounds_toArray, List.set_cons_zero, List.set_cons_succ]
      refine wpAnyEI_pure (plain_of (fun _ => trivial) (by kernel_rfl)) (i := 11) (v := ?vu11_14) (by simp only [List.getElem?_toArray, List.getElem?_cons_succ, List.getElem?_cons_zero]; rfl) (by kernel_rfl) (by kernel_rfl) (by kernel_rfl) (by exact fun _ _ _ h => h) (by kernel_rfl) (Or.inl ⟨by rfl, ?yu11_14⟩) hH ?_
      case yu11_14 => (intro w' hSw; (try dsimp only at hSw); go_simp; try with_reducible rfl)
      try simp only [Act.put, List.setIfInBounds_toArray, List.set_cons_zero, List.set_cons_succ]
      obtain ⟨fnY, tmpsY, assignY, bodyY, hy, hRd⟩ := HY.out w3 (AbidesFrom.later HJ.out HJk.out HE.out)
      refine wpAnyEI_any (i := 12) (by kernel_rfl) (by simp only [List.getElem?_toArray, List.getElem?_cons_succ, List.getElem?_cons_zero]; rfl) (by kernel_rfl) (fun K' hK => ?_)
      clear hH
      go_simp
      refine hRd.mono ?_
      rintro e W3 (⟨rfl, hJ3, hk3⟩ | ⟨rfl, hJx3⟩)
      · skip
        refine hK.out _ _ ?_
        clear hK K' hy hRd
        try simp only [Act.put, List.setIfInBounds_toArray, List.set_cons_zero, List.set_cons_succ]
        refine wpAnyEI_any (i := 13) (by kernel_rfl) (by simp only [List.getElem?_toArray, List.getElem?_cons_succ, List.getElem?_cons_zero]; rfl) (by kernel_rfl) (fun K' hK => ?_)
        go_simp
        refine hK.out _ _ (wpAnyEI_nil (by kernel_rfl) ?_)
        clear hK K'
        try simp only [Act.put, List.setIfInBounds_toArray, List.set_cons_zero, List.set_cons_succ]
        have HK3 := Lib.hid ((KeepC.of_below (G := G) (N := N) HE.out).trans hk3)
        have HJ3 := Lib.hid hJ3
        clear hJ3 hk3 HE
        gi_wp2
        go_roundw
        case rel => exact ⟨k + 1, by omega, by go_num, HJ3.out, HT.out.trans HK3.out⟩
        case measure => simp [intOf]; omega
      · skip
        refine hK.out _ _ ?_
        clear hK K' hy hRd
        try simp only [Act.put, List.setIfInBounds_toArray, List.set_cons_zero, List.set_cons_succ]
        refine wpAnyEI_any (i := 13) (by kernel_rfl) (by simp only [List.getElem?_toArray, List.getElem?_cons_succ, List.getElem?_cons_zero]; rfl) (by kernel_rfl) (fun K' hK => ?_)
        go_simp
        refine hK.out _ _ (wpAnyEI_nil (by kernel_rfl) ?_)
        clear hK K'
        try simp only [Act.put, List.setIfInBounds_toArray, List.set_cons_zero, List.set_cons_succ]
        have HJ3 := Lib.hid hJx3
        clear hJx3 HE
        gi_wp2
        refine bodyPost_ret (results_none rfl _ _ _) rfl ?_
        exact ⟨⟨_, rfl⟩, .inr ⟨firsts ds.length (k + 1), firsts_pre _ _, HJ3.out⟩⟩
    have hkn : k = ln := by omega
    subst hkn
    gi_wp2
    go_end0
    exact ⟨⟨_, rfl⟩, .inl ⟨_, by rw [← firsts_all, HL.out], HJk.out⟩⟩

end Go.Proofs.YtmooajppfjglaaaGreat

/- A block of shelves of one's own: each with its lists in blocks of its own; read, written, made anew; no conditions. -/
namespace Go.Proofs.YtmooajppfjglaaaGreat
open Go Go.RowKit

theorem turns_cell5 (w : World) (g o : Nat) (u : Value) : Turns (· = g) w (w.setCell ⟨g, o, none⟩ u) :=
  ⟨rfl, rfl, rfl, by rw [size_set]; exact Nat.le_refl _, fun i _ hne => Below.heap_setCell w ⟨g, o, none⟩ u i hne⟩
/-- The block g holds these shelves; the lists of the one at place i lie in blocks of Fs i, apart from all others'. -/
structure RegsAt (P : RegD → World → (Nat → Prop) → Value → Prop) (w : World) (g : Nat) (rs : List RegD) (Fs : Nat → Nat → Prop) : Prop where
  blk : ∃ cs, Box w g 40 cs ∧ cs.size = rs.length * 5 ∧ ∀ i (h : i < rs.length), ∃ u v, cs[i * 5]? = some (.int .i64 (rs[i]).t) ∧ cs[i * 5 + 1]? = some (.int .i64 (rs[i]).q) ∧ cs[i * 5 + 2]? = some (.int .i64 (rs[i]).v) ∧ cs[i * 5 + 3]? = some u ∧ cs[i * 5 + 4]? = some v ∧
    P rs[i] w (Fs i) (.agg #[.int .i64 (rs[i]).t, .int .i64 (rs[i]).q, .int .i64 (rs[i]).v, u, v])
  apart : ∀ i, i < rs.length → ∀ b, Fs i b → b ≠ g
  two : ∀ i j, i < rs.length → j < rs.length → i ≠ j → ∀ b, Fs i b → ¬ Fs j b
section
variable {P : RegD → World → (Nat → Prop) → Value → Prop}
theorem RegsAt.lt {w : World} {g : Nat} {rs : List RegD} {Fs : Nat → Nat → Prop} (h : RegsAt P w g rs Fs) : g < w.heap.size := by
  obtain ⟨cs, hb, _⟩ := h.blk
  exact hb.lt
variable (kp : ∀ d, Keeps (P d))
include kp in
theorem RegsAt.turn {w w' : World} {g : Nat} {rs : List RegD} {Fs : Nat → Nat → Prop} {T : Nat → Prop} (h : RegsAt P w g rs Fs) (ht : Turns T w w') (hg : ¬ T g) (hF : ∀ i, i < rs.length → ∀ b, Fs i b → ¬ T b) : RegsAt P w' g rs Fs := by
  obtain ⟨cs, hb, hs, hc⟩ := h.blk
  refine ⟨⟨cs, hb.turn ht hg, hs, fun i hi => ?_⟩, h.apart, h.two⟩
  obtain ⟨u, v, c0, c1, c2, c3, c4, hL⟩ := hc i hi
  exact ⟨u, v, c0, c1, c2, c3, c4, (kp _).turn hL ht (hF i hi)⟩
include kp in
theorem RegsAt.later {w w' : World} {g : Nat} {rs : List RegD} {Fs : Nat → Nat → Prop} (h : RegsAt P w g rs Fs) (hb : Below w.heap.size w w') : RegsAt P w' g rs Fs :=
  RegsAt.turn kp h (T := fun _ => False) (Turns.of_below hb) (fun h => h) (fun _ _ _ _ h => h)
/-- One of them, read: its cells, and what they are. -/
theorem RegsAt.get {w : World} {g : Nat} {rs : List RegD} {Fs : Nat → Nat → Prop} (h : RegsAt P w g rs Fs) {i : Nat} (hi : i < rs.length) :
    ∃ u v, w.cell? ⟨g, i * 5, none⟩ = some (.int .i64 (rs[i]).t) ∧ w.cell? ⟨g, i * 5 + 1, none⟩ = some (.int .i64 (rs[i]).q) ∧ w.cell? ⟨g, i * 5 + 2, none⟩ = some (.int .i64 (rs[i]).v) ∧ w.cell? ⟨g, i * 5 + 3, none⟩ = some u ∧ w.cell? ⟨g, i * 5 + 4, none⟩ = some v ∧
      P rs[i] w (Fs i) (.agg #[.int .i64 (rs[i]).t, .int .i64 (rs[i]).q, .int .i64 (rs[i]).v, u, v]) := by
  obtain ⟨cs, hb, hs, hc⟩ := h.blk
  obtain ⟨u, v, c0, c1, c2, c3, c4, hL⟩ := hc i hi
  exact ⟨u, v, (hb.cell _).trans c0, (hb.cell _).trans c1, (hb.cell _).trans c2, (hb.cell _).trans c3, (hb.cell _).trans c4, hL⟩
theorem RegsAt.frozen {w : World} {g : Nat} {rs : List RegD} {Fs : Nat → Nat → Prop} (h : RegsAt P w g rs Fs) (o : Nat) : w.frozen? ⟨g, o, none⟩ = false := by
  obtain ⟨cs, hb, _⟩ := h.blk
  exact hb.frozen o
theorem set5 (cs : Array Value) (i : Nat) (x0 x1 x2 x3 x4 : Value) (h : i * 5 + 4 < cs.size) (cs' : Array Value) (hcs : cs' = ((((cs.setIfInBounds (i * 5) x0).setIfInBounds (i * 5 + 1) x1).setIfInBounds (i * 5 + 2) x2).setIfInBounds (i * 5 + 3) x3).setIfInBounds (i * 5 + 4) x4) :
    cs'.size = cs.size ∧ (cs'[i * 5]? = some x0 ∧ cs'[i * 5 + 1]? = some x1 ∧ cs'[i * 5 + 2]? = some x2 ∧ cs'[i * 5 + 3]? = some x3 ∧ cs'[i * 5 + 4]? = some x4) ∧ ∀ k, (k < i * 5 ∨ i * 5 + 4 < k) → cs'[k]? = cs[k]? := by
  subst hcs
  refine ⟨by simp, ⟨?_, ?_, ?_, ?_, ?_⟩, fun k hk => ?_⟩
  all_goals simp only [Array.getElem?_setIfInBounds, Array.size_setIfInBounds]
  · rw [if_neg (by omega), if_neg (by omega), if_neg (by omega), if_neg (by omega), if_pos trivial, if_pos (by omega)]
  · rw [if_neg (by omega), if_neg (by omega), if_neg (by omega), if_pos trivial, if_pos (by omega)]
  · rw [if_neg (by omega), if_neg (by omega), if_pos trivial, if_pos (by omega)]
  · rw [if_neg (by omega), if_pos trivial, if_pos (by omega)]
  · rw [if_pos trivial, if_pos (by omega)]
  · rw [if_neg (by omega), if_neg (by omega), if_neg (by omega), if_neg (by omega), if_neg (by omega)]
def upF (Fs : Nat → Nat → Prop) (i : Nat) (F : Nat → Prop) : Nat → Nat → Prop := fun j => if j = i then F else Fs j
include kp in
/-- One of them is written anew. -/
theorem RegsAt.put {w : World} {g : Nat} {rs : List RegD} {Fs : Nat → Nat → Prop} (h : RegsAt P w g rs Fs) {i : Nat} (hi : i < rs.length) {d : RegD} {F : Nat → Prop} {u v : Value} (hL : P d w F (.agg #[.int .i64 d.t, .int .i64 d.q, .int .i64 d.v, u, v])) (hg : ∀ b, F b → b ≠ g) (ho : ∀ j, j < rs.length → j ≠ i → ∀ b, F b → ¬ Fs j b) :
    RegsAt P (((((w.setCell ⟨g, i * 5, none⟩ (.int .i64 d.t)).setCell ⟨g, i * 5 + 1, none⟩ (.int .i64 d.q)).setCell ⟨g, i * 5 + 2, none⟩ (.int .i64 d.v)).setCell ⟨g, i * 5 + 3, none⟩ u).setCell ⟨g, i * 5 + 4, none⟩ v) g (rs.set i d) (upF Fs i F) := by
  obtain ⟨cs, hb, hs, hc⟩ := h.blk
  have hb' := ((((hb.set (i * 5) (.int .i64 d.t)).set (i * 5 + 1) (.int .i64 d.q)).set (i * 5 + 2) (.int .i64 d.v)).set (i * 5 + 3) u).set (i * 5 + 4) v
  obtain ⟨s1, ⟨n0, n1, n2, n3, n4⟩, s3⟩ := set5 cs i (.int .i64 d.t) (.int .i64 d.q) (.int .i64 d.v) u v (by omega) _ rfl
  have t5 : Turns (· = g) w (((((w.setCell ⟨g, i * 5, none⟩ (.int .i64 d.t)).setCell ⟨g, i * 5 + 1, none⟩ (.int .i64 d.q)).setCell ⟨g, i * 5 + 2, none⟩ (.int .i64 d.v)).setCell ⟨g, i * 5 + 3, none⟩ u).setCell ⟨g, i * 5 + 4, none⟩ v) :=
    ((((turns_cell5 w g _ _).trans (turns_cell5 _ g _ _)).trans (turns_cell5 _ g _ _)).trans (turns_cell5 _ g _ _)).trans (turns_cell5 _ g _ _)
  refine ⟨⟨_, hb', by rw [s1, hs, List.length_set], fun j hj => ?_⟩, fun j hj b hbj => ?_, fun j k hj hk hjk b hbj hbk => ?_⟩
  · rw [List.length_set] at hj
    by_cases e : j = i
    · subst e
      simp only [List.getElem_set_self]
      refine ⟨u, v, n0, n1, n2, n3, n4, ?_⟩
      simp only [upF, if_true]
      exact (kp d).turn hL t5 hg
    · simp only [List.getElem_set_ne (Ne.symm e)]
      obtain ⟨u', v', c0, c1, c2, c3, c4, hLj⟩ := hc j hj
      refine ⟨u', v', (s3 _ (by omega)).trans c0, (s3 _ (by omega)).trans c1, (s3 _ (by omega)).trans c2, (s3 _ (by omega)).trans c3, (s3 _ (by omega)).trans c4, ?_⟩
      simp only [upF, if_neg e]
      exact (kp _).turn hLj t5 (h.apart j hj)
  · rw [List.length_set] at hj
    unfold upF at hbj
    split at hbj
    · exact hg b hbj
    · exact h.apart j hj b hbj
  · rw [List.length_set] at hj hk
    unfold upF at hbj hbk
    split at hbj <;> split at hbk
    · omega
    · exact ho k hk (by assumption) b hbj hbk
    · exact ho j hj (by assumption) b hbk hbj
    · exact h.two j k hj hk hjk b hbj hbk
/-- Shelves of one's own behind lo: no list lies below it. -/
def RegsOwn (P : RegD → World → (Nat → Prop) → Value → Prop) (w : World) (g lo : Nat) (rs : List RegD) : Prop :=
  lo ≤ g ∧ ∃ Fs, RegsAt P w g rs Fs ∧ ∀ i, i < rs.length → ∀ b, Fs i b → lo ≤ b ∧ b < w.heap.size
include kp in
theorem RegsOwn.turn {w w' : World} {g lo : Nat} {rs : List RegD} {T : Nat → Prop} (h : RegsOwn P w g lo rs) (ht : Turns T w w') (hT : ∀ b, T b → b < lo) : RegsOwn P w' g lo rs := by
  obtain ⟨hg, Fs, hR, hF⟩ := h
  exact ⟨hg, Fs, RegsAt.turn kp hR ht (fun h => by have := hT _ h; omega) (fun i hi b hb hb2 => by have := hT b hb2; have := (hF i hi b hb).1; omega), fun i hi b hb => ⟨(hF i hi b hb).1, Nat.lt_of_lt_of_le (hF i hi b hb).2 ht.size⟩⟩
include kp in
theorem RegsOwn.later {w w' : World} {g lo : Nat} {rs : List RegD} (h : RegsOwn P w g lo rs) (hb : Below w.heap.size w w') : RegsOwn P w' g lo rs := RegsOwn.turn kp h (T := fun _ => False) (Turns.of_below hb) (fun _ h => h.elim)
include kp in
/-- One of them is written anew, with new lists. -/
theorem RegsOwn.put {w w1 : World} {g lo : Nat} {rs : List RegD} (h : RegsOwn P w g lo rs) (hb : Below w.heap.size w w1) {i : Nat} (hi : i < rs.length) {d : RegD} {u v : Value} (hL : P d w1 (Iv w.heap.size w1.heap.size) (.agg #[.int .i64 d.t, .int .i64 d.q, .int .i64 d.v, u, v])) :
    RegsOwn P (((((w1.setCell ⟨g, i * 5, none⟩ (.int .i64 d.t)).setCell ⟨g, i * 5 + 1, none⟩ (.int .i64 d.q)).setCell ⟨g, i * 5 + 2, none⟩ (.int .i64 d.v)).setCell ⟨g, i * 5 + 3, none⟩ u).setCell ⟨g, i * 5 + 4, none⟩ v) g lo (rs.set i d) := by
  obtain ⟨hg, Fs, hR, hF⟩ := h
  have hlt := hR.lt
  have hR1 := RegsAt.later kp hR hb
  refine ⟨hg, _, RegsAt.put kp hR1 hi hL (fun b hb1 => by have := hb1.1; omega) (fun j hj _ b hb1 hb2 => by have := hb1.1; have := (hF j hj b hb2).2; omega), fun j hj b hb1 => ?_⟩
  rw [List.length_set] at hj
  simp only [size_set]
  unfold upF at hb1
  split at hb1
  · exact ⟨by have := hb1.1; omega, hb1.2⟩
  · have := hF j hj b hb1
    have := hb.size
    omega
end
/-- A value reads as a shelf, whose lists the model can take parts of. -/
def AtW (d : RegD) (w : World) (F : Nat → Prop) (v : Value) : Prop :=
  ∃ (A : Option Addr) (n cap : Nat) (A' : Option Addr) (n' cap' : Nat), v = .agg #[.int .i64 d.t, .int .i64 d.q, .int .i64 d.v, .slice A n cap, .slice A' n' cap'] ∧ n ≤ maxLen ∧ n' ≤ maxLen ∧ PairsF w F A n d.ps ∧ QuadsF w F A' n' d.os ∧
    ((∃ b o, A = some ⟨b, o, none⟩) ∨ (A = none ∧ n = 0 ∧ cap = 0)) ∧ ((∃ b o, A' = some ⟨b, o, none⟩ ∧ n' ≤ cap' ∧ cap' ≤ maxLen) ∨ (A' = none ∧ n' = 0 ∧ cap' = 0))
theorem AtW.at {d : RegD} {w : World} {F : Nat → Prop} {v : Value} (h : AtW d w F v) : AtR d w F v := by
  obtain ⟨A, n, cap, A', n', cap', e, h1, h2, h3, h4, -⟩ := h
  exact ⟨A, n, cap, A', n', cap', e, h1, h2, h3, h4⟩
theorem keepsW (d : RegD) : Keeps (AtW d) :=
  ⟨fun ⟨A, n, c, A', n', c', e, h1, h2, h3, h4, h5⟩ ht hd => ⟨A, n, c, A', n', c', e, h1, h2, h3.turn ht hd, h4.turn ht hd, h5⟩, fun ⟨A, n, c, A', n', c', e, h1, h2, h3, h4, h5⟩ hs => ⟨A, n, c, A', n', c', e, h1, h2, ⟨h3.1, fun hn b o e => hs b (h3.2 hn b o e)⟩, ⟨h4.1, fun hn b o e => hs b (h4.2 hn b o e)⟩, h5⟩⟩
theorem AtW.slc {d : RegD} {w : World} {F : Nat → Prop} {u v : Value} (h : AtW d w F (.agg #[.int .i64 d.t, .int .i64 d.q, .int .i64 d.v, u, v])) : ∃ (A : Option Addr) (n c : Nat) (A' : Option Addr) (n' c' : Nat), u = .slice A n c ∧ v = .slice A' n' c' ∧ Slc w (.slice A n c) d.ps ∧ SlcQ w (.slice A' n' c') d.os ∧ d.ps.length = n ∧ d.os.length = n' := by
  obtain ⟨A, n, c, A', n', c', e, h1, h2, h3, h4, h5, h6⟩ := h
  have l1 : d.ps.length = n := h3.1.1
  have l2 : d.os.length = n' := h4.1.1
  injection e with e
  injection e with e
  simp only [List.cons.injEq, and_true, true_and] at e
  refine ⟨A, n, c, A', n', c', e.1, e.2, ?_, ?_, l1, l2⟩
  · rcases h5 with ⟨b, o, rfl⟩ | ⟨rfl, rfl, rfl⟩
    · exact .inr ⟨b, o, n, c, rfl, h3.1⟩
    · exact .inl ⟨rfl, List.eq_nil_of_length_eq_zero l1⟩
  · rcases h6 with ⟨b, o, rfl, h7, h8⟩ | ⟨rfl, rfl, rfl⟩
    · exact .inr ⟨b, o, n', c', rfl, h7, h8, h4.1⟩
    · exact .inl ⟨rfl, List.eq_nil_of_length_eq_zero l2⟩
theorem LieR.atW {d : RegD} {w : World} {F : Nat → Prop} {v : Value} (h : LieR d w F v) : AtW d w F v := by
  obtain ⟨A, n, c, A', n', c', lo, B, hi, e, h1, h2, o1, o2, o3, hF⟩ := h
  have h := LieR.at ⟨A, n, c, A', n', c', lo, B, hi, e, h1, h2, o1, o2, o3, hF⟩
  obtain ⟨A1, n1, c1, A1', n1', c1', e1, m1, m2, p1, p2⟩ := h
  rw [e] at e1
  injection e1 with e1
  injection e1 with e1
  simp only [List.cons.injEq, Value.slice.injEq, and_true, true_and] at e1
  obtain ⟨⟨rfl, rfl, rfl⟩, rfl, rfl, rfl⟩ := e1
  refine ⟨A, n, c, A', n', c', e, m1, m2, p1, p2, ?_, ?_⟩
  · rcases h1 with ⟨h, _⟩ | ⟨g, cap, _, _, h, _⟩
    · injection h with a b c
      exact .inr ⟨a, b, c⟩
    · injection h with a b c
      exact .inl ⟨g, 0, a⟩
  · rcases h2 with ⟨h, _⟩ | ⟨g, cap, _, _, h, h3, h4, _⟩
    · injection h with a b c
      exact .inr ⟨a, b, c⟩
    · injection h with a b c
      exact .inl ⟨g, 0, a, by omega, by omega⟩
/-- Shelves that nothing was done to yet. -/
theorem regs_new (P : RegD → World → (Nat → Prop) → Value → Prop) (hz : ∀ w, P ⟨0, 0, 0, [], []⟩ w (fun _ => False) (.agg #[.int .i64 0, .int .i64 0, .int .i64 0, .slice none 0 0, .slice none 0 0])) (w : World) (n : Nat) :
    RegsOwn P (w.alloc (.cells (madeCells #[.int .i64 0, .int .i64 0, .int .i64 0, .slice none 0 0, .slice none 0 0] (n * 5)) 40)) w.heap.size w.heap.size (List.replicate n ⟨0, 0, 0, [], []⟩) := by
  refine ⟨Nat.le_refl _, fun _ _ => False, ⟨⟨_, Box.new w _ _, by simp [size_madeCells], fun i hi => ?_⟩, fun _ _ _ h => h.elim, fun _ _ _ _ _ _ h => h.elim⟩, fun _ _ _ h => h.elim⟩
  rw [List.length_replicate] at hi
  simp only [List.getElem_replicate]
  refine ⟨.slice none 0 0, .slice none 0 0, ?_, ?_, ?_, ?_, ?_, hz _⟩
  · simp [madeCells, show i * 5 < n * 5 by omega]
  · simp [madeCells, show i * 5 + 1 < n * 5 by omega, show (i * 5 + 1) % 5 = 1 by omega]
  · simp [madeCells, show i * 5 + 2 < n * 5 by omega, show (i * 5 + 2) % 5 = 2 by omega]
  · simp [madeCells, show i * 5 + 3 < n * 5 by omega, show (i * 5 + 3) % 5 = 3 by omega]
  · simp [madeCells, show i * 5 + 4 < n * 5 by omega, show (i * 5 + 4) % 5 = 4 by omega]
theorem zeroW (w : World) : AtW ⟨0, 0, 0, [], []⟩ w (fun _ => False) (.agg #[.int .i64 0, .int .i64 0, .int .i64 0, .slice none 0 0, .slice none 0 0]) :=
  ⟨none, 0, 0, none, 0, 0, rfl, Nat.zero_le _, Nat.zero_le _, ⟨⟨rfl, fun h => absurd h (by omega)⟩, fun h => absurd h (by omega)⟩, ⟨⟨rfl, fun h => absurd h (by omega)⟩, fun h => absurd h (by omega)⟩, .inr ⟨rfl, rfl, rfl⟩, .inr ⟨rfl, rfl, rfl⟩⟩
theorem zeroL (w : World) : LieR ⟨0, 0, 0, [], []⟩ w (fun _ => False) (.agg #[.int .i64 0, .int .i64 0, .int .i64 0, .slice none 0 0, .slice none 0 0]) :=
  ⟨none, 0, 0, none, 0, 0, 0, 0, 0, rfl, .inl ⟨rfl, rfl⟩, .inl ⟨rfl, rfl⟩, Nat.le_refl _, Nat.le_refl _, Nat.zero_le _, fun b hb => by unfold Iv at hb; omega⟩
end Go.Proofs.YtmooajppfjglaaaGreat

namespace Go.Proofs.YtmooajppfjglaaaGreat
open Go Go.RowKit Go.Shelf

/-- Whatever was cells lies as it lay. -/
structure CellsK (w w' : World) : Prop where
  size : w.heap.size ≤ w'.heap.size
  block : ∀ (i : Nat) (o : Obj), w.heap[i]? = some o → o.isCells = true → w'.heap[i]? = some o
theorem CellsK.same {w w' : World} (h : CellsK w w') {a : Addr} {v : Value} (hc : w.cell? a = some v) : w'.heap[a.block]? = w.heap[a.block]? := by
  unfold World.cell? at hc
  rcases ho : w.heap[a.block]? with _ | o
  · rw [ho] at hc; cases hc
  · rw [ho] at hc
    cases o with
    | cells c e f => exact h.block _ _ ho rfl
    | _ => simp at hc
theorem CellsK.cell {w w' : World} (h : CellsK w w') {a : Addr} {v : Value} (hc : w.cell? a = some v) : w'.cell? a = some v := (World.cell?_of_block (h.same hc)).trans hc
theorem CellsK.box {w w' : World} (h : CellsK w w') {g : Nat} {t : TypeId} {cs : Array Value} (hx : Box w g t cs) : Box w' g t cs := h.block g _ hx rfl
theorem CellsK.held {w w' : World} (h : CellsK w w') {g : Nat} {d : List (Int × Int)} (hx : Held w g d) (hd : 0 < d.length) : Held w' g d := by
  have hs := h.same (hx.at0 0 hd)
  exact ⟨Nat.lt_of_lt_of_le hx.lt h.size, fun o => (World.frozen?_of_block (a := ⟨g, o, none⟩) hs).trans (hx.fr o), fun i hi => (World.cell?_of_block (a := ⟨g, i * 2, none⟩) hs).trans (hx.at0 i hi), fun i hi => (World.cell?_of_block (a := ⟨g, i * 2 + 1, none⟩) hs).trans (hx.at1 i hi)⟩
theorem CellsK.heldQ {w w' : World} (h : CellsK w w') {g : Nat} {d : List Opn} (hx : HeldQ w g d) (hd : 0 < d.length) : HeldQ w' g d := by
  have hs := h.same (hx.cs 0 hd).1
  exact hx.keep (Nat.lt_of_lt_of_le hx.lt h.size) (fun o => World.frozen?_of_block (a := ⟨g, o, none⟩) hs) (fun o => World.cell?_of_block (a := ⟨g, o, none⟩) hs)
theorem cellsK_own {w w' : World} {row : Option Nat} (hg : w.grownBy w' row) (hr : ∀ r, row = some r → ∃ o : Obj, w.heap[r]? = some o ∧ o.isCells = false) : CellsK w w' :=
  ⟨hg.size, fun i o hi hc => (hg.block i (Array.getElem?_eq_some_iff.1 hi).1 (fun e => by
    obtain ⟨o', ho, hc'⟩ := hr i e.symm
    rw [hi] at ho
    injection ho with ho
    subst ho
    rw [hc] at hc'
    cases hc')).trans hi⟩

/-- A list in a block of its own, or an empty one. -/
def ResE (w : World) (lo hi : Nat) (u : Value) (D : List (Int × Int)) : Prop :=
  (u = .slice none 0 0 ∧ D = []) ∨ ∃ g cap, lo ≤ g ∧ g < hi ∧ u = .slice (some ⟨g, 0, none⟩) D.length cap ∧ D.length ≤ cap ∧ cap ≤ maxLen ∧ (0 < D.length → Held w g D)
def ResEQ (w : World) (lo hi : Nat) (u : Value) (D : List Opn) : Prop :=
  (u = .slice none 0 0 ∧ D = []) ∨ ∃ g cap, lo ≤ g ∧ g < hi ∧ u = .slice (some ⟨g, 0, none⟩) D.length cap ∧ D.length ≤ cap ∧ cap ≤ maxLen ∧ (0 < D.length → HeldQ w g D)
theorem ResE.turn {T : Nat → Prop} {w w' : World} {lo hi : Nat} {v : Value} {ps : List (Int × Int)} (h : ResE w lo hi v ps) (ht : Turns T w w') (hd : ∀ b, Iv lo hi b → ¬ T b) : ResE w' lo hi v ps := by
  rcases h with h | ⟨g, cap, h0, h0', h1, h2, h3, h4⟩
  · exact .inl h
  · exact .inr ⟨g, cap, h0, h0', h1, h2, h3, fun hp => (h4 hp).turn ht (hd g ⟨h0, h0'⟩)⟩
theorem ResEQ.turn {T : Nat → Prop} {w w' : World} {lo hi : Nat} {v : Value} {ps : List Opn} (h : ResEQ w lo hi v ps) (ht : Turns T w w') (hd : ∀ b, Iv lo hi b → ¬ T b) : ResEQ w' lo hi v ps := by
  rcases h with h | ⟨g, cap, h0, h0', h1, h2, h3, h4⟩
  · exact .inl h
  · exact .inr ⟨g, cap, h0, h0', h1, h2, h3, fun hp => (h4 hp).turn ht (hd g ⟨h0, h0'⟩)⟩
theorem ResE.cells {w w' : World} {lo hi : Nat} {v : Value} {ps : List (Int × Int)} (h : ResE w lo hi v ps) (hk : CellsK w w') : ResE w' lo hi v ps := by
  rcases h with h | ⟨g, cap, h0, h0', h1, h2, h3, h4⟩
  · exact .inl h
  · exact .inr ⟨g, cap, h0, h0', h1, h2, h3, fun hp => hk.held (h4 hp) hp⟩
theorem ResEQ.cells {w w' : World} {lo hi : Nat} {v : Value} {ps : List Opn} (h : ResEQ w lo hi v ps) (hk : CellsK w w') : ResEQ w' lo hi v ps := by
  rcases h with h | ⟨g, cap, h0, h0', h1, h2, h3, h4⟩
  · exact .inl h
  · exact .inr ⟨g, cap, h0, h0', h1, h2, h3, fun hp => hk.heldQ (h4 hp) hp⟩
theorem ResE.slc {w : World} {lo hi : Nat} {A : Option Addr} {n c : Nat} {ps : List (Int × Int)} (h : ResE w lo hi (.slice A n c) ps) : Slc w (.slice A n c) ps ∧ ps.length = n := by
  rcases h with ⟨h, rfl⟩ | ⟨g, cap, h0, h0', h1, h2, h3, h4⟩
  · injection h with h1 h2 h3
    exact ⟨.inl ⟨by rw [h1, h2, h3], rfl⟩, h2.symm⟩
  · injection h1 with e1 e2 e3
    subst e1 e2 e3
    refine ⟨.inr ⟨g, 0, _, _, rfl, ?_⟩, rfl⟩
    by_cases hp : 0 < ps.length
    · exact (h4 hp).pairs
    · exact ⟨rfl, fun h => absurd h hp⟩
theorem ResEQ.slc {w : World} {lo hi : Nat} {A : Option Addr} {n c : Nat} {ps : List Opn} (h : ResEQ w lo hi (.slice A n c) ps) : SlcQ w (.slice A n c) ps ∧ ps.length = n := by
  rcases h with ⟨h, rfl⟩ | ⟨g, cap, h0, h0', h1, h2, h3, h4⟩
  · injection h with h1 h2 h3
    exact ⟨.inl ⟨by rw [h1, h2, h3], rfl⟩, h2.symm⟩
  · injection h1 with e1 e2 e3
    subst e1 e2 e3
    refine ⟨.inr ⟨g, 0, _, _, rfl, h2, h3, ?_⟩, rfl⟩
    by_cases hp : 0 < ps.length
    · exact (h4 hp).quads
    · exact ⟨rfl, fun h => absurd h hp⟩
/-- A shelf of one's own, but for empty lists. -/
def LieE (d : RegD) (w : World) (F : Nat → Prop) (v : Value) : Prop := ∃ (A : Option Addr) (n c : Nat) (A' : Option Addr) (n' c' lo B hi : Nat), v = .agg #[.int .i64 d.t, .int .i64 d.q, .int .i64 d.v, .slice A n c, .slice A' n' c'] ∧ ResE w lo B (.slice A n c) d.ps ∧ ResEQ w B hi (.slice A' n' c') d.os ∧ lo ≤ B ∧ B ≤ hi ∧ hi ≤ w.heap.size ∧ ∀ b, Iv lo hi b → F b
theorem keepsLE (d : RegD) : Keeps (LieE d) :=
  ⟨fun ⟨A, n, c, A', n', c', lo, B, hi, e, h1, h2, o1, o2, o3, hF⟩ ht hd => ⟨A, n, c, A', n', c', lo, B, hi, e, h1.turn ht (fun b hb => hd b (hF b (iv_sub (Nat.le_refl _) o2 b hb))), h2.turn ht (fun b hb => hd b (hF b (iv_sub o1 (Nat.le_refl _) b hb))), o1, o2, Nat.le_trans o3 ht.size, hF⟩,
   fun ⟨A, n, c, A', n', c', lo, B, hi, e, h1, h2, o1, o2, o3, hF⟩ hs => ⟨A, n, c, A', n', c', lo, B, hi, e, h1, h2, o1, o2, o3, fun b hb => hs b (hF b hb)⟩⟩
theorem LieE.cells {d : RegD} {w w' : World} {F : Nat → Prop} {v : Value} (h : LieE d w F v) (hk : CellsK w w') : LieE d w' F v := by
  obtain ⟨A, n, c, A', n', c', lo, B, hi, e, h1, h2, o1, o2, o3, hF⟩ := h
  exact ⟨A, n, c, A', n', c', lo, B, hi, e, h1.cells hk, h2.cells hk, o1, o2, Nat.le_trans o3 hk.size, hF⟩
theorem LieR.lieE {d : RegD} {w : World} {F : Nat → Prop} {v : Value} (h : LieR d w F v) : LieE d w F v := by
  obtain ⟨A, n, c, A', n', c', lo, B, hi, e, h1, h2, o1, o2, o3, hF⟩ := h
  refine ⟨A, n, c, A', n', c', lo, B, hi, e, ?_, ?_, o1, o2, o3, hF⟩
  · rcases h1 with h | ⟨g, cap, h0, h0', h1, h2, h3, h4⟩
    · exact .inl h
    · exact .inr ⟨g, cap, h0, h0', h1, h2, h3, fun _ => h4⟩
  · rcases h2 with h | ⟨g, cap, h0, h0', h1, h2, h3, h4⟩
    · exact .inl h
    · exact .inr ⟨g, cap, h0, h0', h1, h2, h3, fun _ => h4⟩
theorem zeroE (w : World) : LieE ⟨0, 0, 0, [], []⟩ w (fun _ => False) (.agg #[.int .i64 0, .int .i64 0, .int .i64 0, .slice none 0 0, .slice none 0 0]) := (zeroL w).lieE
theorem LieE.slc {d : RegD} {w : World} {F : Nat → Prop} {u v : Value} (h : LieE d w F (.agg #[.int .i64 d.t, .int .i64 d.q, .int .i64 d.v, u, v])) : ∃ (A : Option Addr) (n c : Nat) (A' : Option Addr) (n' c' : Nat), u = .slice A n c ∧ v = .slice A' n' c' ∧ Slc w (.slice A n c) d.ps ∧ SlcQ w (.slice A' n' c') d.os ∧ d.ps.length = n ∧ d.os.length = n' := by
  obtain ⟨A, n, c, A', n', c', lo, B, hi, e, h1, h2, -⟩ := h
  injection e with e
  injection e with e
  simp only [List.cons.injEq, and_true, true_and] at e
  exact ⟨A, n, c, A', n', c', e.1, e.2, h1.slc.1, h2.slc.1, h1.slc.2, h2.slc.2⟩
theorem RegsOwn.cells {w w' : World} {G lo : Nat} {rs : List RegD} (h : RegsOwn LieE w G lo rs) (hk : CellsK w w') : RegsOwn LieE w' G lo rs := by
  obtain ⟨hg, Fs, hR, hF⟩ := h
  refine ⟨hg, Fs, ⟨?_, hR.apart, hR.two⟩, fun i hi b hb => ⟨(hF i hi b hb).1, Nat.lt_of_lt_of_le (hF i hi b hb).2 hk.size⟩⟩
  obtain ⟨cs, hb, hs, hc⟩ := hR.blk
  refine ⟨cs, hk.box hb, hs, fun i hi => ?_⟩
  obtain ⟨u, v, c0, c1, c2, c3, c4, hL⟩ := hc i hi
  exact ⟨u, v, c0, c1, c2, c3, c4, hL.cells hk⟩

/-- The shelves behind these rounds, in whatever order they came. -/
def shI (g : GrpD) (ds : List RecD) (pre : List (Fin ds.length)) : List RegD := pre.foldl (fun rs k => stepR g rs ds[k.val]) (List.replicate g.sh.toNat zeroR)
theorem shI_snoc (g : GrpD) (ds : List RecD) (pre : List (Fin ds.length)) (x : Fin ds.length) : shI g ds (pre ++ [x]) = stepR g (shI g ds pre) ds[x.val] := by
  unfold shI
  rw [List.foldl_append, List.foldl_cons, List.foldl_nil]
theorem shI_len (g : GrpD) (ds : List RecD) (pre : List (Fin ds.length)) : (shI g ds pre).length = g.sh.toNat := by
  have key : ∀ (pre : List (Fin ds.length)) (rs : List RegD), (pre.foldl (fun rs k => stepR g rs ds[k.val]) rs).length = rs.length := by
    intro pre
    induction pre with
    | nil => intro rs; rfl
    | cons d pre ih => intro rs; rw [List.foldl_cons, ih, stepR_len]
  unfold shI
  rw [key, List.length_replicate]
theorem shI_all (g : GrpD) (ds : List RecD) : shI g ds (List.finRange ds.length) = shelves g ds := by
  have key : ∀ k, k ≤ ds.length → shI g ds (firsts ds.length k) = shelves g (ds.take k) := by
    intro k
    induction k with
    | zero => intro _; rfl
    | succ k ih => intro hk; rw [firsts_snoc _ _ (by omega), shI_snoc, ih (by omega), shelves_snoc g ds (by omega)]
  have h := key ds.length (Nat.le_refl _)
  rw [firsts_all, List.take_length] at h
  exact h
theorem onto_len2 (g : GrpD) (d : RecD) (r : RegD) {M n : Nat} (h1 : r.ps.length ≤ M) (h2 : d.ps.length ≤ M) (h3 : r.os.length ≤ n) : (ontoD g d r).ps.length ≤ M ∧ (ontoD g d r).os.length ≤ n + 1 := by
  unfold ontoD
  split
  · have := withO_len r.os (d.r4, d.r5, d.r6, d.r7)
    show r.ps.length ≤ M ∧ (withO r.os (d.r4, d.r5, d.r6, d.r7)).length ≤ n + 1
    omega
  · unfold outW
    simp only
    split
    · simp
    split
    · exact ⟨h1, show r.os.length ≤ n + 1 by omega⟩
    split
    · have := goodP_le (rB g.s g.l g.c g.sh g.zs 1 d.r3 d.r5 d.r6 d.r7) d.ps
      show (goodP (rB g.s g.l g.c g.sh g.zs 1 d.r3 d.r5 d.r6 d.r7) d.ps).length ≤ M ∧ r.os.length ≤ n + 1
      omega
    · exact ⟨h1, show r.os.length ≤ n + 1 by omega⟩
theorem regOf_step (g : GrpD) (rs : List RegD) (d : RecD) (i : Nat) : regOf (stepR g rs d) i = regOf rs i ∨ regOf (stepR g rs d) i = ontoD g d (regOf rs i) := by
  unfold stepR
  by_cases hi : d.r3.toNat = i
  · subst hi
    by_cases hl : d.r3.toNat < rs.length
    · exact .inr (by simp [regOf, hl])
    · exact .inl (by rw [List.set_eq_of_length_le (by omega)])
  · exact .inl (by simp [regOf, hi])
theorem shI_sz (g : GrpD) (ds : List RecD) {M : Nat} (hM : ∀ k (h : k < ds.length), (ds[k]).ps.length ≤ M) (pre : List (Fin ds.length)) (i : Nat) : (regOf (shI g ds pre) i).ps.length ≤ M ∧ (regOf (shI g ds pre) i).os.length ≤ pre.length := by
  have key : ∀ (pre : List (Fin ds.length)) (rs : List RegD) (n : Nat), (∀ i, (regOf rs i).ps.length ≤ M ∧ (regOf rs i).os.length ≤ n) → ∀ i, (regOf (pre.foldl (fun rs k => stepR g rs ds[k.val]) rs) i).ps.length ≤ M ∧ (regOf (pre.foldl (fun rs k => stepR g rs ds[k.val]) rs) i).os.length ≤ n + pre.length := by
    intro pre
    induction pre with
    | nil => intro rs n h i; exact h i
    | cons k pre ih =>
      intro rs n h i
      have := ih (stepR g rs ds[k.val]) (n + 1) (fun i => by
        rcases regOf_step g rs ds[k.val] i with e | e
        · rw [e]; have := h i; omega
        · rw [e]; exact onto_len2 g _ _ (h i).1 (hM k.val k.isLt) (h i).2) i
      rw [List.foldl_cons, List.length_cons]
      omega
  have := key pre (List.replicate g.sh.toNat zeroR) 0 (fun i => by
    have h : regOf (List.replicate g.sh.toNat zeroR) i = zeroR := by
      unfold regOf
      simp only [List.getD_eq_getElem?_getD, List.getElem?_replicate]
      split <;> rfl
    rw [h]
    exact ⟨Nat.zero_le _, Nat.le_refl _⟩) i
  rw [Nat.zero_add] at this
  exact this
end Go.Proofs.YtmooajppfjglaaaGreat
