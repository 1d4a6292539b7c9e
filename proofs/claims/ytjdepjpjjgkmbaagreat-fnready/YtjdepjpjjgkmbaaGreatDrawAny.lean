/- What the model's draw of a right group leaves: a right group with keys of its own; the cursor is a right one. -/
import Derived.Test.YtjdepjpjjgkmbaaGreatDrawSpec
import Derived.Deep.AppendLies
import Derived.Laws.Pointers
import Derived.Deep.RegionLaw
namespace Go.Proofs.YtjdepjpjjgkmbaaGreat
open Go.RowKit

theorem Tryz.infoI : (Tryz.prog.info? 2).map (fun i => (i.zero, i.size, i.bytes)) = some (some (.int .i64 0), 1, 8) := by kernel_rfl

/-- A list of keys, each from 1 to top. -/
def keysTo (top : Int) (zs : List Int) : Prop := ∀ z ∈ zs, 1 ≤ z ∧ z ≤ top
theorem keysTo_snoc {top : Int} {zs : List Int} {z : Int} (h : keysTo top zs) (h1 : 1 ≤ z) (h2 : z ≤ top) : keysTo top (zs ++ [z]) := fun x hx => by
  rcases List.mem_append.1 hx with hx | hx
  · exact h x hx
  · simp at hx; subst hx; exact ⟨h1, h2⟩

/-- The loop's state: k keys are still to be drawn. -/
structure Keys (t tc : TypeId) (kd : IntKind) (w wr : World) (g G R : Nat) (A : Option Addr) (n cap : Nat) (s l c sh top : Int) (k : Nat) (v : Value) (zs : List Int) : Prop where
  cur : Cur wr tc kd g A n cap
  box : Box wr G t #[.int .i64 s, .int .i64 l, .int .i64 c, .int .i64 sh, v]
  own : wr.ownsRow (G + 1) 2 1 v zs.length (zs.map (Value.int .i64))
  keys : keysTo top zs
  len : (zs.length : Int) + k = s + c
  grown : w.grownBy wr (some g)
  gG : g < G
  big : w.heap.size ≤ G
  res : Box wr R t #[.int .i64 0, .int .i64 0, .int .i64 0, .int .i64 0, .slice none 0 0]
  gR : g < R
  RG : R < G

theorem keys_step {t tc : TypeId} {kd : IntKind} {w wr w1 w2 : World} {g G R : Nat} {A : Option Addr} {n cap : Nat} {s l c sh top z : Int} {k gg cap2 : Nat} {v : Value} {zs : List Int} {o : Obj}
    (h : Keys t tc kd w wr g G R A n cap s l c sh top (k + 1) v zs) (hc1 : Cur w1 tc kd g A n cap) (hg1 : wr.drew.grownBy w1 (some g)) (hz1 : 1 ≤ z) (hz2 : z ≤ top)
    (hown : w2.ownsRow (G + 1) 2 1 (.slice (some ⟨gg, 0, none⟩) (zs.length + 1) cap2) (zs.length + 1) (zs.map (Value.int .i64) ++ [.int .i64 z])) (hg2 : (w1.alloc o).grownBy w2 v.ownBlock) :
    Keys t tc kd w (w2.setCell ⟨G, 4, none⟩ (.slice (some ⟨gg, 0, none⟩) (zs.length + 1) cap2)) g G R A n cap s l c sh top k (.slice (some ⟨gg, 0, none⟩) (zs.length + 1) cap2) (zs ++ [z]) := by
  have hq : ∀ q, v.ownBlock = some q → G + 1 ≤ q := fun q e => (h.own.lt q e).1
  have hgg : G + 1 ≤ gg := (hown.lt gg rfl).1
  have hgG := h.gG
  have hbig := h.big
  have hb2 : Box w2 G t #[.int .i64 s, .int .i64 l, .int .i64 c, .int .i64 sh, v] :=
    ((Box.kept (w := wr.drew) h.box hg1 (by intro e; injection e with e; omega)).alloc o).kept hg2 (fun e => by have := hq _ e; omega)
  refine ⟨((hc1.kept (grown_bel (bel_alloc w1 o) none) (fun q e => by cases e)).kept hg2 (fun q e => by have := hq _ e; omega)).kept (grown_set (grown_refl w2 (some G)) _ _) (fun q e => by injection e with e; omega), hb2.set 4 _, ?_, keysTo_snoc h.keys hz1 hz2, ?_, ?_, hgG, hbig, ?_, h.gR, h.RG⟩
  · have := hown.kept (grown_set (grown_refl w2 (some G)) 4 (.slice (some ⟨gg, 0, none⟩) (zs.length + 1) cap2)) (Or.inr (by simp [Value.ownBlock]; omega))
    simpa using this
  · have := h.len
    simp
    omega
  · exact grown_new (grown_far (grown_alloc (grown_trans (grown_drew h.grown) hg1) o) hg2 (fun q e => by have := hq _ e; omega)) hbig _
  · have hgR := h.gR
    have hRG := h.RG
    exact (((Box.kept (w := wr.drew) h.res hg1 (by intro e; injection e with e; omega)).alloc o).kept hg2 (fun e => by have := hq _ e; omega)).far (by simp; omega) _

theorem own_base {w : World} {base base' : Nat} {e : TypeId} {size : Nat} {v : Value} {n : Nat} {xs : List Value} (h : w.ownsRow base e size v n xs) (hb : base' ≤ base) : w.ownsRow base' e size v n xs := by
  rcases h with ⟨h1, h2 | ⟨g, cap, cur, h3, h4, h5⟩⟩
  · exact ⟨h1, .inl h2⟩
  · exact ⟨h1, .inr ⟨g, cap, cur, h3, Nat.le_trans hb h4, h5⟩⟩
theorem own_row {w : World} {base : Nat} {e : TypeId} {q cap : Nat} {zs : List Int} (h : w.ownsRow base e 1 (.slice (some ⟨q, 0, none⟩) zs.length cap) zs.length (zs.map (Value.int .i64))) : Row w w.heap.size (some ⟨q, 0, none⟩) zs.length zs := by
  refine ⟨rfl, fun _ => ⟨q, 0, rfl, (h.lt q rfl).2, fun i hi => ?_⟩⟩
  rw [Nat.zero_add, h.cellAt i (by omega), nth_lt hi]
  simp [hi]
theorem keysB_of {top : Int} {zs : List Int} (h : keysTo top zs) (ht : top ≤ 1000000) : keysB zs = true := by
  unfold keysB
  rw [List.all_eq_true]
  intro z hz
  have := h z hz
  exact inB_true.2 ⟨this.1, by omega⟩

/-- What the draw of a right group leaves. -/
def DrawnGroup (t : TypeId) (kd : IntKind) (g : Nat) (A : Option Addr) (n cap : Nat) (w : World) (e : Ending) (w' : World) : Prop :=
  ∃ (s l c sh : Int) (q cap' : Nat) (zs : List Int), e = .returned (.agg #[.int .i64 s, .int .i64 l, .int .i64 c, .int .i64 sh, .slice (some ⟨q, 0, none⟩) zs.length cap']) ∧
    w'.ownsRow w.heap.size 2 1 (.slice (some ⟨q, 0, none⟩) zs.length cap') zs.length (zs.map (Value.int .i64)) ∧ okB s l c sh zs = true ∧ s ≤ 6 ∧ c ≤ 3 ∧ Cur w' t kd g A n cap ∧ w.grownBy w' (some g)

set_option maxHeartbeats 1000000 in
theorem l1DrawGroup_any (g : Nat) (A : Option Addr) (n cap : Nat) (w : World) (hc : Cur w 169 .i64 g A n cap) :
    Calls Tryz.prog 126 #[.pointer (some ⟨g, 0, none⟩)] w (DrawnGroup 169 .i64 g A n cap w) := by
  obtain ⟨i0, hi0, hz0, hz1, hz2⟩ := info_parts Tryz.infoI
  have hlt := hc.lt
  go_enter Tryz.func126, Tryz.ntmps126
  have R0 := Box.new w 26 #[.int .i64 0, .int .i64 0, .int .i64 0, .int .i64 0, .slice none 0 0]
  have hb0 := bel_alloc w (.cells #[.int .i64 0, .int .i64 0, .int .i64 0, .int .i64 0, .slice none 0 0] 26)
  go_wp2_with fail
  generalize (w.alloc _ : World) = w0 at R0 hb0 ⊢
  have hc0 := hc.kept (grown_bel hb0 none) (fun q hq => by cases hq)
  have hg0 := grown_bel hb0 (some g)
  refine (l1Below_any g A n cap 2 _ (by omega) hc0).mono ?_
  rintro e w1 ⟨f, ⟨hf0, hf1⟩, rfl, hc1, hg1⟩
  go_wp2_with fail
  refine (l1Below_any g A n cap 3 _ (by omega) hc1).mono ?_
  rintro e w2 ⟨a, ⟨ha0, ha1⟩, rfl, hc2, hg2⟩
  go_wp2_with fail
  refine (l1Below_any g A n cap 3 _ (by omega) hc2).mono ?_
  rintro e w3 ⟨b, ⟨hb0', hb1⟩, rfl, hc3, hg3⟩
  go_wp2_with fail
  refine (l1Below_any g A n cap 2 _ (by omega) hc3).mono ?_
  rintro e w4 ⟨d, ⟨hd0, hd1⟩, rfl, hc4, hg4⟩
  have hg := grown_trans (grown_trans (grown_trans (grown_trans hg0 hg1) hg2) hg3) hg4
  have R4 := R0.kept (grown_trans (grown_trans (grown_trans hg1 hg2) hg3) hg4) (by intro e; injection e with e; omega)
  clear hg0 hg1 hg2 hg3 hg4 hc0 hc1 hc2 hc3 R0
  go_wp2_with fail
  have G4 := Box.new w4 26 #[.int .i64 (3 * f + 1 + a), .int .i64 f, .int .i64 (1 + b), .int .i64 (1 + d), .slice none 0 0]
  have hb5 := bel_alloc w4 (.cells #[.int .i64 (3 * f + 1 + a), .int .i64 f, .int .i64 (1 + b), .int .i64 (1 + d), .slice none 0 0] 26)
  obtain ⟨s, hs⟩ : ∃ s, s = 3 * f + 1 + a := ⟨_, rfl⟩
  obtain ⟨c, hcc⟩ : ∃ c, c = 1 + b := ⟨_, rfl⟩
  obtain ⟨sh, hsh⟩ : ∃ sh, sh = 1 + d := ⟨_, rfl⟩
  have s1 : 3 * f + 1 ≤ s := by omega
  have s2 : s ≤ 3 * f + 3 := by omega
  have c1 : 1 ≤ c := by omega
  have c2 : c ≤ 3 := by omega
  have sh1 : 1 ≤ sh := by omega
  have sh2 : sh ≤ 2 := by omega
  rw [← hs, ← hcc, ← hsh] at G4 hb5 ⊢
  clear hs hcc hsh ha0 ha1 hb0' hb1 hd0 hd1
  have hRlt := R4.lt
  obtain ⟨k0, hk0⟩ := Int.eq_ofNat_of_zero_le (by omega : 0 ≤ s + c)
  have K0 : Keys 26 169 .i64 w _ g w4.heap.size w.heap.size A n cap s f c sh 1000 k0 (.slice none 0 0) [] :=
    ⟨hc4.kept (grown_bel hb5 none) (fun q hq => by cases hq), G4, ⟨by simp, .inl ⟨rfl, rfl⟩⟩, (fun z hz => by cases hz), (by simp; omega), grown_trans hg (grown_bel hb5 (some g)), hc4.lt, hg.size, R4.later hb5 R4.lt, hlt, hRlt⟩
  have HK := Lib.hid hk0
  have hn0 : 0 < k0 := by omega
  clear hk0 hc4 hg hb5 R4 G4 hb0 hc
  generalize (w4.alloc _ : World) = w5 at K0 ⊢
  generalize w4.heap.size = G at K0 hRlt ⊢
  go_loopw [5] (fun i wr => ∃ (k : Nat) (v : Value) (zs : List Int), i = .int .i64 k ∧ Keys 26 169 .i64 w wr g G w.heap.size A n cap s f c sh 1000 k v zs) (fun i _ => (intOf i).toNat)
  case atStart => exact ⟨k0, _, [], by rw [HK.out], K0⟩
  case round =>
    obtain ⟨k, v, zs, rfl, hK⟩ := hrel
    clear K0
    rcases k with _ | k
    · have hlen := hK.len
      obtain ⟨q, cap', rfl⟩ : ∃ q cap', v = .slice (some ⟨q, 0, none⟩) zs.length cap' := by
        rcases hK.own.2 with ⟨_, h0⟩ | ⟨q, cap', cur, hv, _⟩
        · omega
        · exact ⟨q, cap', hv⟩
      obtain ⟨a0, a1, a2, a3, a4⟩ := hK.box.five
      obtain ⟨r0, r1, r2, r3, r4⟩ := hK.res.five
      have fr := hK.res.frozen
      have hgR := hK.gR
      have hRG := hK.RG
      have hq1 := (hK.own.lt q rfl).1
      have HO := Lib.hid (own_base hK.own (base' := w.heap.size) (by omega))
      have HOK : Hid (okB s f c sh zs = true) := by
        show okB s f c sh zs = true
        have h1 : inB s 1 10 = true := inB_true.2 (by omega)
        have h2 : inB c 1 6 = true := inB_true.2 (by omega)
        have h3 : inB sh 1 4 = true := inB_true.2 (by omega)
        have h4 : inB f 0 ((s - 1) / 3) = true := inB_true.2 (by omega)
        simp only [okB, h1, h2, h3, h4, keysB_of hK.keys (by omega), Bool.true_and, Bool.and_true, decide_eq_true_eq]
        omega
      have G5 := grown5 wr w.heap.size (.int .i64 s) (.int .i64 f) (.int .i64 c) (.int .i64 sh) (.slice (some ⟨q, 0, none⟩) zs.length cap')
      have HO5 := Lib.hid (HO.out.kept G5 (Or.inr (by simp [Value.ownBlock]; omega)))
      have HC5 := Lib.hid (hK.cur.kept G5 (fun r hr => by injection hr with hr; omega))
      have HG5 := Lib.hid (grown_far hK.grown G5 (fun r hr => by injection hr with hr; omega))
      clear G5
      go_wp2
      exact bodyPost_ret (v := .agg #[.int .i64 s, .int .i64 f, .int .i64 c, .int .i64 sh, .slice (some ⟨q, 0, none⟩) zs.length cap']) (by simp [results, Tryz.results126, go_sem, r0, r1, r2, r3, r4]) rfl ⟨s, f, c, sh, q, cap', zs, rfl, HO5, HOK, by omega, by omega, HC5, HG5⟩
    · have hlen := hK.len
      have hpos : (0 : Int) < ((k + 1 : Nat) : Int) := by omega
      obtain ⟨a0, a1, a2, a3, a4⟩ := hK.box.five
      have f4 := hK.box.frozen 4
      have hGl := hK.box.lt
      have hgl := hK.cur.lt
      have hq : ∀ q, v.ownBlock = some q → G + 1 ≤ q := fun q e => (hK.own.lt q e).1
      have HQ := Lib.hid hq
      have hzl : zs.length ≤ 20 := by omega
      have hgG := hK.gG
      clear hq
      go_wp2_with fail
      go_region_law (first
          | (go_simp; go_at_call 67; refine (l1Below_any g A n cap 1000 _ (by omega) ?_).mono ?_; exact hK.cur; rintro e w1 ⟨r, ⟨hr0, hr1⟩, rfl, hc1, hg1⟩; have b1 := Box.kept (w := wr.drew) hK.box hg1 (by intro e; injection e with e; omega); have K1 := b1.cell 4; have K1a : ∀ o, (w1.alloc o).cell? ⟨G, 4, none⟩ = some v := fun o => (b1.alloc o).cell 4; have ho1 := (hK.own.drew).kept hg1 (Or.inr (fun e => by have := HQ.out _ e; omega)); have hz1' := hg1.size; have hwr : IntKind.i64.wrap (1 + r) = 1 + r := IntWalk.i64_in _ (by omega))
          | (refine step_append_lies _ (by rfl) _ _ _ (by rfl) (G + 1) 2 i0 _ 1 8 Tryz.underlying24 hi0 hz0 hz1 hz2 rfl (by omega) v zs.length (zs.map (Value.int .i64)) (by rfl) (ho1.alloc _) ⟨w1.heap.size, 0, none⟩ 1 1 [.int .i64 (1 + r)] (by rfl) (by rfl) (World.news_of_block (cs := #[.int .i64 (1 + r)]) (t := 2) (fr := (0, 0)) (heap_alloc_new w1 _)) (by simp [Value.oneCell']) (by omega) (by unfold maxLen; omega) (by omega) (by have := b1.lt; simp; omega) (w1.heap.size + 1) (by simp) ?_; intro gg cap2 w2 hown2 hgrow2 hat hlt2; have b2 := (b1.alloc (.cells #[.int .i64 (1 + r)] 2)).kept hgrow2 (fun e => by have := HQ.out _ e; omega); have K2 := b2.cell 4; have f2 := b2.frozen 4))
      all_goals
        have HS := Lib.hid (keys_step hK hc1 hg1 (by omega) (by omega) hown2 hgrow2)
        clear hwr K1 K1a K2 f2 b1 b2 ho1 hown2 hgrow2 hc1 hg1 a0 a1 a2 a3 a4 f4
        go_wp2
        go_roundw
        case rel => exact ⟨k, _, _, by go_num, HS.out⟩
        case measure => simp [intOf]

end Go.Proofs.YtjdepjpjjgkmbaaGreat

/- What the model's draw of any group leaves: a group whose keys can be read; the cursor is a right one. -/
namespace Go.Proofs.YtjdepjpjjgkmbaaGreat
open Go.RowKit

/-- What the draw of any group leaves. -/
def DrawnAny (t : TypeId) (kd : IntKind) (g : Nat) (A : Option Addr) (n cap : Nat) (w : World) (e : Ending) (w' : World) : Prop :=
  ∃ (s l c sh : Int) (q o m cap' : Nat) (zs : List Int), w.heap.size ≤ q ∧ e = .returned (.agg #[.int .i64 s, .int .i64 l, .int .i64 c, .int .i64 sh, .slice (some ⟨q, o, none⟩) m cap']) ∧
    Row w' w'.heap.size (some ⟨q, o, none⟩) m zs ∧ m ≤ 100 ∧ Cur w' t kd g A n cap ∧ w.grownBy w' (some g)

theorem Row.kept {w w' : World} {q o n : Nat} {zs : List Int} {r : Option Nat} (h : Row w w.heap.size (some ⟨q, o, none⟩) n zs) (hg : w.grownBy w' r) (hr : r ≠ some q) : Row w' w'.heap.size (some ⟨q, o, none⟩) n zs := by
  refine ⟨h.1, fun hn => ?_⟩
  obtain ⟨b, o', hA, hb, hc⟩ := h.2 hn
  cases hA
  exact ⟨_, _, rfl, Nat.lt_of_lt_of_le hb hg.size, fun i hi => (World.cell?_of_block (a := ⟨q, o + i, none⟩) (hg.block q hb (fun e => hr e.symm))).trans (hc i hi)⟩
theorem row_tail {w : World} {B q n : Nat} {zs : List Int} (h : Row w B (some ⟨q, 0, none⟩) n zs) (h1 : 0 < n) : Row w B (some ⟨q, 1, none⟩) (n - 1) (zs.drop 1) := by
  refine ⟨by rw [List.length_drop, h.1], fun hn => ?_⟩
  obtain ⟨b, o, hA, hb, hc⟩ := h.2 h1
  cases hA
  refine ⟨_, _, rfl, hb, fun i hi => ?_⟩
  have := hc (i + 1) (by omega)
  rw [show 0 + (i + 1) = 1 + i by omega] at this
  rw [this]
  simp [nth]

theorem Row.put {w : World} {q n : Nat} {zs : List Int} (h : Row w w.heap.size (some ⟨q, 0, none⟩) n zs) (y : Int) : Row (w.setCell ⟨q, 0, none⟩ (.int .i64 y)) (w.setCell ⟨q, 0, none⟩ (.int .i64 y)).heap.size (some ⟨q, 0, none⟩) n (zs.set 0 y) := by
  refine ⟨by rw [List.length_set]; exact h.1, fun hn => ?_⟩
  obtain ⟨b, o', hA, hb, hc⟩ := h.2 hn
  cases hA
  refine ⟨_, _, rfl, by rw [size_set]; exact hb, fun i hi => ?_⟩
  have hl := h.1
  rcases i with _ | i
  · have h0 := hc 0 hn
    have h1 := World.cell?_setCell_same' w ⟨q, 0, none⟩ (.int .i64 y) (by rw [show (⟨q, 0, none⟩ : Addr) = ⟨q, 0 + 0, none⟩ from rfl, h0]; rfl)
    rw [show nth (zs.set 0 y) 0 = y by simp [nth, show 0 < zs.length by omega]]
    exact h1
  · rw [World.cell?_setCell_other _ _ _ _ (by intro e; injection e with _ e; omega), hc (i + 1) hi]
    simp [nth]

/-- The end of it: the group goes into the result's place. -/
theorem any_end {tc : TypeId} {kd : IntKind} {w wr : World} {g q o m cap' : Nat} {A : Option Addr} {n cap : Nat} {s l c sh : Int} {zs : List Int} (h : Row wr wr.heap.size (some ⟨q, o, none⟩) m zs) (hq : w.heap.size < q) (hm : m ≤ 100)
    (hc : Cur wr tc kd g A n cap) (hg : w.grownBy wr (some g)) (hR : g < w.heap.size) :
    DrawnAny tc kd g A n cap w (.returned (.agg #[.int .i64 s, .int .i64 l, .int .i64 c, .int .i64 sh, .slice (some ⟨q, o, none⟩) m cap']))
      (((((wr.setCell ⟨w.heap.size, 0, none⟩ (.int .i64 s)).setCell ⟨w.heap.size, 1, none⟩ (.int .i64 l)).setCell ⟨w.heap.size, 2, none⟩ (.int .i64 c)).setCell ⟨w.heap.size, 3, none⟩ (.int .i64 sh)).setCell ⟨w.heap.size, 4, none⟩ (.slice (some ⟨q, o, none⟩) m cap')) := by
  have G5 := grown5 wr w.heap.size (.int .i64 s) (.int .i64 l) (.int .i64 c) (.int .i64 sh) (.slice (some ⟨q, o, none⟩) m cap')
  exact ⟨s, l, c, sh, q, o, m, cap', zs, Nat.le_of_lt hq, rfl, h.kept G5 (by intro e; injection e with e; omega), hm, hc.kept G5 (fun r hr => by injection hr with hr; omega), grown_far hg G5 (fun r hr => by injection hr with hr; omega)⟩

set_option maxHeartbeats 2000000 in
theorem l1DrawAny_any (g : Nat) (A : Option Addr) (n cap : Nat) (w : World) (hc : Cur w 169 .i64 g A n cap) :
    Calls Tryz.prog 205 #[.pointer (some ⟨g, 0, none⟩)] w (DrawnAny 169 .i64 g A n cap w) := by
  have hlt := hc.lt
  go_enter Tryz.func205, Tryz.ntmps205
  have R0 := Box.new w 26 #[.int .i64 0, .int .i64 0, .int .i64 0, .int .i64 0, .slice none 0 0]
  have hb0 := bel_alloc w (.cells #[.int .i64 0, .int .i64 0, .int .i64 0, .int .i64 0, .slice none 0 0] 26)
  go_wp2_with fail
  generalize (w.alloc _ : World) = w0 at R0 hb0 ⊢
  have hc0 := hc.kept (grown_bel hb0 none) (fun q hq => by cases hq)
  have hg0 := grown_bel hb0 (some g)
  have hR0 := R0.lt
  refine (l1DrawGroup_any g A n cap _ hc0).mono ?_
  rintro e w1 ⟨s, l, c, sh, q, cap', zs, rfl, hown, hok, hs6, hc3, hc1, hg1⟩
  obtain ⟨b1, b2, b3, b4, b5, b6⟩ := okB_parts hok
  have hzl : (zs.length : Int) = s + c := by
    simp only [okB, Bool.and_eq_true, decide_eq_true_eq] at hok
    exact hok.1.2
  have hz20 : zs.length ≤ 20 := by omega
  have hz2 : 2 ≤ zs.length := by omega
  have HR := Lib.hid (own_row hown)
  have hcap : zs.length ≤ cap' := by
    rcases hown.2 with ⟨h0, _⟩ | ⟨g', cap2, cur, hv, _, _, hnc, _⟩
    · cases h0
    · injection hv with _ _ hv; omega
  have hcap1 : cap' ≠ 1 := by omega
  have hcapm : cap' ≤ maxLen := by
    rcases hown.2 with ⟨h0, _⟩ | ⟨g', cap2, cur, hv, _, _, _, hm, _⟩
    · cases h0
    · injection hv with _ _ hv; omega
  unfold maxLen at hcapm
  obtain ⟨hq1, hq2⟩ := hown.lt q rfl
  have R1 := R0.kept hg1 (by intro e; injection e with e; omega)
  have hgA := grown_trans hg0 hg1
  have HZ := Lib.hid hzl
  have HF : Hid (∀ i, w1.frozen? ⟨q, i, none⟩ = false) := fun i => hown.frozenAt i
  clear hzl hok hown hg0 hg1 hc0 R0 hb0 hc
  go_wp2_with fail
  have G1 := Box.new w1 26 #[.int .i64 s, .int .i64 l, .int .i64 c, .int .i64 sh, .slice (some ⟨q, 0, none⟩) zs.length cap']
  have hb1 := bel_alloc w1 (.cells #[.int .i64 s, .int .i64 l, .int .i64 c, .int .i64 sh, .slice (some ⟨q, 0, none⟩) zs.length cap'] 26)
  have hz1 := hc1.lt
  generalize (w1.alloc _ : World) = w2 at G1 hb1 ⊢
  have hqG : q ≠ w1.heap.size := by omega
  have hRG : w.heap.size ≠ w1.heap.size := by have := R1.lt; omega
  have hgG : g < w1.heap.size := hz1
  have hRq : w.heap.size < q := by omega
  have HR2 := Lib.hid (HR.out.kept (grown_bel hb1 none) (by intro e; cases e))
  have hqw2 : q < w2.heap.size := Nat.lt_of_lt_of_le hq2 hb1.size
  have HF2 : Hid (∀ i, w2.frozen? ⟨q, i, none⟩ = false) := fun i => (hb1.frozen (p := ⟨q, i, none⟩) hq2).trans (HF.out i)
  have hc2 := hc1.kept (grown_bel hb1 none) (fun q hq => by cases hq)
  have R2 := R1.later hb1 R1.lt
  have hg2 := grown_trans hgA (grown_bel hb1 (some g))
  have hwG : w.heap.size ≤ w1.heap.size := hgA.size
  generalize w1.heap.size = G at *
  clear hb1 HR HF hc1 R1 hgA
  refine (l1Once_any g A n cap 5 _ (by omega) hc2).mono ?_
  rintro e w3 ⟨b, rfl, hc3, hg3⟩
  have G3 := G1.kept hg3 (by intro e; injection e with e; omega)
  have R3 := R2.kept hg3 (by intro e; injection e with e; omega)
  have HR3 := Lib.hid (HR2.out.kept hg3 (by intro e; injection e with e; omega))
  have HF3 : Hid (∀ i, w3.frozen? ⟨q, i, none⟩ = false) := fun i => (World.frozen?_of_block (a := ⟨q, i, none⟩) (hg3.block q hqw2 (by intro e; injection e with e; omega))).trans (HF2.out i)
  have hg23 := grown_trans hg2 hg3
  have hg3s := hg3.size
  clear hc2 R2 G1 HR2 HF2 hg2 hg3
  rcases b with _ | _
  · obtain ⟨a0, a1, a2, a3, a4⟩ := G3.five
    obtain ⟨r0, r1, r2, r3, r4⟩ := R3.five
    have fr := R3.frozen
    go_wp2
    exact bodyPost_ret (v := .agg #[.int .i64 s, .int .i64 l, .int .i64 c, .int .i64 sh, .slice (some ⟨q, 0, none⟩) zs.length cap']) (by simp [results, Tryz.results205, go_sem, r0, r1, r2, r3, r4]) rfl (any_end HR3.out (by omega) (by omega) hc3 hg23 hlt)
  · go_wp2_with fail
    refine (l1Below_any g A n cap 6 _ (by omega) hc3).mono ?_
    rintro e w4 ⟨x, ⟨hx0, hx1⟩, rfl, hc4, hg4⟩
    have G4 := G3.kept hg4 (by intro e; injection e with e; omega)
    have R4 := R3.kept hg4 (by intro e; injection e with e; omega)
    have hqw3 : q < w3.heap.size := by have := hg3s; omega
    have HR4 := Lib.hid (HR3.out.kept hg4 (by intro e; injection e with e; omega))
    have HF4 : Hid (∀ i, w4.frozen? ⟨q, i, none⟩ = false) := fun i => (World.frozen?_of_block (a := ⟨q, i, none⟩) (hg4.block q hqw3 (by intro e; injection e with e; omega))).trans (HF3.out i)
    have hg24 := grown_trans hg23 hg4
    have hqw4 : q < w4.heap.size := by have := hg4.size; omega
    clear hc3 R3 G3 HR3 HF3 hg23 hg4
    have hcase : x = 0 ∨ x = 1 ∨ x = 2 ∨ x = 3 ∨ x = 4 ∨ x = 5 := by omega
    rcases hcase with rfl | rfl | rfl | rfl | rfl | rfl
    · go_wp2_with fail
      refine (l1Num_any g A n cap 10 _ (by omega) (by omega) hc4).mono ?_
      rintro e w5 ⟨y, _, rfl, hc5, hg5⟩
      have G5 := G4.kept hg5 (by intro e; injection e with e; omega)
      have R5 := R4.kept hg5 (by intro e; injection e with e; omega)
      have HR5 := Lib.hid (HR4.out.kept hg5 (by intro e; injection e with e; omega))
      have hg25 := grown_trans hg24 hg5
      have hset := grown_set (grown_refl w5 (some G)) 0 (.int .i64 y)
      have HR6 := Lib.hid (HR5.out.kept hset (by intro e; injection e with e; omega))
      have HC6 := Lib.hid (hc5.kept hset (fun r hr => by injection hr with hr; omega))
      have HG6 := Lib.hid (grown_far hg25 hset (fun r hr => by injection hr with hr; omega))
      obtain ⟨a0, a1, a2, a3, a4⟩ := G5.five
      obtain ⟨r0, r1, r2, r3, r4⟩ := R5.five
      have fr := R5.frozen
      have fG := G5.frozen
      clear hset
      go_wp2
      exact bodyPost_ret (v := .agg #[.int .i64 y, .int .i64 l, .int .i64 c, .int .i64 sh, .slice (some ⟨q, 0, none⟩) zs.length cap']) (by simp [results, Tryz.results205, go_sem, r0, r1, r2, r3, r4]) rfl (any_end HR6.out (by omega) (by omega) HC6.out HG6.out hlt)
    · go_wp2_with fail
      refine (l1Num_any g A n cap 3 _ (by omega) (by omega) hc4).mono ?_
      rintro e w5 ⟨y, _, rfl, hc5, hg5⟩
      have G5 := G4.kept hg5 (by intro e; injection e with e; omega)
      have R5 := R4.kept hg5 (by intro e; injection e with e; omega)
      have HR5 := Lib.hid (HR4.out.kept hg5 (by intro e; injection e with e; omega))
      have hg25 := grown_trans hg24 hg5
      have hset := grown_set (grown_refl w5 (some G)) 1 (.int .i64 y)
      have HR6 := Lib.hid (HR5.out.kept hset (by intro e; injection e with e; omega))
      have HC6 := Lib.hid (hc5.kept hset (fun r hr => by injection hr with hr; omega))
      have HG6 := Lib.hid (grown_far hg25 hset (fun r hr => by injection hr with hr; omega))
      obtain ⟨a0, a1, a2, a3, a4⟩ := G5.five
      obtain ⟨r0, r1, r2, r3, r4⟩ := R5.five
      have fr := R5.frozen
      have fG := G5.frozen
      clear hset
      go_wp2
      exact bodyPost_ret (v := .agg #[.int .i64 s, .int .i64 y, .int .i64 c, .int .i64 sh, .slice (some ⟨q, 0, none⟩) zs.length cap']) (by simp [results, Tryz.results205, go_sem, r0, r1, r2, r3, r4]) rfl (any_end HR6.out (by omega) (by omega) HC6.out HG6.out hlt)
    · go_wp2_with fail
      refine (l1Num_any g A n cap 6 _ (by omega) (by omega) hc4).mono ?_
      rintro e w5 ⟨y, _, rfl, hc5, hg5⟩
      have G5 := G4.kept hg5 (by intro e; injection e with e; omega)
      have R5 := R4.kept hg5 (by intro e; injection e with e; omega)
      have HR5 := Lib.hid (HR4.out.kept hg5 (by intro e; injection e with e; omega))
      have hg25 := grown_trans hg24 hg5
      have hset := grown_set (grown_refl w5 (some G)) 2 (.int .i64 y)
      have HR6 := Lib.hid (HR5.out.kept hset (by intro e; injection e with e; omega))
      have HC6 := Lib.hid (hc5.kept hset (fun r hr => by injection hr with hr; omega))
      have HG6 := Lib.hid (grown_far hg25 hset (fun r hr => by injection hr with hr; omega))
      obtain ⟨a0, a1, a2, a3, a4⟩ := G5.five
      obtain ⟨r0, r1, r2, r3, r4⟩ := R5.five
      have fr := R5.frozen
      have fG := G5.frozen
      clear hset
      go_wp2
      exact bodyPost_ret (v := .agg #[.int .i64 s, .int .i64 l, .int .i64 y, .int .i64 sh, .slice (some ⟨q, 0, none⟩) zs.length cap']) (by simp [results, Tryz.results205, go_sem, r0, r1, r2, r3, r4]) rfl (any_end HR6.out (by omega) (by omega) HC6.out HG6.out hlt)
    · go_wp2_with fail
      refine (l1Num_any g A n cap 4 _ (by omega) (by omega) hc4).mono ?_
      rintro e w5 ⟨y, _, rfl, hc5, hg5⟩
      have G5 := G4.kept hg5 (by intro e; injection e with e; omega)
      have R5 := R4.kept hg5 (by intro e; injection e with e; omega)
      have HR5 := Lib.hid (HR4.out.kept hg5 (by intro e; injection e with e; omega))
      have hg25 := grown_trans hg24 hg5
      have hset := grown_set (grown_refl w5 (some G)) 3 (.int .i64 y)
      have HR6 := Lib.hid (HR5.out.kept hset (by intro e; injection e with e; omega))
      have HC6 := Lib.hid (hc5.kept hset (fun r hr => by injection hr with hr; omega))
      have HG6 := Lib.hid (grown_far hg25 hset (fun r hr => by injection hr with hr; omega))
      obtain ⟨a0, a1, a2, a3, a4⟩ := G5.five
      obtain ⟨r0, r1, r2, r3, r4⟩ := R5.five
      have fr := R5.frozen
      have fG := G5.frozen
      clear hset
      go_wp2
      exact bodyPost_ret (v := .agg #[.int .i64 s, .int .i64 l, .int .i64 c, .int .i64 y, .slice (some ⟨q, 0, none⟩) zs.length cap']) (by simp [results, Tryz.results205, go_sem, r0, r1, r2, r3, r4]) rfl (any_end HR6.out (by omega) (by omega) HC6.out HG6.out hlt)
    · obtain ⟨a0, a1, a2, a3, a4⟩ := G4.five
      obtain ⟨z0, hz0⟩ : ∃ z, w4.cell? ⟨q, 0, none⟩ = some (.int .i64 z) := by
        obtain ⟨b', o', hA, _, hcl⟩ := HR4.out.2 (by omega)
        cases hA
        exact ⟨_, hcl 0 (by omega)⟩
      have f0 := HF4.out 0
      have hzp : (0 : Int) < (zs.length : Int) := by omega
      have hzp' : 0 < zs.length := by omega
      have hGl := G4.lt
      go_wp2_with fail
      go_region_held3 (fun w' => w'.cell? ⟨G, 4, none⟩ = some (.slice (some ⟨q, 0, none⟩) zs.length cap')) (first | exact K5 | go_keep)
        (first
          | (go_at_call 138; refine (l1Num_any g A n cap 1000000 _ (by omega) (by omega) ?_).mono ?_; exact hc4; rintro e w5 ⟨y, _, rfl, hc5, hg5⟩; have G5 := Box.kept (w := w4.drew) G4 hg5 (by intro e; injection e with e; omega); have K5 := G5.cell 4; have hz5 := (World.cell?_of_block (a := ⟨q, 0, none⟩) (hg5.block q hqw4 (by intro e; injection e with e; omega))).trans hz0; have f5 := (World.frozen?_of_block (a := ⟨q, 0, none⟩) (hg5.block q hqw4 (by intro e; injection e with e; omega))).trans f0))
      have R5 := Box.kept (w := w4.drew) R4 hg5 (by intro e; injection e with e; omega)
      have HR5 := Lib.hid (Row.kept (w := w4.drew) HR4.out hg5 (by intro e; injection e with e; omega))
      have hg25 := grown_trans (grown_drew hg24) hg5
      have hset := grown_set (grown_refl w5 (some q)) 0 (.int .i64 y)
      have HR6 := Lib.hid (HR5.out.put y)
      have HC6 := Lib.hid (hc5.kept hset (fun r hr => by injection hr with hr; omega))
      have HG6 := Lib.hid (grown_far hg25 hset (fun r hr => by injection hr with hr; omega))
      clear a0 a1 a2 a3 a4 hz0 f0 hz5 f5 K5 hset
      obtain ⟨a0, a1, a2, a3, a4⟩ := G5.five
      obtain ⟨r0, r1, r2, r3, r4⟩ := R5.five
      have fr := R5.frozen
      have hqG' : G ≠ q := fun e => hqG e.symm
      have hRq' : w.heap.size ≠ q := by omega
      go_wp2
      exact bodyPost_ret (v := .agg #[.int .i64 s, .int .i64 l, .int .i64 c, .int .i64 sh, .slice (some ⟨q, 0, none⟩) zs.length cap']) (by simp [results, Tryz.results205, go_sem, r0, r1, r2, r3, r4]) rfl (any_end HR6.out (by omega) (by omega) HC6.out HG6.out hlt)
    · obtain ⟨a0, a1, a2, a3, a4⟩ := G4.five
      obtain ⟨r0, r1, r2, r3, r4⟩ := R4.five
      have fr := R4.frozen
      have fG := G4.frozen
      have hset := grown_set (grown_refl w4 (some G)) 4 (.slice (some ⟨q, 1, none⟩) (zs.length - 1) (cap' - 1))
      have HR6 := Lib.hid (row_tail HR4.out (by omega) |>.kept hset (by intro e; injection e with e; omega))
      have HC6 := Lib.hid (hc4.kept hset (fun r hr => by injection hr with hr; omega))
      have HG6 := Lib.hid (grown_far hg24 hset (fun r hr => by injection hr with hr; omega))
      clear hset
      go_wp2
      exact bodyPost_ret (v := .agg #[.int .i64 s, .int .i64 l, .int .i64 c, .int .i64 sh, .slice (some ⟨q, 1, none⟩) (zs.length - 1) (cap' - 1)]) (by simp [results, Tryz.results205, go_sem, r0, r1, r2, r3, r4]) rfl (any_end HR6.out (by omega) (by omega) HC6.out HG6.out hlt)

end Go.Proofs.YtjdepjpjjgkmbaaGreat
