/- FnExactCrashed: at every group, journal and list of bools the program answers as its model and leaves its argument alone: the law answers true; no condition beyond the given row's own. -/
import Derived.Test.YtjdepjpjjgkmbaaGreatExactCrashedSeg2
import Derived.Test.YtjdepjpjjgkmbaaGreatExactCrashedSeg3
import Derived.Test.YtjdepjpjjgkmbaaGreatExactCrashedSeg0
import Derived.Test.YtjdepjpjjgkmbaaGreatRows
import Derived.Test.YtjdepjpjjgkmbaaGreatBase
import Derived.Test.YtjdepjpjjgkmbaaGreatChecked
import Derived.WalkKit
import Derived.ProofKit
import Derived.OpenShut
import Derived.ShutString
import Derived.ChangeOld
import Derived.Below
import Derived.Carry
import Derived.Deep.Fields
import Derived.Laws.Rows
import Derived.Test.YtjdepjpjjgkmbaaGreatStampBase
import Derived.Deep.SlicePairs
import Derived.Test.YtjdepjpjjgkmbaaGreatRegBase

/- The laws' sizes, copies and comparisons of journals as data; conditions: the sizes. -/
namespace Go.Proofs.YtjdepjpjjgkmbaaGreat
open Go Go.RowKit

theorem sz_J {d : JourD} {w : World} {F : Nat → Prop} {C : Array Value} {L : Int} (h : AtJ d w F (.agg C)) (h0 : 0 ≤ L) (h1 : L ≤ 1048576) :
    Calls Tryz.prog 25 #[.agg C, .int .i64 L] w fun e w' => Left L d.sz e ∧ Below w.heap.size w w' := by
  obtain ⟨A, n, c, A', n', c', e, hm, hm', hr, hr'⟩ := h
  injection e with e
  subst e
  have hb0 := bel_alloc w (.cells #[.slice A n c, .slice A' n' c'] 50)
  have D := Box.new w 50 #[.slice A n c, .slice A' n' c']
  have H := Lib.hid (hr.later hb0)
  have H' := Lib.hid (hr'.later hb0)
  have HM := Lib.hid hm
  have HM' := Lib.hid hm'
  clear hr hr' hm hm'
  have hz : (d.sz : Int) = totC d.ks + totC d.ls := by unfold JourD.sz; omega
  go_enter Tryz.func25, Tryz.ntmps25
  go_upto_region 1 with fail
  generalize (w.alloc _ : World) = w0 at hb0 D H H' ⊢
  obtain ⟨d0, d1⟩ := D.two
  go_wp2_with fail
  refine (sz_CS H.out HM.out h0 h1).mono ?_
  rintro e w1 ⟨⟨u, rfl, hle, hgt⟩, hb⟩
  replace D := D.later hb D.lt
  have E := bel_trans hb0 hb
  have HR := Lib.hid (H'.out.later hb)
  clear hb hb0 d0 d1
  obtain ⟨d0, d1⟩ := D.two
  rcases Int.lt_or_le L (totC d.ks : Int) with hs | hs
  · have hu := hgt hs
    clear hle hgt
    go_wp2
    go_ret
    exact ⟨⟨-1, rfl, fun h => absurd h (by omega), fun _ => by omega⟩, E⟩
  · have hu := hle hs
    clear hle hgt
    subst hu
    have hn : ¬ (L - (totC d.ks : Int) < 0) := by omega
    go_wp2_with fail
    refine (sz_CS HR.out HM'.out (L := L - (totC d.ks : Int)) (by omega) (by omega)).mono ?_
    rintro e w2 ⟨⟨u, rfl, hle, hgt⟩, hb⟩
    have E2 := bel_trans E hb
    clear E hb d0 d1 D
    rcases Int.lt_or_le (L - (totC d.ks : Int)) (totC d.ls : Int) with hs' | hs'
    · have hu := hgt hs'
      clear hle hgt
      go_wp2
      go_ret
      exact ⟨⟨-1, rfl, fun h => absurd h (by omega), fun _ => by omega⟩, E2⟩
    · have hu := hle hs'
      clear hle hgt
      subst hu
      have hn2 : ¬ (L - (totC d.ks : Int) - (totC d.ls : Int) < 0) := by omega
      go_wp2
      go_ret
      exact ⟨⟨_, rfl, fun _ => by omega, fun h => absurd h (by omega)⟩, E2⟩
theorem eq_J {d : JourD} {w : World} {F F' : Nat → Prop} {C C' : Array Value} (h : AtJ d w F (.agg C)) (h' : AtJ d w F' (.agg C')) (hs : d.sz ≤ 1048576) :
    Calls Tryz.prog 29 #[.agg C, .agg C'] w fun e w' => e = .returned (.bool true) ∧ Below w.heap.size w w' := by
  obtain ⟨A, n, c, A', n', c', e, hm, hm', hr, hr'⟩ := h
  obtain ⟨B, p, q, B', p', q', e', -, -, hs1, hs2⟩ := h'
  injection e with e
  injection e' with e'
  subst e e'
  obtain rfl : n = p := hr.1.symm.trans hs1.1
  obtain rfl : n' = p' := hr'.1.symm.trans hs2.1
  have hz1 : totC d.ks ≤ 1048576 := by unfold JourD.sz at hs; omega
  have hz2 : totC d.ls ≤ 1048576 := by unfold JourD.sz at hs; omega
  have hb0 := bel_trans (bel_alloc w (.cells #[.slice A n c, .slice A' n' c'] 29)) (bel_alloc _ (.cells #[.slice B n q, .slice B' n' q'] 29))
  have D := (Box.new w 29 #[.slice A n c, .slice A' n' c']).alloc (.cells #[.slice B n q, .slice B' n' q'] 29)
  have X := Box.new (w.alloc (.cells #[.slice A n c, .slice A' n' c'] 29)) 29 #[.slice B n q, .slice B' n' q']
  simp only [World.size_alloc] at X
  have H1 := Lib.hid (hr.later hb0)
  have H2 := Lib.hid (hr'.later hb0)
  have H3 := Lib.hid (hs1.later hb0)
  have H4 := Lib.hid (hs2.later hb0)
  clear hr hr' hs1 hs2 hm hm' hs
  go_enter Tryz.func29, Tryz.ntmps29
  go_upto_region 1 with fail
  generalize ((w.alloc _).alloc _ : World) = w0 at hb0 D X H1 H2 H3 H4 ⊢
  obtain ⟨d0, d1⟩ := D.two
  obtain ⟨x0, x1⟩ := X.two
  go_wp2_with fail
  refine (eq_CS H1.out H3.out hz1).mono ?_
  rintro e w1 ⟨rfl, hb⟩
  replace D := D.later hb D.lt
  replace X := X.later hb X.lt
  have E := bel_trans hb0 hb
  have K2 := Lib.hid (H2.out.later hb)
  have K4 := Lib.hid (H4.out.later hb)
  clear hb hb0 d0 d1 x0 x1 H1 H2 H3 H4
  obtain ⟨d0, d1⟩ := D.two
  obtain ⟨x0, x1⟩ := X.two
  go_wp2_with fail
  refine (eq_CS K2.out K4.out hz2).mono ?_
  rintro e w2 ⟨rfl, hb⟩
  have E2 := bel_trans E hb
  clear hb E d0 d1 x0 x1 D X
  go_wp2
  go_ret
  exact ⟨rfl, E2⟩
theorem to_J {d : JourD} {w : World} {F : Nat → Prop} {C : Array Value} (h : AtJ d w F (.agg C)) (hs : d.sz ≤ 1048576) : Calls Tryz.prog 27 #[.agg C] w (Copied (LieJ d) w) := by
  obtain ⟨A, n, c, A', n', c', e, hm, hm', hr, hr'⟩ := h
  injection e with e
  subst e
  have hz1 : totC d.ks ≤ 1048576 := by unfold JourD.sz at hs; omega
  have hz2 : totC d.ls ≤ 1048576 := by unfold JourD.sz at hs; omega
  have hn1 : n ≤ 1048576 := by have := totC_rest d.ks 0; rw [totC_zero] at this; have := hr.1; omega
  have hn2 : n' ≤ 1048576 := by have := totC_rest d.ls 0; rw [totC_zero] at this; have := hr'.1; omega
  have HL := Lib.hid hr.1
  have HL' := Lib.hid hr'.1
  have D := ((Box.new w 50 #[.slice A n c, .slice A' n' c']).alloc (.cells #[.slice none 0 0, .slice none 0 0] 29)).alloc (.cells #[.slice none 0 0, .slice none 0 0] 29)
  have X := (Box.new (w.alloc (.cells #[.slice A n c, .slice A' n' c'] 50)) 29 #[.slice none 0 0, .slice none 0 0]).alloc (.cells #[.slice none 0 0, .slice none 0 0] 29)
  have Y := Box.new ((w.alloc (.cells #[.slice A n c, .slice A' n' c'] 50)).alloc (.cells #[.slice none 0 0, .slice none 0 0] 29)) 29 #[.slice none 0 0, .slice none 0 0]
  have hb0 := bel_trans (bel_trans (bel_alloc w (.cells #[.slice A n c, .slice A' n' c'] 50)) (bel_alloc _ (.cells #[.slice none 0 0, .slice none 0 0] 29))) (bel_alloc _ (.cells #[.slice none 0 0, .slice none 0 0] 29))
  simp only [World.size_alloc] at X Y
  have H := Lib.hid (hr.later hb0).lt
  have H' := Lib.hid (hr'.lt.later hb0)
  clear hr hr' hm hm' hs
  go_enter Tryz.func27, Tryz.ntmps27
  go_upto_region 2 with fail
  generalize (((w.alloc _).alloc _).alloc _ : World) = w0 at hb0 D X Y H H' ⊢
  obtain ⟨d0, d1⟩ := D.two
  go_wp2_with fail
  refine (to_CS H.out (fun b hb => hb.2) hz1).mono ?_
  rintro e w1 ⟨G, rfl, hO, hb⟩
  have hY := Y.lt
  have hs1 := hb.size
  replace D := D.later hb D.lt
  replace X := X.later hb X.lt
  replace Y := Y.later hb Y.lt
  have E := bel_trans hb0 hb
  have K' := Lib.hid (H'.out.later hb)
  clear hb hb0 d0 d1
  have hO := hO.cs HL.out (Nat.le_refl _) (by unfold maxLen; omega)
  have t0 := turns_setCells9.turns_cell9 w1 (w.heap.size + 1 + 1) 0 (.slice (some ⟨G, 0, none⟩) n n)
  have D2 := D.far (p := ⟨w.heap.size + 1 + 1, 0, none⟩) (by show w.heap.size + 1 + 1 ≠ _; omega) (.slice (some ⟨G, 0, none⟩) n n)
  have X2 := X.far (p := ⟨w.heap.size + 1 + 1, 0, none⟩) (by show w.heap.size + 1 + 1 ≠ _; omega) (.slice (some ⟨G, 0, none⟩) n n)
  have Y2 := Y.set 0 (.slice (some ⟨G, 0, none⟩) n n)
  have O2 := hO.turn t0 (fun b hb => by have := hb.1; omega)
  have E2 := E.setCell (p := ⟨w.heap.size + 1 + 1, 0, none⟩) (by simp; omega) (.slice (some ⟨G, 0, none⟩) n n)
  have R2 := Lib.hid (K'.out.turn t0 (fun b hb => by have := hb.2; omega))
  obtain ⟨y0, y1⟩ := Y.two
  have fy := Y.frozen
  go_upto_region 3 with fail
  generalize (w1.setCell _ _ : World) = w2 at D2 X2 Y2 O2 E2 R2 ⊢
  clear D X Y hO E K' t0 y0 y1 fy
  obtain ⟨d0, d1⟩ := D2.two
  go_wp2_with fail
  refine (to_CS R2.out (fun b hb => Nat.lt_of_lt_of_le hb.2 E2.size) hz2).mono ?_
  rintro e w3 ⟨G', rfl, hO', hb⟩
  have hY2 := Y2.lt
  replace X2 := X2.later hb X2.lt
  replace Y2 := Y2.later hb Y2.lt
  replace O2 := O2.lt.later hb
  have E := bel_trans E2 hb
  have hs3 := hb.size
  clear hb E2 d0 d1 D2
  have hO' := hO'.cs HL'.out (Nat.le_refl _) (by unfold maxLen; omega)
  have t1 := turns_setCells9.turns_cell9 w3 (w.heap.size + 1 + 1) 1 (.slice (some ⟨G', 0, none⟩) n' n')
  have X3 := X2.far (p := ⟨w.heap.size + 1 + 1, 1, none⟩) (by show w.heap.size + 1 + 1 ≠ _; omega) (.slice (some ⟨G', 0, none⟩) n' n')
  have Y3 := Lib.hid (Y2.set 1 (.slice (some ⟨G', 0, none⟩) n' n'))
  have O3 := O2.turn t1 (fun b hb => by have := hb.1.1; omega)
  have P3 := hO'.turn t1 (fun b hb => by have := hb.1; omega)
  have E3 := E.setCell (p := ⟨w.heap.size + 1 + 1, 1, none⟩) (by simp; omega) (.slice (some ⟨G', 0, none⟩) n' n')
  obtain ⟨y0, y1⟩ := Y2.two
  have fy := Y2.frozen
  have hw3 : (w3.setCell ⟨w.heap.size + 1 + 1, 1, none⟩ (.slice (some ⟨G', 0, none⟩) n' n')).heap.size = w3.heap.size := size_set _ _ _
  go_upto_region 4 with fail
  generalize (w3.setCell _ _ : World) = w4 at X3 Y3 O3 P3 E3 hw3 ⊢
  clear X2 Y2 O2 E hO' t1 y0 y1 fy
  have Y4 : Box w4 (w.heap.size + 1 + 1) 29 #[.slice (some ⟨G, 0, none⟩) n n, .slice (some ⟨G', 0, none⟩) n' n'] := Y3.out
  obtain ⟨y0, y1⟩ := Y4.two
  have fy := X3.frozen
  obtain ⟨x0, x1⟩ := X3.two
  have hne : w.heap.size + 1 + 1 ≠ w.heap.size + 1 := by omega
  have t2 := turns_setCells9.turns_cell9 w4 (w.heap.size + 1) 0 (.slice (some ⟨G, 0, none⟩) n n)
  have t3 := turns_setCells9.turns_cell9 (w4.setCell ⟨w.heap.size + 1, 0, none⟩ (.slice (some ⟨G, 0, none⟩) n n)) (w.heap.size + 1) 1 (.slice (some ⟨G', 0, none⟩) n' n')
  have O5 := (O3.turn t2 (fun b hb => by have := hb.1.1; omega)).turn t3 (fun b hb => by have := hb.1.1; omega)
  have P5 := (P3.turn t2 (fun b hb => by have := hb.1; omega)).turn t3 (fun b hb => by have := hb.1; omega)
  have E5 := (E3.setCell (p := ⟨w.heap.size + 1, 0, none⟩) (by show w.heap.size ≤ w.heap.size + 1; omega) (.slice (some ⟨G, 0, none⟩) n n)).setCell (p := ⟨w.heap.size + 1, 1, none⟩) (by show w.heap.size ≤ w.heap.size + 1; omega) (.slice (some ⟨G', 0, none⟩) n' n')
  have X5 := Lib.hid ((X3.set 0 (.slice (some ⟨G, 0, none⟩) n n)).set 1 (.slice (some ⟨G', 0, none⟩) n' n'))
  have hs5 : ((w4.setCell ⟨w.heap.size + 1, 0, none⟩ (.slice (some ⟨G, 0, none⟩) n n)).setCell ⟨w.heap.size + 1, 1, none⟩ (.slice (some ⟨G', 0, none⟩) n' n')).heap.size = w4.heap.size := (size_set _ _ _).trans (size_set _ _ _)
  go_wp2
  generalize ((w4.setCell _ _).setCell _ _ : World) = w5 at O5 P5 E5 X5 hs5 ⊢
  have X6 : Box w5 (w.heap.size + 1) 29 #[.slice (some ⟨G, 0, none⟩) n n, .slice (some ⟨G', 0, none⟩) n' n'] := X5.out
  obtain ⟨z0, z1⟩ := X6.two
  refine bodyPost_ret (v := .agg #[.slice (some ⟨G, 0, none⟩) n n, .slice (some ⟨G', 0, none⟩) n' n']) (by simp [results, Tryz.results27, go_sem, z0, z1]) rfl ⟨_, rfl, ⟨_, _, _, _, rfl, O5, P5, fun b hb => ⟨?_, ?_⟩, fun b hb => ⟨?_, ?_⟩, fun b hb hb2 => ?_⟩, E5⟩
  · have := hb.1.1; omega
  · have := hb.2; omega
  · have := hb.1; omega
  · have := hb.2; omega
  · have := hb.2; have := hb2.1; omega
end Go.Proofs.YtjdepjpjjgkmbaaGreat

/- Crashed and Synced, the program's and the model's: what is left of a journal, in memory of its own (written by jour_crash.py); conditions: the sizes. -/
namespace Go.Proofs.YtjdepjpjjgkmbaaGreat
open Go Go.RowKit

def crashD (g : GrpD) (d : JourD) (bs : List Bool) : JourD := if jokD g d = true then ⟨d.ks ++ d.ls.take (leftN bs d.ls.length), []⟩ else ⟨[], []⟩
theorem zeroJ (w : World) (F : Nat → Prop) : LieJ ⟨[], []⟩ w F (.agg #[.slice none 0 0, .slice none 0 0]) := ⟨_, _, fun _ => False, fun _ => False, rfl, .inl ⟨rfl, rfl⟩, .inl ⟨rfl, rfl⟩, fun _ h => h.elim, fun _ h => h.elim, fun _ h => h.elim⟩
theorem keptJ {w : World} {F : Nat → Prop} {ds : List RecD} {u : Value} (h : OwnCS ds w F u) : LieJ ⟨ds, []⟩ w F (.agg #[u, .slice none 0 0]) := ⟨_, _, F, fun _ => False, rfl, h, .inl ⟨rfl, rfl⟩, fun _ h => h, fun _ h => h.elim, fun _ _ h => h⟩
theorem turns_row9 (w : World) (V : Nat) (C : Array Value) : Turns (· = V) w (w.setRow V C) := turns_setRow w V C

set_option maxRecDepth 100000 in
set_option maxHeartbeats 4000000 in
theorem crashed_is {g : GrpD} {d d' : JourD} {w : World} {F0 F1 F2 : Nat → Prop} {C0 C1 : Array Value} {A : Option Addr} {n c : Nat} {bs : List Bool} (h0 : AtG g w F0 (.agg C0)) (h1 : AtS9 d w F1 (.agg C1)) (hbf : BoolF w F2 A n bs) (hm : n ≤ maxLen) (hs : d.sz ≤ 1048576) (hd : crashD g d bs = d') :
    Calls Tryz.prog 14 #[.agg C0, .agg C1, .slice A n c] w (Copied (LieJ d') w) := by
  obtain ⟨u1, u2, e, hk, hl⟩ := h1
  injection e with e
  subst e
  obtain ⟨A1, c1, rfl, -, -⟩ := hk.at
  obtain ⟨A2, c2, rfl, -, -⟩ := hl.at
  have HZ := Lib.hid hd
  have hsz : totC d.ks + totC d.ls ≤ 1048576 := hs
  obtain ⟨n1, hn1⟩ : ∃ n, d.ks.length = n := ⟨_, rfl⟩
  obtain ⟨n2, hn2⟩ : ∃ n, d.ls.length = n := ⟨_, rfl⟩
  have hk0 : ListS d.ks w F1 (.slice A1 n1 c1) := by rw [← hn1]; exact hk
  have hl0 : ListS d.ls w F1 (.slice A2 n2 c2) := by rw [← hn2]; exact hl
  rw [hn1, hn2]
  have HN1 := Lib.hid hn1
  have HN2 := Lib.hid hn2
  clear hk hl hd hn1 hn2
  have J0 := Lib.hid (sizeG h0).2
  have hb0 := bel_trans (bel_trans (bel_alloc w (.cells C0 26)) (bel_alloc _ (.cells #[.slice A1 n1 c1, .slice A2 n2 c2] 29))) (bel_alloc _ (.cells #[.slice none 0 0, .slice none 0 0] 29))
  have G := ((Box.new w 26 C0).alloc (.cells #[.slice A1 n1 c1, .slice A2 n2 c2] 29)).alloc (.cells #[.slice none 0 0, .slice none 0 0] 29)
  have J := (Box.new (w.alloc (.cells C0 26)) 29 #[.slice A1 n1 c1, .slice A2 n2 c2]).alloc (.cells #[.slice none 0 0, .slice none 0 0] 29)
  have R := Box.new ((w.alloc (.cells C0 26)).alloc (.cells #[.slice A1 n1 c1, .slice A2 n2 c2] 29)) 29 #[.slice none 0 0, .slice none 0 0]
  simp only [World.size_alloc] at J R
  have H0 := Lib.hid ((keepsG g).later h0 hb0)
  have HK := Lib.hid (hk0.later hb0)
  have HLL := Lib.hid (hl0.later hb0)
  have HBF := Lib.hid (hbf.later hb0)
  clear hbf
  clear h0 hk0 hl0
  go_enter Tryz.func14, Tryz.ntmps14
  go_upto_region 1 with fail
  generalize (((w.alloc _).alloc _).alloc _ : World) = w0 at hb0 G J R H0 HK HLL HBF ⊢
  have hw0 := hb0.size
  have hR0 := R.lt
  have HB := Below.refl w0.heap.size w0
  obtain ⟨z, hz⟩ : ∃ z, jokD g d = z := ⟨_, rfl⟩
  have HJ := Lib.hid hz
  clear hz
  go_wp2_with (first | (refine wpList_load_box 26 _ rfl (w.heap.size) rfl 26 C0 G _ Tryz.underlying26 rfl J0.out (by first | rfl | simp [Region.wanted, yielded] | (simp [Region.wanted, yielded, Act.put] <;> omega)) ?_) | (refine wpList_load_box 29 _ rfl (w.heap.size + 1) rfl 29 #[.slice A1 n1 c1, .slice A2 n2 c2] J _ Tryz.underlying29 rfl (by kernel_rfl) (by first | rfl | simp [Region.wanted, yielded] | (simp [Region.wanted, yielded, Act.put] <;> omega)) ?_))
  refine (journalOk_is H0.out ⟨_, _, rfl, HK.out, HLL.out⟩ hs HJ.out).mono ?_
  rintro e w1 ⟨rfl, hb⟩
  replace HB := bel_trans HB hb
  replace G := G.later hb G.lt
  replace J := J.later hb J.lt
  replace R := R.later hb R.lt
  clear hb
  cases z
  · have HD := Lib.hid (show d' = ⟨[], []⟩ by rw [← HZ.out]; unfold crashD; rw [HJ.out]; rfl)
    have R2 := R.setRow #[.slice none 0 0, .slice none 0 0]
    have E := Lib.hid (((turns_row9 w1 (w.heap.size + 1 + 1) #[.slice none 0 0, .slice none 0 0]).below (bel_trans hb0 HB) (fun b hb => by omega)))
    obtain ⟨r0, r1⟩ := R2.two
    clear R2 G J
    go_wp2_with (refine wpList_store_row rfl 29 _ _ rfl (w.heap.size + 1 + 1) _ rfl rfl 29 #[.slice none 0 0, .slice none 0 0] R (by kernel_rfl) rfl (by simp [Value.oneCell']) ?_)
    exact bodyPost_ret (v := .agg #[.slice none 0 0, .slice none 0 0]) (by simp [results, Tryz.results14, go_sem, r0, r1]) rfl ⟨_, rfl, by rw [HD.out]; exact zeroJ _ _, E.out⟩
  · skip
    have HD := Lib.hid (show d' = ⟨d.ks ++ d.ls.take (leftN bs d.ls.length), []⟩ by rw [← HZ.out]; unfold crashD; rw [HJ.out]; rfl)
    clear HZ HJ G
    go_upto_region 3 with fail
    refine wp_region_sink 9 (fun w' => Box w' (w.heap.size + 1) 29 #[.slice A1 n1 c1, .slice A2 n2 c2]) (by kernel_rfl) J (fun hH => ?_)
    have hb := (Below.refl w1.heap.size w1).drew
    replace HB := bel_trans HB hb
    replace J := J.later hb J.lt
    replace R := R.later hb R.lt
    clear hb
    generalize w1.drew = w3 at J R HB hH ⊢
    refine wpAnyE_pure (i := 0) (v := ?vp0) (by simp only [List.getElem?_toArray, List.getElem?_cons_zero]; rfl) (by kernel_rfl) (by kernel_rfl) (by kernel_rfl) (by exact fun _ _ _ h => h) (by kernel_rfl) (Or.inl ⟨by rfl, ?yp0⟩) hH ?rp0
    case yp0 => (intro w' hSw; (try dsimp only at hSw); go_simp; try with_reducible rfl)
    try simp only [Act.put, List.setIfInBounds_toArray, List.set_cons_zero, List.set_cons_succ]
    refine wpAnyE_takeS (i := 1) (v := (.slice A1 n1 c1)) (by simp only [List.getElem?_toArray, List.getElem?_cons_succ, List.getElem?_cons_zero]; rfl) (by kernel_rfl) (by kernel_rfl) (by kernel_rfl) (by exact fun _ _ _ h => h) (by kernel_rfl) ?yc1 hH ?_
    case yc1 => exact .inl ⟨(by first | rfl | simp [Region.wanted, yielded] | (simp [Region.wanted, yielded, Act.put] <;> omega)), fun w' hSw => by (try dsimp only at hSw); have hc := (Box.two hSw).1; go_simp; try with_reducible rfl⟩
    try simp only [Act.put, List.setIfInBounds_toArray, List.set_cons_zero, List.set_cons_succ]
    refine wpAnyE_pure (i := 2) (v := ?vp2) (by simp only [List.getElem?_toArray, List.getElem?_cons_succ, List.getElem?_cons_zero]; rfl) (by kernel_rfl) (by kernel_rfl) (by kernel_rfl) (by exact fun _ _ _ h => h) (by kernel_rfl) (Or.inl ⟨by rfl, ?yp2⟩) hH ?rp2
    case yp2 => (intro w' hSw; (try dsimp only at hSw); go_simp; try with_reducible rfl)
    try simp only [Act.put, List.setIfInBounds_toArray, List.set_cons_zero, List.set_cons_succ]
    refine wpAnyE_takeS (i := 3) (v := (.slice A2 n2 c2)) (by simp only [List.getElem?_toArray, List.getElem?_cons_succ, List.getElem?_cons_zero]; rfl) (by kernel_rfl) (by kernel_rfl) (by kernel_rfl) (by exact fun _ _ _ h => h) (by kernel_rfl) ?yc3 hH ?_
    case yc3 => exact .inl ⟨(by first | rfl | simp [Region.wanted, yielded] | (simp [Region.wanted, yielded, Act.put] <;> omega)), fun w' hSw => by (try dsimp only at hSw); have hc := (Box.two hSw).2; go_simp; try with_reducible rfl⟩
    try simp only [Act.put, List.setIfInBounds_toArray, List.set_cons_zero, List.set_cons_succ]
    refine wpAnyE_pure (i := 4) (v := ?vp4) (by simp only [List.getElem?_toArray, List.getElem?_cons_succ, List.getElem?_cons_zero]; rfl) (by kernel_rfl) (by kernel_rfl) (by kernel_rfl) (by exact fun _ _ _ h => h) (by kernel_rfl) (Or.inl ⟨by rfl, ?yp4⟩) hH ?rp4
    case yp4 => (intro w' hSw; (try dsimp only at hSw); go_simp; try with_reducible rfl)
    try simp only [Act.put, List.setIfInBounds_toArray, List.set_cons_zero, List.set_cons_succ]
    refine wpAnyE_one (i := 5) (by kernel_rfl) (by simp only [List.getElem?_toArray, List.getElem?_cons_succ, List.getElem?_cons_zero]; rfl) (fun K hK => ?_)
    go_simp
    refine (leftOf_is (HLL.out.later HB) (HBF.out.later HB) hm).mono ?_
    rintro e w4 ⟨u, rfl, hT, rfl⟩
    have hTl : totC (d.ls.take (leftN bs d.ls.length)) ≤ totC d.ls := totC_take _ _
    generalize d.ls.take (leftN bs d.ls.length) = tk at hT hTl HD
    obtain ⟨B, q, rfl, -, -⟩ := hT.at
    obtain ⟨m, hmk⟩ : ∃ m, tk.length = m := ⟨_, rfl⟩
    rw [hmk] at hT ⊢
    have HMK := Lib.hid hmk
    clear hmk
    clear hH
    refine hK.out _ _ J (fun hH => ?_)
    clear hK K
    try simp only [Act.put, List.setIfInBounds_toArray, List.set_cons_zero, List.set_cons_succ]
    refine wpAnyE_one (i := 6) (by kernel_rfl) (by simp only [List.getElem?_toArray, List.getElem?_cons_succ, List.getElem?_cons_zero]; rfl) (fun K hK => ?_)
    go_simp
    refine (joined_is (HK.out.later HB) hT (by omega)).mono ?_
    rintro e w4 ⟨GG, rfl, hO, hb⟩
    have hs3 := HB.size
    replace J := J.later hb J.lt
    replace R := R.later hb R.lt
    replace HB := bel_trans HB hb
    clear hT hb
    clear hH
    refine hK.out _ _ J (fun hH => ?_)
    clear hK K
    try simp only [Act.put, List.setIfInBounds_toArray, List.set_cons_zero, List.set_cons_succ]
    generalize d.ks.length + tk.length = N at hO ⊢
    generalize d.ks ++ tk = kk at hO HD
    refine wpAnyE_pure (i := 7) (v := ?vp7) (by simp only [List.getElem?_toArray, List.getElem?_cons_succ, List.getElem?_cons_zero]; rfl) (by kernel_rfl) (by kernel_rfl) (by kernel_rfl) (by exact fun _ _ _ h => h) (by kernel_rfl) (Or.inl ⟨by rfl, ?yp7⟩) hH ?rp7
    case yp7 => (intro w' hSw; (try dsimp only at hSw); go_simp; try with_reducible rfl)
    try simp only [Act.put, List.setIfInBounds_toArray, List.set_cons_zero, List.set_cons_succ]
    refine wpAnyE_end (i := 8) (by kernel_rfl) (by simp only [List.getElem?_toArray, List.getElem?_cons_succ, List.getElem?_cons_zero]; rfl) (by kernel_rfl) (fun K hK => ?_)
    rw [if_pos (by first | rfl | kernel_rfl | simp [Region.wanted, yielded])]
    have ht := turns_row9 w4 (w.heap.size + 1 + 1) #[.slice (some ⟨GG, 0, none⟩) N N, .slice none 0 0]
    refine wp_store_row 29 _ _ rfl (w.heap.size + 1 + 1) _ rfl rfl 29 #[.slice none 0 0, .slice none 0 0] R (by kernel_rfl) rfl (by simp [Value.oneCell']) ?_
    refine hK.out _ _ (J.turn ht (by omega)) ?_
    clear hK K hH
    try simp only [Act.put]
    have R2 := R.setRow #[.slice (some ⟨GG, 0, none⟩) N N, .slice none 0 0]
    have O2 := hO.lt.turn ht (fun b hb => by have := hb.1.1; omega)
    have hsz5 := ht.size
    have E := Lib.hid (ht.below (bel_trans hb0 HB) (fun b hb => by omega))
    clear R J ht
    generalize (w4.setRow _ _ : World) = w5 at R2 O2 E hsz5 ⊢
    obtain ⟨r0, r1⟩ := R2.two
    have O3 := Lib.hid O2
    clear R2 O2 hO
    go_wp2
    exact bodyPost_ret (v := .agg #[.slice (some ⟨GG, 0, none⟩) N N, .slice none 0 0]) (by simp [results, Tryz.results14, go_sem, r0, r1]) rfl ⟨_, rfl, by rw [HD.out]; exact keptJ (O3.out.sub (fun b hb => ⟨by have := hb.1.1; omega, by have := hb.2; omega⟩)), E.out⟩
end Go.Proofs.YtjdepjpjjgkmbaaGreat

/- Crashed of the model: what is left of a journal, in memory of its own (written by jour_crash2.py); conditions: the sizes. -/
namespace Go.Proofs.YtjdepjpjjgkmbaaGreat
open Go Go.RowKit

theorem left_go {bs : List Bool} {m k : Nat} (h : k < leftN bs m) : k < m ∧ ∀ hk : k < bs.length, bs[k] = false := by
  have hm := leftN_le bs m
  refine ⟨by omega, fun hk => ?_⟩
  unfold leftN at h
  have h1 : k < bs.findIdx id := by
    split at h
    · omega
    · have := List.findIdx_le_length (p := id) (xs := bs)
      omega
  have h2 := List.not_of_lt_findIdx h1
  simp only [id] at h2
  simpa using h2
theorem left_stop {bs : List Bool} {m : Nat} (h : leftN bs m < m) : ∃ hk : leftN bs m < bs.length, bs[leftN bs m] = true := by
  unfold leftN at h ⊢
  by_cases hc : bs.findIdx id < bs.length
  · rw [if_pos hc] at h
    have e : (if bs.findIdx id < bs.length then min (bs.findIdx id) m else m) = bs.findIdx id := by rw [if_pos hc]; omega
    rw [show (if bs.findIdx id < bs.length then min (bs.findIdx id) m else m) = bs.findIdx id from e]
    have h2 := List.findIdx_getElem (p := id) (xs := bs) (w := hc)
    exact ⟨hc, h2⟩
  · rw [if_neg hc] at h
    omega

set_option maxRecDepth 100000 in
set_option maxHeartbeats 4000000 in
theorem specCrashed_is {g : GrpD} {d d' : JourD} {w : World} {F0 F1 F2 : Nat → Prop} {C0 C1 : Array Value} {A : Option Addr} {n c : Nat} {bs : List Bool} (h0 : AtG g w F0 (.agg C0)) (h1 : AtS9 d w F1 (.agg C1)) (hbf : BoolF w F2 A n bs) (hm : n ≤ maxLen) (hs : d.sz ≤ 1048576) (hd : crashD g d bs = d') :
    Calls Tryz.prog 16 #[.agg C0, .agg C1, .slice A n c] w (Copied (LieJ d') w) := by
  obtain ⟨u1, u2, e, hk, hl⟩ := h1
  injection e with e
  subst e
  obtain ⟨A1, c1, rfl, -, -⟩ := hk.at
  obtain ⟨A2, c2, rfl, -, -⟩ := hl.at
  have HZ := Lib.hid hd
  have hsz : totC d.ks + totC d.ls ≤ 1048576 := hs
  obtain ⟨n1, hn1⟩ : ∃ n, d.ks.length = n := ⟨_, rfl⟩
  obtain ⟨n2, hn2⟩ : ∃ n, d.ls.length = n := ⟨_, rfl⟩
  have hk0 : ListS d.ks w F1 (.slice A1 n1 c1) := by rw [← hn1]; exact hk
  have hl0 : ListS d.ls w F1 (.slice A2 n2 c2) := by rw [← hn2]; exact hl
  rw [hn1, hn2]
  have HN1 := Lib.hid hn1
  have HN2 := Lib.hid hn2
  clear hk hl hd hn1 hn2
  have J0 := Lib.hid (sizeG h0).2
  have hb0 := bel_trans (bel_trans (bel_alloc w (.cells C0 26)) (bel_alloc _ (.cells #[.slice A1 n1 c1, .slice A2 n2 c2] 29))) (bel_alloc _ (.cells #[.slice none 0 0, .slice none 0 0] 29))
  have G := ((Box.new w 26 C0).alloc (.cells #[.slice A1 n1 c1, .slice A2 n2 c2] 29)).alloc (.cells #[.slice none 0 0, .slice none 0 0] 29)
  have J := (Box.new (w.alloc (.cells C0 26)) 29 #[.slice A1 n1 c1, .slice A2 n2 c2]).alloc (.cells #[.slice none 0 0, .slice none 0 0] 29)
  have R := Box.new ((w.alloc (.cells C0 26)).alloc (.cells #[.slice A1 n1 c1, .slice A2 n2 c2] 29)) 29 #[.slice none 0 0, .slice none 0 0]
  simp only [World.size_alloc] at J R
  have H0 := Lib.hid ((keepsG g).later h0 hb0)
  have HK := Lib.hid (hk0.later hb0)
  have HLL := Lib.hid (hl0.later hb0)
  have HBF := Lib.hid (hbf.later hb0)
  clear hbf
  clear h0 hk0 hl0
  go_enter Tryz.func16, Tryz.ntmps16
  go_upto_region 1 with fail
  generalize (((w.alloc _).alloc _).alloc _ : World) = w0 at hb0 G J R H0 HK HLL HBF ⊢
  have hw0 := hb0.size
  have hR0 := R.lt
  have HB := Below.refl w0.heap.size w0
  obtain ⟨z, hz⟩ : ∃ z, jokD g d = z := ⟨_, rfl⟩
  have HJ := Lib.hid hz
  clear hz
  go_wp2_with (first | (refine wpList_load_box 26 _ rfl (w.heap.size) rfl 26 C0 G _ Tryz.underlying26 rfl J0.out (by first | rfl | simp [Region.wanted, yielded] | (simp [Region.wanted, yielded, Act.put] <;> omega)) ?_) | (refine wpList_load_box 29 _ rfl (w.heap.size + 1) rfl 29 #[.slice A1 n1 c1, .slice A2 n2 c2] J _ Tryz.underlying29 rfl (by kernel_rfl) (by first | rfl | simp [Region.wanted, yielded] | (simp [Region.wanted, yielded, Act.put] <;> omega)) ?_))
  refine (specJournalOk_is H0.out ⟨_, _, rfl, HK.out, HLL.out⟩ hs HJ.out).mono ?_
  rintro e w1 ⟨rfl, hb⟩
  replace HB := bel_trans HB hb
  replace G := G.later hb G.lt
  replace J := J.later hb J.lt
  replace R := R.later hb R.lt
  clear hb
  cases z
  · have HD := Lib.hid (show d' = ⟨[], []⟩ by rw [← HZ.out]; unfold crashD; rw [HJ.out]; rfl)
    have R2 := R.setRow #[.slice none 0 0, .slice none 0 0]
    have E := Lib.hid (((turns_row9 w1 (w.heap.size + 1 + 1) #[.slice none 0 0, .slice none 0 0]).below (bel_trans hb0 HB) (fun b hb => by omega)))
    obtain ⟨r0, r1⟩ := R2.two
    clear R2 G J
    go_wp2_with (refine wpList_store_row rfl 29 _ _ rfl (w.heap.size + 1 + 1) _ rfl rfl 29 #[.slice none 0 0, .slice none 0 0] R (by kernel_rfl) rfl (by simp [Value.oneCell']) ?_)
    exact bodyPost_ret (v := .agg #[.slice none 0 0, .slice none 0 0]) (by simp [results, Tryz.results16, go_sem, r0, r1]) rfl ⟨_, rfl, by rw [HD.out]; exact zeroJ _ _, E.out⟩
  · skip
    have HD := Lib.hid (show d' = ⟨d.ks ++ d.ls.take (leftN bs d.ls.length), []⟩ by rw [← HZ.out]; unfold crashD; rw [HJ.out]; rfl)
    clear HZ HJ G
    have h2 : d.sz ≤ 2097152 := by omega
    have hml : d.ks.length + d.ls.length ≤ 1048576 := by have := totC_len d.ks; have := totC_len d.ls; omega
    rw [HN1.out, HN2.out] at hml
    rw [HN2.out] at HD
    have HB2 := Lib.hid HBF.out.1
    unfold maxLen at hm
    obtain ⟨kl, hkl⟩ : ∃ x, leftN bs n2 = x := ⟨_, rfl⟩
    have hle := leftN_le bs n2
    rw [hkl] at HD hle
    have HKL := Lib.hid hkl
    clear hkl
    go_wp2_with fail
    go_loopw [7] (fun i wr => ∃ k : Nat, k ≤ kl ∧ i = .int .i64 k ∧ wr = w1) (fun i _ => kl - (intOf i).toNat)
    case atStart => exact ⟨0, Nat.zero_le _, rfl, rfl⟩
    case round =>
      obtain ⟨k, hk, rfl, rfl⟩ := hrel
      obtain ⟨j0, j1⟩ := J.two
      by_cases hlt : k < kl
      · have hg := left_go (show k < leftN bs n2 by rw [HKL.out]; exact hlt)
        have h3 : (k : Int) < (n2 : Int) := by have := hg.1; omega
        have hkw : IntKind.i64.wrap ((k : Int) + 1) = (k : Int) + 1 := IntWalk.i64_in _ (by omega)
        rcases Nat.lt_or_ge k n with h4 | h4
        · have h5 : (k : Int) < (n : Int) := by omega
          have h6 : ¬ ((n : Int) ≤ (k : Int)) := by omega
          obtain ⟨b, o, hA, -, hbl, hc⟩ := HBF.out.2 (by omega)
          subst hA
          have hkb : k < bs.length := by have := HB2.out; omega
          have c0 := (HB.cell (p := ⟨b, o + k, none⟩) hbl).trans (hc k hkb)
          rw [hg.2 hkb] at c0
          clear hc hg
          go_wp2
          go_roundw
          case rel => exact ⟨k + 1, by omega, by go_num, trivial⟩
          case measure => simp [intOf]; omega
        · have h6 : ((n : Int) ≤ (k : Int)) := by omega
          clear hg
          go_wp2
          go_roundw
          case rel => exact ⟨k + 1, by omega, by go_num, trivial⟩
          case measure => simp [intOf]; omega
      · have hkk : k = kl := by omega
        subst hkk
        clear hlt hk
        have hstop : Hid (n2 ≤ k ∨ ∃ hk : k < bs.length, bs[k] = true) := by
          rcases Nat.lt_or_ge k n2 with h3 | h3
          · have h4 := left_stop (bs := bs) (m := n2) (by rw [HKL.out]; exact h3)
            simp only [HKL.out] at h4
            exact .inr h4
          · exact .inl h3
        rcases Nat.lt_or_ge k n2 with h3 | h3
        · obtain h9 | ⟨hkb, hbk⟩ := hstop.out
          · omega
          have h3 : (k : Int) < (n2 : Int) := by omega
          have h5 : (k : Int) < (n : Int) := by have := HB2.out; omega
          have h6 : ¬ ((n : Int) ≤ (k : Int)) := by omega
          obtain ⟨b, o, hA, -, hbl, hc⟩ := HBF.out.2 (by omega)
          subst hA
          have c0 := (HB.cell (p := ⟨b, o + k, none⟩) hbl).trans (hc k hkb)
          rw [hbk] at c0
          clear hc
          go_upto_region 6 with fail
          clear c0 hkb hbk hbl h5 h6
          have hs0 := HB.size
          refine wp_region_sink 11 (fun w' => Box w' (w.heap.size + 1) 29 #[.slice A1 n1 c1, .slice A2 n2 c2]) (by kernel_rfl) J (fun hH => ?_)
          have hb := (Below.refl wr.heap.size wr).drew
          replace HB := bel_trans HB hb
          replace J := J.later hb J.lt
          replace R := R.later hb R.lt
          clear hb j0 j1
          generalize wr.drew = w3 at J R HB hH ⊢
          refine wpAnyE_takeS (i := 0) (v := .agg #[.slice A1 n1 c1, .slice A2 n2 c2]) (by simp only [List.getElem?_toArray, List.getElem?_cons_zero]; rfl) (by kernel_rfl) (by kernel_rfl) (by kernel_rfl) (by exact fun _ _ _ h => h) (by kernel_rfl) ?yaz hH ?_
          case yaz => exact yields_box 29 _ rfl (w.heap.size + 1) rfl 29 #[.slice A1 n1 c1, .slice A2 n2 c2] (fun _ h => h) _ Tryz.underlying29 rfl (by kernel_rfl) (by first | rfl | simp [Region.wanted, yielded] | (simp [Region.wanted, yielded, Act.put] <;> omega))
          try simp only [Act.put, List.setIfInBounds_toArray, List.set_cons_zero, List.set_cons_succ]
          refine wpAnyE_pure (i := 2) (v := ?vap2) (by simp only [List.getElem?_toArray, List.getElem?_cons_succ, List.getElem?_cons_zero]; rfl) (by kernel_rfl) (by kernel_rfl) (by kernel_rfl) (by exact fun _ _ _ h => h) (by kernel_rfl) (Or.inl ⟨by rfl, ?yap2⟩) hH ?rap2
          case yap2 => (intro w' hSw; (try dsimp only at hSw); go_simp; try with_reducible rfl)
          try simp only [Act.put, List.setIfInBounds_toArray, List.set_cons_zero, List.set_cons_succ]
          refine wpAnyE_takeS (i := 3) (v := (.slice A1 n1 c1)) (by simp only [List.getElem?_toArray, List.getElem?_cons_succ, List.getElem?_cons_zero]; rfl) (by kernel_rfl) (by kernel_rfl) (by kernel_rfl) (by exact fun _ _ _ h => h) (by kernel_rfl) ?yac3 hH ?_
          case yac3 => exact .inl ⟨(by first | rfl | simp [Region.wanted, yielded] | (simp [Region.wanted, yielded, Act.put] <;> omega)), fun w' hSw => by (try dsimp only at hSw); have hc := (Box.two hSw).1; go_simp; try with_reducible rfl⟩
          try simp only [Act.put, List.setIfInBounds_toArray, List.set_cons_zero, List.set_cons_succ]
          have hadd : IntKind.i64.wrap ((n1 : Int) + (k : Int)) = (n1 : Int) + (k : Int) := IntWalk.i64_in _ (by omega)
          have h0k : 0 ≤ (n1 : Int) + (k : Int) := by omega
          refine wpAnyE_pure (i := 4) (v := ?vap4) (by simp only [List.getElem?_toArray, List.getElem?_cons_succ, List.getElem?_cons_zero]; rfl) (by kernel_rfl) (by kernel_rfl) (by kernel_rfl) (by exact fun _ _ _ h => h) (by kernel_rfl) (Or.inl ⟨by rfl, ?yap4⟩) hH ?rap4
          case yap4 => (intro w' hSw; (try dsimp only at hSw); go_simp; try with_reducible rfl)
          try simp only [Act.put, List.setIfInBounds_toArray, List.set_cons_zero, List.set_cons_succ]
          refine wpAnyE_pure (i := 5) (v := ?vap5) (by simp only [List.getElem?_toArray, List.getElem?_cons_succ, List.getElem?_cons_zero]; rfl) (by kernel_rfl) (by kernel_rfl) (by kernel_rfl) (by exact fun _ _ _ h => h) (by kernel_rfl) (Or.inl ⟨by rfl, ?yap5⟩) hH ?rap5
          case yap5 => (intro w' hSw; (try dsimp only at hSw); go_simp; try with_reducible rfl)
          try simp only [Act.put, List.setIfInBounds_toArray, List.set_cons_zero, List.set_cons_succ]
          refine wpAnyE_pure (i := 6) (v := ?vap6) (by simp only [List.getElem?_toArray, List.getElem?_cons_succ, List.getElem?_cons_zero]; rfl) (by kernel_rfl) (by kernel_rfl) (by kernel_rfl) (by exact fun _ _ _ h => h) (by kernel_rfl) (Or.inl ⟨by rfl, ?yap6⟩) hH ?rap6
          case yap6 => (intro w' hSw; (try dsimp only at hSw); go_simp; try with_reducible rfl)
          try simp only [Act.put, List.setIfInBounds_toArray, List.set_cons_zero, List.set_cons_succ]
          refine wpAnyE_one (i := 1) (by kernel_rfl) (by simp only [List.getElem?_toArray, List.getElem?_cons_succ, List.getElem?_cons_zero]; rfl) (fun K hK => ?_)
          go_simp
          refine (l10All_is ⟨_, _, rfl, HK.out.later HB, HLL.out.later HB⟩ h2).mono ?_
          rintro e w6 ⟨u, rfl, hL, hb⟩
          replace HB := bel_trans HB hb
          replace J := J.later hb J.lt
          replace R := R.later hb R.lt
          clear hb
          obtain ⟨B, q, rfl, hqm, -⟩ := hL.at
          have hap : d.ks ++ d.ls.take k = (d.ks ++ d.ls).take (n1 + k) := by rw [← HN1.out, List.take_append, List.take_of_length_le (l := d.ks) (i := d.ks.length + k) (Nat.le_add_right _ _)]; simp
          rw [hap] at HD
          have hln : (d.ks ++ d.ls).length = n1 + n2 := by rw [List.length_append, HN1.out, HN2.out]
          have htt : totC ((d.ks ++ d.ls).take (n1 + k)) ≤ 2097152 := by have := totC_take (d.ks ++ d.ls) (n1 + k); rw [totC_app] at this; omega
          clear hap
          rw [hln] at hL hqm ⊢
          have hq : n1 + n2 ≤ q := by
            rcases hL with ⟨e, h9⟩ | ⟨b9, o9, c9, e, g1, g2, _⟩
            · injection e with _ e _
              omega
            · injection e with _ _ e
              rw [hln] at g1
              omega
          have h0B : B = none → n1 + k = 0 ∧ q = 0 := fun hB => by
            rcases hL with ⟨e, h9⟩ | ⟨b9, o9, c9, e, _⟩
            · injection e with _ e1 e2
              omega
            · injection e with e _ _
              rw [hB] at e
              cases e
          have hqx : q ≤ maxLen := by
            rcases hL with ⟨e, h9⟩ | ⟨b9, o9, c9, e, _, g2, _⟩
            · injection e with _ _ e
              rw [e]
              exact Nat.zero_le _
            · injection e with _ _ e
              rw [e]
              exact g2
          have hT := hL.take (k := n1 + k) (by rw [hln]; omega) (c' := q) (by omega) hqx (fun hB => (h0B hB).2)
          generalize (d.ks ++ d.ls).take (n1 + k) = tk at hT htt HD
          clear hL
          clear hH
          refine hK.out _ _ J (fun hH => ?_)
          clear hK K
          try simp only [Act.put, List.setIfInBounds_toArray, List.set_cons_zero, List.set_cons_succ]
          refine wpAnyE_one (i := 7) (by kernel_rfl) (by simp only [List.getElem?_toArray, List.getElem?_cons_succ, List.getElem?_cons_zero]; rfl) (fun K hK => ?_)
          go_simp
          rw [if_pos (show (n1 : Int) + (k : Int) ≤ (q : Int) by omega), show ((n1 : Int) + (k : Int)).toNat = n1 + k by omega]
          clear hH
          refine hK.out _ _ J (fun hH => ?_)
          clear hK K
          try simp only [Act.put, List.setIfInBounds_toArray, List.set_cons_zero, List.set_cons_succ]
          refine wpAnyE_one (i := 8) (by kernel_rfl) (by simp only [List.getElem?_toArray, List.getElem?_cons_succ, List.getElem?_cons_zero]; rfl) (fun K hK => ?_)
          go_simp
          refine (l10Recs_is hT htt).mono ?_
          rintro e w4 ⟨GG, cp, rfl, hO, hb⟩
          have hs3 := HB.size
          replace HB := bel_trans HB hb
          replace J := J.later hb J.lt
          replace R := R.later hb R.lt
          clear hb hT
          generalize tk.length = N at hO ⊢
          clear hH
          refine hK.out _ _ J (fun hH => ?_)
          clear hK K
          try simp only [Act.put, List.setIfInBounds_toArray, List.set_cons_zero, List.set_cons_succ]
          refine wpAnyE_pure (i := 9) (v := ?vap9) (by simp only [List.getElem?_toArray, List.getElem?_cons_succ, List.getElem?_cons_zero]; rfl) (by kernel_rfl) (by kernel_rfl) (by kernel_rfl) (by exact fun _ _ _ h => h) (by kernel_rfl) (Or.inl ⟨by rfl, ?yap9⟩) hH ?rap9
          case yap9 => (intro w' hSw; (try dsimp only at hSw); go_simp; try with_reducible rfl)
          try simp only [Act.put, List.setIfInBounds_toArray, List.set_cons_zero, List.set_cons_succ]
          refine wpAnyE_end (i := 10) (by kernel_rfl) (by simp only [List.getElem?_toArray, List.getElem?_cons_succ, List.getElem?_cons_zero]; rfl) (by kernel_rfl) (fun K hK => ?_)
          rw [if_pos (by first | rfl | kernel_rfl | simp [Region.wanted, yielded])]
          have ht := turns_row9 w4 (w.heap.size + 1 + 1) #[.slice (some ⟨GG, 0, none⟩) N cp, .slice none 0 0]
          refine wp_store_row 29 _ _ rfl (w.heap.size + 1 + 1) _ rfl rfl 29 #[.slice none 0 0, .slice none 0 0] R (by kernel_rfl) rfl (by simp [Value.oneCell']) ?_
          refine hK.out _ _ (J.turn ht (by omega)) ?_
          clear hK K hH
          try simp only [Act.put]
          have R2 := R.setRow #[.slice (some ⟨GG, 0, none⟩) N cp, .slice none 0 0]
          have O2 := hO.lt.turn ht (fun b hb => by have := hb.1.1; omega)
          have hsz5 := ht.size
          have E := Lib.hid (ht.below (bel_trans hb0 HB) (fun b hb => by omega))
          clear R J ht
          generalize (w4.setRow _ _ : World) = w5 at R2 O2 E hsz5 ⊢
          obtain ⟨r0, r1⟩ := R2.two
          have O3 := Lib.hid O2
          clear R2 O2 hO
          go_wp2
          exact bodyPost_ret (v := .agg #[.slice (some ⟨GG, 0, none⟩) N cp, .slice none 0 0]) (by simp [results, Tryz.results16, go_sem, r0, r1]) rfl ⟨_, rfl, by rw [HD.out]; exact keptJ (O3.out.sub (fun b hb => ⟨by have := hb.1.1; omega, by have := hb.2; omega⟩)), E.out⟩
        · have h6 : ¬ ((k : Int) < (n2 : Int)) := by omega
          go_upto_region 6 with fail
          have hs0 := HB.size
          refine wp_region_sink 11 (fun w' => Box w' (w.heap.size + 1) 29 #[.slice A1 n1 c1, .slice A2 n2 c2]) (by kernel_rfl) J (fun hH => ?_)
          have hb := (Below.refl wr.heap.size wr).drew
          replace HB := bel_trans HB hb
          replace J := J.later hb J.lt
          replace R := R.later hb R.lt
          clear hb j0 j1
          generalize wr.drew = w3 at J R HB hH ⊢
          refine wpAnyE_takeS (i := 0) (v := .agg #[.slice A1 n1 c1, .slice A2 n2 c2]) (by simp only [List.getElem?_toArray, List.getElem?_cons_zero]; rfl) (by kernel_rfl) (by kernel_rfl) (by kernel_rfl) (by exact fun _ _ _ h => h) (by kernel_rfl) ?ybz hH ?_
          case ybz => exact yields_box 29 _ rfl (w.heap.size + 1) rfl 29 #[.slice A1 n1 c1, .slice A2 n2 c2] (fun _ h => h) _ Tryz.underlying29 rfl (by kernel_rfl) (by first | rfl | simp [Region.wanted, yielded] | (simp [Region.wanted, yielded, Act.put] <;> omega))
          try simp only [Act.put, List.setIfInBounds_toArray, List.set_cons_zero, List.set_cons_succ]
          refine wpAnyE_pure (i := 2) (v := ?vbp2) (by simp only [List.getElem?_toArray, List.getElem?_cons_succ, List.getElem?_cons_zero]; rfl) (by kernel_rfl) (by kernel_rfl) (by kernel_rfl) (by exact fun _ _ _ h => h) (by kernel_rfl) (Or.inl ⟨by rfl, ?ybp2⟩) hH ?rbp2
          case ybp2 => (intro w' hSw; (try dsimp only at hSw); go_simp; try with_reducible rfl)
          try simp only [Act.put, List.setIfInBounds_toArray, List.set_cons_zero, List.set_cons_succ]
          refine wpAnyE_takeS (i := 3) (v := (.slice A1 n1 c1)) (by simp only [List.getElem?_toArray, List.getElem?_cons_succ, List.getElem?_cons_zero]; rfl) (by kernel_rfl) (by kernel_rfl) (by kernel_rfl) (by exact fun _ _ _ h => h) (by kernel_rfl) ?ybc3 hH ?_
          case ybc3 => exact .inl ⟨(by first | rfl | simp [Region.wanted, yielded] | (simp [Region.wanted, yielded, Act.put] <;> omega)), fun w' hSw => by (try dsimp only at hSw); have hc := (Box.two hSw).1; go_simp; try with_reducible rfl⟩
          try simp only [Act.put, List.setIfInBounds_toArray, List.set_cons_zero, List.set_cons_succ]
          have hadd : IntKind.i64.wrap ((n1 : Int) + (k : Int)) = (n1 : Int) + (k : Int) := IntWalk.i64_in _ (by omega)
          have h0k : 0 ≤ (n1 : Int) + (k : Int) := by omega
          refine wpAnyE_pure (i := 4) (v := ?vbp4) (by simp only [List.getElem?_toArray, List.getElem?_cons_succ, List.getElem?_cons_zero]; rfl) (by kernel_rfl) (by kernel_rfl) (by kernel_rfl) (by exact fun _ _ _ h => h) (by kernel_rfl) (Or.inl ⟨by rfl, ?ybp4⟩) hH ?rbp4
          case ybp4 => (intro w' hSw; (try dsimp only at hSw); go_simp; try with_reducible rfl)
          try simp only [Act.put, List.setIfInBounds_toArray, List.set_cons_zero, List.set_cons_succ]
          refine wpAnyE_pure (i := 5) (v := ?vbp5) (by simp only [List.getElem?_toArray, List.getElem?_cons_succ, List.getElem?_cons_zero]; rfl) (by kernel_rfl) (by kernel_rfl) (by kernel_rfl) (by exact fun _ _ _ h => h) (by kernel_rfl) (Or.inl ⟨by rfl, ?ybp5⟩) hH ?rbp5
          case ybp5 => (intro w' hSw; (try dsimp only at hSw); go_simp; try with_reducible rfl)
          try simp only [Act.put, List.setIfInBounds_toArray, List.set_cons_zero, List.set_cons_succ]
          refine wpAnyE_pure (i := 6) (v := ?vbp6) (by simp only [List.getElem?_toArray, List.getElem?_cons_succ, List.getElem?_cons_zero]; rfl) (by kernel_rfl) (by kernel_rfl) (by kernel_rfl) (by exact fun _ _ _ h => h) (by kernel_rfl) (Or.inl ⟨by rfl, ?ybp6⟩) hH ?rbp6
          case ybp6 => (intro w' hSw; (try dsimp only at hSw); go_simp; try with_reducible rfl)
          try simp only [Act.put, List.setIfInBounds_toArray, List.set_cons_zero, List.set_cons_succ]
          refine wpAnyE_one (i := 1) (by kernel_rfl) (by simp only [List.getElem?_toArray, List.getElem?_cons_succ, List.getElem?_cons_zero]; rfl) (fun K hK => ?_)
          go_simp
          refine (l10All_is ⟨_, _, rfl, HK.out.later HB, HLL.out.later HB⟩ h2).mono ?_
          rintro e w6 ⟨u, rfl, hL, hb⟩
          replace HB := bel_trans HB hb
          replace J := J.later hb J.lt
          replace R := R.later hb R.lt
          clear hb
          obtain ⟨B, q, rfl, hqm, -⟩ := hL.at
          have hap : d.ks ++ d.ls.take k = (d.ks ++ d.ls).take (n1 + k) := by rw [← HN1.out, List.take_append, List.take_of_length_le (l := d.ks) (i := d.ks.length + k) (Nat.le_add_right _ _)]; simp
          rw [hap] at HD
          have hln : (d.ks ++ d.ls).length = n1 + n2 := by rw [List.length_append, HN1.out, HN2.out]
          have htt : totC ((d.ks ++ d.ls).take (n1 + k)) ≤ 2097152 := by have := totC_take (d.ks ++ d.ls) (n1 + k); rw [totC_app] at this; omega
          clear hap
          rw [hln] at hL hqm ⊢
          have hq : n1 + n2 ≤ q := by
            rcases hL with ⟨e, h9⟩ | ⟨b9, o9, c9, e, g1, g2, _⟩
            · injection e with _ e _
              omega
            · injection e with _ _ e
              rw [hln] at g1
              omega
          have h0B : B = none → n1 + k = 0 ∧ q = 0 := fun hB => by
            rcases hL with ⟨e, h9⟩ | ⟨b9, o9, c9, e, _⟩
            · injection e with _ e1 e2
              omega
            · injection e with e _ _
              rw [hB] at e
              cases e
          have hqx : q ≤ maxLen := by
            rcases hL with ⟨e, h9⟩ | ⟨b9, o9, c9, e, _, g2, _⟩
            · injection e with _ _ e
              rw [e]
              exact Nat.zero_le _
            · injection e with _ _ e
              rw [e]
              exact g2
          have hT := hL.take (k := n1 + k) (by rw [hln]; omega) (c' := q) (by omega) hqx (fun hB => (h0B hB).2)
          generalize (d.ks ++ d.ls).take (n1 + k) = tk at hT htt HD
          clear hL
          clear hH
          refine hK.out _ _ J (fun hH => ?_)
          clear hK K
          try simp only [Act.put, List.setIfInBounds_toArray, List.set_cons_zero, List.set_cons_succ]
          refine wpAnyE_one (i := 7) (by kernel_rfl) (by simp only [List.getElem?_toArray, List.getElem?_cons_succ, List.getElem?_cons_zero]; rfl) (fun K hK => ?_)
          go_simp
          rw [if_pos (show (n1 : Int) + (k : Int) ≤ (q : Int) by omega), show ((n1 : Int) + (k : Int)).toNat = n1 + k by omega]
          clear hH
          refine hK.out _ _ J (fun hH => ?_)
          clear hK K
          try simp only [Act.put, List.setIfInBounds_toArray, List.set_cons_zero, List.set_cons_succ]
          refine wpAnyE_one (i := 8) (by kernel_rfl) (by simp only [List.getElem?_toArray, List.getElem?_cons_succ, List.getElem?_cons_zero]; rfl) (fun K hK => ?_)
          go_simp
          refine (l10Recs_is hT htt).mono ?_
          rintro e w4 ⟨GG, cp, rfl, hO, hb⟩
          have hs3 := HB.size
          replace HB := bel_trans HB hb
          replace J := J.later hb J.lt
          replace R := R.later hb R.lt
          clear hb hT
          generalize tk.length = N at hO ⊢
          clear hH
          refine hK.out _ _ J (fun hH => ?_)
          clear hK K
          try simp only [Act.put, List.setIfInBounds_toArray, List.set_cons_zero, List.set_cons_succ]
          refine wpAnyE_pure (i := 9) (v := ?vbp9) (by simp only [List.getElem?_toArray, List.getElem?_cons_succ, List.getElem?_cons_zero]; rfl) (by kernel_rfl) (by kernel_rfl) (by kernel_rfl) (by exact fun _ _ _ h => h) (by kernel_rfl) (Or.inl ⟨by rfl, ?ybp9⟩) hH ?rbp9
          case ybp9 => (intro w' hSw; (try dsimp only at hSw); go_simp; try with_reducible rfl)
          try simp only [Act.put, List.setIfInBounds_toArray, List.set_cons_zero, List.set_cons_succ]
          refine wpAnyE_end (i := 10) (by kernel_rfl) (by simp only [List.getElem?_toArray, List.getElem?_cons_succ, List.getElem?_cons_zero]; rfl) (by kernel_rfl) (fun K hK => ?_)
          rw [if_pos (by first | rfl | kernel_rfl | simp [Region.wanted, yielded])]
          have ht := turns_row9 w4 (w.heap.size + 1 + 1) #[.slice (some ⟨GG, 0, none⟩) N cp, .slice none 0 0]
          refine wp_store_row 29 _ _ rfl (w.heap.size + 1 + 1) _ rfl rfl 29 #[.slice none 0 0, .slice none 0 0] R (by kernel_rfl) rfl (by simp [Value.oneCell']) ?_
          refine hK.out _ _ (J.turn ht (by omega)) ?_
          clear hK K hH
          try simp only [Act.put]
          have R2 := R.setRow #[.slice (some ⟨GG, 0, none⟩) N cp, .slice none 0 0]
          have O2 := hO.lt.turn ht (fun b hb => by have := hb.1.1; omega)
          have hsz5 := ht.size
          have E := Lib.hid (ht.below (bel_trans hb0 HB) (fun b hb => by omega))
          clear R J ht
          generalize (w4.setRow _ _ : World) = w5 at R2 O2 E hsz5 ⊢
          obtain ⟨r0, r1⟩ := R2.two
          have O3 := Lib.hid O2
          clear R2 O2 hO
          go_wp2
          exact bodyPost_ret (v := .agg #[.slice (some ⟨GG, 0, none⟩) N cp, .slice none 0 0]) (by simp [results, Tryz.results16, go_sem, r0, r1]) rfl ⟨_, rfl, by rw [HD.out]; exact keptJ (O3.out.sub (fun b hb => ⟨by have := hb.1.1; omega, by have := hb.2; omega⟩)), E.out⟩

end Go.Proofs.YtjdepjpjjgkmbaaGreat

/- Records of one's own, a cell or a list of one of them written; conditions: the sizes. -/
namespace Go.Proofs.YtjdepjpjjgkmbaaGreat
open Go Go.RowKit

theorem upD_same (D : Nat → RecD) (i : Nat) (d : RecD) : upD D i d i = d := by simp [upD]
theorem upD_twice (D : Nat → RecD) (i : Nat) (a b : RecD) : upD (upD D i a) i b = upD D i b := by
  funext j
  unfold upD
  split <;> rfl
theorem far9 (w : World) (g : Nat) (v : Value) {a b : Nat} (h : a ≠ b) : (w.setCell ⟨g, a, none⟩ v).cell? ⟨g, b, none⟩ = w.cell? ⟨g, b, none⟩ := World.cell?_setCell_other _ _ _ _ (fun e => h (by injection e))
/-- One cell of one of them is written. -/
theorem RecsAt.cell {w : World} {g n : Nat} {D : Nat → RecD} {Fs : Nat → Nat → Prop} (h : RecsAt w g n D Fs) {i : Nat} (hi : i < n) {j : Nat} (hj : j < 9) (v : Value) (d' : RecD) (hps : d'.ps = (D i).ps) (hc : ∀ u, (d'.cells u).toList = ((D i).cells u).toList.set j v) :
    RecsAt (w.setCell ⟨g, i * 9 + j, none⟩ v) g n (upD D i d') Fs := by
  have ht := turns_setCells9 g [v] (i * 9 + j) w
  have hsz : (w.setCell ⟨g, i * 9 + j, none⟩ v).heap.size = w.heap.size := size_set _ _ _
  refine ⟨by rw [hsz]; exact h.lt, fun o => (World.frozen?_setCell _ _ _ _).trans (h.fr o), fun k hk => ?_, h.apart, h.two⟩
  obtain ⟨u, h1, h2⟩ := h.row k hk
  by_cases e : k = i
  · subst e
    rw [upD_same]
    refine ⟨u, fun p x hx => ?_, ?_⟩
    · rw [hc u] at hx
      by_cases hp : p = j
      · subst hp
        have hl : p < ((D k).cells u).toList.length := by rw [cells_len]; exact hj
        rw [List.getElem?_set_self hl] at hx
        injection hx with hx
        subst hx
        obtain ⟨y, hy⟩ : ∃ y, ((D k).cells u).toList[p]? = some y := ⟨_, List.getElem?_eq_getElem hl⟩
        exact World.cell?_setCell_same' _ _ _ (by rw [h1 p y hy]; rfl)
      · rw [List.getElem?_set_ne (Ne.symm hp)] at hx
        exact (far9 w g v (by omega)).trans (h1 p x hx)
    · obtain ⟨u2, e2, hO⟩ := h2
      injection e2 with e2
      have hu : u = u2 := by simpa [RecD.cells] using e2
      subst hu
      exact ⟨u, rfl, hps ▸ hO.turn ht (h.apart k hk)⟩
  · have hd : upD D i d' k = D k := by simp [upD, e]
    rw [hd]
    refine ⟨u, fun p x hx => ?_, (keepsLC _).turn h2 ht (h.apart k hk)⟩
    have hp : p < 9 := by
      have := (List.getElem?_eq_some_iff.1 hx).1
      rwa [cells_len] at this
    exact (far9 w g v (by omega)).trans (h1 p x hx)
/-- The seven numbers ahead of the list are written. -/
theorem RecsAt.seven {w : World} {g n : Nat} {D : Nat → RecD} {Fs : Nat → Nat → Prop} (h : RecsAt w g n D Fs) {i : Nat} (hi : i < n) (x0 x1 x2 x3 x4 x5 x6 : Int) :
    RecsAt (((((((w.setCell ⟨g, i * 9, none⟩ (.int .i64 x0)).setCell ⟨g, i * 9 + 1, none⟩ (.int .i64 x1)).setCell ⟨g, i * 9 + 2, none⟩ (.int .i64 x2)).setCell ⟨g, i * 9 + 3, none⟩ (.int .i64 x3)).setCell ⟨g, i * 9 + 4, none⟩ (.int .i64 x4)).setCell ⟨g, i * 9 + 5, none⟩ (.int .i64 x5)).setCell ⟨g, i * 9 + 6, none⟩ (.int .i64 x6)) g n (upD D i ⟨x0, x1, x2, x3, x4, x5, x6, (D i).ps, (D i).r8⟩) Fs := by
  have h0 := h.cell hi (j := 0) (by omega) (.int .i64 x0) ⟨x0, (D i).r2, (D i).r3, (D i).r4, (D i).r5, (D i).r6, (D i).r7, (D i).ps, (D i).r8⟩ rfl (fun _ => rfl)
  have h1 := h0.cell hi (j := 1) (by omega) (.int .i64 x1) ⟨x0, x1, (D i).r3, (D i).r4, (D i).r5, (D i).r6, (D i).r7, (D i).ps, (D i).r8⟩ (by rw [upD_same]) (fun _ => by rw [upD_same]; rfl)
  rw [upD_twice] at h1
  have h2 := h1.cell hi (j := 2) (by omega) (.int .i64 x2) ⟨x0, x1, x2, (D i).r4, (D i).r5, (D i).r6, (D i).r7, (D i).ps, (D i).r8⟩ (by rw [upD_same]) (fun _ => by rw [upD_same]; rfl)
  rw [upD_twice] at h2
  have h3 := h2.cell hi (j := 3) (by omega) (.int .i64 x3) ⟨x0, x1, x2, x3, (D i).r5, (D i).r6, (D i).r7, (D i).ps, (D i).r8⟩ (by rw [upD_same]) (fun _ => by rw [upD_same]; rfl)
  rw [upD_twice] at h3
  have h4 := h3.cell hi (j := 4) (by omega) (.int .i64 x4) ⟨x0, x1, x2, x3, x4, (D i).r6, (D i).r7, (D i).ps, (D i).r8⟩ (by rw [upD_same]) (fun _ => by rw [upD_same]; rfl)
  rw [upD_twice] at h4
  have h5 := h4.cell hi (j := 5) (by omega) (.int .i64 x5) ⟨x0, x1, x2, x3, x4, x5, (D i).r7, (D i).ps, (D i).r8⟩ (by rw [upD_same]) (fun _ => by rw [upD_same]; rfl)
  rw [upD_twice] at h5
  have h6 := h5.cell hi (j := 6) (by omega) (.int .i64 x6) ⟨x0, x1, x2, x3, x4, x5, x6, (D i).ps, (D i).r8⟩ (by rw [upD_same]) (fun _ => by rw [upD_same]; rfl)
  rw [upD_twice] at h6
  exact h6
/-- The list of one of them is written. -/
theorem RecsAt.list {w w' : World} {g n : Nat} {D : Nat → RecD} {Fs : Nat → Nat → Prop} (h : RecsAt w g n D Fs) {i : Nat} (hi : i < n) {T : Nat → Prop} (ht : Turns T w w') (hT : ∀ b, T b → Fs i b) {u : Value} {ps' : List (Int × Int)} (hu : w.cell? ⟨g, i * 9 + 7, none⟩ = some u) (hO : OwnP w' (Fs i) u ps') :
    RecsAt w' g n (upD D i ⟨(D i).r1, (D i).r2, (D i).r3, (D i).r4, (D i).r5, (D i).r6, (D i).r7, ps', (D i).r8⟩) Fs := by
  have hg : ¬ T g := fun hb => h.apart i hi g (hT g hb) rfl
  refine ⟨Nat.lt_of_lt_of_le h.lt ht.size, fun o => (ht.frozen h.lt hg o).trans (h.fr o), fun k hk => ?_, h.apart, h.two⟩
  obtain ⟨u1, h1, h2⟩ := h.row k hk
  by_cases e : k = i
  · subst e
    rw [upD_same]
    have hc : w.cell? ⟨g, k * 9 + 7, none⟩ = some u1 := h1 7 u1 rfl
    rw [hu] at hc
    injection hc with hc
    subst hc
    exact ⟨u, fun p x hx => (ht.cell h.lt hg _).trans (h1 p x hx), u, rfl, hO⟩
  · have hd : upD D i ⟨(D i).r1, (D i).r2, (D i).r3, (D i).r4, (D i).r5, (D i).r6, (D i).r7, ps', (D i).r8⟩ k = D k := by simp [upD, e]
    rw [hd]
    exact ⟨u1, fun p x hx => (ht.cell h.lt hg _).trans (h1 p x hx), (keepsLC _).turn h2 ht (fun b hb hb2 => h.two k i hk hi e b hb (hT b hb2))⟩
end Go.Proofs.YtjdepjpjjgkmbaaGreat

/- The laws' mark on a list of records of one's own; conditions: the sizes. -/
namespace Go.Proofs.YtjdepjpjjgkmbaaGreat
open Go Go.RowKit

theorem ownP_res9 {w : World} {F : Nat → Prop} {u : Value} {ps : List (Int × Int)} (h : OwnP w F u ps) : ∃ lo hi, ResP w lo hi u ps ∧ ∀ b, Iv lo hi b → F b := ownP_res h
theorem resP_own {w : World} {lo hi : Nat} {F : Nat → Prop} {u : Value} {ps : List (Int × Int)} (h : ResP w lo hi u ps) (hF : ∀ b, Iv lo hi b → F b) : OwnP w F u ps := by
  rcases h with h | ⟨g, cap, h1, h2, h3, h4, h5, h6⟩
  · exact .inl h
  · exact .inr ⟨g, cap, hF g ⟨h1, h2⟩, h3, h4, h5, h6⟩

end Go.Proofs.YtjdepjpjjgkmbaaGreat

/- The laws' marks on lists of one's own that may be empty, wherever those point; conditions: the sizes. -/
namespace Go.Proofs.YtjdepjpjjgkmbaaGreat
open Go Go.RowKit

end Go.Proofs.YtjdepjpjjgkmbaaGreat

/- The laws' mark on a list of records of one's own, and the look at it; conditions: the sizes. -/
namespace Go.Proofs.YtjdepjpjjgkmbaaGreat
open Go Go.RowKit

/-- The first j of them are marked, from k on. -/
def MarkedCS (k : Int) (S : Nat → Nat) (D D' : Nat → RecD) (j : Nat) : Prop :=
  (∀ i, (D' i).ps.length = (D i).ps.length) ∧ ∀ i, i < j → (D' i).r1 = k + S i ∧ (D' i).r2 = k + S i + 1 ∧ (D' i).r3 = k + S i + 1 + 1 ∧ (D' i).r4 = k + S i + 1 + 1 + 1 ∧ (D' i).r5 = k + S i + 1 + 1 + 1 + 1 ∧ (D' i).r6 = k + S i + 1 + 1 + 1 + 1 + 1 ∧ (D' i).r7 = k + S i + 1 + 1 + 1 + 1 + 1 + 1 ∧ Marked (k + S i + 1 + 1 + 1 + 1 + 1 + 1 + 1) (D' i).ps ∧ (D' i).r8 = k + S i + 1 + 1 + 1 + 1 + 1 + 1 + 1 + 2 * (D i).ps.length

set_option maxRecDepth 100000 in
set_option maxHeartbeats 8000000 in
theorem markd_CS {w : World} {G n cap : Nat} {D : Nat → RecD} {Fs : Nat → Nat → Prop} {k : Int} (h : RecsAt w G n D Fs) (hn : n ≤ 1048576) (S : Nat → Nat) (hS0 : S 0 = 0) (hS : ∀ j, j < n → S (j + 1) = S j + 8 + 2 * (D j).ps.length) (hSn : ∀ j, j ≤ n → S j ≤ 20000000) (hlen : ∀ j, j < n → (D j).ps.length ≤ 1048577) (hk0 : 0 ≤ k) (hk1 : k ≤ 10000000) :
    Calls Tryz.prog 92 #[.slice (some ⟨G, 0, none⟩) n cap, .int .i64 k] w fun e w' => e = .returned (.int .i64 (k + S n)) ∧ Turns (fun b => b = G ∨ ∃ i, i < n ∧ Fs i b) w w' ∧ ∃ D', RecsAt w' G n D' Fs ∧ MarkedCS k S D D' n := by
  have HS := Lib.hid hS
  have HSN := Lib.hid hSn
  have HLN := Lib.hid hlen
  have HS0 := Lib.hid hS0
  clear hS hSn hlen hS0
  go_enter Tryz.func92, Tryz.ntmps92
  go_wp2
  go_loopw [1, 5] (fun kv i wr => ∃ (j : Nat) (D' : Nat → RecD), j ≤ n ∧ i = .int .i64 j ∧ kv = .int .i64 (k + S j) ∧ RecsAt wr G n D' Fs ∧ MarkedCS k S D D' j ∧ Turns (fun b => b = G ∨ ∃ i, i < n ∧ Fs i b) w wr) (fun _ i _ => n - (intOf i).toNat)
  case atStart => exact ⟨0, D, Nat.zero_le _, rfl, by rw [HS0.out]; simp, h, ⟨fun _ => rfl, fun i hi => absurd hi (by omega)⟩, Turns.of_below (Below.refl _ _)⟩
  case round =>
    clear h
    obtain ⟨j, D', hj, rfl, rfl, h, hl, ht⟩ := hrel
    by_cases hlt : j < n
    · obtain ⟨u, hr, u2, e2, hO⟩ := h.row j hlt
      injection e2 with e2
      have hu : u = u2 := by simpa [RecD.cells] using e2
      subst hu
      clear e2
      have c0 : wr.cell? ⟨G, j * 9, none⟩ = some (.int .i64 (D' j).r1) := hr 0 _ rfl
      have c1 : wr.cell? ⟨G, j * 9 + 1, none⟩ = some (.int .i64 (D' j).r2) := hr 1 _ rfl
      have c2 : wr.cell? ⟨G, j * 9 + 2, none⟩ = some (.int .i64 (D' j).r3) := hr 2 _ rfl
      have c3 : wr.cell? ⟨G, j * 9 + 3, none⟩ = some (.int .i64 (D' j).r4) := hr 3 _ rfl
      have c4 : wr.cell? ⟨G, j * 9 + 4, none⟩ = some (.int .i64 (D' j).r5) := hr 4 _ rfl
      have c5 : wr.cell? ⟨G, j * 9 + 5, none⟩ = some (.int .i64 (D' j).r6) := hr 5 _ rfl
      have c6 : wr.cell? ⟨G, j * 9 + 6, none⟩ = some (.int .i64 (D' j).r7) := hr 6 _ rfl
      have c7 : wr.cell? ⟨G, j * 9 + 7, none⟩ = some u := hr 7 _ rfl
      have c8 : wr.cell? ⟨G, j * 9 + 8, none⟩ = some (.int .i64 (D' j).r8) := hr 8 _ rfl
      have fG := h.fr
      have hSj := HSN.out j hj
      obtain ⟨q, hq⟩ : ∃ q : Int, k + (S j : Int) = q := ⟨_, rfl⟩
      have hq0 : 0 ≤ q := by omega
      have hq1 : q ≤ 30000000 := by omega
      rw [hq]
      have HQ := Lib.hid hq
      clear hq hSj
      have v0 : IntKind.i64.wrap (q + 1) = q + 1 := IntWalk.i64_in _ (by omega)
      have v1 : IntKind.i64.wrap (q + 1 + 1) = q + 1 + 1 := IntWalk.i64_in _ (by omega)
      have v2 : IntKind.i64.wrap (q + 1 + 1 + 1) = q + 1 + 1 + 1 := IntWalk.i64_in _ (by omega)
      have v3 : IntKind.i64.wrap (q + 1 + 1 + 1 + 1) = q + 1 + 1 + 1 + 1 := IntWalk.i64_in _ (by omega)
      have v4 : IntKind.i64.wrap (q + 1 + 1 + 1 + 1 + 1) = q + 1 + 1 + 1 + 1 + 1 := IntWalk.i64_in _ (by omega)
      have v5 : IntKind.i64.wrap (q + 1 + 1 + 1 + 1 + 1 + 1) = q + 1 + 1 + 1 + 1 + 1 + 1 := IntWalk.i64_in _ (by omega)
      have v6 : IntKind.i64.wrap (q + 1 + 1 + 1 + 1 + 1 + 1 + 1) = q + 1 + 1 + 1 + 1 + 1 + 1 + 1 := IntWalk.i64_in _ (by omega)
      have hkw : IntKind.i64.wrap ((j : Int) + 1) = (j : Int) + 1 := IntWalk.i64_in _ (by omega)
      have hltI : (j : Int) < (n : Int) := by omega
      have HSJ := Lib.hid (HS.out j hlt)
      have HLJ := Lib.hid (HLN.out j hlt)
      have HMM := Lib.hid hl
      replace hl := hl.1
      have HLE := Lib.hid (hl j)
      go_upto_region 18 with fail
      have K7 := h.seven hlt (q) (q + 1) (q + 1 + 1) (q + 1 + 1 + 1) (q + 1 + 1 + 1 + 1) (q + 1 + 1 + 1 + 1 + 1) (q + 1 + 1 + 1 + 1 + 1 + 1)
      have t7 : Turns (· = G) wr (((((((wr.setCell ⟨G, j * 9, none⟩ (.int .i64 (q))).setCell ⟨G, j * 9 + 1, none⟩ (.int .i64 (q + 1))).setCell ⟨G, j * 9 + 2, none⟩ (.int .i64 (q + 1 + 1))).setCell ⟨G, j * 9 + 3, none⟩ (.int .i64 (q + 1 + 1 + 1))).setCell ⟨G, j * 9 + 4, none⟩ (.int .i64 (q + 1 + 1 + 1 + 1))).setCell ⟨G, j * 9 + 5, none⟩ (.int .i64 (q + 1 + 1 + 1 + 1 + 1))).setCell ⟨G, j * 9 + 6, none⟩ (.int .i64 (q + 1 + 1 + 1 + 1 + 1 + 1))) := turns_setCells9 G [.int .i64 (q), .int .i64 (q + 1), .int .i64 (q + 1 + 1), .int .i64 (q + 1 + 1 + 1), .int .i64 (q + 1 + 1 + 1 + 1), .int .i64 (q + 1 + 1 + 1 + 1 + 1), .int .i64 (q + 1 + 1 + 1 + 1 + 1 + 1)] (j * 9) wr
      have n7 := (K7.row j hlt)
      rw [upD_same] at n7
      obtain ⟨u3, hr3, u4, e4, hO4⟩ := n7
      injection e4 with e4
      have hu4 : u3 = u4 := by simpa [RecD.cells] using e4
      subst hu4
      clear e4
      clear c0 c1 c2 c3 c4 c5 c6 c7 c8 fG v0 v1 v2 v3 v4 v5 v6 hr hO
      generalize (((((((wr.setCell ⟨G, j * 9, none⟩ (.int .i64 (q))).setCell ⟨G, j * 9 + 1, none⟩ (.int .i64 (q + 1))).setCell ⟨G, j * 9 + 2, none⟩ (.int .i64 (q + 1 + 1))).setCell ⟨G, j * 9 + 3, none⟩ (.int .i64 (q + 1 + 1 + 1))).setCell ⟨G, j * 9 + 4, none⟩ (.int .i64 (q + 1 + 1 + 1 + 1))).setCell ⟨G, j * 9 + 5, none⟩ (.int .i64 (q + 1 + 1 + 1 + 1 + 1))).setCell ⟨G, j * 9 + 6, none⟩ (.int .i64 (q + 1 + 1 + 1 + 1 + 1 + 1))) = w7 at K7 t7 hr3 hO4 ⊢
      have c7 : w7.cell? ⟨G, j * 9 + 7, none⟩ = some u3 := hr3 7 _ rfl
      obtain ⟨q7, hq7⟩ : ∃ q7 : Int, q + 1 + 1 + 1 + 1 + 1 + 1 + 1 = q7 := ⟨_, rfl⟩
      rw [hq7]
      have HQ7 := Lib.hid hq7
      have hp0 : 0 ≤ q7 := by omega
      have hp1 : q7 ≤ 30000007 := by omega
      clear hq7 hq0 hq1
      obtain ⟨lo, hi, hRP, hFs⟩ := ownP_res9 hO4
      have HRP := Lib.hid hRP
      clear hRP hO4 hr3
      go_upto_region 19 with (go_at_call 36; refine (markP_is q7 HRP.out (by rw [HLE.out]; exact HLJ.out) hp0 (by omega)).mono ?_; rintro e w8 ⟨rfl, D2, hd1, hd2, hR2, hB⟩)
      have K8 := K7.list hlt (Turns.of_band hB) hFs c7 (resP_own hR2 hFs)
      rw [upD_twice, upD_same] at K8
      have t8 := Turns.of_band hB
      have n8 := K8.row j hlt
      rw [upD_same] at n8
      obtain ⟨u5, hr5, -⟩ := n8
      have c8 : w8.cell? ⟨G, j * 9 + 8, none⟩ = some (.int .i64 (D' j).r8) := hr5 8 _ rfl
      have fG := K8.fr
      have HL2 := Lib.hid hd1
      have HD2 := Lib.hid hd2
      have HF := Lib.hid hFs
      obtain ⟨q8, hq8⟩ : ∃ q8 : Int, q7 + 2 * ((D j).ps.length : Int) = q8 := ⟨_, rfl⟩
      have hql := HLJ.out
      rw [hq8]
      have HQ8 := Lib.hid hq8
      have v8 : IntKind.i64.wrap (q8 + 1) = q8 + 1 := IntWalk.i64_in _ (by omega)
      have t9 := turns_setCells9 G [.int .i64 q8] (j * 9 + 8) w8
      have K9 := K8.cell hlt (j := 8) (by omega) (.int .i64 q8) ⟨q, q + 1, q + 1 + 1, q + 1 + 1 + 1, q + 1 + 1 + 1 + 1, q + 1 + 1 + 1 + 1 + 1, q + 1 + 1 + 1 + 1 + 1 + 1, D2, q8⟩ (by rw [upD_same]) (fun _ => by rw [upD_same]; rfl)
      rw [upD_twice] at K9
      clear hq8 hql hd1 hd2 hR2 hB hr5 hFs c7
      go_wp2
      go_roundw
      case rel =>
        refine ⟨j + 1, _, by omega, by go_num, ?_, K9, ⟨fun i => ?_, fun i hi => ?_⟩, ?_⟩
        · rw [HSJ.out]
          have h1 := HQ8.out
          have h2 := HQ7.out
          have h3 := HQ.out
          have h4 := HLE.out
          congr 1
          omega
        · by_cases e : i = j
          · subst e
            rw [upD_same]
            show D2.length = _
            rw [HL2.out]
            exact HLE.out
          · rw [show ∀ d, upD D' j d i = D' i from fun d => by simp [upD, e]]
            exact HMM.out.1 i
        · by_cases e : i = j
          · subst e
            rw [upD_same]
            have h1 := HQ.out
            have h2 := HQ7.out
            have h3 := HQ8.out
            have h4 := HD2.out
            rw [h1]
            refine ⟨rfl, rfl, rfl, rfl, rfl, rfl, rfl, by rw [h2]; exact h4, ?_⟩
            show q8 = _
            omega
          · rw [show ∀ d, upD D' j d i = D' i from fun d => by simp [upD, e]]
            exact HMM.out.2 i (by omega)
        · exact ((ht.trans (t7.sub (fun _ _ e => .inl e))).trans (t8.sub (fun b _ hb => .inr ⟨j, hlt, HF.out b hb⟩))).trans (t9.sub (fun _ _ e => .inl e))
      case measure => simp [intOf]; omega
    · have hjn : j = n := by omega
      subst hjn
      go_wp2
      go_ret
      exact ⟨rfl, ht, D', h, hl⟩

set_option maxRecDepth 100000 in
set_option maxHeartbeats 8000000 in
theorem held_CS {w : World} {G n cap : Nat} {D D' : Nat → RecD} {Fs : Nat → Nat → Prop} {k : Int} (S : Nat → Nat) (h : RecsAt w G n D' Fs) (hm : MarkedCS k S D D' n) (hn : n ≤ 1048576) (hS0 : S 0 = 0) (hS : ∀ j, j < n → S (j + 1) = S j + 8 + 2 * (D j).ps.length) (hSn : ∀ j, j ≤ n → S j ≤ 20000000) (hlen : ∀ j, j < n → (D j).ps.length ≤ 1048577) (hk0 : 0 ≤ k) (hk1 : k ≤ 10000000) :
    Calls Tryz.prog 93 #[.slice (some ⟨G, 0, none⟩) n cap, .int .i64 k] w fun e w' => e = .returned (.int .i64 (k + S n)) ∧ w = w' := by
  have HS := Lib.hid hS
  have HSN := Lib.hid hSn
  have HLN := Lib.hid hlen
  have HS0 := Lib.hid hS0
  have HM := Lib.hid hm
  clear hS hSn hlen hS0 hm
  go_enter Tryz.func93, Tryz.ntmps93
  go_wp2
  go_loopw [1, 5] (fun kv i wr => ∃ j : Nat, j ≤ n ∧ i = .int .i64 j ∧ kv = .int .i64 (k + S j) ∧ w = wr) (fun _ i _ => n - (intOf i).toNat)
  case atStart => exact ⟨0, Nat.zero_le _, rfl, by rw [HS0.out]; simp, rfl⟩
  case round =>
    obtain ⟨j, hj, rfl, rfl, rfl⟩ := hrel
    by_cases hlt : j < n
    · obtain ⟨u, hr, u2, e2, hO⟩ := h.row j hlt
      injection e2 with e2
      have hu : u = u2 := by simpa [RecD.cells] using e2
      subst hu
      clear e2
      obtain ⟨lo, hi, hRP, -⟩ := ownP_res9 hO
      obtain ⟨A, mc, eu, -, -, -⟩ := hO.at
      obtain ⟨m0, m1, m2, m3, m4, m5, m6, m7, m8⟩ := HM.out.2 j hlt
      have hSj := HSN.out j hj
      obtain ⟨q, hq⟩ : ∃ q : Int, k + (S j : Int) = q := ⟨_, rfl⟩
      rw [hq] at m0 m1 m2 m3 m4 m5 m6 m7 m8 ⊢
      have c0 : w.cell? ⟨G, j * 9, none⟩ = some (.int .i64 q) := m0 ▸ hr 0 _ rfl
      have c1 : w.cell? ⟨G, j * 9 + 1, none⟩ = some (.int .i64 (q + 1)) := m1 ▸ hr 1 _ rfl
      have c2 : w.cell? ⟨G, j * 9 + 2, none⟩ = some (.int .i64 (q + 1 + 1)) := m2 ▸ hr 2 _ rfl
      have c3 : w.cell? ⟨G, j * 9 + 3, none⟩ = some (.int .i64 (q + 1 + 1 + 1)) := m3 ▸ hr 3 _ rfl
      have c4 : w.cell? ⟨G, j * 9 + 4, none⟩ = some (.int .i64 (q + 1 + 1 + 1 + 1)) := m4 ▸ hr 4 _ rfl
      have c5 : w.cell? ⟨G, j * 9 + 5, none⟩ = some (.int .i64 (q + 1 + 1 + 1 + 1 + 1)) := m5 ▸ hr 5 _ rfl
      have c6 : w.cell? ⟨G, j * 9 + 6, none⟩ = some (.int .i64 (q + 1 + 1 + 1 + 1 + 1 + 1)) := m6 ▸ hr 6 _ rfl
      have c7 : w.cell? ⟨G, j * 9 + 7, none⟩ = some u := hr 7 _ rfl
      have c8 : w.cell? ⟨G, j * 9 + 8, none⟩ = some (.int .i64 (q + 1 + 1 + 1 + 1 + 1 + 1 + 1 + 2 * ((D j).ps.length : Int))) := m8 ▸ hr 8 _ rfl
      have hq0 : 0 ≤ q := by omega
      have hq1 : q ≤ 30000000 := by omega
      have HQ := Lib.hid hq
      have HSJ := Lib.hid (HS.out j hlt)
      have HLJ := Lib.hid (HLN.out j hlt)
      have HLE := Lib.hid (HM.out.1 j)
      rw [← HLE.out] at c8
      clear hq hSj hr hO m0 m1 m2 m3 m4 m5 m6 m8
      have v0 : IntKind.i64.wrap (q + 1) = q + 1 := IntWalk.i64_in _ (by omega)
      have v1 : IntKind.i64.wrap (q + 1 + 1) = q + 1 + 1 := IntWalk.i64_in _ (by omega)
      have v2 : IntKind.i64.wrap (q + 1 + 1 + 1) = q + 1 + 1 + 1 := IntWalk.i64_in _ (by omega)
      have v3 : IntKind.i64.wrap (q + 1 + 1 + 1 + 1) = q + 1 + 1 + 1 + 1 := IntWalk.i64_in _ (by omega)
      have v4 : IntKind.i64.wrap (q + 1 + 1 + 1 + 1 + 1) = q + 1 + 1 + 1 + 1 + 1 := IntWalk.i64_in _ (by omega)
      have v5 : IntKind.i64.wrap (q + 1 + 1 + 1 + 1 + 1 + 1) = q + 1 + 1 + 1 + 1 + 1 + 1 := IntWalk.i64_in _ (by omega)
      have v6 : IntKind.i64.wrap (q + 1 + 1 + 1 + 1 + 1 + 1 + 1) = q + 1 + 1 + 1 + 1 + 1 + 1 + 1 := IntWalk.i64_in _ (by omega)
      have hkw : IntKind.i64.wrap ((j : Int) + 1) = (j : Int) + 1 := IntWalk.i64_in _ (by omega)
      have hltI : (j : Int) < (n : Int) := by omega
      obtain ⟨q7, hq7⟩ : ∃ q7 : Int, q + 1 + 1 + 1 + 1 + 1 + 1 + 1 = q7 := ⟨_, rfl⟩
      rw [hq7] at c8 m7 v6
      have HQ7 := Lib.hid hq7
      have hp0 : 0 ≤ q7 := by omega
      have hp1 : q7 ≤ 30000007 := by omega
      have HM7 := Lib.hid m7
      have HRP := Lib.hid hRP
      have hql := HLJ.out
      have hqe := HLE.out
      subst eu
      obtain ⟨q8, hq8⟩ : ∃ q8 : Int, q7 + 2 * ((D' j).ps.length : Int) = q8 := ⟨_, rfl⟩
      rw [hq8] at c8
      have HQ8 := Lib.hid hq8
      have hneg : ¬ q8 < 0 := by omega
      have v8 : IntKind.i64.wrap (q8 + 1) = q8 + 1 := IntWalk.i64_in _ (by omega)
      have hw7 : IntKind.i64.wrap (q + 1 + 1 + 1 + 1 + 1 + 1 + 1) = q7 := by rw [hq7]; exact v6
      clear hq7 m7 hRP hql hqe hq8 v6
      clear v0 v1 v2 v3 v4 v5
      have v0 : IntKind.i64.wrap (q + 1) = q + 1 := IntWalk.i64_in _ (by omega)
      have v1 : IntKind.i64.wrap (q + 1 + 1) = q + 1 + 1 := IntWalk.i64_in _ (by omega)
      have v2 : IntKind.i64.wrap (q + 1 + 1 + 1) = q + 1 + 1 + 1 := IntWalk.i64_in _ (by omega)
      have v3 : IntKind.i64.wrap (q + 1 + 1 + 1 + 1) = q + 1 + 1 + 1 + 1 := IntWalk.i64_in _ (by omega)
      have v4 : IntKind.i64.wrap (q + 1 + 1 + 1 + 1 + 1) = q + 1 + 1 + 1 + 1 + 1 := IntWalk.i64_in _ (by omega)
      have v5 : IntKind.i64.wrap (q + 1 + 1 + 1 + 1 + 1 + 1) = q + 1 + 1 + 1 + 1 + 1 + 1 := IntWalk.i64_in _ (by omega)
      go_wp2_with (go_at_call 107; refine (heldP_is q7 HRP.out HM7.out (by rw [HLE.out]; exact HLJ.out) hp0 (by omega)).mono ?_; rintro e w8 ⟨rfl, rfl⟩; rw [HQ8.out])
      go_roundw
      case rel =>
        refine ⟨j + 1, by omega, by go_num, ?_, by trivial⟩
        rw [HSJ.out]
        have h1 := HQ8.out
        have h2 := HQ7.out
        have h3 := HQ.out
        have h4 := HLE.out
        congr 1
        omega
      case measure => simp [intOf]; omega
    · have hjn : j = n := by omega
      subst hjn
      go_wp2
      go_ret
      exact ⟨rfl, rfl⟩
end Go.Proofs.YtjdepjpjjgkmbaaGreat

/- The laws' marks of a journal, and the look at them; conditions: the sizes. -/
namespace Go.Proofs.YtjdepjpjjgkmbaaGreat
open Go Go.RowKit

/-- How many marks the first j of these records take. -/
def sumM (D : Nat → RecD) : Nat → Nat
  | 0 => 0
  | j + 1 => sumM D j + 8 + 2 * (D j).ps.length
theorem sumM_le {ds : List RecD} {n : Nat} (hn : ds.length = n) (hz : totC ds ≤ 1048600) : ∀ j, j ≤ n → sumM (recsK ds n) j ≤ 8400000 := by
  have key : ∀ j, j ≤ n → sumM (recsK ds n) j ≤ 8 * totC (ds.take j) := by
    intro j
    induction j with
    | zero => intro _; exact Nat.zero_le _
    | succ j ih =>
      intro hj
      have hjd : j < ds.length := by omega
      have h1 := ih (by omega)
      have h2 := totC_snoc ds hjd
      have hd : recsK ds n j = ds[j] := recsK_at hn hjd
      unfold sumM
      rw [hd, h2]
      omega
  intro j hj
  have h1 := key j hj
  have h2 := totC_take ds j
  omega
def mkC (ds : List RecD) : Nat := sumM (recsK ds ds.length) ds.length
theorem mkC_le {ds : List RecD} (hz : totC ds ≤ 1048600) : mkC ds ≤ 8400000 := sumM_le rfl hz _ (Nat.le_refl _)
theorem lens_le {ds : List RecD} (hz : totC ds ≤ 1048577) : ∀ j, j < ds.length → (recsK ds ds.length j).ps.length ≤ 1048577 := fun j hj => by
  rw [recsK_at rfl hj]
  have := totC_mem ds hj
  omega
/-- The list's records are marked from k on. -/
def MarkedL (k : Int) (ds ds' : List RecD) : Prop := ds'.length = ds.length ∧ MarkedCS k (sumM (recsK ds ds.length)) (recsK ds ds.length) (recsK ds' ds.length) ds.length
theorem RecsAt.congr {w : World} {g n : Nat} {D D' : Nat → RecD} {Fs : Nat → Nat → Prop} (h : RecsAt w g n D Fs) (he : ∀ i, i < n → D i = D' i) : RecsAt w g n D' Fs :=
  ⟨h.lt, h.fr, fun i hi => he i hi ▸ h.row i hi, h.apart, h.two⟩
theorem mark_none (cap : Nat) (A : Option Addr) (k : Int) (w : World) : Calls Tryz.prog 92 #[.slice A 0 cap, .int .i64 k] w fun e w' => e = .returned (.int .i64 k) ∧ w = w' := by
  go_enter Tryz.func92, Tryz.ntmps92
  go_wp2
  go_loopw [1, 5] (fun kv i wr => i = .int .i64 0 ∧ kv = .int .i64 k ∧ w = wr) (fun _ _ _ => 0)
  case atStart => exact ⟨rfl, rfl, rfl⟩
  case round =>
    obtain ⟨rfl, rfl, rfl⟩ := hrel
    go_wp2
    go_ret
    exact ⟨rfl, rfl⟩
theorem held_none (cap : Nat) (A : Option Addr) (k : Int) (w : World) : Calls Tryz.prog 93 #[.slice A 0 cap, .int .i64 k] w fun e w' => e = .returned (.int .i64 k) ∧ w = w' := by
  go_enter Tryz.func93, Tryz.ntmps93
  go_wp2
  go_loopw [1, 5] (fun kv i wr => i = .int .i64 0 ∧ kv = .int .i64 k ∧ w = wr) (fun _ _ _ => 0)
  case atStart => exact ⟨rfl, rfl, rfl⟩
  case round =>
    obtain ⟨rfl, rfl, rfl⟩ := hrel
    go_wp2
    go_ret
    exact ⟨rfl, rfl⟩
theorem markd_L {ds : List RecD} {w : World} {F : Nat → Prop} {v : Value} {k : Int} (h : OwnCS ds w F v) (hn : ds.length ≤ 1048576) (hz : totC ds ≤ 1048577) (hk0 : 0 ≤ k) (hk1 : k ≤ 10000000) :
    Calls Tryz.prog 92 #[v, .int .i64 k] w fun e w' => e = .returned (.int .i64 (k + mkC ds)) ∧ Turns F w w' ∧ ∃ ds', MarkedL k ds ds' ∧ OwnCS ds' w' F v := by
  rcases h with ⟨rfl, rfl⟩ | ⟨G, c, Fs, hG, rfl, h1, h2, hR, hF⟩
  · refine (mark_none 0 none k w).mono ?_
    rintro e w' ⟨rfl, rfl⟩
    exact ⟨by simp [mkC, sumM], Turns.of_below (Below.refl _ _), [], ⟨rfl, fun _ => rfl, fun i hi => absurd hi (by simp)⟩, .inl ⟨rfl, rfl⟩⟩
  · refine (markd_CS (cap := c) hR hn (sumM (recsK ds ds.length)) rfl (fun _ _ => rfl) (fun j hj => Nat.le_trans (sumM_le rfl (by omega) j hj) (by omega)) (lens_le hz) hk0 hk1).mono ?_
    rintro e w' ⟨rfl, ht, D', hR', hm⟩
    have hl : ((List.range ds.length).map D').length = ds.length := by simp
    have he : ∀ i, i < ds.length → D' i = recsK ((List.range ds.length).map D') ds.length i := fun i hi => by
      rw [recsK_at hl (by rw [hl]; exact hi)]
      simp
    refine ⟨rfl, ht.sub (fun b _ hb => ?_), (List.range ds.length).map D', ⟨hl, fun i => ?_, fun i hi => ?_⟩, .inr ⟨G, c, Fs, hG, by rw [hl], by rw [hl]; exact h1, h2, by rw [hl]; exact hR'.congr he, by rw [hl]; exact fun i hi b hb => ⟨(hF i hi b hb).1, Nat.lt_of_lt_of_le (hF i hi b hb).2 ht.size⟩⟩⟩
    · rcases hb with rfl | ⟨i, hi, hb⟩
      · exact hG
      · exact (hF i hi b hb).1
    · rcases Nat.lt_or_ge i ds.length with hi | hi
      · rw [← he i hi]
        exact hm.1 i
      · have e1 : ∀ (es : List RecD), recsK es ds.length i = zeroC := fun es => by unfold recsK; rw [if_neg (by omega)]
        rw [e1, e1]
    · rw [← he i hi]
      exact hm.2 i hi
theorem held_L {ds ds' : List RecD} {w : World} {F : Nat → Prop} {v : Value} {k : Int} (h : OwnCS ds' w F v) (hm : MarkedL k ds ds') (hn : ds.length ≤ 1048576) (hz : totC ds ≤ 1048577) (hk0 : 0 ≤ k) (hk1 : k ≤ 10000000) :
    Calls Tryz.prog 93 #[v, .int .i64 k] w fun e w' => e = .returned (.int .i64 (k + mkC ds)) ∧ w = w' := by
  rcases h with ⟨rfl, rfl⟩ | ⟨G, c, Fs, hG, rfl, h1, h2, hR, hF⟩
  · obtain rfl : ds = [] := List.eq_nil_of_length_eq_zero hm.1.symm
    refine (held_none 0 none k w).mono ?_
    rintro e w' ⟨rfl, rfl⟩
    exact ⟨by simp [mkC, sumM], rfl⟩
  · rw [hm.1] at hR ⊢
    exact held_CS (cap := c) (sumM (recsK ds ds.length)) hR hm.2 hn rfl (fun _ _ => rfl) (fun j hj => Nat.le_trans (sumM_le rfl (by omega) j hj) (by omega)) (lens_le hz) hk0 hk1
def JourD.mk8 (d : JourD) : Int := mkC d.ks + mkC d.ls
def MarkedJ (k : Int) (d d' : JourD) : Prop := MarkedL k d.ks d'.ks ∧ MarkedL (k + mkC d.ks) d.ls d'.ls
/-- A journal short enough for its marks. -/
structure JourD.Fit (d : JourD) : Prop where
  nk : d.ks.length ≤ 1048576
  nl : d.ls.length ≤ 1048576
  tk : totC d.ks ≤ 1048577
  tl : totC d.ls ≤ 1048577
theorem JourD.fit {d : JourD} (h : d.sz ≤ 1048576) : d.Fit := by
  have h1 := totC_rest d.ks 0
  have h2 := totC_rest d.ls 0
  rw [totC_zero] at h1 h2
  unfold JourD.sz at h
  exact ⟨by omega, by omega, by omega, by omega⟩
set_option maxHeartbeats 2000000 in
theorem markd_J {d : JourD} {w : World} {F : Nat → Prop} {C : Array Value} {k : Int} (h : LieJ d w F (.agg C)) (hf : d.Fit) (hk0 : 0 ≤ k) (hk1 : k ≤ 1048600) :
    Calls Tryz.prog 35 #[.agg C, .int .i64 k] w fun e w' => e = .returned (.int .i64 (k + d.mk8)) ∧ Turns F w w' ∧ ∃ d', MarkedJ k d d' ∧ LieJ d' w' F (.agg C) := by
  obtain ⟨u, u', F1, F2, e, h1, h2, s1, s2, ha⟩ := h
  injection e with e
  subst e
  have hq1 := mkC_le (ds := d.ks) (by have := hf.tk; omega)
  obtain ⟨A, c, rfl, -⟩ := h1.reads
  obtain ⟨A', c', rfl, -⟩ := h2.reads
  have O1 := Lib.hid h1
  have O2 := Lib.hid h2
  clear h1 h2
  have hm8 : ∀ ds : List RecD, ds = d.ks → (mkC ds : Int) = mkC d.ks := fun _ e => by rw [e]
  generalize hn1 : d.ks.length = n1 at O1
  generalize hn2 : d.ls.length = n2 at O2
  have hb0 := bel_alloc w (.cells #[.slice A n1 c, .slice A' n2 c'] 29)
  have D := Box.new w 29 #[.slice A n1 c, .slice A' n2 c']
  have P1 := Lib.hid (O1.out.lt.later hb0)
  have P2 := Lib.hid (O2.out.lt.later hb0)
  clear O1 O2
  go_enter Tryz.func35, Tryz.ntmps35
  go_upto_region 1 with fail
  generalize hw0 : (w.alloc _ : World) = w0 at hb0 D P1 P2 ⊢
  have ht0 : Turns (fun b => F b ∨ w.heap.size ≤ b) w w0 := Turns.of_below hb0
  clear hw0
  obtain ⟨d0, d1⟩ := D.two
  go_wp2_with fail
  refine (markd_L P1.out hf.nk hf.tk hk0 (by omega)).mono ?_
  rintro e w1 ⟨rfl, t1, ks', m1, K1⟩
  have D1 := D.turn t1 (fun hb => by have := hb.2; omega)
  have P3 := Lib.hid (P2.out.turn t1 (fun b hb hb2 => ha b hb2.1 hb.1))
  have T1 := ht0.trans (t1.sub (T' := fun b => F b ∨ w.heap.size ≤ b) (fun b _ hb => .inl (s1 b hb.1)))
  have M1 := Lib.hid m1
  have KK := Lib.hid K1
  clear t1 D P2 ht0 m1 K1 d0 d1
  obtain ⟨d0, d1⟩ := D1.two
  go_wp2_with fail
  refine (markd_L P3.out hf.nl hf.tl (by omega) (by omega)).mono ?_
  rintro e w2 ⟨rfl, t2, ls', m2, K2⟩
  have T2 := Lib.hid (T1.trans (t2.sub (T' := fun b => F b ∨ w.heap.size ≤ b) (fun b _ hb => .inl (s2 b hb.1))))
  have KK2 := Lib.hid (KK.out.turn t2 (fun b hb hb2 => ha b hb.1 hb2.1))
  have M2 := Lib.hid m2
  have KL := Lib.hid K2
  clear T1 t2 m2 K2 KK D1 d0 d1
  go_wp2
  go_ret
  refine ⟨by unfold JourD.mk8; simp only [Int.add_assoc]; rfl, T2.out.sub (fun b hl hb => hb.resolve_right (by omega)), ⟨ks', ls'⟩, ⟨M1.out, M2.out⟩, _, _, _, _, rfl, KK2.out, KL.out, fun b hb => s1 b hb.1, fun b hb => s2 b hb.1, fun b hb hb2 => ha b hb.1 hb2.1⟩
theorem mark_J {d : JourD} {w : World} {F : Nat → Prop} {C : Array Value} {k : Int} (h : LieJ d w F (.agg C)) (hs : d.sz ≤ 1048576) (hk0 : 0 ≤ k) (hk1 : k ≤ 1048600) :
    Calls Tryz.prog 35 #[.agg C, .int .i64 k] w fun e w' => e = .returned (.int .i64 (k + d.mk8)) ∧ Turns F w w' := by
  refine (markd_J h (JourD.fit hs) hk0 hk1).mono ?_
  rintro e w' ⟨rfl, ht, -⟩
  exact ⟨rfl, ht⟩
set_option maxHeartbeats 2000000 in
theorem held_J {d d' : JourD} {w : World} {F : Nat → Prop} {C : Array Value} {k : Int} (h : LieJ d' w F (.agg C)) (hm : MarkedJ k d d') (hf : d.Fit) (hk0 : 0 ≤ k) (hk1 : k ≤ 1048600) :
    Calls Tryz.prog 37 #[.agg C, .int .i64 k] w fun e w' => e = .returned (.int .i64 (k + d.mk8)) ∧ Below w.heap.size w w' := by
  obtain ⟨u, u', F1, F2, e, h1, h2, -⟩ := h
  injection e with e
  subst e
  have hq1 := mkC_le (ds := d.ks) (by have := hf.tk; omega)
  have hq2 := mkC_le (ds := d.ls) (by have := hf.tl; omega)
  obtain ⟨A, c, rfl, -⟩ := h1.reads
  obtain ⟨A', c', rfl, -⟩ := h2.reads
  have O1 := Lib.hid h1
  have O2 := Lib.hid h2
  have M1 := Lib.hid hm.1
  have M2 := Lib.hid hm.2
  clear h1 h2 hm
  generalize hn1 : d'.ks.length = n1 at O1
  generalize hn2 : d'.ls.length = n2 at O2
  have hb0 := bel_alloc w (.cells #[.slice A n1 c, .slice A' n2 c'] 29)
  have D := Box.new w 29 #[.slice A n1 c, .slice A' n2 c']
  have P1 := Lib.hid (O1.out.later hb0)
  have P2 := Lib.hid (O2.out.later hb0)
  clear O1 O2
  go_enter Tryz.func37, Tryz.ntmps37
  go_upto_region 1 with fail
  generalize (w.alloc _ : World) = w0 at hb0 D P1 P2 ⊢
  obtain ⟨d0, d1⟩ := D.two
  go_wp2_with fail
  refine (held_L P1.out M1.out hf.nk hf.tk hk0 (by omega)).mono ?_
  rintro e w1 ⟨rfl, rfl⟩
  have hn1 : ¬ (k + (mkC d.ks : Int) < 0) := by omega
  go_wp2_with fail
  refine (held_L P2.out M2.out hf.nl hf.tl (by omega) (by omega)).mono ?_
  rintro e w2 ⟨rfl, rfl⟩
  obtain ⟨q, hq⟩ : ∃ q : Int, k + (mkC d.ks : Int) + (mkC d.ls : Int) = q := ⟨_, rfl⟩
  have HQ := Lib.hid hq
  have hn2 : ¬ (q < 0) := by omega
  rw [hq]
  clear hq
  go_wp2
  go_ret
  exact ⟨by unfold JourD.mk8; rw [← Int.add_assoc, HQ.out]; rfl, hb0⟩
theorem mkb_J {d : JourD} (hf : d.Fit) : 0 ≤ d.mk8 ∧ d.mk8 ≤ 16800000 := by
  have hq1 := mkC_le (ds := d.ks) (by have := hf.tk; omega)
  have hq2 := mkC_le (ds := d.ls) (by have := hf.tl; omega)
  unfold JourD.mk8
  omega
end Go.Proofs.YtjdepjpjjgkmbaaGreat

/- The laws' copies, comparisons and marks of a list of bools; conditions: the sizes. -/
namespace Go.Proofs.YtjdepjpjjgkmbaaGreat
open Go Go.RowKit

/-- The block G holds these bools. -/
def Bools (w : World) (G : Nat) (bs : List Bool) : Prop := ∃ cs, Box w G 4 cs ∧ cs.size = bs.length ∧ ∀ i (h : i < bs.length), cs[i]? = some (.bool bs[i])
theorem Bools.lt {w : World} {G : Nat} {bs : List Bool} (h : Bools w G bs) : G < w.heap.size := by
  obtain ⟨cs, hb, _⟩ := h
  exact hb.lt
theorem Bools.turn {T : Nat → Prop} {w w' : World} {G : Nat} {bs : List Bool} (h : Bools w G bs) (ht : Turns T w w') (hG : ¬ T G) : Bools w' G bs := by
  obtain ⟨cs, hb, hs, hc⟩ := h
  exact ⟨cs, hb.turn ht hG, hs, hc⟩
theorem Bools.later {w w' : World} {G : Nat} {bs : List Bool} (h : Bools w G bs) (hb : Below w.heap.size w w') : Bools w' G bs := h.turn (T := fun _ => False) (Turns.of_below hb) (fun h => h)
theorem Bools.reads {w : World} {G n : Nat} {bs : List Bool} (h : Bools w G bs) (hn : bs.length = n) : BoolF w (· = G) (some ⟨G, 0, none⟩) n bs := by
  obtain ⟨cs, hb, hs, hc⟩ := h
  exact ⟨hn, fun _ => ⟨G, 0, rfl, rfl, hb.lt, fun i hi => by rw [Nat.zero_add]; exact (hb.cell i).trans (hc i hi)⟩⟩
theorem Tryz.infoB10 : (Tryz.prog.info? 4).map (fun i => (i.zero, i.size, i.bytes)) = some (some (.bool false), 1, 1) := by kernel_rfl
theorem run_make_bools (n : Nat) (hn : n ≤ 1048576) (w : World) :
    (Instr.makeSlice 30 (.int .i64 (n : Int)) (.int .i64 (n : Int))).run Tryz.prog w = .ok (.slice (some ⟨w.heap.size, 0, none⟩) n n) (w.alloc (.cells (madeCells (Value.bool false).cells n) 4)) := by
  obtain ⟨i, hi, hzz⟩ := Option.map_eq_some_iff.1 Tryz.infoB10
  simp only [Prod.mk.injEq] at hzz
  obtain ⟨hz, hs, hb⟩ := hzz
  have hr := run_make (P := Tryz.prog) w 30 4 i _ Tryz.underlying30 hi hz .i64 .i64 n n (by omega) (Int.le_refl _) (by rw [hb]; omega) (by omega)
  simp only [Int.toNat_natCast, hs, Nat.mul_one] at hr
  exact hr
set_option maxRecDepth 100000 in
set_option maxHeartbeats 4000000 in
theorem toBools_is {bs : List Bool} {w : World} {F : Nat → Prop} {A : Option Addr} {n c : Nat} (h : BoolF w F A n bs) (hF : ∀ b, F b → b < w.heap.size) (hn : n ≤ 1048576) :
    Calls Tryz.prog 39 #[.slice A n c] w fun e w' => ∃ G, e = .returned (.slice (some ⟨G, 0, none⟩) n n) ∧ w.heap.size ≤ G ∧ Bools w' G bs ∧ Below w.heap.size w w' := by
  have HL := Lib.hid h.1
  have HBW := Lib.hid hF
  have hmk := fun W => run_make_bools n hn W
  have hb1 := bel_alloc w (.cells (madeCells (Value.bool false).cells n) 4)
  have B0 := Box.new w 4 (madeCells (Value.bool false).cells n)
  have hsz0 : (madeCells (Value.bool false).cells n).size = n := size_madeCells _ _
  generalize madeCells (Value.bool false).cells n = cs0 at hmk hb1 B0 hsz0
  have HH := Lib.hid h
  clear h
  go_enter Tryz.func39, Tryz.ntmps39
  go_upto_region 2 with fail
  clear hmk
  generalize (w.alloc _ : World) = w1 at B0 hb1 ⊢
  go_wp2
  go_loopw [4] (fun i wr => ∃ (k : Nat) (cs : Array Value), k ≤ n ∧ i = .int .i64 k ∧ Box wr w.heap.size 4 cs ∧ cs.size = n ∧ (∀ j, j < k → ∀ hj : j < bs.length, cs[j]? = some (.bool bs[j])) ∧ Below w.heap.size w wr) (fun i _ => n - (intOf i).toNat)
  case atStart => exact ⟨0, cs0, Nat.zero_le _, rfl, B0, hsz0, fun j hj => absurd hj (by omega), hb1⟩
  case round =>
    clear B0 hb1
    obtain ⟨k, cs, hk, rfl, B, hsz, hcs, hbw⟩ := hrel
    have HC := Lib.hid hcs
    clear hcs
    by_cases hlt : k < n
    · have hkd : k < bs.length := by have := HL.out; omega
      obtain ⟨b, o, hA, hbF, hbl, hc⟩ := HH.out.2 (by omega)
      subst hA
      have c0 := (hbw.cell (p := ⟨b, o + k, none⟩) hbl).trans (hc k hkd)
      obtain ⟨x, hx⟩ : ∃ x, bs[k] = x := ⟨_, rfl⟩
      rw [hx] at c0
      have HX := Lib.hid hx
      have hkc : k < cs.size := by omega
      have g0 : wr.cell? ⟨w.heap.size, k, none⟩ = some cs[k] := by rw [B.cell k]; exact Array.getElem?_eq_getElem hkc
      have fB := B.frozen
      have hltI : (k : Int) < (n : Int) := by omega
      have hkw : IntKind.i64.wrap ((k : Int) + 1) = (k : Int) + 1 := IntWalk.i64_in _ (by omega)
      have B2 := Lib.hid (B.set k (.bool x))
      have E2 := Lib.hid (hbw.setCell (p := ⟨w.heap.size, k, none⟩) (Nat.le_refl _) (.bool x))
      generalize hcc : cs[k] = old at g0
      have HCC := Lib.hid hcc
      clear hc hx B hbw hcc
      go_wp2
      go_roundw
      case rel => exact ⟨k + 1, cs.setIfInBounds k (.bool x), by omega, by go_num, B2.out, by simp [hsz], fun j hj hjb => by
        by_cases e : j = k
        · subst e
          rw [Array.getElem?_setIfInBounds_self_of_lt hkc, HX.out]
        · rw [Array.getElem?_setIfInBounds_ne (Ne.symm e)]
          exact HC.out j (by omega) hjb, E2.out⟩
      case measure => simp [intOf]; omega
    · have hkn : k = n := by omega
      subst hkn
      have HB := Lib.hid (show Bools wr w.heap.size bs from ⟨cs, B, by rw [HL.out]; exact hsz, fun i hi => HC.out i (by have := HL.out; omega) hi⟩)
      clear B
      go_wp2
      go_ret
      exact ⟨w.heap.size, rfl, Nat.le_refl _, HB.out, hbw⟩
set_option maxRecDepth 100000 in
set_option maxHeartbeats 4000000 in
theorem eqBools_is {bs : List Bool} {w : World} {F F' : Nat → Prop} {A A' : Option Addr} {n c c' : Nat} (h : BoolF w F A n bs) (h' : BoolF w F' A' n bs) (hn : n ≤ 1048576) :
    Calls Tryz.prog 40 #[.slice A n c, .slice A' n c'] w fun e w' => e = .returned (.bool true) ∧ Below w.heap.size w w' := by
  have HL := Lib.hid h.1
  have HH := Lib.hid h
  have HH' := Lib.hid h'
  clear h h'
  go_enter Tryz.func40, Tryz.ntmps40
  go_wp2
  go_loopw [5] (fun i wr => ∃ k : Nat, k ≤ n ∧ i = .int .i64 k ∧ Below w.heap.size w wr) (fun i _ => n - (intOf i).toNat)
  case atStart => exact ⟨0, Nat.zero_le _, rfl, Below.refl _ _⟩
  case round =>
    obtain ⟨k, hk, rfl, hbw⟩ := hrel
    by_cases hlt : k < n
    · have hkd : k < bs.length := by have := HL.out; omega
      obtain ⟨b, o, hA, -, hbl, hc⟩ := HH.out.2 (by omega)
      obtain ⟨b', o', hA', -, hbl', hc'⟩ := HH'.out.2 (by omega)
      subst hA hA'
      have c0 := (hbw.cell (p := ⟨b, o + k, none⟩) hbl).trans (hc k hkd)
      have c1 := (hbw.cell (p := ⟨b', o' + k, none⟩) hbl').trans (hc' k hkd)
      obtain ⟨x, hx⟩ : ∃ x, bs[k] = x := ⟨_, rfl⟩
      rw [hx] at c0 c1
      have hxx : (x != x) = false := by simp
      have hltI : (k : Int) < (n : Int) := by omega
      have hkw : IntKind.i64.wrap ((k : Int) + 1) = (k : Int) + 1 := IntWalk.i64_in _ (by omega)
      clear hc hc' hx
      cases x
      all_goals
        go_wp2_with fail
        go_quiet (fail)
        go_wp2
        go_roundw
        case rel => exact ⟨k + 1, by omega, by go_num, bel_drewN hbw _⟩
        case measure => simp [intOf]; omega
    · have hkn : k = n := by omega
      subst hkn
      go_wp2
      go_ret
      exact ⟨rfl, hbw⟩
set_option maxRecDepth 100000 in
set_option maxHeartbeats 4000000 in
theorem markBools_is {bs : List Bool} {w : World} {G n c : Nat} {k : Int} (h : Bools w G bs) (hn : bs.length = n) (hm : n ≤ 1048576) (hk0 : 0 ≤ k) (hk1 : k ≤ 100000000) :
    Calls Tryz.prog 41 #[.slice (some ⟨G, 0, none⟩) n c, .int .i64 k] w fun e w' => e = .returned (.int .i64 (k + n)) ∧ Turns (· = G) w w' := by
  obtain ⟨cs0, B0, hs0, -⟩ := h
  rw [hn] at hs0
  clear hn
  go_enter Tryz.func41, Tryz.ntmps41
  go_wp2
  go_loopw [1, 5] (fun kv i wr => ∃ (j : Nat) (cs : Array Value), j ≤ n ∧ i = .int .i64 j ∧ kv = .int .i64 (k + j) ∧ Box wr G 4 cs ∧ cs.size = n ∧ Turns (· = G) w wr) (fun _ i _ => n - (intOf i).toNat)
  case atStart => exact ⟨0, cs0, Nat.zero_le _, rfl, by simp, B0, hs0, Turns.of_below (Below.refl _ _)⟩
  case round =>
    clear B0 hs0
    obtain ⟨j, cs, hj, rfl, rfl, B, hsz, ht⟩ := hrel
    by_cases hlt : j < n
    · have hkc : j < cs.size := by omega
      have g0 : wr.cell? ⟨G, j, none⟩ = some cs[j] := by rw [B.cell j]; exact Array.getElem?_eq_getElem hkc
      have fB := B.frozen
      have hltI : (j : Int) < (n : Int) := by omega
      have hkw : IntKind.i64.wrap ((j : Int) + 1) = (j : Int) + 1 := IntWalk.i64_in _ (by omega)
      obtain ⟨q, hq⟩ : ∃ q : Int, k + (j : Int) = q := ⟨_, rfl⟩
      rw [hq]
      have HQ := Lib.hid hq
      have hq0 : 0 ≤ q := by omega
      have hqw : IntKind.i64.wrap (q + 1) = q + 1 := IntWalk.i64_in _ (by omega)
      generalize hcc : cs[j] = old at g0
      clear hcc
      have HJW := Lib.hid hkw
      go_upto_region 5 with fail
      have B2 := Lib.hid (B.set j (.bool (q % 3 == 0)))
      have T2 := Lib.hid (ht.trans (turns_setCells9.turns_cell9 wr G j (.bool (q % 3 == 0))))
      generalize (wr.setCell _ _ : World) = w2 at B2 T2 ⊢
      clear B ht g0 fB
      go_wp2
      go_roundw
      case rel => exact ⟨j + 1, _, by omega, by go_num, by have := HQ.out; congr 1; omega, B2.out, by simp [hsz], T2.out⟩
      case measure => simp [intOf]; omega
    · have hjn : j = n := by omega
      subst hjn
      go_wp2
      go_ret
      exact ⟨rfl, ht⟩
end Go.Proofs.YtjdepjpjjgkmbaaGreat

/- The exact law of Crashed answers true, whatever it is given: its walk (written by exact8m.py). -/
namespace Go.Proofs.YtjdepjpjjgkmbaaGreat
open Go Go.RowKit

/-- The copy of the list of bools. -/
structure RawOf (bs : List Bool) (wr : World) (g : Nat) : Prop where
  dat : Bools wr g bs
theorem RawOf.later {bs : List Bool} {wr w' : World} {g : Nat} (h : RawOf bs wr g) (_ : Unit) (hb : Below wr.heap.size wr w') : RawOf bs w' g := ⟨h.dat.later hb⟩
theorem RawOf.turn {bs : List Bool} {wr w' : World} {g : Nat} {T : Nat → Prop} (h : RawOf bs wr g) (_ : Unit) (ht : Turns T wr w') (hg : ¬ T g) : RawOf bs w' g := ⟨h.dat.turn ht hg⟩
theorem specCrashed8_is {g : GrpD} {d d' : JourD} {w : World} {F0 F1 : Nat → Prop} {C0 C1 : Array Value} {GB n c : Nat} {bs : List Bool} (h0 : LieG g w F0 (.agg C0)) (h1 : LieJ d w F1 (.agg C1)) (hB : Bools w GB bs) (hl : bs.length = n) (hn : n ≤ 1048576) (_ : g.sz ≤ 1048576) (hs : d.sz ≤ 1048576) (hd : crashD g d bs = d') :
    Calls Tryz.prog 16 #[.agg C0, .agg C1, .slice (some ⟨GB, 0, none⟩) n c] w (Copied (LieJ d') w) := specCrashed_is h0.at h1.somewhere (hB.reads hl) (by unfold maxLen; omega) hs hd
theorem crashed8_is {g : GrpD} {d d' : JourD} {w : World} {F0 F1 : Nat → Prop} {C0 C1 : Array Value} {GB n c : Nat} {bs : List Bool} (h0 : LieG g w F0 (.agg C0)) (h1 : LieJ d w F1 (.agg C1)) (hB : Bools w GB bs) (hl : bs.length = n) (hn : n ≤ 1048576) (_ : g.sz ≤ 1048576) (hs : d.sz ≤ 1048576) (hd : crashD g d bs = d') :
    Calls Tryz.prog 14 #[.agg C0, .agg C1, .slice (some ⟨GB, 0, none⟩) n c] w (Copied (LieJ d') w) := crashed_is h0.at h1.somewhere (hB.reads hl) (by unfold maxLen; omega) hs hd
theorem crash_szR (g : GrpD) (d : JourD) (bs : List Bool) : (crashD g d bs).sz ≤ d.sz := by
  unfold crashD
  split
  · have := totC_take d.ls (leftN bs d.ls.length)
    show totC (d.ks ++ d.ls.take _) + totC [] ≤ totC d.ks + totC d.ls
    rw [totC_app]
    have h0 : totC [] = 0 := rfl
    omega
  · exact Nat.zero_le _


/-- The variables of the arguments, as they were given. -/
structure PreCr10 (w wr : World) (C0 C1 : Array Value) (bs : List Bool) (A2 : Option Addr) (n2 : Nat) (d0 : GrpD) (d1 : JourD) : Prop where
  v0 : VarOf (AtG d0) 47 wr (· < w.heap.size) (w.heap.size) C0
  v1 : VarOf (AtJ d1) 50 wr (· < w.heap.size) (w.heap.size + 1) C1
  l2 : BoolF wr (· < w.heap.size) A2 n2 bs
  bel : Below w.heap.size w wr
theorem PreCr10.later {w wr w' : World} {C0 C1 : Array Value} {bs : List Bool} {A2 : Option Addr} {n2 : Nat} {d0 : GrpD} {d1 : JourD} (h : PreCr10 w wr C0 C1 bs A2 n2 d0 d1) (hb : Below wr.heap.size wr w') : PreCr10 w w' C0 C1 bs A2 n2 d0 d1 :=
  ⟨h.v0.later (keepsG d0) hb, h.v1.later (keepsJ d1) hb, h.l2.later hb, bel_trans h.bel hb⟩
theorem PreCr10.turn {w wr w' : World} {C0 C1 : Array Value} {bs : List Bool} {A2 : Option Addr} {n2 : Nat} {d0 : GrpD} {d1 : JourD} {T : Nat → Prop} (h : PreCr10 w wr C0 C1 bs A2 n2 d0 d1) (ht : Turns T wr w') (hT : ∀ b, T b → w.heap.size + 1 < b) : PreCr10 w w' C0 C1 bs A2 n2 d0 d1 :=
  ⟨h.v0.turn (keepsG d0) ht (fun hb => by have := hT _ hb; omega) (fun b hb hb2 => by have := hT b hb2; omega), h.v1.turn (keepsJ d1) ht (fun hb => by have := hT _ hb; omega) (fun b hb hb2 => by have := hT b hb2; omega), h.l2.turn ht (fun b hb hb2 => by have := hT b hb2; have hb : b < w.heap.size := hb; omega), ht.below h.bel (fun b hb => by have := hT b hb; omega)⟩
theorem PreCr10.start {w : World} {C0 C1 : Array Value} {bs : List Bool} {A2 : Option Addr} {n2 : Nat} {d0 : GrpD} {d1 : JourD} (h0 : AtG d0 w (· < w.heap.size) (.agg C0)) (h1 : AtJ d1 w (· < w.heap.size) (.agg C1)) (hB : BoolF w (· < w.heap.size) A2 n2 bs) : PreCr10 w ((w.alloc (.cells C0 47)).alloc (.cells C1 50)) C0 C1 bs A2 n2 d0 d1 := by
  have e0 := bel_alloc w (.cells C0 47)
  have e1 := bel_alloc (w.alloc (.cells C0 47)) (.cells C1 50)
  have E0 := e0
  have E1 := bel_trans E0 e1
  have B0 := Box.new w 47 C0
  replace B0 := B0.alloc (.cells C1 50)
  have B1 := Box.new (w.alloc (.cells C0 47)) 50 C1
  try simp only [World.size_alloc] at B0 B1
  exact ⟨⟨B0, by omega, (keepsG d0).later h0 E1⟩, ⟨B1, by omega, (keepsJ d1).later h1 E1⟩, hB.later E1, E1⟩

set_option maxRecDepth 100000 in
set_option maxHeartbeats 16000000 in
theorem exactCr10_any (C0 C1 : Array Value) (bs : List Bool) (A2 : Option Addr) (n2 c2 : Nat) (d0 : GrpD) (d1 : JourD) (w : World) (h0 : AtG d0 w (· < w.heap.size) (.agg C0)) (h1 : AtJ d1 w (· < w.heap.size) (.agg C1)) (hB : BoolF w (· < w.heap.size) A2 n2 bs) (hn2 : n2 ≤ 1048576) :
    Calls Tryz.prog 8 #[.agg C0, .agg C1, .slice A2 n2 c2] w fun e w' => e = .returned (.bool true) ∧ Below w.heap.size w w' := by
  have HLB := Lib.hid hB.1
  have hn2I : ¬ ((1048576 : Int) < (n2 : Int)) := by omega
  have I0 := Lib.hid (sizeG h0).1
  have J0 := Lib.hid (sizeG h0).2
  have I1 := Lib.hid (sizeJ h1).1
  have J1 := Lib.hid (sizeJ h1).2
  have K0 := PreCr10.start h0 h1 hB
  clear h0 h1 hB
  go_enter Tryz.func8, Tryz.ntmps8
  go_wp2_with (refine wpList_load_box 47 _ rfl (w.heap.size) rfl 47 C0 K0.v0.box _ Tryz.underlying47 rfl I0.out (by first | rfl | simp [Region.wanted, yielded] | (simp [Region.wanted, yielded, Act.put] <;> omega)) ?_)
  generalize ((w.alloc _).alloc _ : World) = w0 at K0 ⊢
  refine (sz_G K0.v0.dat).mono ?_
  rintro e w1 ⟨⟨u, rfl, hle, hgt⟩, hb⟩
  replace K0 := K0.later hb
  clear hb
  rcases Int.lt_or_le (1048576) (d0.sz : Int) with hs0 | hs0
  · have hu := hgt hs0
    clear hle hgt
    have E := K0.bel
    go_wp2
    go_ret
    exact ⟨rfl, E⟩
  have hu := hle hs0
  clear hle hgt
  subst hu
  have hu0 : ¬ (1048576 - (d0.sz : Int) < 0) := by omega
  go_wp2_with (refine wpList_load_box 50 _ rfl (w.heap.size + 1) rfl 50 C1 K0.v1.box _ Tryz.underlying50 rfl I1.out (by first | rfl | simp [Region.wanted, yielded] | (simp [Region.wanted, yielded, Act.put] <;> omega)) ?_)
  refine (sz_J K0.v1.dat (L := 1048576 - (d0.sz : Int)) (by omega) (by omega)).mono ?_
  rintro e w1 ⟨⟨u, rfl, hle, hgt⟩, hb⟩
  replace K0 := K0.later hb
  clear hb
  rcases Int.lt_or_le (1048576 - (d0.sz : Int)) (d1.sz : Int) with hs1 | hs1
  · have hu := hgt hs1
    clear hle hgt
    have E := K0.bel
    go_wp2
    go_ret
    exact ⟨rfl, E⟩
  have hu := hle hs1
  clear hle hgt
  subst hu
  have hu1 : ¬ (1048576 - (d0.sz : Int) - (d1.sz : Int) < 0) := by omega
  have hz0 : d0.sz ≤ 1048576 := by omega
  have hz1 : d1.sz ≤ 1048576 := by omega
  have m0 : 0 ≤ d0.mk8 ∧ d0.mk8 ≤ 1048576 := by unfold GrpD.mk8; have h8 : d0.zs.length ≤ 1048576 := hz0; omega
  have m1 := mkb_J (JourD.fit hz1)
  obtain ⟨rr, hr⟩ : ∃ rr, crashD d0 d1 bs = rr := ⟨_, rfl⟩
  have hq : rr.sz ≤ 1048576 := by rw [← hr]; exact Nat.le_trans (crash_szR d0 d1 bs) hz1
  have HZ := Lib.hid hr
  have FIT := Lib.hid (JourD.fit hq)
  clear hr
  go_upto_region 10 with fail
  clear hs0 hu0 hs1 hu1
  -- the model, on copies
  go_cut [8] (fun pv wr => ∃ (V : Nat) (C : Array Value) (F : Nat → Prop), pv = .pointer (some ⟨V, 0, none⟩) ∧ VarOf (AtJ rr) 29 wr F V C ∧ (∀ b, F b → b < wr.heap.size) ∧ w.heap.size + 1 < V ∧ PreCr10 w wr C0 C1 bs A2 n2 d0 d1)
  case first =>
    refine wp_region_sink 9 (fun w' => Box w' (w.heap.size) 47 C0 ∧ Box w' (w.heap.size + 1) 50 C1) (by kernel_rfl) ⟨K0.v0.box, K0.v1.box⟩ (fun hH => ?_)
    have hb := (Below.refl w1.heap.size w1).drew
    replace K0 := K0.later hb
    clear hb
    generalize w1.drew = w3 at K0 hH ⊢
    refine wpAnyE_takeS (i := 0) (v := .agg C0) (by simp only [List.getElem?_toArray, List.getElem?_cons_zero]; rfl) (by kernel_rfl) (by kernel_rfl) (by kernel_rfl) (by exact fun _ _ _ h => h) (by kernel_rfl) ?ya0 hH ?_
    case ya0 => exact yields_box 47 _ rfl (w.heap.size) rfl 47 C0 (fun _ h => h.1) _ Tryz.underlying47 rfl I0.out (by first | rfl | simp [Region.wanted, yielded] | (simp [Region.wanted, yielded, Act.put] <;> omega))
    try simp only [Act.put, List.setIfInBounds_toArray, List.set_cons_zero, List.set_cons_succ]
    refine wpAnyE_takeS (i := 2) (v := .agg C1) (by simp only [List.getElem?_toArray, List.getElem?_cons_succ, List.getElem?_cons_zero]; rfl) (by kernel_rfl) (by kernel_rfl) (by kernel_rfl) (by exact fun _ _ _ h => h) (by kernel_rfl) ?ya1 hH ?_
    case ya1 => exact yields_box 50 _ rfl (w.heap.size + 1) rfl 50 C1 (fun _ h => h.2) _ Tryz.underlying50 rfl I1.out (by first | rfl | simp [Region.wanted, yielded] | (simp [Region.wanted, yielded, Act.put] <;> omega))
    try simp only [Act.put, List.setIfInBounds_toArray, List.set_cons_zero, List.set_cons_succ]
    refine wpAnyE_pure (i := 4) (v := ?vamv) (by simp only [List.getElem?_toArray, List.getElem?_cons_succ, List.getElem?_cons_zero]; rfl) (by kernel_rfl) (by kernel_rfl) (by kernel_rfl) (by exact fun _ _ _ h => h) (by kernel_rfl) (Or.inl ⟨by rfl, ?yamv⟩) hH ?ramv
    case yamv => (intro w' hSw; (try dsimp only at hSw); go_simp; try with_reducible rfl)
    try simp only [Act.put, List.setIfInBounds_toArray, List.set_cons_zero, List.set_cons_succ]
    refine wpAnyE_two (i := 1) (j := 7) (by kernel_rfl) (by simp only [List.getElem?_toArray, List.getElem?_cons_succ, List.getElem?_cons_zero]; rfl) (by simp only [List.getElem?_toArray, List.getElem?_cons_succ, List.getElem?_cons_zero]; rfl) (fun K hK => ?_) (fun K hK => ?_)
    · skip
      go_simp
      refine (to_G K0.v0.dat hz0).mono ?_
      rintro e w4 ⟨D0, rfl, L0, hb⟩
      replace K0 := K0.later hb
      obtain ⟨F0, L0⟩ : ∃ F, LieG d0 w4 F (.agg D0) := ⟨_, L0⟩
      clear hb
      obtain ⟨w3, rfl⟩ : ∃ x, x = w4 := ⟨_, rfl⟩
      clear hH
      refine hK.out _ _ ⟨K0.v0.box, K0.v1.box⟩ (fun hH => ?_)
      clear hK K
      try simp only [Act.put, List.setIfInBounds_toArray, List.set_cons_zero, List.set_cons_succ]
      refine wpAnyE_two (i := 3) (j := 7) (by kernel_rfl) (by simp only [List.getElem?_toArray, List.getElem?_cons_succ, List.getElem?_cons_zero]; rfl) (by simp only [List.getElem?_toArray, List.getElem?_cons_succ, List.getElem?_cons_zero]; rfl) (fun K hK => ?_) (fun K hK => ?_)
      · skip
        go_simp
        refine (to_J K0.v1.dat hz1).mono ?_
        rintro e w4 ⟨D1, rfl, L1, hb⟩
        replace K0 := K0.later hb
        replace L0 := (keepsLG d0).later L0 hb
        obtain ⟨F1, L1⟩ : ∃ F, LieJ d1 w4 F (.agg D1) := ⟨_, L1⟩
        clear hb
        obtain ⟨w3, rfl⟩ : ∃ x, x = w4 := ⟨_, rfl⟩
        clear hH
        refine hK.out _ _ ⟨K0.v0.box, K0.v1.box⟩ (fun hH => ?_)
        clear hK K
        try simp only [Act.put, List.setIfInBounds_toArray, List.set_cons_zero, List.set_cons_succ]
        refine wpAnyE_two (i := 5) (j := 7) (by kernel_rfl) (by simp only [List.getElem?_toArray, List.getElem?_cons_succ, List.getElem?_cons_zero]; rfl) (by simp only [List.getElem?_toArray, List.getElem?_cons_succ, List.getElem?_cons_zero]; rfl) (fun K hK => ?_) (fun K hK => ?_)
        · skip
          go_simp
          have hsw := K0.bel.size
          refine (toBools_is K0.l2 (fun b hb => Nat.lt_of_lt_of_le hb hsw) hn2).mono ?_
          rintro e w4 ⟨GB, rfl, -, LB, hb⟩
          replace K0 := K0.later hb
          replace L0 := (keepsLG d0).later L0 hb
          replace L1 := (keepsLJ d1).later L1 hb
          clear hb hsw
          obtain ⟨w3, rfl⟩ : ∃ x, x = w4 := ⟨_, rfl⟩
          clear hH
          refine hK.out _ _ ⟨K0.v0.box, K0.v1.box⟩ (fun hH => ?_)
          clear hK K
          try simp only [Act.put, List.setIfInBounds_toArray, List.set_cons_zero, List.set_cons_succ]
          refine wpAnyE_two (i := 6) (j := 7) (by kernel_rfl) (by simp only [List.getElem?_toArray, List.getElem?_cons_succ, List.getElem?_cons_zero]; rfl) (by simp only [List.getElem?_toArray, List.getElem?_cons_succ, List.getElem?_cons_zero]; rfl) (fun K hK => ?_) (fun K hK => ?_)
          · skip
            go_simp
            refine (specCrashed8_is L0 L1 LB HLB.out hn2 hz0 hz1 HZ.out).mono ?_
            rintro e w4 ⟨C, rfl, LR, hb⟩
            replace K0 := K0.later hb
            generalize w3.heap.size = S at LR
            obtain ⟨E, hE⟩ : ∃ E, w4.heap.size = E := ⟨_, rfl⟩
            rw [hE] at LR
            have hEl : E ≤ w4.heap.size := Nat.le_of_eq hE.symm
            clear hE
            clear hb LB L0 L1
            obtain ⟨w3, rfl⟩ : ∃ x, x = w4 := ⟨_, rfl⟩
            clear hH
            refine hK.out _ _ ⟨K0.v0.box, K0.v1.box⟩ (fun hH => ?_)
            clear hK K
            try simp only [Act.put, List.setIfInBounds_toArray, List.set_cons_zero, List.set_cons_succ]
            refine wpAnyE_one (i := 7) (by kernel_rfl) (by simp only [List.getElem?_toArray, List.getElem?_cons_succ, List.getElem?_cons_zero]; rfl) (fun K hK => ?_)
            go_simp
            have hV := K0.v1.box.lt
            have hn := bel_alloc w3 (.cells #[.slice none 0 0, .slice none 0 0] 29)
            replace K0 := K0.later hn
            have ZB := Box.new w3 29 #[.slice none 0 0, .slice none 0 0]
            have hF : ¬ Iv S E w3.heap.size := iv_not (.inr hEl)
            replace LR := (keepsLJ rr).later LR hn
            replace hEl := Nat.le_trans hEl hn.size
            clear hn
            generalize (w3.alloc _ : World) = w4 at K0 ZB LR hEl ⊢
            generalize w3.heap.size = V at hV ZB hF ⊢
            obtain ⟨w3, rfl⟩ : ∃ x, x = w4 := ⟨_, rfl⟩
            clear hH
            refine hK.out _ _ ⟨K0.v0.box, K0.v1.box⟩ (fun hH => ?_)
            clear hK K
            try simp only [Act.put, List.setIfInBounds_toArray, List.set_cons_zero, List.set_cons_succ]
            refine wpAnyE_end (i := 8) (by kernel_rfl) (by simp only [List.getElem?_toArray, List.getElem?_cons_succ, List.getElem?_cons_zero]; rfl) (by kernel_rfl) (fun K hK => ?_)
            rw [if_pos (by first | rfl | kernel_rfl | simp [Region.wanted, yielded])]
            have O := Lib.hid (oneJ LR.at)
            have JS := Lib.hid (sizeJ LR.at).2
            have Ma := VarOf.put (keepsJ rr) ZB LR.at hF
            have ht := turns_setRow w3 V C
            replace K0 := K0.turn ht (fun b hb => by omega)
            clear hH
            refine wp_store_row 29 _ _ rfl V _ rfl rfl 29 #[.slice none 0 0, .slice none 0 0] ZB JS.out O.out.1.symm O.out.2 ?_
            refine hK.out _ _ ⟨K0.v0.box, K0.v1.box⟩ ?_
            clear hK K
            try simp only [Act.put]
            have hEs : E ≤ (w3.setRow V C).heap.size := by rw [size_setRow]; exact hEl
            clear ZB LR ht O JS
            generalize (w3.setRow _ _ : World) = w4 at K0 Ma hEs  ⊢
            go_wp2_with fail
            go_meet
            exact ⟨V, C, _, rfl, Ma, fun b hb => Nat.lt_of_lt_of_le hb.2 hEs, hV, K0⟩
          · skip
            go_simp
            have hV := K0.v1.box.lt
            have hn := bel_alloc w3 (.cells #[.slice none 0 0, .slice none 0 0] 29)
            replace K0 := K0.later hn
            replace L0 := (keepsLG d0).later L0 hn
            replace L1 := (keepsLJ d1).later L1 hn
            replace LB := LB.later hn
            have ZB := Box.new w3 29 #[.slice none 0 0, .slice none 0 0]
            clear hn
            generalize (w3.alloc _ : World) = w4 at K0 L0 L1 LB ZB ⊢
            generalize w3.heap.size = V at hV ZB ⊢
            obtain ⟨w3, rfl⟩ : ∃ x, x = w4 := ⟨_, rfl⟩
            clear hH
            refine hK.out _ _ ⟨K0.v0.box, K0.v1.box⟩ (fun hH => ?_)
            clear hK K
            try simp only [Act.put, List.setIfInBounds_toArray, List.set_cons_zero, List.set_cons_succ]
            refine wpAnyE_one (i := 6) (by kernel_rfl) (by simp only [List.getElem?_toArray, List.getElem?_cons_succ, List.getElem?_cons_zero]; rfl) (fun K hK => ?_)
            go_simp
            have hVS := ZB.lt
            refine (specCrashed8_is L0 L1 LB HLB.out hn2 hz0 hz1 HZ.out).mono ?_
            rintro e w4 ⟨C, rfl, LR, hb⟩
            replace K0 := K0.later hb
            replace ZB := ZB.later hb ZB.lt
            generalize w3.heap.size = S at LR hVS
            obtain ⟨E, hE⟩ : ∃ E, w4.heap.size = E := ⟨_, rfl⟩
            rw [hE] at LR
            have hEl : E ≤ w4.heap.size := Nat.le_of_eq hE.symm
            clear hE
            have hF : ¬ Iv S E V := iv_not (.inl hVS)
            clear hVS
            clear hb LB L0 L1
            obtain ⟨w3, rfl⟩ : ∃ x, x = w4 := ⟨_, rfl⟩
            clear hH
            refine hK.out _ _ ⟨K0.v0.box, K0.v1.box⟩ (fun hH => ?_)
            clear hK K
            try simp only [Act.put, List.setIfInBounds_toArray, List.set_cons_zero, List.set_cons_succ]
            refine wpAnyE_end (i := 8) (by kernel_rfl) (by simp only [List.getElem?_toArray, List.getElem?_cons_succ, List.getElem?_cons_zero]; rfl) (by kernel_rfl) (fun K hK => ?_)
            rw [if_pos (by first | rfl | kernel_rfl | simp [Region.wanted, yielded])]
            have O := Lib.hid (oneJ LR.at)
            have JS := Lib.hid (sizeJ LR.at).2
            have Ma := VarOf.put (keepsJ rr) ZB LR.at hF
            have ht := turns_setRow w3 V C
            replace K0 := K0.turn ht (fun b hb => by omega)
            clear hH
            refine wp_store_row 29 _ _ rfl V _ rfl rfl 29 #[.slice none 0 0, .slice none 0 0] ZB JS.out O.out.1.symm O.out.2 ?_
            refine hK.out _ _ ⟨K0.v0.box, K0.v1.box⟩ ?_
            clear hK K
            try simp only [Act.put]
            have hEs : E ≤ (w3.setRow V C).heap.size := by rw [size_setRow]; exact hEl
            clear ZB LR ht O JS
            generalize (w3.setRow _ _ : World) = w4 at K0 Ma hEs  ⊢
            go_wp2_with fail
            go_meet
            exact ⟨V, C, _, rfl, Ma, fun b hb => Nat.lt_of_lt_of_le hb.2 hEs, hV, K0⟩
        · skip
          go_simp
          have hV := K0.v1.box.lt
          have hn := bel_alloc w3 (.cells #[.slice none 0 0, .slice none 0 0] 29)
          replace K0 := K0.later hn
          replace L0 := (keepsLG d0).later L0 hn
          replace L1 := (keepsLJ d1).later L1 hn
          have ZB := Box.new w3 29 #[.slice none 0 0, .slice none 0 0]
          clear hn
          generalize (w3.alloc _ : World) = w4 at K0 L0 L1 ZB ⊢
          generalize w3.heap.size = V at hV ZB ⊢
          obtain ⟨w3, rfl⟩ : ∃ x, x = w4 := ⟨_, rfl⟩
          clear hH
          refine hK.out _ _ ⟨K0.v0.box, K0.v1.box⟩ (fun hH => ?_)
          clear hK K
          try simp only [Act.put, List.setIfInBounds_toArray, List.set_cons_zero, List.set_cons_succ]
          refine wpAnyE_one (i := 5) (by kernel_rfl) (by simp only [List.getElem?_toArray, List.getElem?_cons_succ, List.getElem?_cons_zero]; rfl) (fun K hK => ?_)
          go_simp
          have hsw := K0.bel.size
          refine (toBools_is K0.l2 (fun b hb => Nat.lt_of_lt_of_le hb hsw) hn2).mono ?_
          rintro e w4 ⟨GB, rfl, -, LB, hb⟩
          replace K0 := K0.later hb
          replace L0 := (keepsLG d0).later L0 hb
          replace L1 := (keepsLJ d1).later L1 hb
          replace ZB := ZB.later hb ZB.lt
          clear hb hsw
          obtain ⟨w3, rfl⟩ : ∃ x, x = w4 := ⟨_, rfl⟩
          clear hH
          refine hK.out _ _ ⟨K0.v0.box, K0.v1.box⟩ (fun hH => ?_)
          clear hK K
          try simp only [Act.put, List.setIfInBounds_toArray, List.set_cons_zero, List.set_cons_succ]
          refine wpAnyE_one (i := 6) (by kernel_rfl) (by simp only [List.getElem?_toArray, List.getElem?_cons_succ, List.getElem?_cons_zero]; rfl) (fun K hK => ?_)
          go_simp
          have hVS := ZB.lt
          refine (specCrashed8_is L0 L1 LB HLB.out hn2 hz0 hz1 HZ.out).mono ?_
          rintro e w4 ⟨C, rfl, LR, hb⟩
          replace K0 := K0.later hb
          replace ZB := ZB.later hb ZB.lt
          generalize w3.heap.size = S at LR hVS
          obtain ⟨E, hE⟩ : ∃ E, w4.heap.size = E := ⟨_, rfl⟩
          rw [hE] at LR
          have hEl : E ≤ w4.heap.size := Nat.le_of_eq hE.symm
          clear hE
          have hF : ¬ Iv S E V := iv_not (.inl hVS)
          clear hVS
          clear hb LB L0 L1
          obtain ⟨w3, rfl⟩ : ∃ x, x = w4 := ⟨_, rfl⟩
          clear hH
          refine hK.out _ _ ⟨K0.v0.box, K0.v1.box⟩ (fun hH => ?_)
          clear hK K
          try simp only [Act.put, List.setIfInBounds_toArray, List.set_cons_zero, List.set_cons_succ]
          refine wpAnyE_end (i := 8) (by kernel_rfl) (by simp only [List.getElem?_toArray, List.getElem?_cons_succ, List.getElem?_cons_zero]; rfl) (by kernel_rfl) (fun K hK => ?_)
          rw [if_pos (by first | rfl | kernel_rfl | simp [Region.wanted, yielded])]
          have O := Lib.hid (oneJ LR.at)
          have JS := Lib.hid (sizeJ LR.at).2
          have Ma := VarOf.put (keepsJ rr) ZB LR.at hF
          have ht := turns_setRow w3 V C
          replace K0 := K0.turn ht (fun b hb => by omega)
          clear hH
          refine wp_store_row 29 _ _ rfl V _ rfl rfl 29 #[.slice none 0 0, .slice none 0 0] ZB JS.out O.out.1.symm O.out.2 ?_
          refine hK.out _ _ ⟨K0.v0.box, K0.v1.box⟩ ?_
          clear hK K
          try simp only [Act.put]
          have hEs : E ≤ (w3.setRow V C).heap.size := by rw [size_setRow]; exact hEl
          clear ZB LR ht O JS
          generalize (w3.setRow _ _ : World) = w4 at K0 Ma hEs  ⊢
          go_wp2_with fail
          go_meet
          exact ⟨V, C, _, rfl, Ma, fun b hb => Nat.lt_of_lt_of_le hb.2 hEs, hV, K0⟩
      · skip
        go_simp
        have hV := K0.v1.box.lt
        have hn := bel_alloc w3 (.cells #[.slice none 0 0, .slice none 0 0] 29)
        replace K0 := K0.later hn
        replace L0 := (keepsLG d0).later L0 hn
        have ZB := Box.new w3 29 #[.slice none 0 0, .slice none 0 0]
        clear hn
        generalize (w3.alloc _ : World) = w4 at K0 L0 ZB ⊢
        generalize w3.heap.size = V at hV ZB ⊢
        obtain ⟨w3, rfl⟩ : ∃ x, x = w4 := ⟨_, rfl⟩
        clear hH
        refine hK.out _ _ ⟨K0.v0.box, K0.v1.box⟩ (fun hH => ?_)
        clear hK K
        try simp only [Act.put, List.setIfInBounds_toArray, List.set_cons_zero, List.set_cons_succ]
        refine wpAnyE_one (i := 3) (by kernel_rfl) (by simp only [List.getElem?_toArray, List.getElem?_cons_succ, List.getElem?_cons_zero]; rfl) (fun K hK => ?_)
        go_simp
        refine (to_J K0.v1.dat hz1).mono ?_
        rintro e w4 ⟨D1, rfl, L1, hb⟩
        replace K0 := K0.later hb
        replace L0 := (keepsLG d0).later L0 hb
        replace ZB := ZB.later hb ZB.lt
        obtain ⟨F1, L1⟩ : ∃ F, LieJ d1 w4 F (.agg D1) := ⟨_, L1⟩
        clear hb
        obtain ⟨w3, rfl⟩ : ∃ x, x = w4 := ⟨_, rfl⟩
        clear hH
        refine hK.out _ _ ⟨K0.v0.box, K0.v1.box⟩ (fun hH => ?_)
        clear hK K
        try simp only [Act.put, List.setIfInBounds_toArray, List.set_cons_zero, List.set_cons_succ]
        refine wpAnyE_one (i := 5) (by kernel_rfl) (by simp only [List.getElem?_toArray, List.getElem?_cons_succ, List.getElem?_cons_zero]; rfl) (fun K hK => ?_)
        go_simp
        have hsw := K0.bel.size
        refine (toBools_is K0.l2 (fun b hb => Nat.lt_of_lt_of_le hb hsw) hn2).mono ?_
        rintro e w4 ⟨GB, rfl, -, LB, hb⟩
        replace K0 := K0.later hb
        replace L0 := (keepsLG d0).later L0 hb
        replace L1 := (keepsLJ d1).later L1 hb
        replace ZB := ZB.later hb ZB.lt
        clear hb hsw
        obtain ⟨w3, rfl⟩ : ∃ x, x = w4 := ⟨_, rfl⟩
        clear hH
        refine hK.out _ _ ⟨K0.v0.box, K0.v1.box⟩ (fun hH => ?_)
        clear hK K
        try simp only [Act.put, List.setIfInBounds_toArray, List.set_cons_zero, List.set_cons_succ]
        refine wpAnyE_one (i := 6) (by kernel_rfl) (by simp only [List.getElem?_toArray, List.getElem?_cons_succ, List.getElem?_cons_zero]; rfl) (fun K hK => ?_)
        go_simp
        have hVS := ZB.lt
        refine (specCrashed8_is L0 L1 LB HLB.out hn2 hz0 hz1 HZ.out).mono ?_
        rintro e w4 ⟨C, rfl, LR, hb⟩
        replace K0 := K0.later hb
        replace ZB := ZB.later hb ZB.lt
        generalize w3.heap.size = S at LR hVS
        obtain ⟨E, hE⟩ : ∃ E, w4.heap.size = E := ⟨_, rfl⟩
        rw [hE] at LR
        have hEl : E ≤ w4.heap.size := Nat.le_of_eq hE.symm
        clear hE
        have hF : ¬ Iv S E V := iv_not (.inl hVS)
        clear hVS
        clear hb LB L0 L1
        obtain ⟨w3, rfl⟩ : ∃ x, x = w4 := ⟨_, rfl⟩
        clear hH
        refine hK.out _ _ ⟨K0.v0.box, K0.v1.box⟩ (fun hH => ?_)
        clear hK K
        try simp only [Act.put, List.setIfInBounds_toArray, List.set_cons_zero, List.set_cons_succ]
        refine wpAnyE_end (i := 8) (by kernel_rfl) (by simp only [List.getElem?_toArray, List.getElem?_cons_succ, List.getElem?_cons_zero]; rfl) (by kernel_rfl) (fun K hK => ?_)
        rw [if_pos (by first | rfl | kernel_rfl | simp [Region.wanted, yielded])]
        have O := Lib.hid (oneJ LR.at)
        have JS := Lib.hid (sizeJ LR.at).2
        have Ma := VarOf.put (keepsJ rr) ZB LR.at hF
        have ht := turns_setRow w3 V C
        replace K0 := K0.turn ht (fun b hb => by omega)
        clear hH
        refine wp_store_row 29 _ _ rfl V _ rfl rfl 29 #[.slice none 0 0, .slice none 0 0] ZB JS.out O.out.1.symm O.out.2 ?_
        refine hK.out _ _ ⟨K0.v0.box, K0.v1.box⟩ ?_
        clear hK K
        try simp only [Act.put]
        have hEs : E ≤ (w3.setRow V C).heap.size := by rw [size_setRow]; exact hEl
        clear ZB LR ht O JS
        generalize (w3.setRow _ _ : World) = w4 at K0 Ma hEs  ⊢
        go_wp2_with fail
        go_meet
        exact ⟨V, C, _, rfl, Ma, fun b hb => Nat.lt_of_lt_of_le hb.2 hEs, hV, K0⟩
    · skip
      go_simp
      have hV := K0.v1.box.lt
      have hn := bel_alloc w3 (.cells #[.slice none 0 0, .slice none 0 0] 29)
      replace K0 := K0.later hn
      have ZB := Box.new w3 29 #[.slice none 0 0, .slice none 0 0]
      clear hn
      generalize (w3.alloc _ : World) = w4 at K0 ZB ⊢
      generalize w3.heap.size = V at hV ZB ⊢
      obtain ⟨w3, rfl⟩ : ∃ x, x = w4 := ⟨_, rfl⟩
      clear hH
      refine hK.out _ _ ⟨K0.v0.box, K0.v1.box⟩ (fun hH => ?_)
      clear hK K
      try simp only [Act.put, List.setIfInBounds_toArray, List.set_cons_zero, List.set_cons_succ]
      refine wpAnyE_one (i := 1) (by kernel_rfl) (by simp only [List.getElem?_toArray, List.getElem?_cons_succ, List.getElem?_cons_zero]; rfl) (fun K hK => ?_)
      go_simp
      refine (to_G K0.v0.dat hz0).mono ?_
      rintro e w4 ⟨D0, rfl, L0, hb⟩
      replace K0 := K0.later hb
      replace ZB := ZB.later hb ZB.lt
      obtain ⟨F0, L0⟩ : ∃ F, LieG d0 w4 F (.agg D0) := ⟨_, L0⟩
      clear hb
      obtain ⟨w3, rfl⟩ : ∃ x, x = w4 := ⟨_, rfl⟩
      clear hH
      refine hK.out _ _ ⟨K0.v0.box, K0.v1.box⟩ (fun hH => ?_)
      clear hK K
      try simp only [Act.put, List.setIfInBounds_toArray, List.set_cons_zero, List.set_cons_succ]
      refine wpAnyE_one (i := 3) (by kernel_rfl) (by simp only [List.getElem?_toArray, List.getElem?_cons_succ, List.getElem?_cons_zero]; rfl) (fun K hK => ?_)
      go_simp
      refine (to_J K0.v1.dat hz1).mono ?_
      rintro e w4 ⟨D1, rfl, L1, hb⟩
      replace K0 := K0.later hb
      replace L0 := (keepsLG d0).later L0 hb
      replace ZB := ZB.later hb ZB.lt
      obtain ⟨F1, L1⟩ : ∃ F, LieJ d1 w4 F (.agg D1) := ⟨_, L1⟩
      clear hb
      obtain ⟨w3, rfl⟩ : ∃ x, x = w4 := ⟨_, rfl⟩
      clear hH
      refine hK.out _ _ ⟨K0.v0.box, K0.v1.box⟩ (fun hH => ?_)
      clear hK K
      try simp only [Act.put, List.setIfInBounds_toArray, List.set_cons_zero, List.set_cons_succ]
      refine wpAnyE_one (i := 5) (by kernel_rfl) (by simp only [List.getElem?_toArray, List.getElem?_cons_succ, List.getElem?_cons_zero]; rfl) (fun K hK => ?_)
      go_simp
      have hsw := K0.bel.size
      refine (toBools_is K0.l2 (fun b hb => Nat.lt_of_lt_of_le hb hsw) hn2).mono ?_
      rintro e w4 ⟨GB, rfl, -, LB, hb⟩
      replace K0 := K0.later hb
      replace L0 := (keepsLG d0).later L0 hb
      replace L1 := (keepsLJ d1).later L1 hb
      replace ZB := ZB.later hb ZB.lt
      clear hb hsw
      obtain ⟨w3, rfl⟩ : ∃ x, x = w4 := ⟨_, rfl⟩
      clear hH
      refine hK.out _ _ ⟨K0.v0.box, K0.v1.box⟩ (fun hH => ?_)
      clear hK K
      try simp only [Act.put, List.setIfInBounds_toArray, List.set_cons_zero, List.set_cons_succ]
      refine wpAnyE_one (i := 6) (by kernel_rfl) (by simp only [List.getElem?_toArray, List.getElem?_cons_succ, List.getElem?_cons_zero]; rfl) (fun K hK => ?_)
      go_simp
      have hVS := ZB.lt
      refine (specCrashed8_is L0 L1 LB HLB.out hn2 hz0 hz1 HZ.out).mono ?_
      rintro e w4 ⟨C, rfl, LR, hb⟩
      replace K0 := K0.later hb
      replace ZB := ZB.later hb ZB.lt
      generalize w3.heap.size = S at LR hVS
      obtain ⟨E, hE⟩ : ∃ E, w4.heap.size = E := ⟨_, rfl⟩
      rw [hE] at LR
      have hEl : E ≤ w4.heap.size := Nat.le_of_eq hE.symm
      clear hE
      have hF : ¬ Iv S E V := iv_not (.inl hVS)
      clear hVS
      clear hb LB L0 L1
      obtain ⟨w3, rfl⟩ : ∃ x, x = w4 := ⟨_, rfl⟩
      clear hH
      refine hK.out _ _ ⟨K0.v0.box, K0.v1.box⟩ (fun hH => ?_)
      clear hK K
      try simp only [Act.put, List.setIfInBounds_toArray, List.set_cons_zero, List.set_cons_succ]
      refine wpAnyE_end (i := 8) (by kernel_rfl) (by simp only [List.getElem?_toArray, List.getElem?_cons_succ, List.getElem?_cons_zero]; rfl) (by kernel_rfl) (fun K hK => ?_)
      rw [if_pos (by first | rfl | kernel_rfl | simp [Region.wanted, yielded])]
      have O := Lib.hid (oneJ LR.at)
      have JS := Lib.hid (sizeJ LR.at).2
      have Ma := VarOf.put (keepsJ rr) ZB LR.at hF
      have ht := turns_setRow w3 V C
      replace K0 := K0.turn ht (fun b hb => by omega)
      clear hH
      refine wp_store_row 29 _ _ rfl V _ rfl rfl 29 #[.slice none 0 0, .slice none 0 0] ZB JS.out O.out.1.symm O.out.2 ?_
      refine hK.out _ _ ⟨K0.v0.box, K0.v1.box⟩ ?_
      clear hK K
      try simp only [Act.put]
      have hEs : E ≤ (w3.setRow V C).heap.size := by rw [size_setRow]; exact hEl
      clear ZB LR ht O JS
      generalize (w3.setRow _ _ : World) = w4 at K0 Ma hEs  ⊢
      go_wp2_with fail
      go_meet
      exact ⟨V, C, _, rfl, Ma, fun b hb => Nat.lt_of_lt_of_le hb.2 hEs, hV, K0⟩
  case rest =>
  clear K0
  obtain ⟨VM, CM, FM, rfl, M, hFM, hV, K0⟩ := hcut
  obtain ⟨w1, rfl⟩ : ∃ x, x = wc := ⟨_, rfl⟩
  have JM := Lib.hid (sizeJ M.dat).2
  -- a copy that is handed in
  go_wp2_with (refine wpList_load_box 47 _ rfl (w.heap.size) rfl 47 C0 K0.v0.box _ Tryz.underlying47 rfl I0.out (by first | rfl | simp [Region.wanted, yielded] | (simp [Region.wanted, yielded, Act.put] <;> omega)) ?_)
  refine (to_G K0.v0.dat hz0).mono ?_
  rintro e w2 ⟨D0, rfl, hL, hb⟩
  have s0 := hb.size
  have q0 := M.box.lt
  have O := Lib.hid (oneG hL.at)
  have JS := Lib.hid (sizeG hL.at).2
  have J0 := JS
  have hn := bel_new_row w2 #[.int .i64 0, .int .i64 0, .int .i64 0, .int .i64 0, .slice none 0 0] 26 D0
  have X0 := var_new_row (keepsLG d0) (Z := #[.int .i64 0, .int .i64 0, .int .i64 0, .int .i64 0, .slice none 0 0]) 26 hL (fun b hb => hb.2)
  replace M := (M.later (keepsJ rr) hb).later (keepsJ rr) hn
  replace K0 := (K0.later hb).later hn
  have ZB := Box.new w2 26 #[.int .i64 0, .int .i64 0, .int .i64 0, .int .i64 0, .slice none 0 0]
  generalize w1.heap.size = S0 at s0 q0 X0 hFM
  clear hb hL hn
  go_upto_region 12 with (refine wpList_store_row rfl 26 _ _ rfl w2.heap.size _ rfl rfl 26 #[.int .i64 0, .int .i64 0, .int .i64 0, .int .i64 0, .slice none 0 0] ZB JS.out O.out.1.symm O.out.2 ?_)
  clear ZB O JS
  generalize ((w2.alloc _).setRow _ _ : World) = w3 at K0 X0 M ⊢
  generalize w2.heap.size = V0 at s0 X0 ⊢
  obtain ⟨w1, rfl⟩ : ∃ x, x = w3 := ⟨_, rfl⟩
  -- a copy that is handed in
  go_wp2_with (refine wpList_load_box 50 _ rfl (w.heap.size + 1) rfl 50 C1 K0.v1.box _ Tryz.underlying50 rfl I1.out (by first | rfl | simp [Region.wanted, yielded] | (simp [Region.wanted, yielded, Act.put] <;> omega)) ?_)
  refine (to_J K0.v1.dat hz1).mono ?_
  rintro e w2 ⟨D1, rfl, hL, hb⟩
  have s1 := hb.size
  have q1 := X0.box.lt
  have O := Lib.hid (oneJ hL.at)
  have JS := Lib.hid (sizeJ hL.at).2
  have J1 := JS
  have hn := bel_new_row w2 #[.slice none 0 0, .slice none 0 0] 29 D1
  have X1 := var_new_row (keepsLJ d1) (Z := #[.slice none 0 0, .slice none 0 0]) 29 hL (fun b hb => hb.2)
  replace X0 := (X0.later (keepsLG d0) hb).later (keepsLG d0) hn
  replace M := (M.later (keepsJ rr) hb).later (keepsJ rr) hn
  replace K0 := (K0.later hb).later hn
  have ZB := Box.new w2 29 #[.slice none 0 0, .slice none 0 0]
  generalize w1.heap.size = S1 at s1 q1 X1 
  clear hb hL hn
  go_upto_region 13 with (refine wpList_store_row rfl 29 _ _ rfl w2.heap.size _ rfl rfl 29 #[.slice none 0 0, .slice none 0 0] ZB JS.out O.out.1.symm O.out.2 ?_)
  clear ZB O JS
  generalize ((w2.alloc _).setRow _ _ : World) = w3 at K0 X0 X1 M ⊢
  generalize w2.heap.size = V1 at s1 X1 ⊢
  obtain ⟨w1, rfl⟩ : ∃ x, x = w3 := ⟨_, rfl⟩
  -- the list of bools
  go_wp2_with fail
  have hsw := K0.bel.size
  refine (toBools_is K0.l2 (fun b hb => Nat.lt_of_lt_of_le hb hsw) hn2).mono ?_
  rintro e w2 ⟨GB, rfl, sB, hB9, hb⟩
  have qB := X1.box.lt
  have XB : RawOf bs w2 GB := ⟨hB9⟩
  replace K0 := K0.later hb
  replace X0 := X0.later (keepsLG d0) hb
  replace X1 := X1.later (keepsLJ d1) hb
  replace M := M.later (keepsJ rr) hb
  generalize w1.heap.size = SB at sB qB
  clear hb hsw hB9
  obtain ⟨w1, rfl⟩ : ∃ x, x = w2 := ⟨_, rfl⟩
  -- the program
  have qG := XB.dat.lt
  go_wp2_with (first | (refine wpList_load_box 26 _ rfl (V0) rfl 26 D0 X0.box _ Tryz.underlying26 rfl J0.out (by first | rfl | simp [Region.wanted, yielded] | (simp [Region.wanted, yielded, Act.put] <;> omega)) ?_) | (refine wpList_load_box 29 _ rfl (V1) rfl 29 D1 X1.box _ Tryz.underlying29 rfl J1.out (by first | rfl | simp [Region.wanted, yielded] | (simp [Region.wanted, yielded, Act.put] <;> omega)) ?_))
  refine (crashed8_is X0.dat X1.dat XB.dat HLB.out hn2 hz0 hz1 HZ.out).mono ?_
  rintro e w2 ⟨CG, rfl, LG, hb⟩
  have sG := hb.size
  have O := Lib.hid (oneJ LG.at)
  have JG := Lib.hid (sizeJ LG.at).2
  have hn := bel_new_row w2 #[.slice none 0 0, .slice none 0 0] 29 CG
  have G := var_new_row (keepsLJ rr) (Z := #[.slice none 0 0, .slice none 0 0]) 29 LG (fun b hb => hb.2)
  replace K0 := (K0.later hb).later hn
  replace X0 := (X0.later (keepsLG d0) hb).later (keepsLG d0) hn
  replace X1 := (X1.later (keepsLJ d1) hb).later (keepsLJ d1) hn
  replace XB := (XB.later () hb).later () hn
  replace M := (M.later (keepsJ rr) hb).later (keepsJ rr) hn
  have ZB := Box.new w2 29 #[.slice none 0 0, .slice none 0 0]
  generalize w1.heap.size = SG at sG qG G
  clear hb LG hn
  go_upto_region 15 with (refine wpList_store_row rfl 29 _ _ rfl w2.heap.size _ rfl rfl 29 #[.slice none 0 0, .slice none 0 0] ZB JG.out O.out.1.symm O.out.2 ?_)
  clear ZB O
  generalize ((w2.alloc _).setRow _ _ : World) = w3 at K0 X0 X1 XB M G ⊢
  generalize w2.heap.size = VG at sG G ⊢
  obtain ⟨w1, rfl⟩ : ∃ x, x = w3 := ⟨_, rfl⟩
  -- both answers are alike
  go_wp2_with (first | (refine wpList_load_box 29 _ rfl (VG) rfl 29 CG G.box _ Tryz.underlying29 rfl JG.out (by first | rfl | simp [Region.wanted, yielded] | (simp [Region.wanted, yielded, Act.put] <;> omega)) ?_) | (refine wpList_load_box 29 _ rfl (VM) rfl 29 CM M.box _ Tryz.underlying29 rfl JM.out (by first | rfl | simp [Region.wanted, yielded] | (simp [Region.wanted, yielded, Act.put] <;> omega)) ?_))
  refine (eq_J G.dat.at M.dat hq).mono ?_
  rintro e w2 ⟨rfl, hb⟩
  replace K0 := K0.later hb
  replace X0 := X0.later (keepsLG d0) hb
  replace X1 := X1.later (keepsLJ d1) hb
  replace XB := XB.later () hb
  replace M := M.later (keepsJ rr) hb
  replace G := G.later (keepsLJ rr) hb
  clear hb
  obtain ⟨w1, rfl⟩ : ∃ x, x = w2 := ⟨_, rfl⟩
  -- an argument is as it was
  go_upto_region 17 with fail
  refine wp_region_sink 5 (fun w' => Box w' V0 26 D0 ∧ Box w' (w.heap.size) 47 C0) (by kernel_rfl) ⟨X0.box, K0.v0.box⟩ (fun hH => ?_)
  have hb := (Below.refl w1.heap.size w1).drew
  replace K0 := K0.later hb
  replace X0 := X0.later (keepsLG d0) hb
  replace X1 := X1.later (keepsLJ d1) hb
  replace XB := XB.later () hb
  replace M := M.later (keepsJ rr) hb
  replace G := G.later (keepsLJ rr) hb
  clear hb
  generalize w1.drew = w2 at K0 hH X0 X1 XB M G ⊢
  refine wpAnyE_takeS (i := 0) (v := .agg D0) (by simp only [List.getElem?_toArray, List.getElem?_cons_zero]; rfl) (by kernel_rfl) (by kernel_rfl) (by kernel_rfl) (by exact fun _ _ _ h => h) (by kernel_rfl) ?yx0 hH ?_
  case yx0 => exact yields_box 26 _ rfl (V0) rfl 26 D0 (fun _ h => h.1) _ Tryz.underlying26 rfl J0.out (by first | rfl | simp [Region.wanted, yielded] | (simp [Region.wanted, yielded, Act.put] <;> omega))
  try simp only [Act.put, List.setIfInBounds_toArray, List.set_cons_zero, List.set_cons_succ]
  refine wpAnyE_takeS (i := 1) (v := .agg C0) (by simp only [List.getElem?_toArray, List.getElem?_cons_succ, List.getElem?_cons_zero]; rfl) (by kernel_rfl) (by kernel_rfl) (by kernel_rfl) (by exact fun _ _ _ h => h) (by kernel_rfl) ?yo0 hH ?_
  case yo0 => exact yields_box 47 _ rfl (w.heap.size) rfl 47 C0 (fun _ h => h.2) _ Tryz.underlying47 rfl I0.out (by first | rfl | simp [Region.wanted, yielded] | (simp [Region.wanted, yielded, Act.put] <;> omega))
  try simp only [Act.put, List.setIfInBounds_toArray, List.set_cons_zero, List.set_cons_succ]
  refine wpAnyE_one (i := 2) (by kernel_rfl) (by simp only [List.getElem?_toArray, List.getElem?_cons_succ, List.getElem?_cons_zero]; rfl) (fun K hK => ?_)
  go_simp
  refine (to_G K0.v0.dat hz0).mono ?_
  rintro e w3 ⟨D, rfl, L, hb⟩
  replace K0 := K0.later hb
  replace X0 := X0.later (keepsLG d0) hb
  replace X1 := X1.later (keepsLJ d1) hb
  replace XB := XB.later () hb
  replace M := M.later (keepsJ rr) hb
  replace G := G.later (keepsLJ rr) hb
  clear hb
  clear hH
  refine hK.out _ _ ⟨X0.box, K0.v0.box⟩ (fun hH => ?_)
  clear hK K
  try simp only [Act.put, List.setIfInBounds_toArray, List.set_cons_zero, List.set_cons_succ]
  refine wpAnyE_one (i := 3) (by kernel_rfl) (by simp only [List.getElem?_toArray, List.getElem?_cons_succ, List.getElem?_cons_zero]; rfl) (fun K hK => ?_)
  go_simp
  refine (eq_G X0.dat.at L.at hz0).mono ?_
  rintro e w4 ⟨rfl, hb⟩
  replace K0 := K0.later hb
  replace X0 := X0.later (keepsLG d0) hb
  replace X1 := X1.later (keepsLJ d1) hb
  replace XB := XB.later () hb
  replace M := M.later (keepsJ rr) hb
  replace G := G.later (keepsLJ rr) hb
  clear hb L
  clear hH
  refine hK.out _ _ ⟨X0.box, K0.v0.box⟩ (fun hH => ?_)
  clear hK K
  try simp only [Act.put, List.setIfInBounds_toArray, List.set_cons_zero, List.set_cons_succ]
  refine wpAnyE_end (i := 4) (by kernel_rfl) (by simp only [List.getElem?_toArray, List.getElem?_cons_succ, List.getElem?_cons_zero]; rfl) (by kernel_rfl) (fun K hK => ?_)
  go_simp
  refine hK.out _ _ ⟨X0.box, K0.v0.box⟩ ?_
  clear hK K
  try simp only [Act.put, List.setIfInBounds_toArray, List.set_cons_zero, List.set_cons_succ]
  obtain ⟨w1, rfl⟩ : ∃ x, x = w4 := ⟨_, rfl⟩
  clear hH
  -- an argument is as it was
  go_upto_region 19 with fail
  refine wp_region_sink 5 (fun w' => Box w' V1 29 D1 ∧ Box w' (w.heap.size + 1) 50 C1) (by kernel_rfl) ⟨X1.box, K0.v1.box⟩ (fun hH => ?_)
  have hb := (Below.refl w1.heap.size w1).drew
  replace K0 := K0.later hb
  replace X0 := X0.later (keepsLG d0) hb
  replace X1 := X1.later (keepsLJ d1) hb
  replace XB := XB.later () hb
  replace M := M.later (keepsJ rr) hb
  replace G := G.later (keepsLJ rr) hb
  clear hb
  generalize w1.drew = w2 at K0 hH X0 X1 XB M G ⊢
  refine wpAnyE_takeS (i := 0) (v := .agg D1) (by simp only [List.getElem?_toArray, List.getElem?_cons_zero]; rfl) (by kernel_rfl) (by kernel_rfl) (by kernel_rfl) (by exact fun _ _ _ h => h) (by kernel_rfl) ?yx1 hH ?_
  case yx1 => exact yields_box 29 _ rfl (V1) rfl 29 D1 (fun _ h => h.1) _ Tryz.underlying29 rfl J1.out (by first | rfl | simp [Region.wanted, yielded] | (simp [Region.wanted, yielded, Act.put] <;> omega))
  try simp only [Act.put, List.setIfInBounds_toArray, List.set_cons_zero, List.set_cons_succ]
  refine wpAnyE_takeS (i := 1) (v := .agg C1) (by simp only [List.getElem?_toArray, List.getElem?_cons_succ, List.getElem?_cons_zero]; rfl) (by kernel_rfl) (by kernel_rfl) (by kernel_rfl) (by exact fun _ _ _ h => h) (by kernel_rfl) ?yo1 hH ?_
  case yo1 => exact yields_box 50 _ rfl (w.heap.size + 1) rfl 50 C1 (fun _ h => h.2) _ Tryz.underlying50 rfl I1.out (by first | rfl | simp [Region.wanted, yielded] | (simp [Region.wanted, yielded, Act.put] <;> omega))
  try simp only [Act.put, List.setIfInBounds_toArray, List.set_cons_zero, List.set_cons_succ]
  refine wpAnyE_one (i := 2) (by kernel_rfl) (by simp only [List.getElem?_toArray, List.getElem?_cons_succ, List.getElem?_cons_zero]; rfl) (fun K hK => ?_)
  go_simp
  refine (to_J K0.v1.dat hz1).mono ?_
  rintro e w3 ⟨D, rfl, L, hb⟩
  replace K0 := K0.later hb
  replace X0 := X0.later (keepsLG d0) hb
  replace X1 := X1.later (keepsLJ d1) hb
  replace XB := XB.later () hb
  replace M := M.later (keepsJ rr) hb
  replace G := G.later (keepsLJ rr) hb
  clear hb
  clear hH
  refine hK.out _ _ ⟨X1.box, K0.v1.box⟩ (fun hH => ?_)
  clear hK K
  try simp only [Act.put, List.setIfInBounds_toArray, List.set_cons_zero, List.set_cons_succ]
  refine wpAnyE_one (i := 3) (by kernel_rfl) (by simp only [List.getElem?_toArray, List.getElem?_cons_succ, List.getElem?_cons_zero]; rfl) (fun K hK => ?_)
  go_simp
  refine (eq_J X1.dat.at L.at hz1).mono ?_
  rintro e w4 ⟨rfl, hb⟩
  replace K0 := K0.later hb
  replace X0 := X0.later (keepsLG d0) hb
  replace X1 := X1.later (keepsLJ d1) hb
  replace XB := XB.later () hb
  replace M := M.later (keepsJ rr) hb
  replace G := G.later (keepsLJ rr) hb
  clear hb L
  clear hH
  refine hK.out _ _ ⟨X1.box, K0.v1.box⟩ (fun hH => ?_)
  clear hK K
  try simp only [Act.put, List.setIfInBounds_toArray, List.set_cons_zero, List.set_cons_succ]
  refine wpAnyE_end (i := 4) (by kernel_rfl) (by simp only [List.getElem?_toArray, List.getElem?_cons_succ, List.getElem?_cons_zero]; rfl) (by kernel_rfl) (fun K hK => ?_)
  go_simp
  refine hK.out _ _ ⟨X1.box, K0.v1.box⟩ ?_
  clear hK K
  try simp only [Act.put, List.setIfInBounds_toArray, List.set_cons_zero, List.set_cons_succ]
  obtain ⟨w1, rfl⟩ : ∃ x, x = w4 := ⟨_, rfl⟩
  clear hH
  go_wp2_with fail
  have hsw := K0.bel.size
  refine (toBools_is K0.l2 (fun b hb => Nat.lt_of_lt_of_le hb hsw) hn2).mono ?_
  rintro e w2 ⟨GE, rfl, -, hE9, hb⟩
  replace K0 := K0.later hb
  replace X0 := X0.later (keepsLG d0) hb
  replace X1 := X1.later (keepsLJ d1) hb
  replace XB := XB.later () hb
  replace M := M.later (keepsJ rr) hb
  replace G := G.later (keepsLJ rr) hb
  clear hb hsw
  go_wp2_with fail
  refine (eqBools_is (XB.dat.reads HLB.out) (hE9.reads HLB.out) hn2).mono ?_
  rintro e w3 ⟨rfl, hb⟩
  replace K0 := K0.later hb
  replace X0 := X0.later (keepsLG d0) hb
  replace X1 := X1.later (keepsLJ d1) hb
  replace XB := XB.later () hb
  replace M := M.later (keepsJ rr) hb
  replace G := G.later (keepsLJ rr) hb
  clear hb hE9
  obtain ⟨w1, rfl⟩ : ∃ x, x = w3 := ⟨_, rfl⟩
  -- the marks
  go_wp2_with (refine wpList_load_box 26 _ rfl (V0) rfl 26 D0 X0.box _ Tryz.underlying26 rfl J0.out (by first | rfl | simp [Region.wanted, yielded] | (simp [Region.wanted, yielded, Act.put] <;> omega)) ?_)
  refine (mark_G (k := 1) X0.dat hz0 (by omega) (by omega)).mono ?_
  rintro e w2 ⟨rfl, ht⟩
  replace K0 := K0.turn ht (fun b hb => by have := hb.1; omega)
  replace X1 := X1.turn (keepsLJ d1) ht (iv_not (.inr (by omega))) (iv_far (.inr (by omega)))
  replace XB := XB.turn () ht (iv_not (.inr (by omega)))
  replace M := M.turn (keepsJ rr) ht (iv_not (.inl (by omega))) (fun b hb hi => by have := hFM b hb; have := hi.1; omega)
  replace G := G.turn (keepsLJ rr) ht (iv_not (.inr (by omega))) (iv_far (.inr (by omega)))
  clear ht X0
  obtain ⟨w1, rfl⟩ : ∃ x, x = w2 := ⟨_, rfl⟩
  go_wp2_with (refine wpList_load_box 29 _ rfl (V1) rfl 29 D1 X1.box _ Tryz.underlying29 rfl J1.out (by first | rfl | simp [Region.wanted, yielded] | (simp [Region.wanted, yielded, Act.put] <;> omega)) ?_)
  refine (mark_J (k := 1 + d0.mk8) X1.dat hz1 (by omega) (by omega)).mono ?_
  rintro e w2 ⟨rfl, ht⟩
  replace K0 := K0.turn ht (fun b hb => by have := hb.1; omega)
  replace XB := XB.turn () ht (iv_not (.inr (by omega)))
  replace M := M.turn (keepsJ rr) ht (iv_not (.inl (by omega))) (fun b hb hi => by have := hFM b hb; have := hi.1; omega)
  replace G := G.turn (keepsLJ rr) ht (iv_not (.inr (by omega))) (iv_far (.inr (by omega)))
  clear ht X1
  obtain ⟨w1, rfl⟩ : ∃ x, x = w2 := ⟨_, rfl⟩
  go_wp2_with fail
  refine (markBools_is (k := 1 + d0.mk8 + d1.mk8) XB.dat HLB.out hn2 (by omega) (by omega)).mono ?_
  rintro e w2 ⟨rfl, ht⟩
  replace K0 := K0.turn ht (fun b hb => by have hb : b = GB := hb; omega)
  replace M := M.turn (keepsJ rr) ht (by omega) (fun b hb hi => by have := hFM b hb; have hi : b = GB := hi; omega)
  replace G := G.turn (keepsLJ rr) ht (by omega) (fun b hb hi => by have h1 := hb.1; have hi : b = GB := hi; omega)
  clear ht XB
  obtain ⟨w1, rfl⟩ : ∃ x, x = w2 := ⟨_, rfl⟩
  have hk : ¬ (1 + d0.mk8 + d1.mk8 + (n2 : Int) < 0) := by omega
  go_wp2_with (first | (refine wpList_load_box 29 _ rfl (VG) rfl 29 CG G.box _ Tryz.underlying29 rfl JG.out (by first | rfl | simp [Region.wanted, yielded] | (simp [Region.wanted, yielded, Act.put] <;> omega)) ?_) | (refine wpList_load_box 29 _ rfl (VM) rfl 29 CM M.box _ Tryz.underlying29 rfl JM.out (by first | rfl | simp [Region.wanted, yielded] | (simp [Region.wanted, yielded, Act.put] <;> omega)) ?_))
  refine (eq_J G.dat.at M.dat hq).mono ?_
  rintro e w2 ⟨rfl, hb⟩
  replace K0 := K0.later hb
  replace M := M.later (keepsJ rr) hb
  replace G := G.later (keepsLJ rr) hb
  clear hb
  obtain ⟨w1, rfl⟩ : ∃ x, x = w2 := ⟨_, rfl⟩
  go_wp2_with (refine wpList_load_box 29 _ rfl (VG) rfl 29 CG G.box _ Tryz.underlying29 rfl JG.out (by first | rfl | simp [Region.wanted, yielded] | (simp [Region.wanted, yielded, Act.put] <;> omega)) ?_)
  refine (markd_J (k := 1) G.dat FIT.out (by omega) (by omega)).mono ?_
  rintro e w2 ⟨rfl, ht, r', hm, LG⟩
  replace K0 := K0.turn ht (fun b hb => by have := hb.1; omega)
  replace M := M.turn (keepsJ rr) ht (iv_not (.inl (by omega))) (fun b hb hi => by have := hFM b hb; have := hi.1; omega)
  have G2 : VarOf (LieJ r') 29 w2 (Iv SG VG) VG CG := ⟨G.box.turn ht (iv_not (.inr (Nat.le_refl _))), G.far, LG⟩
  clear ht LG G hk
  have HM := Lib.hid hm
  clear hm
  obtain ⟨w1, rfl⟩ : ∃ x, x = w2 := ⟨_, rfl⟩
  have mr := mkb_J FIT.out
  have hk : ¬ (1 + rr.mk8 < 0) := by omega
  have hqq : (1 + rr.mk8 != 1 + rr.mk8) = false := by simp
  go_wp2_with (refine wpList_load_box 29 _ rfl (VG) rfl 29 CG G2.box _ Tryz.underlying29 rfl JG.out (by first | rfl | simp [Region.wanted, yielded] | (simp [Region.wanted, yielded, Act.put] <;> omega)) ?_)
  refine (held_J (k := 1) G2.dat HM.out FIT.out (by omega) (by omega)).mono ?_
  rintro e w2 ⟨rfl, hb⟩
  replace K0 := K0.later hb
  replace M := M.later (keepsJ rr) hb
  replace G2 := G2.later (keepsLJ r') hb
  clear hb
  obtain ⟨w1, rfl⟩ : ∃ x, x = w2 := ⟨_, rfl⟩
  go_upto_region 37 with fail
  -- again
  go_cut [16] (fun pv wr => ∃ (V : Nat) (C : Array Value) (F : Nat → Prop), pv = .pointer (some ⟨V, 0, none⟩) ∧ VarOf (AtJ rr) 29 wr F V C ∧ PreCr10 w wr C0 C1 bs A2 n2 d0 d1 ∧ VarOf (AtJ rr) 29 wr FM VM CM ∧ VarOf (LieJ r') 29 wr (Iv SG VG) VG CG)
  case first =>
    refine wp_region_sink 9 (fun w' => Box w' (w.heap.size) 47 C0 ∧ Box w' (w.heap.size + 1) 50 C1) (by kernel_rfl) ⟨K0.v0.box, K0.v1.box⟩ (fun hH => ?_)
    have hb := (Below.refl w1.heap.size w1).drew
    replace K0 := K0.later hb
    replace M := M.later (keepsJ rr) hb
    replace G2 := G2.later (keepsLJ r') hb
    clear hb
    generalize w1.drew = w3 at K0 M G2 hH ⊢
    refine wpAnyE_takeS (i := 0) (v := .agg C0) (by simp only [List.getElem?_toArray, List.getElem?_cons_zero]; rfl) (by kernel_rfl) (by kernel_rfl) (by kernel_rfl) (by exact fun _ _ _ h => h) (by kernel_rfl) ?yb0 hH ?_
    case yb0 => exact yields_box 47 _ rfl (w.heap.size) rfl 47 C0 (fun _ h => h.1) _ Tryz.underlying47 rfl I0.out (by first | rfl | simp [Region.wanted, yielded] | (simp [Region.wanted, yielded, Act.put] <;> omega))
    try simp only [Act.put, List.setIfInBounds_toArray, List.set_cons_zero, List.set_cons_succ]
    refine wpAnyE_takeS (i := 2) (v := .agg C1) (by simp only [List.getElem?_toArray, List.getElem?_cons_succ, List.getElem?_cons_zero]; rfl) (by kernel_rfl) (by kernel_rfl) (by kernel_rfl) (by exact fun _ _ _ h => h) (by kernel_rfl) ?yb1 hH ?_
    case yb1 => exact yields_box 50 _ rfl (w.heap.size + 1) rfl 50 C1 (fun _ h => h.2) _ Tryz.underlying50 rfl I1.out (by first | rfl | simp [Region.wanted, yielded] | (simp [Region.wanted, yielded, Act.put] <;> omega))
    try simp only [Act.put, List.setIfInBounds_toArray, List.set_cons_zero, List.set_cons_succ]
    refine wpAnyE_pure (i := 4) (v := ?vbmv) (by simp only [List.getElem?_toArray, List.getElem?_cons_succ, List.getElem?_cons_zero]; rfl) (by kernel_rfl) (by kernel_rfl) (by kernel_rfl) (by exact fun _ _ _ h => h) (by kernel_rfl) (Or.inl ⟨by rfl, ?ybmv⟩) hH ?rbmv
    case ybmv => (intro w' hSw; (try dsimp only at hSw); go_simp; try with_reducible rfl)
    try simp only [Act.put, List.setIfInBounds_toArray, List.set_cons_zero, List.set_cons_succ]
    refine wpAnyE_two (i := 1) (j := 7) (by kernel_rfl) (by simp only [List.getElem?_toArray, List.getElem?_cons_succ, List.getElem?_cons_zero]; rfl) (by simp only [List.getElem?_toArray, List.getElem?_cons_succ, List.getElem?_cons_zero]; rfl) (fun K hK => ?_) (fun K hK => ?_)
    · skip
      go_simp
      refine (to_G K0.v0.dat hz0).mono ?_
      rintro e w4 ⟨D0, rfl, L0, hb⟩
      replace K0 := K0.later hb
      replace M := M.later (keepsJ rr) hb
      replace G2 := G2.later (keepsLJ r') hb
      obtain ⟨F0, L0⟩ : ∃ F, LieG d0 w4 F (.agg D0) := ⟨_, L0⟩
      clear hb
      obtain ⟨w3, rfl⟩ : ∃ x, x = w4 := ⟨_, rfl⟩
      clear hH
      refine hK.out _ _ ⟨K0.v0.box, K0.v1.box⟩ (fun hH => ?_)
      clear hK K
      try simp only [Act.put, List.setIfInBounds_toArray, List.set_cons_zero, List.set_cons_succ]
      refine wpAnyE_two (i := 3) (j := 7) (by kernel_rfl) (by simp only [List.getElem?_toArray, List.getElem?_cons_succ, List.getElem?_cons_zero]; rfl) (by simp only [List.getElem?_toArray, List.getElem?_cons_succ, List.getElem?_cons_zero]; rfl) (fun K hK => ?_) (fun K hK => ?_)
      · skip
        go_simp
        refine (to_J K0.v1.dat hz1).mono ?_
        rintro e w4 ⟨D1, rfl, L1, hb⟩
        replace K0 := K0.later hb
        replace L0 := (keepsLG d0).later L0 hb
        replace M := M.later (keepsJ rr) hb
        replace G2 := G2.later (keepsLJ r') hb
        obtain ⟨F1, L1⟩ : ∃ F, LieJ d1 w4 F (.agg D1) := ⟨_, L1⟩
        clear hb
        obtain ⟨w3, rfl⟩ : ∃ x, x = w4 := ⟨_, rfl⟩
        clear hH
        refine hK.out _ _ ⟨K0.v0.box, K0.v1.box⟩ (fun hH => ?_)
        clear hK K
        try simp only [Act.put, List.setIfInBounds_toArray, List.set_cons_zero, List.set_cons_succ]
        refine wpAnyE_two (i := 5) (j := 7) (by kernel_rfl) (by simp only [List.getElem?_toArray, List.getElem?_cons_succ, List.getElem?_cons_zero]; rfl) (by simp only [List.getElem?_toArray, List.getElem?_cons_succ, List.getElem?_cons_zero]; rfl) (fun K hK => ?_) (fun K hK => ?_)
        · skip
          go_simp
          have hsw := K0.bel.size
          refine (toBools_is K0.l2 (fun b hb => Nat.lt_of_lt_of_le hb hsw) hn2).mono ?_
          rintro e w4 ⟨GB, rfl, -, LB, hb⟩
          replace K0 := K0.later hb
          replace L0 := (keepsLG d0).later L0 hb
          replace L1 := (keepsLJ d1).later L1 hb
          replace M := M.later (keepsJ rr) hb
          replace G2 := G2.later (keepsLJ r') hb
          clear hb hsw
          obtain ⟨w3, rfl⟩ : ∃ x, x = w4 := ⟨_, rfl⟩
          clear hH
          refine hK.out _ _ ⟨K0.v0.box, K0.v1.box⟩ (fun hH => ?_)
          clear hK K
          try simp only [Act.put, List.setIfInBounds_toArray, List.set_cons_zero, List.set_cons_succ]
          refine wpAnyE_two (i := 6) (j := 7) (by kernel_rfl) (by simp only [List.getElem?_toArray, List.getElem?_cons_succ, List.getElem?_cons_zero]; rfl) (by simp only [List.getElem?_toArray, List.getElem?_cons_succ, List.getElem?_cons_zero]; rfl) (fun K hK => ?_) (fun K hK => ?_)
          · skip
            go_simp
            refine (crashed8_is L0 L1 LB HLB.out hn2 hz0 hz1 HZ.out).mono ?_
            rintro e w4 ⟨C, rfl, LR, hb⟩
            replace K0 := K0.later hb
            replace M := M.later (keepsJ rr) hb
            replace G2 := G2.later (keepsLJ r') hb
            generalize w3.heap.size = S at LR
            obtain ⟨E, hE⟩ : ∃ E, w4.heap.size = E := ⟨_, rfl⟩
            rw [hE] at LR
            have hEl : E ≤ w4.heap.size := Nat.le_of_eq hE.symm
            clear hE
            clear hb LB L0 L1
            obtain ⟨w3, rfl⟩ : ∃ x, x = w4 := ⟨_, rfl⟩
            clear hH
            refine hK.out _ _ ⟨K0.v0.box, K0.v1.box⟩ (fun hH => ?_)
            clear hK K
            try simp only [Act.put, List.setIfInBounds_toArray, List.set_cons_zero, List.set_cons_succ]
            refine wpAnyE_one (i := 7) (by kernel_rfl) (by simp only [List.getElem?_toArray, List.getElem?_cons_succ, List.getElem?_cons_zero]; rfl) (fun K hK => ?_)
            go_simp
            have hV := G2.box.lt
            have hn := bel_alloc w3 (.cells #[.slice none 0 0, .slice none 0 0] 29)
            replace K0 := K0.later hn
            replace M := M.later (keepsJ rr) hn
            replace G2 := G2.later (keepsLJ r') hn
            have ZB := Box.new w3 29 #[.slice none 0 0, .slice none 0 0]
            have hF : ¬ Iv S E w3.heap.size := iv_not (.inr hEl)
            replace LR := (keepsLJ rr).later LR hn
            replace hEl := Nat.le_trans hEl hn.size
            clear hn
            generalize (w3.alloc _ : World) = w4 at K0 M G2 ZB LR hEl ⊢
            generalize w3.heap.size = V at hV ZB hF ⊢
            obtain ⟨w3, rfl⟩ : ∃ x, x = w4 := ⟨_, rfl⟩
            clear hH
            refine hK.out _ _ ⟨K0.v0.box, K0.v1.box⟩ (fun hH => ?_)
            clear hK K
            try simp only [Act.put, List.setIfInBounds_toArray, List.set_cons_zero, List.set_cons_succ]
            refine wpAnyE_end (i := 8) (by kernel_rfl) (by simp only [List.getElem?_toArray, List.getElem?_cons_succ, List.getElem?_cons_zero]; rfl) (by kernel_rfl) (fun K hK => ?_)
            rw [if_pos (by first | rfl | kernel_rfl | simp [Region.wanted, yielded])]
            have O := Lib.hid (oneJ LR.at)
            have JS := Lib.hid (sizeJ LR.at).2
            have Mb := VarOf.put (keepsJ rr) ZB LR.at hF
            have ht := turns_setRow w3 V C
            replace K0 := K0.turn ht (fun b hb => by omega)
            replace M := M.turn (keepsJ rr) ht (by omega) (fun b hb e => by have := hFM b hb; omega)
            replace G2 := G2.turn (keepsLJ r') ht (by omega) (fun b hb e => by have := hb.2; omega)
            clear hH
            refine wp_store_row 29 _ _ rfl V _ rfl rfl 29 #[.slice none 0 0, .slice none 0 0] ZB JS.out O.out.1.symm O.out.2 ?_
            refine hK.out _ _ ⟨K0.v0.box, K0.v1.box⟩ ?_
            clear hK K
            try simp only [Act.put]
            have hEs : E ≤ (w3.setRow V C).heap.size := by rw [size_setRow]; exact hEl
            clear ZB LR ht O JS
            generalize (w3.setRow _ _ : World) = w4 at K0 Mb hEs M G2 ⊢
            go_wp2_with fail
            go_meet
            exact ⟨V, C, _, rfl, Mb, K0, M, G2⟩
          · skip
            go_simp
            have hV := G2.box.lt
            have hn := bel_alloc w3 (.cells #[.slice none 0 0, .slice none 0 0] 29)
            replace K0 := K0.later hn
            replace L0 := (keepsLG d0).later L0 hn
            replace L1 := (keepsLJ d1).later L1 hn
            replace M := M.later (keepsJ rr) hn
            replace G2 := G2.later (keepsLJ r') hn
            replace LB := LB.later hn
            have ZB := Box.new w3 29 #[.slice none 0 0, .slice none 0 0]
            clear hn
            generalize (w3.alloc _ : World) = w4 at K0 L0 L1 M G2 LB ZB ⊢
            generalize w3.heap.size = V at hV ZB ⊢
            obtain ⟨w3, rfl⟩ : ∃ x, x = w4 := ⟨_, rfl⟩
            clear hH
            refine hK.out _ _ ⟨K0.v0.box, K0.v1.box⟩ (fun hH => ?_)
            clear hK K
            try simp only [Act.put, List.setIfInBounds_toArray, List.set_cons_zero, List.set_cons_succ]
            refine wpAnyE_one (i := 6) (by kernel_rfl) (by simp only [List.getElem?_toArray, List.getElem?_cons_succ, List.getElem?_cons_zero]; rfl) (fun K hK => ?_)
            go_simp
            have hVS := ZB.lt
            refine (crashed8_is L0 L1 LB HLB.out hn2 hz0 hz1 HZ.out).mono ?_
            rintro e w4 ⟨C, rfl, LR, hb⟩
            replace K0 := K0.later hb
            replace M := M.later (keepsJ rr) hb
            replace G2 := G2.later (keepsLJ r') hb
            replace ZB := ZB.later hb ZB.lt
            generalize w3.heap.size = S at LR hVS
            obtain ⟨E, hE⟩ : ∃ E, w4.heap.size = E := ⟨_, rfl⟩
            rw [hE] at LR
            have hEl : E ≤ w4.heap.size := Nat.le_of_eq hE.symm
            clear hE
            have hF : ¬ Iv S E V := iv_not (.inl hVS)
            clear hVS
            clear hb LB L0 L1
            obtain ⟨w3, rfl⟩ : ∃ x, x = w4 := ⟨_, rfl⟩
            clear hH
            refine hK.out _ _ ⟨K0.v0.box, K0.v1.box⟩ (fun hH => ?_)
            clear hK K
            try simp only [Act.put, List.setIfInBounds_toArray, List.set_cons_zero, List.set_cons_succ]
            refine wpAnyE_end (i := 8) (by kernel_rfl) (by simp only [List.getElem?_toArray, List.getElem?_cons_succ, List.getElem?_cons_zero]; rfl) (by kernel_rfl) (fun K hK => ?_)
            rw [if_pos (by first | rfl | kernel_rfl | simp [Region.wanted, yielded])]
            have O := Lib.hid (oneJ LR.at)
            have JS := Lib.hid (sizeJ LR.at).2
            have Mb := VarOf.put (keepsJ rr) ZB LR.at hF
            have ht := turns_setRow w3 V C
            replace K0 := K0.turn ht (fun b hb => by omega)
            replace M := M.turn (keepsJ rr) ht (by omega) (fun b hb e => by have := hFM b hb; omega)
            replace G2 := G2.turn (keepsLJ r') ht (by omega) (fun b hb e => by have := hb.2; omega)
            clear hH
            refine wp_store_row 29 _ _ rfl V _ rfl rfl 29 #[.slice none 0 0, .slice none 0 0] ZB JS.out O.out.1.symm O.out.2 ?_
            refine hK.out _ _ ⟨K0.v0.box, K0.v1.box⟩ ?_
            clear hK K
            try simp only [Act.put]
            have hEs : E ≤ (w3.setRow V C).heap.size := by rw [size_setRow]; exact hEl
            clear ZB LR ht O JS
            generalize (w3.setRow _ _ : World) = w4 at K0 Mb hEs M G2 ⊢
            go_wp2_with fail
            go_meet
            exact ⟨V, C, _, rfl, Mb, K0, M, G2⟩
        · skip
          go_simp
          have hV := G2.box.lt
          have hn := bel_alloc w3 (.cells #[.slice none 0 0, .slice none 0 0] 29)
          replace K0 := K0.later hn
          replace L0 := (keepsLG d0).later L0 hn
          replace L1 := (keepsLJ d1).later L1 hn
          replace M := M.later (keepsJ rr) hn
          replace G2 := G2.later (keepsLJ r') hn
          have ZB := Box.new w3 29 #[.slice none 0 0, .slice none 0 0]
          clear hn
          generalize (w3.alloc _ : World) = w4 at K0 L0 L1 M G2 ZB ⊢
          generalize w3.heap.size = V at hV ZB ⊢
          obtain ⟨w3, rfl⟩ : ∃ x, x = w4 := ⟨_, rfl⟩
          clear hH
          refine hK.out _ _ ⟨K0.v0.box, K0.v1.box⟩ (fun hH => ?_)
          clear hK K
          try simp only [Act.put, List.setIfInBounds_toArray, List.set_cons_zero, List.set_cons_succ]
          refine wpAnyE_one (i := 5) (by kernel_rfl) (by simp only [List.getElem?_toArray, List.getElem?_cons_succ, List.getElem?_cons_zero]; rfl) (fun K hK => ?_)
          go_simp
          have hsw := K0.bel.size
          refine (toBools_is K0.l2 (fun b hb => Nat.lt_of_lt_of_le hb hsw) hn2).mono ?_
          rintro e w4 ⟨GB, rfl, -, LB, hb⟩
          replace K0 := K0.later hb
          replace L0 := (keepsLG d0).later L0 hb
          replace L1 := (keepsLJ d1).later L1 hb
          replace M := M.later (keepsJ rr) hb
          replace G2 := G2.later (keepsLJ r') hb
          replace ZB := ZB.later hb ZB.lt
          clear hb hsw
          obtain ⟨w3, rfl⟩ : ∃ x, x = w4 := ⟨_, rfl⟩
          clear hH
          refine hK.out _ _ ⟨K0.v0.box, K0.v1.box⟩ (fun hH => ?_)
          clear hK K
          try simp only [Act.put, List.setIfInBounds_toArray, List.set_cons_zero, List.set_cons_succ]
          refine wpAnyE_one (i := 6) (by kernel_rfl) (by simp only [List.getElem?_toArray, List.getElem?_cons_succ, List.getElem?_cons_zero]; rfl) (fun K hK => ?_)
          go_simp
          have hVS := ZB.lt
          refine (crashed8_is L0 L1 LB HLB.out hn2 hz0 hz1 HZ.out).mono ?_
          rintro e w4 ⟨C, rfl, LR, hb⟩
          replace K0 := K0.later hb
          replace M := M.later (keepsJ rr) hb
          replace G2 := G2.later (keepsLJ r') hb
          replace ZB := ZB.later hb ZB.lt
          generalize w3.heap.size = S at LR hVS
          obtain ⟨E, hE⟩ : ∃ E, w4.heap.size = E := ⟨_, rfl⟩
          rw [hE] at LR
          have hEl : E ≤ w4.heap.size := Nat.le_of_eq hE.symm
          clear hE
          have hF : ¬ Iv S E V := iv_not (.inl hVS)
          clear hVS
          clear hb LB L0 L1
          obtain ⟨w3, rfl⟩ : ∃ x, x = w4 := ⟨_, rfl⟩
          clear hH
          refine hK.out _ _ ⟨K0.v0.box, K0.v1.box⟩ (fun hH => ?_)
          clear hK K
          try simp only [Act.put, List.setIfInBounds_toArray, List.set_cons_zero, List.set_cons_succ]
          refine wpAnyE_end (i := 8) (by kernel_rfl) (by simp only [List.getElem?_toArray, List.getElem?_cons_succ, List.getElem?_cons_zero]; rfl) (by kernel_rfl) (fun K hK => ?_)
          rw [if_pos (by first | rfl | kernel_rfl | simp [Region.wanted, yielded])]
          have O := Lib.hid (oneJ LR.at)
          have JS := Lib.hid (sizeJ LR.at).2
          have Mb := VarOf.put (keepsJ rr) ZB LR.at hF
          have ht := turns_setRow w3 V C
          replace K0 := K0.turn ht (fun b hb => by omega)
          replace M := M.turn (keepsJ rr) ht (by omega) (fun b hb e => by have := hFM b hb; omega)
          replace G2 := G2.turn (keepsLJ r') ht (by omega) (fun b hb e => by have := hb.2; omega)
          clear hH
          refine wp_store_row 29 _ _ rfl V _ rfl rfl 29 #[.slice none 0 0, .slice none 0 0] ZB JS.out O.out.1.symm O.out.2 ?_
          refine hK.out _ _ ⟨K0.v0.box, K0.v1.box⟩ ?_
          clear hK K
          try simp only [Act.put]
          have hEs : E ≤ (w3.setRow V C).heap.size := by rw [size_setRow]; exact hEl
          clear ZB LR ht O JS
          generalize (w3.setRow _ _ : World) = w4 at K0 Mb hEs M G2 ⊢
          go_wp2_with fail
          go_meet
          exact ⟨V, C, _, rfl, Mb, K0, M, G2⟩
      · skip
        go_simp
        have hV := G2.box.lt
        have hn := bel_alloc w3 (.cells #[.slice none 0 0, .slice none 0 0] 29)
        replace K0 := K0.later hn
        replace L0 := (keepsLG d0).later L0 hn
        replace M := M.later (keepsJ rr) hn
        replace G2 := G2.later (keepsLJ r') hn
        have ZB := Box.new w3 29 #[.slice none 0 0, .slice none 0 0]
        clear hn
        generalize (w3.alloc _ : World) = w4 at K0 L0 M G2 ZB ⊢
        generalize w3.heap.size = V at hV ZB ⊢
        obtain ⟨w3, rfl⟩ : ∃ x, x = w4 := ⟨_, rfl⟩
        clear hH
        refine hK.out _ _ ⟨K0.v0.box, K0.v1.box⟩ (fun hH => ?_)
        clear hK K
        try simp only [Act.put, List.setIfInBounds_toArray, List.set_cons_zero, List.set_cons_succ]
        refine wpAnyE_one (i := 3) (by kernel_rfl) (by simp only [List.getElem?_toArray, List.getElem?_cons_succ, List.getElem?_cons_zero]; rfl) (fun K hK => ?_)
        go_simp
        refine (to_J K0.v1.dat hz1).mono ?_
        rintro e w4 ⟨D1, rfl, L1, hb⟩
        replace K0 := K0.later hb
        replace L0 := (keepsLG d0).later L0 hb
        replace M := M.later (keepsJ rr) hb
        replace G2 := G2.later (keepsLJ r') hb
        replace ZB := ZB.later hb ZB.lt
        obtain ⟨F1, L1⟩ : ∃ F, LieJ d1 w4 F (.agg D1) := ⟨_, L1⟩
        clear hb
        obtain ⟨w3, rfl⟩ : ∃ x, x = w4 := ⟨_, rfl⟩
        clear hH
        refine hK.out _ _ ⟨K0.v0.box, K0.v1.box⟩ (fun hH => ?_)
        clear hK K
        try simp only [Act.put, List.setIfInBounds_toArray, List.set_cons_zero, List.set_cons_succ]
        refine wpAnyE_one (i := 5) (by kernel_rfl) (by simp only [List.getElem?_toArray, List.getElem?_cons_succ, List.getElem?_cons_zero]; rfl) (fun K hK => ?_)
        go_simp
        have hsw := K0.bel.size
        refine (toBools_is K0.l2 (fun b hb => Nat.lt_of_lt_of_le hb hsw) hn2).mono ?_
        rintro e w4 ⟨GB, rfl, -, LB, hb⟩
        replace K0 := K0.later hb
        replace L0 := (keepsLG d0).later L0 hb
        replace L1 := (keepsLJ d1).later L1 hb
        replace M := M.later (keepsJ rr) hb
        replace G2 := G2.later (keepsLJ r') hb
        replace ZB := ZB.later hb ZB.lt
        clear hb hsw
        obtain ⟨w3, rfl⟩ : ∃ x, x = w4 := ⟨_, rfl⟩
        clear hH
        refine hK.out _ _ ⟨K0.v0.box, K0.v1.box⟩ (fun hH => ?_)
        clear hK K
        try simp only [Act.put, List.setIfInBounds_toArray, List.set_cons_zero, List.set_cons_succ]
        refine wpAnyE_one (i := 6) (by kernel_rfl) (by simp only [List.getElem?_toArray, List.getElem?_cons_succ, List.getElem?_cons_zero]; rfl) (fun K hK => ?_)
        go_simp
        have hVS := ZB.lt
        refine (crashed8_is L0 L1 LB HLB.out hn2 hz0 hz1 HZ.out).mono ?_
        rintro e w4 ⟨C, rfl, LR, hb⟩
        replace K0 := K0.later hb
        replace M := M.later (keepsJ rr) hb
        replace G2 := G2.later (keepsLJ r') hb
        replace ZB := ZB.later hb ZB.lt
        generalize w3.heap.size = S at LR hVS
        obtain ⟨E, hE⟩ : ∃ E, w4.heap.size = E := ⟨_, rfl⟩
        rw [hE] at LR
        have hEl : E ≤ w4.heap.size := Nat.le_of_eq hE.symm
        clear hE
        have hF : ¬ Iv S E V := iv_not (.inl hVS)
        clear hVS
        clear hb LB L0 L1
        obtain ⟨w3, rfl⟩ : ∃ x, x = w4 := ⟨_, rfl⟩
        clear hH
        refine hK.out _ _ ⟨K0.v0.box, K0.v1.box⟩ (fun hH => ?_)
        clear hK K
        try simp only [Act.put, List.setIfInBounds_toArray, List.set_cons_zero, List.set_cons_succ]
        refine wpAnyE_end (i := 8) (by kernel_rfl) (by simp only [List.getElem?_toArray, List.getElem?_cons_succ, List.getElem?_cons_zero]; rfl) (by kernel_rfl) (fun K hK => ?_)
        rw [if_pos (by first | rfl | kernel_rfl | simp [Region.wanted, yielded])]
        have O := Lib.hid (oneJ LR.at)
        have JS := Lib.hid (sizeJ LR.at).2
        have Mb := VarOf.put (keepsJ rr) ZB LR.at hF
        have ht := turns_setRow w3 V C
        replace K0 := K0.turn ht (fun b hb => by omega)
        replace M := M.turn (keepsJ rr) ht (by omega) (fun b hb e => by have := hFM b hb; omega)
        replace G2 := G2.turn (keepsLJ r') ht (by omega) (fun b hb e => by have := hb.2; omega)
        clear hH
        refine wp_store_row 29 _ _ rfl V _ rfl rfl 29 #[.slice none 0 0, .slice none 0 0] ZB JS.out O.out.1.symm O.out.2 ?_
        refine hK.out _ _ ⟨K0.v0.box, K0.v1.box⟩ ?_
        clear hK K
        try simp only [Act.put]
        have hEs : E ≤ (w3.setRow V C).heap.size := by rw [size_setRow]; exact hEl
        clear ZB LR ht O JS
        generalize (w3.setRow _ _ : World) = w4 at K0 Mb hEs M G2 ⊢
        go_wp2_with fail
        go_meet
        exact ⟨V, C, _, rfl, Mb, K0, M, G2⟩
    · skip
      go_simp
      have hV := G2.box.lt
      have hn := bel_alloc w3 (.cells #[.slice none 0 0, .slice none 0 0] 29)
      replace K0 := K0.later hn
      replace M := M.later (keepsJ rr) hn
      replace G2 := G2.later (keepsLJ r') hn
      have ZB := Box.new w3 29 #[.slice none 0 0, .slice none 0 0]
      clear hn
      generalize (w3.alloc _ : World) = w4 at K0 M G2 ZB ⊢
      generalize w3.heap.size = V at hV ZB ⊢
      obtain ⟨w3, rfl⟩ : ∃ x, x = w4 := ⟨_, rfl⟩
      clear hH
      refine hK.out _ _ ⟨K0.v0.box, K0.v1.box⟩ (fun hH => ?_)
      clear hK K
      try simp only [Act.put, List.setIfInBounds_toArray, List.set_cons_zero, List.set_cons_succ]
      refine wpAnyE_one (i := 1) (by kernel_rfl) (by simp only [List.getElem?_toArray, List.getElem?_cons_succ, List.getElem?_cons_zero]; rfl) (fun K hK => ?_)
      go_simp
      refine (to_G K0.v0.dat hz0).mono ?_
      rintro e w4 ⟨D0, rfl, L0, hb⟩
      replace K0 := K0.later hb
      replace M := M.later (keepsJ rr) hb
      replace G2 := G2.later (keepsLJ r') hb
      replace ZB := ZB.later hb ZB.lt
      obtain ⟨F0, L0⟩ : ∃ F, LieG d0 w4 F (.agg D0) := ⟨_, L0⟩
      clear hb
      obtain ⟨w3, rfl⟩ : ∃ x, x = w4 := ⟨_, rfl⟩
      clear hH
      refine hK.out _ _ ⟨K0.v0.box, K0.v1.box⟩ (fun hH => ?_)
      clear hK K
      try simp only [Act.put, List.setIfInBounds_toArray, List.set_cons_zero, List.set_cons_succ]
      refine wpAnyE_one (i := 3) (by kernel_rfl) (by simp only [List.getElem?_toArray, List.getElem?_cons_succ, List.getElem?_cons_zero]; rfl) (fun K hK => ?_)
      go_simp
      refine (to_J K0.v1.dat hz1).mono ?_
      rintro e w4 ⟨D1, rfl, L1, hb⟩
      replace K0 := K0.later hb
      replace L0 := (keepsLG d0).later L0 hb
      replace M := M.later (keepsJ rr) hb
      replace G2 := G2.later (keepsLJ r') hb
      replace ZB := ZB.later hb ZB.lt
      obtain ⟨F1, L1⟩ : ∃ F, LieJ d1 w4 F (.agg D1) := ⟨_, L1⟩
      clear hb
      obtain ⟨w3, rfl⟩ : ∃ x, x = w4 := ⟨_, rfl⟩
      clear hH
      refine hK.out _ _ ⟨K0.v0.box, K0.v1.box⟩ (fun hH => ?_)
      clear hK K
      try simp only [Act.put, List.setIfInBounds_toArray, List.set_cons_zero, List.set_cons_succ]
      refine wpAnyE_one (i := 5) (by kernel_rfl) (by simp only [List.getElem?_toArray, List.getElem?_cons_succ, List.getElem?_cons_zero]; rfl) (fun K hK => ?_)
      go_simp
      have hsw := K0.bel.size
      refine (toBools_is K0.l2 (fun b hb => Nat.lt_of_lt_of_le hb hsw) hn2).mono ?_
      rintro e w4 ⟨GB, rfl, -, LB, hb⟩
      replace K0 := K0.later hb
      replace L0 := (keepsLG d0).later L0 hb
      replace L1 := (keepsLJ d1).later L1 hb
      replace M := M.later (keepsJ rr) hb
      replace G2 := G2.later (keepsLJ r') hb
      replace ZB := ZB.later hb ZB.lt
      clear hb hsw
      obtain ⟨w3, rfl⟩ : ∃ x, x = w4 := ⟨_, rfl⟩
      clear hH
      refine hK.out _ _ ⟨K0.v0.box, K0.v1.box⟩ (fun hH => ?_)
      clear hK K
      try simp only [Act.put, List.setIfInBounds_toArray, List.set_cons_zero, List.set_cons_succ]
      refine wpAnyE_one (i := 6) (by kernel_rfl) (by simp only [List.getElem?_toArray, List.getElem?_cons_succ, List.getElem?_cons_zero]; rfl) (fun K hK => ?_)
      go_simp
      have hVS := ZB.lt
      refine (crashed8_is L0 L1 LB HLB.out hn2 hz0 hz1 HZ.out).mono ?_
      rintro e w4 ⟨C, rfl, LR, hb⟩
      replace K0 := K0.later hb
      replace M := M.later (keepsJ rr) hb
      replace G2 := G2.later (keepsLJ r') hb
      replace ZB := ZB.later hb ZB.lt
      generalize w3.heap.size = S at LR hVS
      obtain ⟨E, hE⟩ : ∃ E, w4.heap.size = E := ⟨_, rfl⟩
      rw [hE] at LR
      have hEl : E ≤ w4.heap.size := Nat.le_of_eq hE.symm
      clear hE
      have hF : ¬ Iv S E V := iv_not (.inl hVS)
      clear hVS
      clear hb LB L0 L1
      obtain ⟨w3, rfl⟩ : ∃ x, x = w4 := ⟨_, rfl⟩
      clear hH
      refine hK.out _ _ ⟨K0.v0.box, K0.v1.box⟩ (fun hH => ?_)
      clear hK K
      try simp only [Act.put, List.setIfInBounds_toArray, List.set_cons_zero, List.set_cons_succ]
      refine wpAnyE_end (i := 8) (by kernel_rfl) (by simp only [List.getElem?_toArray, List.getElem?_cons_succ, List.getElem?_cons_zero]; rfl) (by kernel_rfl) (fun K hK => ?_)
      rw [if_pos (by first | rfl | kernel_rfl | simp [Region.wanted, yielded])]
      have O := Lib.hid (oneJ LR.at)
      have JS := Lib.hid (sizeJ LR.at).2
      have Mb := VarOf.put (keepsJ rr) ZB LR.at hF
      have ht := turns_setRow w3 V C
      replace K0 := K0.turn ht (fun b hb => by omega)
      replace M := M.turn (keepsJ rr) ht (by omega) (fun b hb e => by have := hFM b hb; omega)
      replace G2 := G2.turn (keepsLJ r') ht (by omega) (fun b hb e => by have := hb.2; omega)
      clear hH
      refine wp_store_row 29 _ _ rfl V _ rfl rfl 29 #[.slice none 0 0, .slice none 0 0] ZB JS.out O.out.1.symm O.out.2 ?_
      refine hK.out _ _ ⟨K0.v0.box, K0.v1.box⟩ ?_
      clear hK K
      try simp only [Act.put]
      have hEs : E ≤ (w3.setRow V C).heap.size := by rw [size_setRow]; exact hEl
      clear ZB LR ht O JS
      generalize (w3.setRow _ _ : World) = w4 at K0 Mb hEs M G2 ⊢
      go_wp2_with fail
      go_meet
      exact ⟨V, C, _, rfl, Mb, K0, M, G2⟩
  case rest =>
  clear K0 M G2
  obtain ⟨VH, CH, FH, rfl, H, K0, M, G2⟩ := hcut
  obtain ⟨w1, rfl⟩ : ∃ x, x = wc := ⟨_, rfl⟩
  have JH := Lib.hid (sizeJ H.dat).2
  go_wp2_with (first | (refine wpList_load_box 29 _ rfl (VH) rfl 29 CH H.box _ Tryz.underlying29 rfl JH.out (by first | rfl | simp [Region.wanted, yielded] | (simp [Region.wanted, yielded, Act.put] <;> omega)) ?_) | (refine wpList_load_box 29 _ rfl (VM) rfl 29 CM M.box _ Tryz.underlying29 rfl JM.out (by first | rfl | simp [Region.wanted, yielded] | (simp [Region.wanted, yielded, Act.put] <;> omega)) ?_))
  refine (eq_J H.dat M.dat hq).mono ?_
  rintro e w2 ⟨rfl, hb⟩
  replace K0 := K0.later hb
  replace M := M.later (keepsJ rr) hb
  replace G2 := G2.later (keepsLJ r') hb
  clear hb H
  obtain ⟨w1, rfl⟩ : ∃ x, x = w2 := ⟨_, rfl⟩
  go_wp2_with (refine wpList_load_box 29 _ rfl (VG) rfl 29 CG G2.box _ Tryz.underlying29 rfl JG.out (by first | rfl | simp [Region.wanted, yielded] | (simp [Region.wanted, yielded, Act.put] <;> omega)) ?_)
  refine (held_J (k := 1) G2.dat HM.out FIT.out (by omega) (by omega)).mono ?_
  rintro e w2 ⟨rfl, hb⟩
  have E := (K0.later hb).bel
  clear K0 M G2 hb
  go_wp2
  go_ret
  exact ⟨rfl, E⟩

end Go.Proofs.YtjdepjpjjgkmbaaGreat

/- The exact law of Crashed at a list of bools that is too long answers true at once; no conditions. -/
namespace Go.Proofs.YtjdepjpjjgkmbaaGreat
open Go Go.RowKit

set_option maxRecDepth 100000 in
theorem exactCr10_big (C0 C1 : Array Value) (A : Option Addr) (n c : Nat) (w : World) (hn : 1048576 < n) :
    Calls Tryz.prog 8 #[.agg C0, .agg C1, .slice A n c] w fun e w' => e = .returned (.bool true) ∧ Below w.heap.size w w' := by
  have hI : (1048576 : Int) < (n : Int) := by omega
  have E := Lib.hid (bel_trans (bel_alloc w (.cells C0 47)) (bel_alloc _ (.cells C1 50)))
  go_enter Tryz.func8, Tryz.ntmps8
  go_wp2
  go_ret
  exact ⟨rfl, E.out⟩
end Go.Proofs.YtjdepjpjjgkmbaaGreat

/- A struct of one-cell fields that comes in is read field by field; two facts of the program's own; no conditions. -/
namespace Go.Proofs.YtjdepjpjjgkmbaaGreat
open Go.ChangeShapes Go.WideShapes Go.ChangeAt Go.RowKit Go.Deep
set_option linter.unusedVariables false

/-- A struct of one-cell fields, by value: its cells, each with its own reading. -/
theorem one_fields {H : Type} {enc : TypeId × Value → H} {P : Program} {W : World} {r : Reach} {b0 : Nat} {t : TypeId} {fs : Array Field} {v : Value} {d : DataW H} {p : List MemPlace} (hs : P.underlying t = some (.struct fs)) (hone : oneCellFields P fs = true) (hC : P.cellsOf t = fs.size)
    (hv : Value.okWide P W r b0 t v) (h : DataW.Trod enc P W 0 (fun _ => true) true t v d p) :
    ∃ (l : List Value) (m : Nat), v = .agg l.toArray ∧ l.length = fs.size ∧ ∀ (i : Nat) (f : Field) (u : Value), fs[i]? = some f → l[i]? = some u → ∃ y, DataW.trod enc P W 0 (fun _ => true) true m f.type [u] = some y := by
  obtain ⟨cs, rfl, hsz⟩ := okWide_struct hs hv
  obtain ⟨fuel, hf⟩ := h
  obtain ⟨xs, m, _, _, _, hxl, hg⟩ := DataW.trod_struct hs hf
  obtain ⟨l⟩ := cs
  refine ⟨l, m, rfl, by simpa using hsz.trans hC, fun i f u hi hu => ?_⟩
  have h1 := hg i f hi
  obtain ⟨ho, hk⟩ := hone_of hone i f hi
  rw [ho, hk] at h1
  have e : ((Value.agg (List.toArray l)).cells.toList.drop i).take 1 = [u] := by
    show (l.drop i).take 1 = [u]
    rw [List.take_one, List.head?_drop, hu]
    rfl
  rw [e] at h1
  have hlt : i < xs.length := by rw [hxl]; exact (Array.getElem?_eq_some_iff.1 hi).1
  exact ⟨_, h1.trans (List.getElem?_eq_getElem hlt)⟩

/-- Whatever struct, its cells laid out: each field's own cells with their own reading. -/
theorem sub_fields {H : Type} {enc : TypeId × Value → H} {P : Program} {W : World} {t : TypeId} {fs : Array Field} {fuel : Nat} {cs : List Value} {x : DataW H × List MemPlace} (hs : P.underlying t = some (.struct fs)) (h : DataW.trod enc P W 0 (fun _ => true) true fuel t cs = some x) :
    ∃ m, ∀ (i : Nat) (f : Field), fs[i]? = some f → ∃ y, DataW.trod enc P W 0 (fun _ => true) true m f.type ((cs.drop f.offset).take (P.cellsOf f.type)) = some y := by
  obtain ⟨xs, m, _, _, _, hxl, hg⟩ := DataW.trod_struct hs h
  refine ⟨m, fun i f hi => ?_⟩
  have h1 := hg i f hi
  have hlt : i < xs.length := by rw [hxl]; exact (Array.getElem?_eq_some_iff.1 hi).1
  exact ⟨_, h1.trans (List.getElem?_eq_getElem hlt)⟩

theorem own : ownKnob Tryz.prog.godebug = none := by kernel_rfl
theorem laidOut : laidOutB Tryz.prog = true := by kernel_rfl

end Go.Proofs.YtjdepjpjjgkmbaaGreat

/- A group that comes in is read as four numbers and a row of keys. -/
namespace Go.Proofs.YtjdepjpjjgkmbaaGreat
set_option maxRecDepth 100000
open Go.ChangeShapes Go.WideShapes Go.ChangeAt Go.RowKit Go.Deep
set_option linter.unusedVariables false

/-- What the reading of a group that came in tells: its four numbers, and its keys as a row. -/
theorem group_read {H : Type} {enc : TypeId × Value → H} {W : World} {r : Reach} {b0 : Nat} {v : Value} {d : DataW H} {p : List MemPlace} (hv : Value.okWide Tryz.prog W r b0 47 v) (h : DataW.Trod enc Tryz.prog W 0 (fun _ => true) true 47 v d p) :
    ∃ (s l c sh : Int) (A : Option Addr) (n cap : Nat) (zs : List Int), v = .agg #[.int .i64 s, .int .i64 l, .int .i64 c, .int .i64 sh, .slice A n cap] ∧ Row W W.heap.size A n zs ∧ n ≤ maxLen := by
  obtain ⟨l0, m, rfl, h5, get⟩ := one_fields Tryz.underlying47 (by kernel_rfl) (by kernel_rfl) hv h
  have h5 : l0.length = 5 := h5
  obtain ⟨c0, l1, rfl⟩ : ∃ c0 l1, l0 = c0 :: l1 := List.exists_cons_of_length_pos (by omega)
  obtain ⟨c1, l2, rfl⟩ : ∃ c0 l2, l1 = c0 :: l2 := List.exists_cons_of_length_pos (by simp only [List.length_cons] at h5; omega)
  obtain ⟨c2, l3, rfl⟩ : ∃ c0 l3, l2 = c0 :: l3 := List.exists_cons_of_length_pos (by simp only [List.length_cons] at h5; omega)
  obtain ⟨c3, l4, rfl⟩ : ∃ c0 l4, l3 = c0 :: l4 := List.exists_cons_of_length_pos (by simp only [List.length_cons] at h5; omega)
  obtain ⟨c4, l5, rfl⟩ : ∃ c0 l5, l4 = c0 :: l5 := List.exists_cons_of_length_pos (by simp only [List.length_cons] at h5; omega)
  obtain rfl : l5 = [] := List.eq_nil_of_length_eq_zero (by simp only [List.length_cons] at h5; omega)
  obtain ⟨y0, g0⟩ := get 0 _ _ rfl rfl
  obtain ⟨y1, g1⟩ := get 1 _ _ rfl rfl
  obtain ⟨y2, g2⟩ := get 2 _ _ rfl rfl
  obtain ⟨y3, g3⟩ := get 3 _ _ rfl rfl
  obtain ⟨y4, g4⟩ := get 4 _ _ rfl rfl
  obtain ⟨s, e0, _, _⟩ := DataW.trod_int Tryz.underlying2 g0
  obtain ⟨l, e1, _, _⟩ := DataW.trod_int Tryz.underlying2 g1
  obtain ⟨c, e2, _, _⟩ := DataW.trod_int Tryz.underlying2 g2
  obtain ⟨sh, e3, _, _⟩ := DataW.trod_int Tryz.underlying2 g3
  simp only [List.cons.injEq, and_true] at e0 e1 e2 e3
  subst e0 e1 e2 e3
  rcases open_ints Tryz.underlying24 Tryz.underlying2 (by kernel_rfl) g4 with ⟨e4, _⟩ | ⟨a, len, cap, zs, e4, _, hl, hm, hz, _, hcell, _⟩
  · simp only [List.cons.injEq, and_true] at e4
    subst e4
    exact ⟨s, l, c, sh, none, 0, 0, [], rfl, ⟨rfl, fun h => absurd h (by omega)⟩, by unfold maxLen; omega⟩
  · simp only [List.cons.injEq, and_true] at e4
    subst e4
    have hzc : zs.length = cap := by simpa using hz
    refine ⟨s, l, c, sh, some a, len, cap, zs.take len, rfl, ⟨by rw [List.length_take]; omega, fun hn => ?_⟩, by omega⟩
    obtain ⟨b, o, spot⟩ := a
    have hc0 := hcell 0 (by omega)
    have hs : spot = none := by simpa [Addr.add] using World.cell?_spot hc0
    subst hs
    refine ⟨b, o, rfl, ?_, fun i hi => ?_⟩
    · have := block_lt_of_cell hc0
      simpa [Addr.add] using this
    · have hci := hcell i (by omega)
      have ea : (⟨b, o, none⟩ : Addr).add i = ⟨b, o + i, none⟩ := by
        unfold Addr.add
        split
        · simp_all
        · rfl
      rw [ea] at hci
      rw [hci]
      have : nth (zs.take len) i = zs.getD i 0 := by simp [nth, hi]
      rw [this]

end Go.Proofs.YtjdepjpjjgkmbaaGreat

/- A stamp that comes in is read as two numbers, a list of stamps as a list of pairs; no conditions. -/
namespace Go.Proofs.YtjdepjpjjgkmbaaGreat
set_option maxRecDepth 100000
open Go.ChangeShapes Go.WideShapes Go.ChangeAt Go.RowKit Go.Deep
set_option linter.unusedVariables false

/-- The number that a value is. -/
def intV : Value → Int
  | .int _ z => z
  | _ => 0

/-- What the reading of a slice of structs of two int64 tells: a list of pairs. -/
theorem pairs_of {H : Type} {enc : TypeId × Value → H} {P : Program} {W : World} {t e : TypeId} {f0 f1 : Field} {fuel : Nat} {v : Value} {x : DataW H × List MemPlace} (ht : P.underlying t = some (.slice e)) (he : P.underlying e = some (.struct #[f0, f1]))
    (ce : P.cellsOf e = 2) (o0 : f0.offset = 0) (o1 : f1.offset = 1) (c0 : P.cellsOf f0.type = 1) (c1 : P.cellsOf f1.type = 1) (u0 : P.underlying f0.type = some (.int .i64)) (u1 : P.underlying f1.type = some (.int .i64))
    (h : DataW.trod enc P W 0 (fun _ => true) true fuel t [v] = some x) :
    ∃ (A : Option Addr) (n cap : Nat) (ps : List (Int × Int)), v = .slice A n cap ∧ Pairs W W.heap.size A n ps ∧ n ≤ maxLen := by
  rcases open_slice_pairs ht he ce o0 o1 c0 c1 h with ⟨e4, _⟩ | ⟨a, len, cap, m, n, V0, V1, D0, D1, P0, P1, e4, _, hl, hm, hmm, _, hc⟩
  · simp only [List.cons.injEq, and_true] at e4
    subst e4
    exact ⟨none, 0, 0, [], rfl, ⟨rfl, fun h => absurd h (by omega)⟩, by unfold maxLen; omega⟩
  · simp only [List.cons.injEq, and_true] at e4
    subst e4
    have hmm : m = cap := by simpa using hmm
    refine ⟨some a, len, cap, (List.range len).map fun i => (intV (V0 i), intV (V1 i)), rfl, ⟨by simp, fun hn => ?_⟩, by omega⟩
    obtain ⟨b, o, spot⟩ := a
    have hs : spot = none := by
      have := (hc 0 (by omega)).1
      simpa [Addr.add] using World.cell?_spot this
    subst hs
    have ea : ∀ i, (⟨b, o, none⟩ : Addr).add i = ⟨b, o + i, none⟩ := fun i => by
      unfold Addr.add
      split
      · simp_all
      · rfl
    refine ⟨b, o, rfl, ?_, fun i hi => ?_⟩
    · have := block_lt_of_cell (hc 0 (by omega)).1
      rw [ea] at this
      exact this
    · obtain ⟨h0, h1, t0, t1⟩ := hc i (by omega)
      obtain ⟨z0, e0, _, _⟩ := DataW.trod_int u0 t0
      obtain ⟨z1, e1, _, _⟩ := DataW.trod_int u1 t1
      simp only [List.cons.injEq, and_true] at e0 e1
      rw [ea] at h0 h1
      have ep : pth ((List.range len).map fun i => (intV (V0 i), intV (V1 i))) i = (intV (V0 i), intV (V1 i)) := by simp [pth, hi]
      rw [ep, h0, show o + i * 2 + 1 = o + (i * 2 + 1) by omega, h1, e0, e1]
      exact ⟨rfl, rfl⟩

end Go.Proofs.YtjdepjpjjgkmbaaGreat

/- A list of seals that comes in is read as a list of pairs. -/
namespace Go.Proofs.YtjdepjpjjgkmbaaGreat
set_option maxRecDepth 100000
open Go.ChangeShapes Go.WideShapes Go.ChangeAt Go.RowKit Go.Deep

end Go.Proofs.YtjdepjpjjgkmbaaGreat

/- A claim that comes in is read as five numbers, a seal as two. -/
namespace Go.Proofs.YtjdepjpjjgkmbaaGreat
set_option maxRecDepth 100000
open Go.ChangeShapes Go.WideShapes Go.ChangeAt Go.RowKit Go.Deep
set_option linter.unusedVariables false

theorem cells_int : Tryz.prog.cellsOf 2 = 1 := by kernel_rfl
theorem cells_stamp : Tryz.prog.cellsOf 57 = 2 := by kernel_rfl
end Go.Proofs.YtjdepjpjjgkmbaaGreat

/- A note that comes in is read as fourteen numbers and two lists of pairs. -/
namespace Go.Proofs.YtjdepjpjjgkmbaaGreat
set_option maxRecDepth 100000
open Go.ChangeShapes Go.WideShapes Go.ChangeAt Go.RowKit Go.Deep
set_option linter.unusedVariables false

/-- One number, read. -/
theorem int_of {H : Type} {enc : TypeId × Value → H} {W : World} {m : Nat} {x : Value} {y : DataW H × List MemPlace} (h : DataW.trod enc Tryz.prog W 0 (fun _ => true) true m 2 [x] = some y) : ∃ z : Int, x = .int .i64 z := by
  obtain ⟨z, e, _, _⟩ := DataW.trod_int Tryz.underlying2 h
  simp only [List.cons.injEq, and_true] at e
  exact ⟨z, e⟩
/-- A stamp's two cells, read. -/
theorem two_of {H : Type} {enc : TypeId × Value → H} {W : World} {m : Nat} {x x' : Value} {y : DataW H × List MemPlace} (h : DataW.trod enc Tryz.prog W 0 (fun _ => true) true m 57 [x, x'] = some y) : ∃ z z' : Int, x = .int .i64 z ∧ x' = .int .i64 z' := by
  obtain ⟨m', get'⟩ := sub_fields Tryz.underlying57 h
  obtain ⟨z0, k0⟩ := get' 0 _ rfl
  obtain ⟨z1, k1⟩ := get' 1 _ rfl
  have k0 : DataW.trod enc Tryz.prog W 0 (fun _ => true) true m' 2 (List.take (Tryz.prog.cellsOf 2) (List.drop 0 [x, x'])) = some z0 := k0
  rw [cells_int] at k0
  have k1 : DataW.trod enc Tryz.prog W 0 (fun _ => true) true m' 2 (List.take (Tryz.prog.cellsOf 2) (List.drop 1 [x, x'])) = some z1 := k1
  rw [cells_int] at k1
  obtain ⟨a, ha⟩ := int_of (show DataW.trod enc Tryz.prog W 0 (fun _ => true) true m' 2 [x] = some z0 from k0)
  obtain ⟨b, hb⟩ := int_of (show DataW.trod enc Tryz.prog W 0 (fun _ => true) true m' 2 [x'] = some z1 from k1)
  exact ⟨a, b, ha, hb⟩

end Go.Proofs.YtjdepjpjjgkmbaaGreat

/- A record that comes in is read as eight numbers and a list of pairs; no conditions. -/
namespace Go.Proofs.YtjdepjpjjgkmbaaGreat
set_option maxRecDepth 100000
open Go.ChangeShapes Go.WideShapes Go.ChangeAt Go.RowKit Go.Deep
set_option linter.unusedVariables false

theorem cells_sealsR : Tryz.prog.cellsOf 58 = 1 := by kernel_rfl
theorem cells_rec : Tryz.prog.cellsOf 188 = 9 := by kernel_rfl

/-- A record's nine cells, read. -/
theorem nine_of {H : Type} {enc : TypeId × Value → H} {W : World} {m : Nat} {c0 c1 c2 c3 c4 c5 c6 c7 c8 : Value} {y : DataW H × List MemPlace} (h : DataW.trod enc Tryz.prog W 0 (fun _ => true) true m 188 [c0, c1, c2, c3, c4, c5, c6, c7, c8] = some y) :
    ∃ (r1 r2 r3 r4 r5 r6 r7 : Int) (L : Option Addr) (n mc : Nat) (r8 : Int) (ps : List (Int × Int)), c0 = .int .i64 r1 ∧ c1 = .int .i64 r2 ∧ c2 = .int .i64 r3 ∧ c3 = .int .i64 r4 ∧ c4 = .int .i64 r5 ∧ c5 = .int .i64 r6 ∧ c6 = .int .i64 r7 ∧ c7 = .slice L n mc ∧ c8 = .int .i64 r8 ∧ Pairs W W.heap.size L n ps ∧ n ≤ maxLen := by
  obtain ⟨m', get⟩ := sub_fields Tryz.underlying188 h
  obtain ⟨z0, g0⟩ := get 0 _ rfl
  have g0 : DataW.trod enc Tryz.prog W 0 (fun _ => true) true m' 2 (List.take (Tryz.prog.cellsOf 2) (List.drop 0 [c0, c1, c2, c3, c4, c5, c6, c7, c8])) = some z0 := g0
  rw [cells_int] at g0
  obtain ⟨z1, g1⟩ := get 1 _ rfl
  have g1 : DataW.trod enc Tryz.prog W 0 (fun _ => true) true m' 2 (List.take (Tryz.prog.cellsOf 2) (List.drop 1 [c0, c1, c2, c3, c4, c5, c6, c7, c8])) = some z1 := g1
  rw [cells_int] at g1
  obtain ⟨z2, g2⟩ := get 2 _ rfl
  have g2 : DataW.trod enc Tryz.prog W 0 (fun _ => true) true m' 2 (List.take (Tryz.prog.cellsOf 2) (List.drop 2 [c0, c1, c2, c3, c4, c5, c6, c7, c8])) = some z2 := g2
  rw [cells_int] at g2
  obtain ⟨z3, g3⟩ := get 3 _ rfl
  have g3 : DataW.trod enc Tryz.prog W 0 (fun _ => true) true m' 2 (List.take (Tryz.prog.cellsOf 2) (List.drop 3 [c0, c1, c2, c3, c4, c5, c6, c7, c8])) = some z3 := g3
  rw [cells_int] at g3
  obtain ⟨z4, g4⟩ := get 4 _ rfl
  have g4 : DataW.trod enc Tryz.prog W 0 (fun _ => true) true m' 57 (List.take (Tryz.prog.cellsOf 57) (List.drop 4 [c0, c1, c2, c3, c4, c5, c6, c7, c8])) = some z4 := g4
  rw [cells_stamp] at g4
  obtain ⟨z5, g5⟩ := get 5 _ rfl
  have g5 : DataW.trod enc Tryz.prog W 0 (fun _ => true) true m' 2 (List.take (Tryz.prog.cellsOf 2) (List.drop 6 [c0, c1, c2, c3, c4, c5, c6, c7, c8])) = some z5 := g5
  rw [cells_int] at g5
  obtain ⟨z6, g6⟩ := get 6 _ rfl
  have g6 : DataW.trod enc Tryz.prog W 0 (fun _ => true) true m' 58 (List.take (Tryz.prog.cellsOf 58) (List.drop 7 [c0, c1, c2, c3, c4, c5, c6, c7, c8])) = some z6 := g6
  rw [cells_sealsR] at g6
  obtain ⟨z7, g7⟩ := get 7 _ rfl
  have g7 : DataW.trod enc Tryz.prog W 0 (fun _ => true) true m' 2 (List.take (Tryz.prog.cellsOf 2) (List.drop 8 [c0, c1, c2, c3, c4, c5, c6, c7, c8])) = some z7 := g7
  rw [cells_int] at g7
  obtain ⟨r1, rfl⟩ := int_of (show DataW.trod enc Tryz.prog W 0 (fun _ => true) true m' 2 [c0] = some z0 from g0)
  obtain ⟨r2, rfl⟩ := int_of (show DataW.trod enc Tryz.prog W 0 (fun _ => true) true m' 2 [c1] = some z1 from g1)
  obtain ⟨r3, rfl⟩ := int_of (show DataW.trod enc Tryz.prog W 0 (fun _ => true) true m' 2 [c2] = some z2 from g2)
  obtain ⟨r4, rfl⟩ := int_of (show DataW.trod enc Tryz.prog W 0 (fun _ => true) true m' 2 [c3] = some z3 from g3)
  obtain ⟨r5, r6, rfl, rfl⟩ := two_of (show DataW.trod enc Tryz.prog W 0 (fun _ => true) true m' 57 [c4, c5] = some z4 from g4)
  obtain ⟨r7, rfl⟩ := int_of (show DataW.trod enc Tryz.prog W 0 (fun _ => true) true m' 2 [c6] = some z5 from g5)
  obtain ⟨L, n, mc, ps, rfl, hp, hm⟩ := pairs_of Tryz.underlying58 Tryz.underlying138 (by kernel_rfl) rfl rfl (by kernel_rfl) (by kernel_rfl) Tryz.underlying2 Tryz.underlying2 (show DataW.trod enc Tryz.prog W 0 (fun _ => true) true m' 58 [c7] = some z6 from g6)
  obtain ⟨r8, rfl⟩ := int_of (show DataW.trod enc Tryz.prog W 0 (fun _ => true) true m' 2 [c8] = some z7 from g7)
  exact ⟨r1, r2, r3, r4, r5, r6, r7, L, n, mc, r8, ps, rfl, rfl, rfl, rfl, rfl, rfl, rfl, rfl, rfl, hp, hm⟩

end Go.Proofs.YtjdepjpjjgkmbaaGreat

/- An open that comes in is read as four numbers, a list of opens as a list of them, a shelf as three numbers and two lists; no conditions. -/
namespace Go.Proofs.YtjdepjpjjgkmbaaGreat
set_option maxRecDepth 100000
open Go.ChangeShapes Go.WideShapes Go.ChangeAt Go.RowKit Go.Deep
set_option linter.unusedVariables false

end Go.Proofs.YtjdepjpjjgkmbaaGreat

/- A list of records that comes in is read as a list of records, each with its list of pairs; no conditions. -/
namespace Go.Proofs.YtjdepjpjjgkmbaaGreat
set_option maxRecDepth 100000
open Go.ChangeShapes Go.WideShapes Go.ChangeAt Go.RowKit Go.Deep
set_option linter.unusedVariables false

theorem recs_of {H : Type} {enc : TypeId × Value → H} {W : World} {fuel : Nat} {v : Value} {x : DataW H × List MemPlace} (h : DataW.trod enc Tryz.prog W 0 (fun _ => true) true fuel 48 [v] = some x) :
    ∃ (A : Option Addr) (n cap : Nat) (ds : List RecD), v = .slice A n cap ∧ RecsF ds W (· < W.heap.size) A n ∧ n ≤ maxLen := by
  rcases open_slice Tryz.underlying48 h with ⟨e4, _⟩ | ⟨a, len, cap, m, n, D, Pl, e4, _, hl, hm, hmm, _, hx⟩
  · simp only [List.cons.injEq, and_true] at e4
    subst e4
    exact ⟨none, 0, 0, [], rfl, ⟨rfl, fun h => absurd h (by omega)⟩, by unfold maxLen; omega⟩
  · simp only [List.cons.injEq, and_true] at e4
    subst e4
    have hmm : m = cap := by simpa using hmm
    have each : ∀ i, i < len → ∃ q : RecD × Option Addr × Nat × Nat, (∀ j v, (q.1.cells (.slice q.2.1 q.2.2.1 q.2.2.2))[j]? = some v → W.cell? (a.add (i * 9 + j)) = some v) ∧ PairsF W (· < W.heap.size) q.2.1 q.2.2.1 q.1.ps ∧ q.2.2.1 ≤ maxLen := by
      intro i hi
      obtain ⟨cs', h1, h2⟩ := hx i (by omega)
      rw [cells_rec] at h1
      obtain ⟨_, hlen, hcell⟩ := World.cells?_some h1
      match cs', hlen with
      | [c0, c1, c2, c3, c4, c5, c6, c7, c8], hl9 =>
        obtain ⟨r1, r2, r3, r4, r5, r6, r7, L, n, mc, r8, ps, rfl, rfl, rfl, rfl, rfl, rfl, rfl, rfl, rfl, hp, hm⟩ := nine_of h2
        refine ⟨(⟨r1, r2, r3, r4, r5, r6, r7, ps, r8⟩, L, n, mc), fun j v hv => ?_, hp.all, hm⟩
        have hj : j < 9 := (Array.getElem?_eq_some_iff.1 hv).1
        have e := hcell j hj
        rw [add_add] at e
        rw [e]
        simpa [RecD.cells] using hv
    haveI : Inhabited (RecD × Option Addr × Nat × Nat) := ⟨(⟨0, 0, 0, 0, 0, 0, 0, [], 0⟩, none, 0, 0)⟩
    obtain ⟨q, hq⟩ := choose_lt each
    refine ⟨some a, len, cap, (List.range len).map fun i => (q i).1, rfl, ⟨by simp, fun hn => ?_⟩, by omega⟩
    obtain ⟨b, o, spot⟩ := a
    have hs : spot = none := by
      have := (hq 0 (by omega)).1 0 _ rfl
      simpa [Addr.add] using World.cell?_spot this
    subst hs
    have ea : ∀ i, (⟨b, o, none⟩ : Addr).add i = ⟨b, o + i, none⟩ := fun i => by
      unfold Addr.add
      split
      · simp_all
      · rfl
    have hb : b < W.heap.size := by
      have := block_lt_of_cell ((hq 0 (by omega)).1 0 _ rfl)
      rw [ea] at this
      exact this
    refine ⟨b, o, rfl, hb, hb, fun i hi => ?_⟩
    have hi' : i < len := by simpa using hi
    obtain ⟨h0, h1, h2⟩ := hq i hi'
    have ep : ((List.range len).map fun i => (q i).1)[i] = (q i).1 := by simp
    rw [ep]
    have C : ∀ j v, ((q i).1.cells (.slice (q i).2.1 (q i).2.2.1 (q i).2.2.2))[j]? = some v → W.cell? ⟨b, o + i * 9 + j, none⟩ = some v := fun j v hv => by
      have := h0 j v hv
      rw [ea, show o + (i * 9 + j) = o + i * 9 + j by omega] at this
      exact this
    exact ⟨(q i).2.1, (q i).2.2.1, (q i).2.2.2, ⟨C 0 _ rfl, C 1 _ rfl, C 2 _ rfl, C 3 _ rfl, C 4 _ rfl, C 5 _ rfl, C 6 _ rfl, C 7 _ rfl, C 8 _ rfl⟩, h2, h1⟩

end Go.Proofs.YtjdepjpjjgkmbaaGreat

/- A journal that comes in is read as two lists of records; no conditions. -/
namespace Go.Proofs.YtjdepjpjjgkmbaaGreat
set_option maxRecDepth 100000
open Go.ChangeShapes Go.WideShapes Go.ChangeAt Go.RowKit Go.Deep
set_option linter.unusedVariables false

theorem cells_recs : Tryz.prog.cellsOf 48 = 1 := by kernel_rfl
theorem cells_jour : Tryz.prog.cellsOf 50 = 2 := by kernel_rfl
/-- What the reading of a journal that came in tells. -/
theorem jour_read {H : Type} {enc : TypeId × Value → H} {W : World} {r : Reach} {b0 : Nat} {v : Value} {d : DataW H} {p : List MemPlace} (hv : Value.okWide Tryz.prog W r b0 50 v) (h : DataW.Trod enc Tryz.prog W 0 (fun _ => true) true 50 v d p) :
    ∃ (A : Option Addr) (n c : Nat) (A' : Option Addr) (n' c' : Nat) (ks ls : List RecD), v = .agg #[.slice A n c, .slice A' n' c'] ∧ RecsF ks W (· < W.heap.size) A n ∧ n ≤ maxLen ∧ RecsF ls W (· < W.heap.size) A' n' ∧ n' ≤ maxLen := by
  obtain ⟨cs, rfl, hsz⟩ := okWide_struct Tryz.underlying50 hv
  obtain ⟨y0⟩ := cs
  have h5 : y0.length = 2 := by simpa using hsz.trans cells_jour
  obtain ⟨fuel, hf⟩ := h
  have hf : DataW.trod enc Tryz.prog W 0 (fun _ => true) true fuel 50 y0 = some (d, p) := hf
  match y0, h5 with
  | [c0, c1], _ =>
    obtain ⟨m', get⟩ := sub_fields Tryz.underlying50 hf
    obtain ⟨z0, g0⟩ := get 0 _ rfl
    have g0 : DataW.trod enc Tryz.prog W 0 (fun _ => true) true m' 48 (List.take (Tryz.prog.cellsOf 48) (List.drop 0 [c0, c1])) = some z0 := g0
    rw [cells_recs] at g0
    obtain ⟨z1, g1⟩ := get 1 _ rfl
    have g1 : DataW.trod enc Tryz.prog W 0 (fun _ => true) true m' 48 (List.take (Tryz.prog.cellsOf 48) (List.drop 1 [c0, c1])) = some z1 := g1
    rw [cells_recs] at g1
    obtain ⟨A, n, c, ks, rfl, h1, m1⟩ := recs_of (show DataW.trod enc Tryz.prog W 0 (fun _ => true) true m' 48 [c0] = some z0 from g0)
    obtain ⟨A', n', c', ls, rfl, h2, m2⟩ := recs_of (show DataW.trod enc Tryz.prog W 0 (fun _ => true) true m' 48 [c1] = some z1 from g1)
    exact ⟨A, n, c, A', n', c', ks, ls, rfl, h1, m1, h2, m2⟩
end Go.Proofs.YtjdepjpjjgkmbaaGreat

/- A list of bools that comes in is read as a list of bools; no conditions. -/
namespace Go.Proofs.YtjdepjpjjgkmbaaGreat
set_option maxRecDepth 100000
open Go.ChangeShapes Go.WideShapes Go.ChangeAt Go.RowKit Go.Deep
set_option linter.unusedVariables false

theorem bools_read {H : Type} {enc : TypeId × Value → H} {W : World} {r : Reach} {b0 : Nat} {v : Value} {d : DataW H} {p : List MemPlace} (hv : Value.okWide Tryz.prog W r b0 30 v) (h : DataW.Trod enc Tryz.prog W 0 (fun _ => true) true 30 v d p) :
    ∃ (A : Option Addr) (n cap : Nat) (bs : List Bool), v = .slice A n cap ∧ BoolF W (· < W.heap.size) A n bs ∧ n ≤ maxLen := by
  obtain ⟨a0, len0, cap0, rfl⟩ := okWide_slice Tryz.underlying30 hv
  obtain ⟨fuel, hf⟩ := h
  have hf : DataW.trod enc Tryz.prog W 0 (fun _ => true) true fuel 30 [.slice a0 len0 cap0] = some (d, p) := hf
  rcases open_slice1 Tryz.underlying30 (by kernel_rfl) hf with ⟨e4, _⟩ | ⟨a, len, cap, m, n, V, D, Pl, e4, _, hl, hm, hmm, _, hx⟩
  · simp only [List.cons.injEq, and_true] at e4
    rw [e4]
    exact ⟨none, 0, 0, [], rfl, ⟨rfl, fun h => absurd h (by omega)⟩, by unfold maxLen; omega⟩
  · simp only [List.cons.injEq, and_true] at e4
    rw [e4]
    have hmm : m = cap := by simpa using hmm
    have each : ∀ i, i < len → ∃ x : Bool, W.cell? (a.add i) = some (.bool x) := by
      intro i hi
      obtain ⟨h1, h2⟩ := hx i (by omega)
      obtain ⟨x, e, _⟩ := DataW.trod_bool Tryz.underlying4 h2
      simp only [List.cons.injEq, and_true] at e
      exact ⟨x, by rw [h1, e]⟩
    obtain ⟨q, hq⟩ := choose_lt each
    refine ⟨some a, len, cap, (List.range len).map q, rfl, ⟨by simp, fun hn => ?_⟩, by omega⟩
    obtain ⟨b, o, spot⟩ := a
    have hs : spot = none := by
      have := hq 0 (by omega)
      simpa [Addr.add] using World.cell?_spot this
    subst hs
    have ea : ∀ i, (⟨b, o, none⟩ : Addr).add i = ⟨b, o + i, none⟩ := fun i => by
      unfold Addr.add
      split
      · simp_all
      · rfl
    have hb : b < W.heap.size := by
      have := block_lt_of_cell (hq 0 (by omega))
      rw [ea] at this
      exact this
    refine ⟨b, o, rfl, hb, hb, fun i hi => ?_⟩
    have hi' : i < len := by simpa using hi
    have h0 := hq i hi'
    rw [ea] at h0
    simpa using h0
end Go.Proofs.YtjdepjpjjgkmbaaGreat

namespace Go.Proofs.YtjdepjpjjgkmbaaGreat
open Go.ChangeShapes Go.WideShapes Go.ChangeAt Go.RowKit Go.Deep
set_option linter.unusedVariables false

namespace fnExactCrashedF
set_option maxRecDepth 100000 in
theorem lifted (os : Os) (started : os.Started) (H : Type) (enc : TypeId × Value → H) :
    ReturnsInHanded {} Tryz.checked os 8 .any (Rows.fnExactCrashedSpec.pre6 enc Tryz.prog Tryz.f8 Rows.fnExactCrashedRow.domain false) (Rows.fnExactCrashedSpec.post enc Tryz.prog Tryz.f8 false true false false) := by
  refine returnsInHanded_of_change (C := Tryz.checked) own started (by kernel_rfl) Tryz.func8
    (ChangeSpec.witness6 (enc := enc) (C := Tryz.checked) false ⟨#[], #[.agg #[.int .i64 0, .int .i64 0, .int .i64 0, .int .i64 0, .slice none 0 0], .agg #[.slice none 0 0, .slice none 0 0], .slice none 0 0], []⟩ 8 (by kernel_rfl) (by kernel_rfl) (by kernel_rfl) (by kernel_rfl)) ?_
  intro W base args ds gs before hval0 hW hcnd _
  have hval : ∀ (j : Nat) t v, Tryz.f8.params[j]? = some t → args[j]? = some v → Value.okWide Tryz.prog W .any base t v := hval0
  have hW' := hW
  obtain ⟨p, q, hA0, hV, rfl, hfz, hnd⟩ := hW
  have hA : DataW.TrodAll enc Tryz.prog W 0 (fun _ => true) true Tryz.f8.params.toList args.toList ds p := hA0
  rw [Tryz.params8] at hA hval
  obtain ⟨v0, vs0, d0, ds0, p0, q0, hargs, rfl, rfl, h0, r0⟩ := trodAll_cons hA
  obtain ⟨v1, vs1, d1, ds1, p1, q1, rfl, rfl, rfl, h1, r1⟩ := trodAll_cons r0
  obtain ⟨v2, vs2, d2, ds2, p2, q2, rfl, rfl, rfl, h2, r2⟩ := trodAll_cons r1
  obtain ⟨rfl, rfl, rfl⟩ := trodAll_nil r2
  obtain rfl : args = #[v0, v1, v2] := by cases args; simp_all
  obtain ⟨rfl, rfl⟩ := trodVars_none hV
  have t0 := h0
  have lt0 : ∀ x ∈ p0, x.block < W.heap.size := by obtain ⟨m, hm⟩ := t0; exact DataW.trod_lt m _ _ _ hm
  obtain ⟨s0, l0, c0, sh0, A0, n0, cap0, zs0, rfl, hp0, hm0⟩ := group_read (hval 0 47 v0 rfl rfl) h0
  have t1 := h1
  have lt1 : ∀ x ∈ p1, x.block < W.heap.size := by obtain ⟨m, hm⟩ := t1; exact DataW.trod_lt m _ _ _ hm
  obtain ⟨KA1, kn1, kc1, LA1, ln1, lc1, ks1, ls1, rfl, hp1, hm1, hq1, hmq1⟩ := jour_read (hval 1 50 v1 rfl rfl) h1
  have t2 := h2
  have lt2 : ∀ x ∈ p2, x.block < W.heap.size := by obtain ⟨m, hm⟩ := t2; exact DataW.trod_lt m _ _ _ hm
  obtain ⟨BA2, bn2, bc2, bs2, rfl, hp2, hm2⟩ := bools_read (hval 2 30 v2 rfl rfl) h2
  clear hA0 hval0
  have walk : Calls Tryz.prog 8 #[.agg #[.int .i64 s0, .int .i64 l0, .int .i64 c0, .int .i64 sh0, .slice A0 n0 cap0], .agg #[.slice KA1 kn1 kc1, .slice LA1 ln1 lc1], .slice BA2 bn2 bc2] W fun e w' => e = .returned (.bool true) ∧ Below W.heap.size W w' := by
    by_cases hbig : bn2 ≤ 1048576
    · exact exactCr10_any _ _ bs2 BA2 bn2 bc2 ⟨s0, l0, c0, sh0, zs0⟩ ⟨ks1, ls1⟩ W ⟨A0, n0, cap0, rfl, hm0, hp0.all⟩ ⟨KA1, kn1, kc1, LA1, ln1, lc1, rfl, hm1, hmq1, hp1, hq1⟩ hp2 hbig
    · exact exactCr10_big _ _ BA2 bn2 bc2 W (by omega)
  refine walk.mono fun e W' ⟨he, bel⟩ => ?_
  subst he
  exact ⟨_, rfl, _, _, _, [], _, [], hW', trodAll_mk1 (shut_bool Tryz.underlying4 _), (trodAll_cons_mk (Below.trod laidOut (by kernel_rfl) (of_decide_eq_true (by kernel_rfl)) t0 bel lt0) (trodAll_cons_mk (Below.trod laidOut (by kernel_rfl) (of_decide_eq_true (by kernel_rfl)) t1 bel lt1) (trodAll_cons_mk (Below.trod laidOut (by kernel_rfl) (of_decide_eq_true (by kernel_rfl)) t2 bel lt2) trodAll_mk0))), rfl, bel.frame _, fun h => by cases h⟩

theorem proved : Rows.FnExactCrashedSaid :=
  OpenClaim.holds_of_wide 8 Tryz.f8 rfl rfl rfl rfl rfl rfl rfl ⟨rfl, rfl, rfl, rfl, rfl⟩ rfl rfl rfl rfl rfl (by kernel_rfl) Tryz.func8 (by kernel_rfl)
    (of_decide_eq_true (by kernel_rfl)) (by unfold Func.isWrapper; first | (rw [if_pos (by decide +kernel)]; kernel_rfl) | (rw [if_neg (by decide +kernel)]; exact ⟨rfl, rfl⟩))
    (fun os started H enc _ => lifted os started H enc)
end fnExactCrashedF

theorem fnExactCrashed_holds : Rows.FnExactCrashedSaid := fnExactCrashedF.proved
end Go.Proofs.YtjdepjpjjgkmbaaGreat
