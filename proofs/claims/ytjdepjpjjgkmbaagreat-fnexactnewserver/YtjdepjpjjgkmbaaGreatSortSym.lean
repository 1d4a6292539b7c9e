/- The library's stable sort over a slice of pairs, second part: comparing two pairs, sorting by insertion. -/
import Derived.Test.YtjdepjpjjgkmbaaGreatSpecStamp
namespace Go.Proofs.YtjdepjpjjgkmbaaGreat
open Go.RowKit

/-- Two seals are compared by their first numbers. -/
theorem cmpSeal_any (a b c d : Int) (w : World) :
    Calls Tryz.prog 250 #[.agg #[.int .i64 a, .int .i64 b], .agg #[.int .i64 c, .int .i64 d]] w fun e w' => e = .returned (.int .i64 (sgn a c)) ∧ Below w.heap.size w w' := by
  have hb := bel_trans (bel_alloc w (.cells #[.int .i64 a, .int .i64 b] 136)) (bel_alloc _ (.cells #[.int .i64 c, .int .i64 d] 136))
  have D := ((Box.new w 136 #[.int .i64 a, .int .i64 b]).alloc (.cells #[.int .i64 c, .int .i64 d] 136)).two
  have X := (Box.new (w.alloc (.cells #[.int .i64 a, .int .i64 b] 136)) 136 #[.int .i64 c, .int .i64 d]).two
  simp only [World.size_alloc] at X
  obtain ⟨d0, _⟩ := D
  obtain ⟨x0, _⟩ := X
  go_enter Tryz.func250, Tryz.ntmps250
  go_wp2_with fail
  generalize ((w.alloc _).alloc _ : World) = w0 at hb d0 x0 ⊢
  refine (compare_any a c w0).mono ?_
  rintro e w' ⟨rfl, rfl⟩
  go_wp2
  go_ret
  exact ⟨rfl, hb⟩

theorem cmpSeal_is {a c s : Int} (h : sgn a c = s) (b d : Int) (w : World) :
    Calls Tryz.prog 250 #[.agg #[.int .i64 a, .int .i64 b], .agg #[.int .i64 c, .int .i64 d]] w fun e w' => e = .returned (.int .i64 s) ∧ Below w.heap.size w w' := by
  rw [← h]
  exact cmpSeal_any a b c d w

/-- Not smaller: 0 or 1. -/
theorem sgn_ge {a c : Int} (h : ¬ a < c) : sgn a c = if c < a then 1 else 0 := by simp [sgn, h]

theorem Srt.mid {Z1 Z2 : List (Int × Int)} {y : Int × Int} (h : Srt (Z1 ++ Z2)) (h1 : ∀ p ∈ Z1, p.1 ≤ y.1) (h2 : ∀ p ∈ Z2, y.1 < p.1) : Srt (Z1 ++ y :: Z2) := by
  have h' := List.pairwise_append.1 h
  refine List.pairwise_append.2 ⟨h'.1, List.pairwise_cons.2 ⟨fun p hp => Int.le_of_lt (h2 p hp), h'.2.1⟩, fun p hp q hq => ?_⟩
  rcases List.mem_cons.1 hq with e | e
  · rw [e]; exact h1 p hp
  · exact h'.2.2 p hp q e
theorem Same.mid {Z1 Z2 X1 : List (Int × Int)} {y : Int × Int} (h : Same (Z1 ++ Z2) X1) (h2 : ∀ p ∈ Z2, y.1 < p.1) : Same (Z1 ++ y :: Z2) (X1 ++ [y]) := by
  have e : Same (Z1 ++ ([y] ++ Z2)) (Z1 ++ (Z2 ++ [y])) := (Same.refl Z1).app (Same.swap fun p hp q hq => by
    simp only [List.mem_singleton] at hq
    have := h2 p hp
    rw [hq]
    omega)
  refine Same.trans e ?_
  rw [← List.append_assoc]
  exact h.app (Same.refl _)
theorem Srt.last {Z : List (Int × Int)} {z : Int × Int} (h : Srt (Z ++ [z])) : ∀ p ∈ Z ++ [z], p.1 ≤ z.1 := by
  have h' := List.pairwise_append.1 h
  intro p hp
  rcases List.mem_append.1 hp with e | e
  · exact h'.2.2 p e z (by simp)
  · simp only [List.mem_singleton] at e
    rw [e]
    exact Int.le_refl _

/-- What sorting leaves. -/
def Sorts (w : World) (g : Nat) (A X B : List (Int × Int)) (e : Ending) (w' : World) : Prop :=
  ∃ Z : List (Int × Int), Z.length = X.length ∧ Srt Z ∧ Same Z X ∧ Does w g (A ++ (Z ++ B)) e w'

set_option maxRecDepth 100000 in
set_option maxHeartbeats 800000 in
theorem insSort_is (g n cap : Nat) (ai bi : Int) (A X B : List (Int × Int)) (w : World) (hn : n ≤ 4194304) (hl : A.length + X.length + B.length = n)
    (hA : ai = (A.length : Int)) (hb : bi = ((A.length + X.length : Nat) : Int)) (H : Held w g (A ++ (X ++ B))) :
    Calls Tryz.prog 257 #[.slice (some ⟨g, 0, none⟩) n cap, .int .i64 ai, .int .i64 bi, (.func (Fn.func 250) #[] #[])] w (Sorts w g A X B) := by
  generalize hb' : A.length + X.length = b at hb
  generalize ha' : A.length = a at hA hb' hl
  subst hA hb
  rcases X with _ | ⟨x0, X0⟩
  · have hab : a = b := by simpa using hb'
    subst hab
    go_enter Tryz.func257, Tryz.ntmps257
    go_wp2_with fail
    go_loopw [8] (fun i wr => i = .int .i64 ((a : Int) + 1) ∧ wr = w) (fun i _ => 0)
    case atStart => exact ⟨rfl, rfl⟩
    case round =>
      obtain ⟨rfl, rfl⟩ := hrel
      go_wp2
      go_end0
      exact ⟨[], rfl, by simp [Srt], Same.refl _, rfl, H, grown_refl _ _⟩
  · have HH := Lib.hid H
    clear H
    go_enter Tryz.func257, Tryz.ntmps257
    go_wp2_with fail
    go_loopw [8] (fun i wr => ∃ (Z Y X1 : List (Int × Int)) (k : Nat), X1 ++ Y = x0 :: X0 ∧ Z.length = X1.length ∧ a + Z.length = k ∧ i = .int .i64 k ∧ Srt Z ∧ Same Z X1 ∧ Held wr g (A ++ (Z ++ (Y ++ B))) ∧ w.grownBy wr (some g)) (fun i _ => b - (intOf i).toNat)
    case atStart => exact ⟨[x0], X0, [x0], a + 1, rfl, rfl, rfl, by go_num, by simp [Srt], Same.refl _, HH.out, grown_refl _ _⟩
    case round =>
      obtain ⟨Z, Y, X1, k, hX, hZl, hk, rfl, hsrt, hsame, hh, hg⟩ := hrel
      have hXl := congrArg List.length hX
      simp only [List.length_append, List.length_cons] at hXl hb' hl
      rcases Y with _ | ⟨y, Y⟩
      · simp only [List.length_nil] at hXl
        have hkb : k = b := by omega
        subst hkb
        go_wp2
        go_end0
        refine ⟨Z, ?_, hsrt, ?_, rfl, ?_, hg⟩
        · simp; omega
        · rw [← hX]; simpa using hsame
        · simpa using hh
      · simp only [List.length_cons] at hXl
        have hkb : k < b := by omega
        have hkb' : (k : Int) < (b : Int) := by omega
        go_wp2_with fail
        go_loopw [9] (fun j wr => ∃ (Z1 Z2 : List (Int × Int)) (q : Nat), Z1 ++ Z2 = Z ∧ a + Z1.length = q ∧ j = .int .i64 q ∧ (∀ p ∈ Z2, y.1 < p.1) ∧ Held wr g (A ++ (Z1 ++ (y :: (Z2 ++ (Y ++ B))))) ∧ w.grownBy wr (some g)) (fun j _ => (intOf j).toNat)
        case atStart => exact ⟨Z, [], k, by simp, hk, rfl, by simp, by simpa using hh, hg⟩
        case round =>
          obtain ⟨Z1, Z2, q, hZ, hq, rfl, hZ2, hh2, hg2⟩ := hrel
          have hlen := congrArg List.length hZ
          simp only [List.length_append] at hlen
          rcases Z1.eq_nil_or_concat with rfl | ⟨Z3, z, rfl⟩
          · have hqa : q = a := by simpa using hq.symm
            subst hqa
            go_wp2_with fail
            refine wp_region_after (by kernel_rfl) (by kernel_rfl) ?_
            repeat (first | go_big_quiet_step (fail) | quiet_step (fail))
            refine wpQuiet_nil ?_
            intro pw
            go_wp2
            go_roundw
            case rel => exact ⟨y :: Z2, Y, X1 ++ [y], k + 1, by simpa using hX, by simp; omega, by simp; omega, by go_num, Srt.mid (Z1 := []) (by rw [hZ]; exact hsrt) (by simp) hZ2, Same.mid (Z1 := []) (by rw [hZ]; exact hsame) hZ2, by simpa using hh2.later pw.bel, grown_trans hg2 (grown_bel pw.bel _)⟩
            case measure => simp [intOf]; omega
          · rw [List.concat_eq_append] at hZ hq hh2 hlen
            simp only [List.length_append, List.length_singleton] at hq hlen
            obtain ⟨r, rfl⟩ : ∃ r, q = r + 1 := ⟨q - 1, by omega⟩
            generalize hd : (A ++ ((Z3 ++ [z]) ++ (y :: (Z2 ++ (Y ++ B))))) = d at hh2
            have hdl : d.length = n := by subst hd; simp only [List.length_append, List.length_cons, List.length_nil]; omega
            have hpz : pth d r = z := pth_at (P := A ++ Z3) (Q := y :: (Z2 ++ (Y ++ B))) (by rw [← hd]; simp) (by simp; omega)
            have hpy : pth d (r + 1) = y := pth_at (P := A ++ (Z3 ++ [z])) (Q := Z2 ++ (Y ++ B)) (by rw [← hd]; simp) (by simp; omega)
            have hrn : (r : Int) + 1 < n := by omega
            have hrn' : (r : Int) < n := by omega
            have har : (a : Int) < (r : Int) + 1 := by omega
            have c0 := hh2.at0 (r + 1) (by omega)
            have c1 := hh2.at1 (r + 1) (by omega)
            have c2 := hh2.at0 r (by omega)
            have c3 := hh2.at1 r (by omega)
            rw [hpy] at c0 c1
            rw [hpz] at c2 c3
            have g0 := After.cell (by exact hh2.lt) c0
            have g1 := After.cell (by exact hh2.lt) c1
            have g2 := After.cell (by exact hh2.lt) c2
            have g3 := After.cell (by exact hh2.lt) c3
            have HS := Lib.hid (fun (W : World) (h : Held W g d) => h.swap (r + 1) r hpy hpz)
            have HH2 := Lib.hid hh2
            have HG2 := Lib.hid hg2
            clear hh2 hg2
            obtain ⟨y, y'⟩ := y
            obtain ⟨z, z'⟩ := z
            by_cases hyz : y < z
            · have hs : sgn y z = -1 := sgn_lt hyz
              go_wp2_with fail
              refine wp_region_after (by kernel_rfl) (by kernel_rfl) ?_
              repeat (first | go_big_quiet_step ((go_at_call 250; exact after_of (cmpSeal_is hs y' z' _))) | quiet_step ((go_at_call 250; exact after_of (cmpSeal_is hs y' z' _))))
              refine wpQuiet_nil ?_
              intro pw
              have hh3 := HH2.out.later pw.bel
              have hg3 := grown_trans HG2.out (grown_bel pw.bel (some g))
              have HS3 := Lib.hid (HS.out _ hh3)
              have d0 := g0 pw
              have d1 := g1 pw
              have d2 := g2 pw
              have d3 := g3 pw
              have fr := hh3.fr
              clear g0 g1 g2 g3 hh3
              go_wp2
              go_region
              go_wp2
              go_roundw
              case rel =>
                refine ⟨Z3, (z, z') :: Z2, r, by rw [← hZ]; simp, by omega, by go_num, ?_, ?_, grown_drew (grown_swap hg3 _ _ _ _ _ _ _ _)⟩
                · intro p hp
                  rcases List.mem_cons.1 hp with e | e
                  · rw [e]; exact hyz
                  · exact hZ2 p e
                · have hs' : swp d (r + 1) r = A ++ (Z3 ++ ((y, y') :: (((z, z') :: Z2) ++ (Y ++ B)))) := by
                    rw [swp_comm _ _ _ (by omega)]
                    exact swp_at (x := (z, z')) (y := (y, y')) (P := A ++ Z3) (Q := []) (R := Z2 ++ (Y ++ B)) (by rw [← hd]; simp) (by simp; omega) (by simp; omega) (by simp)
                  rw [← hs']
                  exact HS3.out.drew
              case measure => simp [intOf]
            · have hs := sgn_ge hyz
              go_wp2_with fail
              refine wp_region_after (by kernel_rfl) (by kernel_rfl) ?_
              repeat (first | go_big_quiet_step ((go_at_call 250; exact after_of (cmpSeal_is hs y' z' _))) | quiet_step ((go_at_call 250; exact after_of (cmpSeal_is hs y' z' _))))
              refine wpQuiet_nil ?_
              intro pw
              have hh3 := HH2.out.later pw.bel
              have hg3 := grown_trans HG2.out (grown_bel pw.bel (some g))
              have hsr : Srt ((Z3 ++ [(z, z')]) ++ Z2) := by rw [hZ]; exact hsrt
              have hz3 := Srt.last (List.pairwise_append.1 hsr).1
              go_wp2
              go_roundw
              case rel => exact ⟨(Z3 ++ [(z, z')]) ++ (y, y') :: Z2, Y, X1 ++ [(y, y')], k + 1, by simpa using hX, by simp; omega, by simp; omega, by go_num, Srt.mid hsr (fun p hp => by have := hz3 p hp; simp only at this ⊢; omega) hZ2, Same.mid (by rw [hZ]; exact hsame) hZ2, by rw [← hd] at hh3; simpa using hh3, hg3⟩
              case measure => simp [intOf]; omega

end Go.Proofs.YtjdepjpjjgkmbaaGreat

/- The library's stable sort over a slice of pairs, third part: merging where one side is a single pair. -/
namespace Go.Proofs.YtjdepjpjjgkmbaaGreat
open Go.RowKit

/-- Smaller ones ahead, none smaller behind. -/
theorem Srt.mid2 {Z1 Z2 : List (Int × Int)} {y : Int × Int} (h : Srt (Z1 ++ Z2)) (h1 : ∀ p ∈ Z1, p.1 ≤ y.1) (h2 : ∀ p ∈ Z2, y.1 ≤ p.1) : Srt (Z1 ++ y :: Z2) := by
  have h' := List.pairwise_append.1 h
  refine List.pairwise_append.2 ⟨h'.1, List.pairwise_cons.2 ⟨fun p hp => h2 p hp, h'.2.1⟩, fun p hp q hq => ?_⟩
  rcases List.mem_cons.1 hq with e | e
  · rw [e]; exact h1 p hp
  · exact h'.2.2 p hp q e
theorem sgn_nn {a c : Int} (h : ¬ a < c) : ∃ s : Int, sgn a c = s ∧ 0 ≤ s ∧ s ≤ 1 ∧ decide (s < 0) = false := by
  have := sgn_ge h
  refine ⟨_, rfl, ?_, ?_, ?_⟩ <;> rw [this] <;> split <;> simp
theorem mem_pth {l : List (Int × Int)} {p : Int × Int} (h : p ∈ l) : ∃ i, i < l.length ∧ p = pth l i := by
  obtain ⟨i, hi, rfl⟩ := List.getElem_of_mem h
  exact ⟨i, hi, (pth_lt hi).symm⟩
theorem pth_right (P Q : List (Int × Int)) (i : Nat) : pth (P ++ Q) (P.length + i) = pth Q i := by
  simp [pth, List.getElem?_append_right]
theorem pth_left {P : List (Int × Int)} {i : Nat} (h : i < P.length) (Q : List (Int × Int)) : pth (P ++ Q) i = pth P i := by
  simp [pth, List.getElem?_append_left h]
theorem pth_take {l : List (Int × Int)} {i k : Nat} (h : i < k) : pth (l.take k) i = pth l i := by simp [pth, h]
theorem pth_drop (l : List (Int × Int)) (i k : Nat) : pth (l.drop k) i = pth l (k + i) := by simp [pth, List.getElem?_drop]

theorem pth_seg {d P Y Q : List (Int × Int)} {h m : Nat} (hd : d = P ++ (Y ++ Q)) (hm : m = P.length) (h1 : m ≤ h) (h2 : h < m + Y.length) : pth d h = pth Y (h - m) := by
  subst hd hm
  obtain ⟨t, rfl⟩ : ∃ t, h = P.length + t := ⟨h - P.length, by omega⟩
  rw [pth_right, pth_left (by omega), show P.length + t - P.length = t by omega]

set_option maxRecDepth 100000 in
set_option maxHeartbeats 800000 in
/-- One pair goes into a range in order behind it. -/
theorem symOne_is (g n cap : Nat) (ai mi bi : Int) (A Y B : List (Int × Int)) (x : Int × Int) (w : World) (hn : n ≤ 4194304) (hl : A.length + 1 + Y.length + B.length = n)
    (hA : ai = (A.length : Int)) (hm : mi = ((A.length + 1 : Nat) : Int)) (hb : bi = ((A.length + 1 + Y.length : Nat) : Int)) (hY : Srt Y) (H : Held w g (A ++ (x :: (Y ++ B)))) :
    Calls Tryz.prog 258 #[.slice (some ⟨g, 0, none⟩) n cap, .int .i64 ai, .int .i64 mi, .int .i64 bi, (.func (Fn.func 250) #[] #[])] w (Sorts w g A ([x] ++ Y) B) := by
  generalize hb' : A.length + 1 + Y.length = b at hb
  generalize hm' : A.length + 1 = m at hm hb' hl
  generalize ha' : A.length = a at hA hm'
  subst hA hm hb
  generalize hd : A ++ (x :: (Y ++ B)) = d at H
  have HH := Lib.hid H
  have hY0 := Lib.hid hY
  have hd := Lib.hid hd
  clear H hY
  have hma : ((m : Int) - (a : Int) == 1) = true := by simp; omega
  go_enter Tryz.func258, Tryz.ntmps258
  go_wp2_with fail
  go_loopw [10, 11] (fun iv jv wr => ∃ i j : Nat, iv = .int .i64 i ∧ jv = .int .i64 j ∧ m ≤ i ∧ i ≤ j ∧ j ≤ b ∧ (m < i → (pth Y (i - 1 - m)).1 < x.1) ∧ (j < b → x.1 ≤ (pth Y (j - m)).1) ∧ Below w.heap.size w wr) (fun i j _ => (intOf j).toNat - (intOf i).toNat)
  case atStart => exact ⟨m, b, rfl, rfl, Nat.le_refl _, by omega, Nat.le_refl _, by omega, by omega, Below.refl _ _⟩
  case round =>
    obtain ⟨i, j, rfl, rfl, h1, h2, h3, h4, h5, hbel⟩ := hrel
    have hh := HH.out.later hbel
    have hlen : d.length = n := by rw [← hd.out]; simp only [List.length_append, List.length_cons]; omega
    have hpx : pth d a = x := pth_at (P := A) (Q := Y ++ B) hd.out.symm ha'.symm
    by_cases hij : i < j
    · have hij' : (i : Int) < (j : Int) := by omega
      obtain ⟨h, hmid, hi1, hi2⟩ : ∃ h : Nat, ((i : Int) + (j : Int)) / 2 = (h : Int) ∧ i ≤ h ∧ h < j := ⟨(i + j) / 2, by omega, by omega, by omega⟩
      have hph : pth d h = pth Y (h - m) := pth_seg (P := A ++ [x]) (Q := B) (by rw [← hd.out]; simp) (by simp; omega) (by omega) (by omega)
      have c0 := hh.at0 h (by omega)
      have c1 := hh.at1 h (by omega)
      have c2 := hh.at0 a (by omega)
      have c3 := hh.at1 a (by omega)
      rw [hph] at c0 c1
      rw [hpx] at c2 c3
      have h4 := Lib.hid h4
      have h5 := Lib.hid h5
      generalize hp : pth Y (h - m) = p at c0 c1
      have hp := Lib.hid hp
      have g0 := After.cell (by exact hh.lt) c0
      have g1 := After.cell (by exact hh.lt) c1
      have g2 := After.cell (by exact hh.lt) c2
      have g3 := After.cell (by exact hh.lt) c3
      have hhn : (h : Int) < n := by omega
      have han : (a : Int) < n := by omega
      clear hlen hph hpx hh
      rename_i h4' h5' hp'
      clear h4' h5' hp'
      obtain ⟨x, x'⟩ := x
      obtain ⟨p, p'⟩ := p
      by_cases hlt : p < x
      · have hs : sgn p x = -1 := sgn_lt hlt
        go_wp2_with fail
        refine wp_region_after (by kernel_rfl) (by kernel_rfl) ?_
        repeat (first | go_big_quiet_step ((go_at_call 250; exact after_of (cmpSeal_is hs p' x' _))) | quiet_step ((go_at_call 250; exact after_of (cmpSeal_is hs p' x' _))))
        refine wpQuiet_nil ?_
        intro pw
        go_wp2
        go_roundw
        case rel => exact ⟨h + 1, j, by go_num, rfl, by omega, by omega, h3, fun _ => by rw [show h + 1 - 1 - m = h - m by omega, hp.out]; exact hlt, h5.out, bel_trans hbel pw.bel⟩
        case measure => simp [intOf]; omega
      · have hs := sgn_ge hlt
        go_wp2_with fail
        refine wp_region_after (by kernel_rfl) (by kernel_rfl) ?_
        repeat (first | go_big_quiet_step ((go_at_call 250; exact after_of (cmpSeal_is hs p' x' _))) | quiet_step ((go_at_call 250; exact after_of (cmpSeal_is hs p' x' _))))
        refine wpQuiet_nil ?_
        intro pw
        go_wp2
        go_roundw
        case rel => exact ⟨i, h, rfl, rfl, h1, hi1, by omega, h4.out, fun _ => by rw [hp.out]; simp only; omega, bel_trans hbel pw.bel⟩
        case measure => simp [intOf]; omega
    · obtain rfl : i = j := by omega
      have hi : i - m ≤ Y.length := by omega
      have hY1 : ∀ p ∈ Y.take (i - m), p.1 < x.1 := by
        intro p hp
        obtain ⟨t, ht, rfl⟩ := mem_pth hp
        rw [List.length_take] at ht
        rw [pth_take (by omega)]
        have := h4 (by omega)
        have h6 := srt_at hY0.out (i := t) (j := i - 1 - m) (by omega) (by omega)
        omega
      have hY2 : ∀ p ∈ Y.drop (i - m), x.1 ≤ p.1 := by
        intro p hp
        obtain ⟨t, ht, rfl⟩ := mem_pth hp
        rw [List.length_drop] at ht
        rw [pth_drop]
        have := h5 (by omega)
        have h6 := srt_at hY0.out (i := i - m) (j := i - m + t) (by omega) (by omega)
        omega
      have hY1l : (Y.take (i - m)).length = i - m := by rw [List.length_take]; omega
      have hY12 : Y.take (i - m) ++ Y.drop (i - m) = Y := List.take_append_drop _ _
      generalize Y.take (i - m) = Y1 at hY1 hY1l hY12
      generalize Y.drop (i - m) = Y2 at hY2 hY12
      have hY12 := Lib.hid hY12
      have hY1 := Lib.hid hY1
      have hY2 := Lib.hid hY2
      have h4 := 0
      have h5 := 0
      rename_i q1 q2 q3 q4 q5
      clear h4 h5 q1 q2 q3 q4 q5
      have hh' : Held wr g (A ++ (x :: (Y1 ++ (Y2 ++ B)))) := by rw [← List.append_assoc Y1, hY12.out, hd.out]; exact hh
      have hh := Lib.hid hh'
      clear hh' hpx hlen
      go_wp2_with fail
      go_loopw [13] (fun kv wr => ∃ k : Nat, kv = .int .i64 k ∧ a ≤ k ∧ k + 1 ≤ i ∧ Held wr g (A ++ (Y1.take (k - a) ++ (x :: (Y1.drop (k - a) ++ (Y2 ++ B))))) ∧ w.grownBy wr (some g)) (fun k _ => i - (intOf k).toNat)
      case atStart => exact ⟨a, rfl, Nat.le_refl _, by omega, by simpa using hh.out, grown_bel hbel _⟩
      case round =>
        obtain ⟨k, rfl, hk1, hk2, hhk, hgk⟩ := hrel
        by_cases hki : k + 1 < i
        · obtain ⟨y, hy⟩ : ∃ y, Y1.drop (k - a) = y :: Y1.drop (k - a + 1) := ⟨Y1[k - a]'(by omega), List.drop_eq_getElem_cons (by omega)⟩
          have hYl : Y1.length + Y2.length = Y.length := by rw [← hY12.out]; simp
          generalize hd' : (A ++ (Y1.take (k - a) ++ (x :: (Y1.drop (k - a) ++ (Y2 ++ B))))) = d' at hhk
          have hdl : d'.length = n := by rw [← hd']; simp only [List.length_append, List.length_cons, List.length_take, List.length_drop]; omega
          have hpx : pth d' k = x := pth_at (P := A ++ Y1.take (k - a)) (Q := Y1.drop (k - a) ++ (Y2 ++ B)) (by rw [← hd']; simp) (by simp [List.length_take]; omega)
          have hpy : pth d' (k + 1) = y := pth_at (P := A ++ (Y1.take (k - a) ++ [x])) (Q := Y1.drop (k - a + 1) ++ (Y2 ++ B)) (by rw [← hd', hy]; simp) (by simp [List.length_take]; omega)
          have c0 := hhk.at0 k (by omega)
          have c1 := hhk.at1 k (by omega)
          have c2 := hhk.at0 (k + 1) (by omega)
          have c3 := hhk.at1 (k + 1) (by omega)
          rw [hpx] at c0 c1
          rw [hpy] at c2 c3
          have fr := hhk.fr
          have HS := Lib.hid (hhk.swap k (k + 1) hpx hpy)
          have hki' : (k : Int) < (i : Int) - 1 := by omega
          have hkn : (k : Int) < n := by omega
          have hkn' : (k : Int) + 1 < n := by omega
          have hy := Lib.hid hy
          have hd' := Lib.hid hd'
          rename_i q1 q2
          clear q1 q2 hpx hpy hdl hYl
          obtain ⟨x, x'⟩ := x
          obtain ⟨y, y'⟩ := y
          go_wp2
          go_region
          go_wp2
          go_roundw
          case rel =>
            refine ⟨k + 1, by go_num, by omega, by omega, ?_, grown_drew (grown_swap hgk _ _ _ _ _ _ _ _)⟩
            have hs' : swp d' k (k + 1) = A ++ (Y1.take (k + 1 - a) ++ ((x, x') :: (Y1.drop (k + 1 - a) ++ (Y2 ++ B)))) := by
              rw [show k + 1 - a = k - a + 1 by omega, take_more hy.out]
              exact swp_at (x := (x, x')) (y := (y, y')) (P := A ++ Y1.take (k - a)) (Q := []) (R := Y1.drop (k - a + 1) ++ (Y2 ++ B)) (by rw [← hd'.out, hy.out]; simp) (by simp [List.length_take]; omega) (by simp [List.length_take]; omega) (by simp)
            rw [← hs']
            exact HS.out.drew
          case measure => simp [intOf]; omega
        · have hki' : ¬ (k : Int) < (i : Int) - 1 := by omega
          rw [List.take_of_length_le (by omega), List.drop_of_length_le (by omega)] at hhk
          go_wp2
          first | go_end0 | go_ret
          refine ⟨Y1 ++ x :: Y2, ?_, ?_, ?_, rfl, by simpa using hhk, hgk⟩
          · rw [← hY12.out]; simp; omega
          · exact Srt.mid2 (by rw [hY12.out]; exact hY0.out) (fun p hp => Int.le_of_lt (hY1.out p hp)) hY2.out
          · rw [← hY12.out]
            have e : Same ((Y1 ++ [x]) ++ Y2) (([x] ++ Y1) ++ Y2) := (Same.swap (a := [x]) (b := Y1) fun p hp q hq => by
              simp only [List.mem_singleton] at hp
              have := hY1.out q hq
              rw [hp]
              omega).app (Same.refl _)
            simpa using e

end Go.Proofs.YtjdepjpjjgkmbaaGreat

/- The library's stable sort over a slice of pairs, fourth part: merging where the other side is a single pair. -/
namespace Go.Proofs.YtjdepjpjjgkmbaaGreat
open Go.RowKit

set_option maxRecDepth 100000 in
set_option maxHeartbeats 800000 in
/-- One pair goes into a range in order ahead of it. -/
theorem symLast_is (g n cap : Nat) (ai mi bi : Int) (A X B : List (Int × Int)) (y : Int × Int) (w : World) (hn : n ≤ 4194304) (hl : A.length + X.length + 1 + B.length = n)
    (hA : ai = (A.length : Int)) (hm : mi = ((A.length + X.length : Nat) : Int)) (hb : bi = ((A.length + X.length + 1 : Nat) : Int)) (hX2 : 2 ≤ X.length) (hX : Srt X) (H : Held w g (A ++ (X ++ (y :: B)))) :
    Calls Tryz.prog 258 #[.slice (some ⟨g, 0, none⟩) n cap, .int .i64 ai, .int .i64 mi, .int .i64 bi, (.func (Fn.func 250) #[] #[])] w (Sorts w g A (X ++ [y]) B) := by
  generalize hb' : A.length + X.length + 1 = b at hb hl
  generalize hm' : A.length + X.length = m at hm hb'
  generalize ha' : A.length = a at hA hm'
  subst hA hm hb
  generalize hd : A ++ (X ++ (y :: B)) = d at H
  have HH := Lib.hid H
  have hX0 := Lib.hid hX
  have hd := Lib.hid hd
  clear H hX
  have hma : ((m : Int) - (a : Int) == 1) = false := by simp; omega
  have hbm : ((b : Int) - (m : Int) == 1) = true := by simp; omega
  go_enter Tryz.func258, Tryz.ntmps258
  go_wp2_with fail
  go_loopw [14, 15] (fun iv jv wr => ∃ i j : Nat, iv = .int .i64 i ∧ jv = .int .i64 j ∧ a ≤ i ∧ i ≤ j ∧ j ≤ m ∧ (a < i → (pth X (i - 1 - a)).1 ≤ y.1) ∧ (j < m → y.1 < (pth X (j - a)).1) ∧ Below w.heap.size w wr) (fun i j _ => (intOf j).toNat - (intOf i).toNat)
  case atStart => exact ⟨a, m, rfl, rfl, Nat.le_refl _, by omega, Nat.le_refl _, by omega, by omega, Below.refl _ _⟩
  case round =>
    obtain ⟨i, j, rfl, rfl, h1, h2, h3, h4, h5, hbel⟩ := hrel
    have hh := HH.out.later hbel
    have hlen : d.length = n := by rw [← hd.out]; simp only [List.length_append, List.length_cons]; omega
    have hpy : pth d m = y := pth_at (P := A ++ X) (Q := B) (by rw [← hd.out]; simp) (by simp; omega)
    by_cases hij : i < j
    · have hij' : (i : Int) < (j : Int) := by omega
      obtain ⟨h, hmid, hi1, hi2⟩ : ∃ h : Nat, ((i : Int) + (j : Int)) / 2 = (h : Int) ∧ i ≤ h ∧ h < j := ⟨(i + j) / 2, by omega, by omega, by omega⟩
      have hph : pth d h = pth X (h - a) := pth_seg (P := A) (Q := y :: B) hd.out.symm ha'.symm (by omega) (by omega)
      have c0 := hh.at0 h (by omega)
      have c1 := hh.at1 h (by omega)
      have c2 := hh.at0 m (by omega)
      have c3 := hh.at1 m (by omega)
      rw [hph] at c0 c1
      rw [hpy] at c2 c3
      have h4 := Lib.hid h4
      have h5 := Lib.hid h5
      generalize hp : pth X (h - a) = p at c0 c1
      have hp := Lib.hid hp
      have g0 := After.cell (by exact hh.lt) c0
      have g1 := After.cell (by exact hh.lt) c1
      have g2 := After.cell (by exact hh.lt) c2
      have g3 := After.cell (by exact hh.lt) c3
      have hhn : (h : Int) < n := by omega
      have han : (m : Int) < n := by omega
      clear hlen hph hpy hh
      rename_i h4' h5' hp'
      clear h4' h5' hp'
      obtain ⟨y, y'⟩ := y
      obtain ⟨p, p'⟩ := p
      by_cases hlt : y < p
      · have hs : sgn y p = -1 := sgn_lt hlt
        go_wp2_with fail
        refine wp_region_after (by kernel_rfl) (by kernel_rfl) ?_
        repeat (first | go_big_quiet_step ((go_at_call 250; exact after_of (cmpSeal_is hs y' p' _))) | quiet_step ((go_at_call 250; exact after_of (cmpSeal_is hs y' p' _))))
        refine wpQuiet_nil ?_
        intro pw
        go_wp2
        go_roundw
        case rel => exact ⟨i, h, rfl, rfl, h1, hi1, by omega, h4.out, fun _ => by rw [hp.out]; exact hlt, bel_trans hbel pw.bel⟩
        case measure => simp [intOf]; omega
      · obtain ⟨s, hs, hs0, hs1, hsd⟩ := sgn_nn hlt
        go_wp2_with fail
        refine wp_region_after (by kernel_rfl) (by kernel_rfl) ?_
        repeat (first | go_big_quiet_step ((go_at_call 250; exact after_of (cmpSeal_is hs y' p' _))) | quiet_step ((go_at_call 250; exact after_of (cmpSeal_is hs y' p' _))))
        refine wpQuiet_nil ?_
        intro pw
        go_wp2
        go_roundw
        case rel => exact ⟨h + 1, j, by go_num, rfl, by omega, by omega, h3, fun _ => by rw [show h + 1 - 1 - a = h - a by omega, hp.out]; simp only; omega, h5.out, bel_trans hbel pw.bel⟩
        case measure => simp [intOf]; omega
    · obtain rfl : i = j := by omega
      have hi : i - a ≤ X.length := by omega
      have hX1 : ∀ p ∈ X.take (i - a), p.1 ≤ y.1 := by
        intro p hp
        obtain ⟨t, ht, rfl⟩ := mem_pth hp
        rw [List.length_take] at ht
        rw [pth_take (by omega)]
        have := h4 (by omega)
        have h6 := srt_at hX0.out (i := t) (j := i - 1 - a) (by omega) (by omega)
        omega
      have hX2 : ∀ p ∈ X.drop (i - a), y.1 < p.1 := by
        intro p hp
        obtain ⟨t, ht, rfl⟩ := mem_pth hp
        rw [List.length_drop] at ht
        rw [pth_drop]
        have := h5 (by omega)
        have h6 := srt_at hX0.out (i := i - a) (j := i - a + t) (by omega) (by omega)
        omega
      have hX1l : (X.take (i - a)).length = i - a := by rw [List.length_take]; omega
      have hX12 : X.take (i - a) ++ X.drop (i - a) = X := List.take_append_drop _ _
      generalize X.take (i - a) = X1 at hX1 hX1l hX12
      generalize X.drop (i - a) = X2 at hX2 hX12
      have hXl : X1.length + X2.length = X.length := by rw [← hX12]; simp
      have hX12 := Lib.hid hX12
      have hX1 := Lib.hid hX1
      have hX2 := Lib.hid hX2
      rename_i q0 q1 q2 q3
      clear h4 h5 q1 q2 q3
      have hh' : Held wr g (A ++ (X1 ++ (X2 ++ (y :: B)))) := by rw [← List.append_assoc X1, hX12.out, hd.out]; exact hh
      have hh := Lib.hid hh'
      clear hh' hpy hlen
      go_wp2_with fail
      go_loopw [17] (fun kv wr => ∃ k : Nat, kv = .int .i64 k ∧ i ≤ k ∧ k ≤ m ∧ Held wr g (A ++ (X1 ++ (X2.take (k - i) ++ (y :: (X2.drop (k - i) ++ B))))) ∧ w.grownBy wr (some g)) (fun k _ => (intOf k).toNat)
      case atStart =>
        refine ⟨m, rfl, h3, Nat.le_refl _, ?_, grown_bel hbel _⟩
        rw [List.take_of_length_le (by omega), List.drop_of_length_le (by omega)]
        simpa using hh.out
      case round =>
        obtain ⟨k, rfl, hk1, hk2, hhk, hgk⟩ := hrel
        by_cases hki : i < k
        · obtain ⟨r, rfl⟩ : ∃ r, k = r + 1 := ⟨k - 1, by omega⟩
          obtain ⟨z, hz⟩ : ∃ z, X2.drop (r - i) = z :: X2.drop (r - i + 1) := ⟨X2[r - i]'(by omega), List.drop_eq_getElem_cons (by omega)⟩
          have hz' := take_more hz
          rw [show r + 1 - i = r - i + 1 by omega, hz'] at hhk
          generalize hd' : (A ++ (X1 ++ (X2.take (r - i) ++ [z] ++ (y :: (X2.drop (r - i + 1) ++ B))))) = d' at hhk
          have hdl : d'.length = n := by rw [← hd']; simp only [List.length_append, List.length_cons, List.length_take, List.length_drop, List.length_nil]; omega
          have hpz : pth d' r = z := pth_at (P := A ++ (X1 ++ X2.take (r - i))) (Q := y :: (X2.drop (r - i + 1) ++ B)) (by rw [← hd']; simp) (by simp [List.length_take]; omega)
          have hpy : pth d' (r + 1) = y := pth_at (P := A ++ (X1 ++ (X2.take (r - i) ++ [z]))) (Q := X2.drop (r - i + 1) ++ B) (by rw [← hd']; simp) (by simp [List.length_take]; omega)
          have c0 := hhk.at0 (r + 1) (by omega)
          have c1 := hhk.at1 (r + 1) (by omega)
          have c2 := hhk.at0 r (by omega)
          have c3 := hhk.at1 r (by omega)
          rw [hpy] at c0 c1
          rw [hpz] at c2 c3
          have fr := hhk.fr
          have HS := Lib.hid (hhk.swap (r + 1) r hpy hpz)
          have hki' : (i : Int) < (r : Int) + 1 := by omega
          have hkn : (r : Int) < n := by omega
          have hkn' : (r : Int) + 1 < n := by omega
          have hz := Lib.hid hz
          have hd' := Lib.hid hd'
          rename_i q1 q2
          clear q1 q2 hpz hpy hdl hz'
          obtain ⟨y, y'⟩ := y
          obtain ⟨z, z'⟩ := z
          go_wp2
          go_region
          go_wp2
          go_roundw
          case rel =>
            refine ⟨r, by go_num, by omega, by omega, ?_, grown_drew (grown_swap hgk _ _ _ _ _ _ _ _)⟩
            have hs' : swp d' (r + 1) r = A ++ (X1 ++ (X2.take (r - i) ++ ((y, y') :: (X2.drop (r - i) ++ B)))) := by
              rw [swp_comm _ _ _ (by omega), hz.out]
              exact swp_at (x := (z, z')) (y := (y, y')) (P := A ++ (X1 ++ X2.take (r - i))) (Q := []) (R := X2.drop (r - i + 1) ++ B) (by rw [← hd'.out]; simp) (by simp [List.length_take]; omega) (by simp [List.length_take]; omega) (by simp)
            rw [← hs']
            exact HS.out.drew
          case measure => simp [intOf]
        · obtain rfl : k = i := by omega
          rw [Nat.sub_self] at hhk
          go_wp2
          first | go_end0 | go_ret
          refine ⟨X1 ++ y :: X2, ?_, ?_, ?_, rfl, by simpa using hhk, hgk⟩
          · rw [← hX12.out]; simp
          · exact Srt.mid (by rw [hX12.out]; exact hX0.out) hX1.out hX2.out
          · rw [← hX12.out]
            exact Same.mid (Same.refl _) hX2.out

end Go.Proofs.YtjdepjpjjgkmbaaGreat
