/- The library's stable sort over a slice of pairs, second part: comparing two pairs, sorting by insertion. -/
import Derived.Test.YtghdnokjgmmgiaaGreatSpecStamp
namespace Go.Proofs.YtghdnokjgmmgiaaGreat
open Go.RowKit

/-- Two seals are compared by their first numbers. -/
theorem cmpSeal_any (a b c d : Int) (w : World) :
    Calls Tryz.prog 115 #[.agg #[.int .i64 a, .int .i64 b], .agg #[.int .i64 c, .int .i64 d]] w fun e w' => e = .returned (.int .i64 (sgn a c)) ∧ Below w.heap.size w w' := by
  have hb := bel_trans (bel_alloc w (.cells #[.int .i64 a, .int .i64 b] 94)) (bel_alloc _ (.cells #[.int .i64 c, .int .i64 d] 94))
  have D := ((Box.new w 94 #[.int .i64 a, .int .i64 b]).alloc (.cells #[.int .i64 c, .int .i64 d] 94)).two
  have X := (Box.new (w.alloc (.cells #[.int .i64 a, .int .i64 b] 94)) 94 #[.int .i64 c, .int .i64 d]).two
  simp only [World.size_alloc] at X
  obtain ⟨d0, _⟩ := D
  obtain ⟨x0, _⟩ := X
  go_enter Tryz.func115, Tryz.ntmps115
  go_wp2_with fail
  generalize ((w.alloc _).alloc _ : World) = w0 at hb d0 x0 ⊢
  refine (compare_any a c w0).mono ?_
  rintro e w' ⟨rfl, rfl⟩
  go_wp2
  go_ret
  exact ⟨rfl, hb⟩

theorem cmpSeal_is {a c s : Int} (h : sgn a c = s) (b d : Int) (w : World) :
    Calls Tryz.prog 115 #[.agg #[.int .i64 a, .int .i64 b], .agg #[.int .i64 c, .int .i64 d]] w fun e w' => e = .returned (.int .i64 s) ∧ Below w.heap.size w w' := by
  rw [← h]
  exact cmpSeal_any a b c d w

/-- Not smaller: 0 or 1. -/
theorem sgn_ge {a c : Int} (h : ¬ a < c) : sgn a c = if c < a then 1 else 0 := by simp [sgn, h]

theorem Srt.mid {Z1 Z2 : List (Int × Int)} {y : Int × Int} (h : Srt (Z1 ++ Z2)) (h1 : ∀ p ∈ Z1, p.1 ≤ y.1) (h2 : ∀ p ∈ Z2, y.1 < p.1) : Srt (Z1 ++ y :: Z2) := by
  have h' := List.pairwise_append.1 h
  refine List.pairwise_append.2 ⟨h'.1, List.pairwise_cons.2 ⟨fun p hp => Int.le_of_lt (h2 p hp), h'.2.1⟩, fun p hp q hq => ?_⟩
  rcases List.mem_cons.1 hq with e | e
  · rw [e]; exact h1 p hp
  · exact h'.2.2 p hp q e
theorem Same.mid {Z1 Z2 X1 : List (Int × Int)} {y : Int × Int} (h : Same (Z1 ++ Z2) X1) (h2 : ∀ p ∈ Z2, y.1 < p.1) : Same (Z1 ++ y :: Z2) (X1 ++ [y]) := by
  have e : Same (Z1 ++ ([y] ++ Z2)) (Z1 ++ (Z2 ++ [y])) := (Same.refl Z1).app (Same.swap fun p hp q hq => by
    simp only [List.mem_singleton] at hq
    have := h2 p hp
    rw [hq]
    omega)
  refine Same.trans e ?_
  rw [← List.append_assoc]
  exact h.app (Same.refl _)
theorem Srt.last {Z : List (Int × Int)} {z : Int × Int} (h : Srt (Z ++ [z])) : ∀ p ∈ Z ++ [z], p.1 ≤ z.1 := by
  have h' := List.pairwise_append.1 h
  intro p hp
  rcases List.mem_append.1 hp with e | e
  · exact h'.2.2 p e z (by simp)
  · simp only [List.mem_singleton] at e
    rw [e]
    exact Int.le_refl _

/-- What sorting leaves. -/
def Sorts (w : World) (g : Nat) (A X B : List (Int × Int)) (e : Ending) (w' : World) : Prop :=
  ∃ Z : List (Int × Int), Z.length = X.length ∧ Srt Z ∧ Same Z X ∧ Does w g (A ++ (Z ++ B)) e w'

set_option maxRecDepth 100000 in
set_option maxHeartbeats 800000 in
theorem insSort_is (g n cap : Nat) (ai bi : Int) (A X B : List (Int × Int)) (w : World) (hn : n ≤ 4194304) (hl : A.length + X.length + B.length = n)
    (hA : ai = (A.length : Int)) (hb : bi = ((A.length + X.length : Nat) : Int)) (H : Held w g (A ++ (X ++ B))) :
    Calls Tryz.prog 133 #[.slice (some ⟨g, 0, none⟩) n cap, .int .i64 ai, .int .i64 bi, (.func (Fn.func 115) #[] #[])] w (Sorts w g A X B) := by
  generalize hb' : A.length + X.length = b at hb
  generalize ha' : A.length = a at hA hb' hl
  subst hA hb
  rcases X with _ | ⟨x0, X0⟩
  · have hab : a = b := by simpa using hb'
    subst hab
    go_enter Tryz.func133, Tryz.ntmps133
    go_wp2_with fail
    go_loopw [8] (fun i wr => i = .int .i64 ((a : Int) + 1) ∧ wr = w) (fun i _ => 0)
    case atStart => exact ⟨rfl, rfl⟩
    case round =>
      obtain ⟨rfl, rfl⟩ := hrel
      go_wp2
      go_end0
      exact ⟨[], rfl, by simp [Srt], Same.refl _, rfl, H, grown_refl _ _⟩
  · have HH := Lib.hid H
    clear H
    go_enter Tryz.func133, Tryz.ntmps133
    go_wp2_with fail
    go_loopw [8] (fun i wr => ∃ (Z Y X1 : List (Int × Int)) (k : Nat), X1 ++ Y = x0 :: X0 ∧ Z.length = X1.length ∧ a + Z.length = k ∧ i = .int .i64 k ∧ Srt Z ∧ Same Z X1 ∧ Held wr g (A ++ (Z ++ (Y ++ B))) ∧ w.grownBy wr (some g)) (fun i _ => b - (intOf i).toNat)
    case atStart => exact ⟨[x0], X0, [x0], a + 1, rfl, rfl, rfl, by go_num, by simp [Srt], Same.refl _, HH.out, grown_refl _ _⟩
    case round =>
      obtain ⟨Z, Y, X1, k, hX, hZl, hk, rfl, hsrt, hsame, hh, hg⟩ := hrel
      have hXl := congrArg List.length hX
      simp only [List.length_append, List.length_cons] at hXl hb' hl
      rcases Y with _ | ⟨y, Y⟩
      · simp only [List.length_nil] at hXl
        have hkb : k = b := by omega
        subst hkb
        go_wp2
        go_end0
        refine ⟨Z, ?_, hsrt, ?_, rfl, ?_, hg⟩
        · simp; omega
        · rw [← hX]; simpa using hsame
        · simpa using hh
      · simp only [List.length_cons] at hXl
        have hkb : k < b := by omega
        have hkb' : (k : Int) < (b : Int) := by omega
        go_wp2_with fail
        go_loopw [9] (fun j wr => ∃ (Z1 Z2 : List (Int × Int)) (q : Nat), Z1 ++ Z2 = Z ∧ a + Z1.length = q ∧ j = .int .i64 q ∧ (∀ p ∈ Z2, y.1 < p.1) ∧ Held wr g (A ++ (Z1 ++ (y :: (Z2 ++ (Y ++ B))))) ∧ w.grownBy wr (some g)) (fun j _ => (intOf j).toNat)
        case atStart => exact ⟨Z, [], k, by simp, hk, rfl, by simp, by simpa using hh, hg⟩
        case round =>
          obtain ⟨Z1, Z2, q, hZ, hq, rfl, hZ2, hh2, hg2⟩ := hrel
          have hlen := congrArg List.length hZ
          simp only [List.length_append] at hlen
          rcases Z1.eq_nil_or_concat with rfl | ⟨Z3, z, rfl⟩
          · have hqa : q = a := by simpa using hq.symm
            subst hqa
            go_wp2_with fail
            refine wp_region_after (by kernel_rfl) (by kernel_rfl) ?_
            repeat (first | go_big_quiet_step (fail) | quiet_step (fail))
            refine wpQuiet_nil ?_
            intro pw
            go_wp2
            go_roundw
            case rel => exact ⟨y :: Z2, Y, X1 ++ [y], k + 1, by simpa using hX, by simp; omega, by simp; omega, by go_num, Srt.mid (Z1 := []) (by rw [hZ]; exact hsrt) (by simp) hZ2, Same.mid (Z1 := []) (by rw [hZ]; exact hsame) hZ2, by simpa using hh2.later pw.bel, grown_trans hg2 (grown_bel pw.bel _)⟩
            case measure => simp [intOf]; omega
          · rw [List.concat_eq_append] at hZ hq hh2 hlen
            simp only [List.length_append, List.length_singleton] at hq hlen
            obtain ⟨r, rfl⟩ : ∃ r, q = r + 1 := ⟨q - 1, by omega⟩
            generalize hd : (A ++ ((Z3 ++ [z]) ++ (y :: (Z2 ++ (Y ++ B))))) = d at hh2
            have hdl : d.length = n := by subst hd; simp only [List.length_append, List.length_cons, List.length_nil]; omega
            have hpz : pth d r = z := pth_at (P := A ++ Z3) (Q := y :: (Z2 ++ (Y ++ B))) (by rw [← hd]; simp) (by simp; omega)
            have hpy : pth d (r + 1) = y := pth_at (P := A ++ (Z3 ++ [z])) (Q := Z2 ++ (Y ++ B)) (by rw [← hd]; simp) (by simp; omega)
            have hrn : (r : Int) + 1 < n := by omega
            have hrn' : (r : Int) < n := by omega
            have har : (a : Int) < (r : Int) + 1 := by omega
            have c0 := hh2.at0 (r + 1) (by omega)
            have c1 := hh2.at1 (r + 1) (by omega)
            have c2 := hh2.at0 r (by omega)
            have c3 := hh2.at1 r (by omega)
            rw [hpy] at c0 c1
            rw [hpz] at c2 c3
            have g0 := After.cell (by exact hh2.lt) c0
            have g1 := After.cell (by exact hh2.lt) c1
            have g2 := After.cell (by exact hh2.lt) c2
            have g3 := After.cell (by exact hh2.lt) c3
            have HS := Lib.hid (fun (W : World) (h : Held W g d) => h.swap (r + 1) r hpy hpz)
            have HH2 := Lib.hid hh2
            have HG2 := Lib.hid hg2
            clear hh2 hg2
            obtain ⟨y, y'⟩ := y
            obtain ⟨z, z'⟩ := z
            by_cases hyz : y < z
            · have hs : sgn y z = -1 := sgn_lt hyz
              go_wp2_with fail
              refine wp_region_after (by kernel_rfl) (by kernel_rfl) ?_
              repeat (first | go_big_quiet_step ((go_at_call 115; exact after_of (cmpSeal_is hs y' z' _))) | quiet_step ((go_at_call 115; exact after_of (cmpSeal_is hs y' z' _))))
              refine wpQuiet_nil ?_
              intro pw
              have hh3 := HH2.out.later pw.bel
              have hg3 := grown_trans HG2.out (grown_bel pw.bel (some g))
              have HS3 := Lib.hid (HS.out _ hh3)
              have d0 := g0 pw
              have d1 := g1 pw
              have d2 := g2 pw
              have d3 := g3 pw
              have fr := hh3.fr
              clear g0 g1 g2 g3 hh3
              go_wp2
              go_region
              go_wp2
              go_roundw
              case rel =>
                refine ⟨Z3, (z, z') :: Z2, r, by rw [← hZ]; simp, by omega, by go_num, ?_, ?_, grown_drew (grown_swap hg3 _ _ _ _ _ _ _ _)⟩
                · intro p hp
                  rcases List.mem_cons.1 hp with e | e
                  · rw [e]; exact hyz
                  · exact hZ2 p e
                · have hs' : swp d (r + 1) r = A ++ (Z3 ++ ((y, y') :: (((z, z') :: Z2) ++ (Y ++ B)))) := by
                    rw [swp_comm _ _ _ (by omega)]
                    exact swp_at (x := (z, z')) (y := (y, y')) (P := A ++ Z3) (Q := []) (R := Z2 ++ (Y ++ B)) (by rw [← hd]; simp) (by simp; omega) (by simp; omega) (by simp)
                  rw [← hs']
                  exact HS3.out.drew
              case measure => simp [intOf]
            · have hs := sgn_ge hyz
              go_wp2_with fail
              refine wp_region_after (by kernel_rfl) (by kernel_rfl) ?_
              repeat (first | go_big_quiet_step ((go_at_call 115; exact after_of (cmpSeal_is hs y' z' _))) | quiet_step ((go_at_call 115; exact after_of (cmpSeal_is hs y' z' _))))
              refine wpQuiet_nil ?_
              intro pw
              have hh3 := HH2.out.later pw.bel
              have hg3 := grown_trans HG2.out (grown_bel pw.bel (some g))
              have hsr : Srt ((Z3 ++ [(z, z')]) ++ Z2) := by rw [hZ]; exact hsrt
              have hz3 := Srt.last (List.pairwise_append.1 hsr).1
              go_wp2
              go_roundw
              case rel => exact ⟨(Z3 ++ [(z, z')]) ++ (y, y') :: Z2, Y, X1 ++ [(y, y')], k + 1, by simpa using hX, by simp; omega, by simp; omega, by go_num, Srt.mid hsr (fun p hp => by have := hz3 p hp; simp only at this ⊢; omega) hZ2, Same.mid (by rw [hZ]; exact hsame) hZ2, by rw [← hd] at hh3; simpa using hh3, hg3⟩
              case measure => simp [intOf]; omega

end Go.Proofs.YtghdnokjgmmgiaaGreat
