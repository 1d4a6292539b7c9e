/- What the model's draws out of the code leave, chapter 2: two stamps, a stamp and a client, a list of stamps; the bytes can be read. -/
import Derived.Test.YtpjmghkhbhhmcaaDrawStamp
namespace Go.Proofs.Ytpjmghkhbhhmcaa
open Go.RowKit

theorem Box.far2 {w : World} {g R : Nat} {t : TypeId} {cs : Array Value} (h : Box w g t cs) (hR : R ≠ g) (u v : Value) : Box ((w.setCell ⟨R, 0, none⟩ u).setCell ⟨R, 1, none⟩ v) g t cs :=
  (h.far (p := ⟨R, 0, none⟩) hR u).far (p := ⟨R, 1, none⟩) hR v

/-- Two stamps. -/
def MadeTwo (w : World) (e : Ending) (w' : World) : Prop :=
  ∃ a b c d : Int, e = .returned (.tuple #[.agg #[.int .i64 a, .int .i64 b], .agg #[.int .i64 c, .int .i64 d]]) ∧ Below w.heap.size w w'

set_option maxHeartbeats 1000000 in
theorem drawCmp_any (A : Option Addr) (n cap : Nat) (w : World) (hn : n ≤ 4096) (hB : Bytes w w.heap.size A n) :
    Calls Try.prog 10 #[.slice A n cap] w (MadeTwo w) := by
  have hb0 := bel_trans (bel_alloc w (.cells #[.int .i64 0, .int .i64 0] 25)) (bel_alloc _ (.cells #[.int .i64 0, .int .i64 0] 25))
  have D := (Box.new w 25 #[.int .i64 0, .int .i64 0]).alloc (.cells #[.int .i64 0, .int .i64 0] 25)
  have X := Box.new (w.alloc (.cells #[.int .i64 0, .int .i64 0] 25)) 25 #[.int .i64 0, .int .i64 0]
  simp only [World.size_alloc] at X
  have HB := Lib.hid hB
  clear hB
  go_enter Try.func10, Try.ntmps10
  go_wp2_with fail
  generalize ((w.alloc _).alloc _ : World) = w0 at hb0 D X ⊢
  refine (l1New_any A n cap w0 hn ((HB.out.below hb0 (Nat.le_refl _)).more hb0.size)).mono ?_
  rintro e w1 ⟨g, hg, rfl, hc1, hb1⟩
  have D1 := D.later hb1 D.lt
  have X1 := X.later hb1 X.lt
  have E1 := bel_trans hb0 hb1
  have hX := X.lt
  have hg : w.heap.size + 1 < g := Nat.lt_of_lt_of_le hX hg
  clear D X hb0 hb1
  go_wp2_with fail
  refine (l2DrawAny_any g A n cap w1 hc1).mono ?_
  rintro e w2 ⟨a, b, rfl, hc2, hg2⟩
  have D2 := D1.kept hg2 (by intro e; injection e with e; omega)
  have X2 := X1.kept hg2 (by intro e; injection e with e; omega)
  have E2 := bel_grown E1 hg2 (by omega)
  clear D1 X1 E1 hc1 hg2
  have S2 := Box.new w2 25 #[.int .i64 a, .int .i64 b]
  have hb3 := bel_alloc w2 (.cells #[.int .i64 a, .int .i64 b] 25)
  have hX2 := X2.lt
  have hgl := hc2.lt
  go_wp2_with fail
  have D3 := D2.later hb3 D2.lt
  have X3 := X2.later hb3 X2.lt
  have E3 := bel_trans E2 hb3
  have hc3 := hc2.kept (grown_bel hb3 none) (fun q hq => by cases hq)
  generalize (w2.alloc _ : World) = w3 at S2 hb3 D3 X3 E3 hc3 ⊢
  generalize w2.heap.size = S at S2 hX2 hgl ⊢
  clear D2 X2 E2 hc2 hb3
  refine (l1Once_any g A n cap 4 _ (by omega) hc3).mono ?_
  rintro e w4 ⟨y, rfl, hc4, hg4⟩
  have D4 := D3.kept hg4 (by intro e; injection e with e; omega)
  have X4 := X3.kept hg4 (by intro e; injection e with e; omega)
  have S4 := S2.kept hg4 (by intro e; injection e with e; omega)
  have E4 := bel_grown E3 hg4 (by omega)
  clear D3 X3 E3 S2 hc3 hg4
  obtain ⟨d0, d1⟩ := D4.two
  obtain ⟨x0, x1⟩ := X4.two
  obtain ⟨s0, s1⟩ := S4.two
  have fd := D4.frozen
  have fx := X4.frozen
  have n1 : S ≠ w.heap.size := by omega
  have n2 : S ≠ w.heap.size + 1 := by omega
  have hgS : g < S := hgl
  have n1' : w.heap.size ≠ S := by omega
  have n2' : w.heap.size + 1 ≠ S := by omega
  rcases y with _ | _
  · have hz := S4.lt
    go_wp2_with fail
    go_region_held3 (fun w' => w'.cell? ⟨S, 0, none⟩ = some (.int .i64 a) ∧ w'.cell? ⟨S, 1, none⟩ = some (.int .i64 b)) (first | (with_reducible exact B5.two) | (with_reducible exact (B5.far2 n1' _ _).two) | (with_reducible exact ((B5.far2 n1' _ _).far2 n2' _ _).two) | go_keep)
      (first | (go_at_call 27; refine (l2DrawAny_any g A n cap _ ?_).mono ?_; exact hc4; rintro e w5 ⟨c, d, rfl, hc5, hg5⟩; have B5 := Box.kept (w := w4.drew) S4 hg5 (by intro e; injection e with e; omega); have D5 := Box.kept (w := w4.drew) D4 hg5 (by intro e; injection e with e; omega); have X5 := Box.kept (w := w4.drew) X4 hg5 (by intro e; injection e with e; omega); have y0 := D5.two; have y1 := X5.two; have fd5 := D5.frozen; have fx5 := X5.frozen))
    have E5 := bel_grown (bel_drew E4) hg5 (by omega)
    obtain ⟨d0, d1⟩ := D5.two
    obtain ⟨x0, x1⟩ := X5.two
    go_wp2
    exact bodyPost_ret (v := .tuple #[.agg #[.int .i64 a, .int .i64 b], .agg #[.int .i64 c, .int .i64 d]]) (by simp [results, Try.results10, go_sem, d0, d1, x0, x1]) rfl
      ⟨a, b, c, d, rfl, (((E5.setCell (by simp) _).setCell (by simp) _).setCell (by simp) _).setCell (by simp) _⟩
  · go_wp2_with fail
    go_region
    go_wp2
    exact bodyPost_ret (v := .tuple #[.agg #[.int .i64 a, .int .i64 b], .agg #[.int .i64 a, .int .i64 b]]) (by simp [results, Try.results10, go_sem, d0, d1, x0, x1]) rfl
      ⟨a, b, a, b, rfl, ((((E4.setCell (by simp) _).setCell (by simp) _).setCell (by simp) _).setCell (by simp) _).drew⟩

/-- A stamp and a number. -/
def MadeOneNum (w : World) (e : Ending) (w' : World) : Prop :=
  ∃ a b x : Int, e = .returned (.tuple #[.agg #[.int .i64 a, .int .i64 b], .int .i64 x]) ∧ Below w.heap.size w w'

set_option maxHeartbeats 1000000 in
theorem drawNext_any (A : Option Addr) (n cap : Nat) (w : World) (hn : n ≤ 4096) (hB : Bytes w w.heap.size A n) :
    Calls Try.prog 15 #[.slice A n cap] w (MadeOneNum w) := by
  have hb0 := bel_alloc w (.cells #[.int .i64 0, .int .i64 0] 25)
  have D := Box.new w 25 #[.int .i64 0, .int .i64 0]
  have HB := Lib.hid hB
  clear hB
  go_enter Try.func15, Try.ntmps15
  go_wp2_with fail
  generalize (w.alloc _ : World) = w0 at hb0 D ⊢
  refine (l1New_any A n cap w0 hn ((HB.out.below hb0 (Nat.le_refl _)).more hb0.size)).mono ?_
  rintro e w1 ⟨g, hg, rfl, hc1, hb1⟩
  have D1 := D.later hb1 D.lt
  have E1 := bel_trans hb0 hb1
  have hD := D.lt
  have hg : w.heap.size < g := Nat.lt_of_lt_of_le hD hg
  clear D hb0 hb1
  go_wp2_with fail
  refine (l2DrawAny_any g A n cap w1 hc1).mono ?_
  rintro e w2 ⟨a, b, rfl, hc2, hg2⟩
  have D2 := D1.kept hg2 (by intro e; injection e with e; omega)
  have E2 := bel_grown E1 hg2 (by omega)
  clear D1 E1 hc1 hg2
  have S2 := Box.new w2 25 #[.int .i64 a, .int .i64 b]
  have hb3 := bel_alloc w2 (.cells #[.int .i64 a, .int .i64 b] 25)
  have hD2 := D2.lt
  have hgl := hc2.lt
  go_wp2_with fail
  have D3 := D2.later hb3 D2.lt
  have E3 := bel_trans E2 hb3
  have hc3 := hc2.kept (grown_bel hb3 none) (fun q hq => by cases hq)
  generalize (w2.alloc _ : World) = w3 at S2 hb3 D3 E3 hc3 ⊢
  generalize w2.heap.size = S at S2 hD2 hgl ⊢
  clear D2 E2 hc2 hb3
  obtain ⟨d0, d1⟩ := D3.two
  obtain ⟨s0, s1⟩ := S2.two
  have fd := D3.frozen
  have n1 : S ≠ w.heap.size := by omega
  have n1' : w.heap.size ≠ S := by omega
  have hz := S2.lt
  go_region_held3 (fun w' => w'.cell? ⟨S, 0, none⟩ = some (.int .i64 a) ∧ w'.cell? ⟨S, 1, none⟩ = some (.int .i64 b)) (first | (with_reducible exact B5.two) | (with_reducible exact (B5.far2 n1' _ _).two) | go_keep)
    (first | (go_at_call 33; refine (l1From_any g A n cap (-1) 16 _ (by omega) (by omega) (by omega) ?_).mono ?_; exact hc3; rintro e w5 ⟨x, ⟨hx0, hx1⟩, rfl, hc5, hg5⟩; have B5 := Box.kept (w := w3.drew) S2 hg5 (by intro e; injection e with e; omega); have D5 := Box.kept (w := w3.drew) D3 hg5 (by intro e; injection e with e; omega); have y0 := D5.two; have fd5 := D5.frozen))
  have E5 := bel_grown (bel_drew E3) hg5 (by omega)
  obtain ⟨d0, d1⟩ := D5.two
  go_wp2
  exact bodyPost_ret (v := .tuple #[.agg #[.int .i64 a, .int .i64 b], .int .i64 x]) (by simp [results, Try.results15, go_sem, d0, d1]) rfl
    ⟨a, b, x, rfl, (E5.setCell (by simp) _).setCell (by simp) _⟩

/-- The cells of a list of pairs. -/
def flatP (ps : List (Int × Int)) : List Value := ps.flatMap fun p => [.int .i64 p.1, .int .i64 p.2]
theorem flatP_len (ps : List (Int × Int)) : (flatP ps).length = ps.length * 2 := by
  induction ps with
  | nil => rfl
  | cons p ps ih => show (flatP ps).length + 1 + 1 = _; rw [ih, List.length_cons]; omega
theorem flatP_snoc (ps : List (Int × Int)) (x y : Int) : flatP (ps ++ [(x, y)]) = flatP ps ++ [.int .i64 x, .int .i64 y] := by simp [flatP]
theorem flatP_at {ps : List (Int × Int)} {i : Nat} (h : i < ps.length) : (flatP ps)[i * 2]? = some (.int .i64 (pth ps i).1) ∧ (flatP ps)[i * 2 + 1]? = some (.int .i64 (pth ps i).2) := by
  induction ps generalizing i with
  | nil => simp at h
  | cons p ps ih =>
    have e : flatP (p :: ps) = .int .i64 p.1 :: .int .i64 p.2 :: flatP ps := rfl
    rcases i with _ | i
    · exact ⟨rfl, rfl⟩
    · have := ih (i := i) (by simpa using h)
      rw [e, show (i + 1) * 2 = i * 2 + 1 + 1 by omega]
      simp only [List.getElem?_cons_succ]
      have ep : pth (p :: ps) (i + 1) = pth ps i := by simp [pth]
      rw [ep]
      exact this
theorem own_pairs {w : World} {base : Nat} {e : TypeId} {q cap : Nat} {ps : List (Int × Int)} (h : w.ownsRow base e 2 (.slice (some ⟨q, 0, none⟩) ps.length cap) ps.length (flatP ps)) : Pairs w w.heap.size (some ⟨q, 0, none⟩) ps.length ps := by
  refine ⟨rfl, fun _ => ⟨q, 0, rfl, (h.lt q rfl).2, fun i hi => ?_⟩⟩
  rw [Nat.zero_add, h.cellAt (i * 2) (by omega), h.cellAt (i * 2 + 1) (by omega)]
  exact flatP_at hi

theorem Try.infoStampI : (Try.prog.info? 25).map (fun i => (i.zero, i.size, i.bytes)) = some (some (.agg #[.int .i64 0, .int .i64 0]), 2, 16) := by kernel_rfl

/-- A list of at most m pairs, made anew. -/
def MadeList (m : Nat) (w : World) (e : Ending) (w' : World) : Prop :=
  ∃ (q cap' : Nat) (ps : List (Int × Int)), e = .returned (.slice (some ⟨q, 0, none⟩) ps.length cap') ∧ Pairs w' w'.heap.size (some ⟨q, 0, none⟩) ps.length ps ∧ ps.length ≤ m ∧ Below w.heap.size w w'

/-- The loop's state: at most k more are drawn. -/
def StampsUp (w wr : World) (t tc : TypeId) (g : Nat) (A : Option Addr) (n cap k : Nat) (v : Value) : Prop :=
  ∃ (q cap' : Nat) (ps : List (Int × Int)), v = .slice (some ⟨q, 0, none⟩) ps.length cap' ∧ ps.length + k ≤ 5 ∧ Cur wr tc .i64 g A n cap ∧ wr.ownsRow (g + 1) t 2 (.slice (some ⟨q, 0, none⟩) ps.length cap') ps.length (flatP ps) ∧ Below w.heap.size w wr

set_option maxHeartbeats 1000000 in
theorem drawNewest_any (A : Option Addr) (n cap : Nat) (w : World) (hn : n ≤ 4096) (hB : Bytes w w.heap.size A n) :
    Calls Try.prog 18 #[.slice A n cap] w (MadeList 5 w) := by
  obtain ⟨i0, hi0, hz0, hz1, hz2⟩ := info_parts Try.infoStampI
  go_enter Try.func18, Try.ntmps18
  go_wp2_with fail
  refine (l1New_any A n cap w hn hB).mono ?_
  rintro e w1 ⟨g, hg, rfl, hc1, E1⟩
  have B1 := Box.new w1 25 #[]
  have hb2 := bel_alloc w1 (.cells #[] 25)
  have hgl := hc1.lt
  go_wp2_with fail
  have hc2 := hc1.kept (grown_bel hb2 none) (fun q hq => by cases hq)
  have E2 := bel_trans E1 hb2
  generalize (w1.alloc _ : World) = w2 at B1 hb2 hc2 E2 ⊢
  generalize w1.heap.size = Q at B1 hgl ⊢
  refine (l1Below_any g A n cap 6 _ (by omega) hc2).mono ?_
  rintro e w3 ⟨r, ⟨hr0, hr1⟩, rfl, hc3, hg3⟩
  have B3 := B1.kept hg3 (by intro e; injection e with e; omega)
  have E3 := bel_grown E2 hg3 hg
  clear hc1 hc2 B1 hb2 E1 E2 hg3
  obtain ⟨k0, rfl⟩ := Int.eq_ofNat_of_zero_le hr0
  have K0 : StampsUp w w3 25 59 g A n cap k0 (.slice (some ⟨Q, 0, none⟩) 0 0) :=
    ⟨Q, 0, [], rfl, by simp; omega, hc3, ⟨rfl, .inr ⟨Q, 0, #[], rfl, hgl, B3, Nat.le_refl _, Nat.zero_le _, rfl, rfl⟩⟩, E3⟩
  clear hc3 B3 E3 hr0 hr1
  go_wp2_with fail
  go_loopw [4, 5] (fun v i wr => ∃ k : Nat, i = .int .i64 k ∧ StampsUp w wr 25 59 g A n cap k v) (fun _ i _ => (intOf i).toNat)
  case atStart => exact ⟨k0, rfl, K0⟩
  case round =>
    obtain ⟨k, rfl, q, cap', ps, rfl, hl, hc, hown, hE⟩ := hrel
    clear K0
    rcases k with _ | k
    · have HP := Lib.hid (own_pairs hown)
      clear hown hc
      go_wp2
      go_ret
      exact ⟨q, cap', ps, rfl, HP.out, by omega, hE⟩
    · have hpos : (0 : Int) < ((k + 1 : Nat) : Int) := by omega
      have hq := hown.lt q rfl
      go_wp2_with fail
      refine (l2DrawAny_any g A n cap wr hc).mono ?_
      rintro e w1 ⟨x, y, rfl, hc1, hg1⟩
      have ho1 := hown.kept hg1 (Or.inr (by simp [Value.ownBlock]; omega))
      have E1 := bel_grown hE hg1 hg
      have hs1 := hg1.size
      clear hown hc hE hg1
      have hz0' := hc1.lt
      have hzl : ps.length ≤ 5 := by omega
      go_wp2_with (at_builtin; refine wpList_append_lies _ rfl _ _ _ rfl (g + 1) 25 i0 _ 2 16 Try.underlying34 hi0 hz0 hz1 hz2 rfl (by omega) (.slice (some ⟨q, 0, none⟩) ps.length cap') ps.length (flatP ps) rfl (ho1.alloc _) ⟨w1.heap.size, 0, none⟩ 1 1 [.int .i64 x, .int .i64 y] rfl rfl (World.news_of_block (cs := #[.int .i64 x, .int .i64 y]) (t := 25) (fr := (0, 0)) (heap_alloc_new w1 _)) (by simp [Value.oneCell']) (by omega) (by unfold maxLen; omega) (by omega) (by simp; omega) (w1.heap.size + 1) (by simp) ?_; intro gg cap2 w2 hown2 hgrow2 hat hlt2)
      have HS : Hid (StampsUp w w2 25 59 g A n cap k (.slice (some ⟨gg, 0, none⟩) (ps.length + 1) cap2)) := by
        have hb := bel_alloc w1 (.cells #[.int .i64 x, .int .i64 y] 25)
        refine ⟨gg, cap2, ps ++ [(x, y)], by simp, by simp; omega, (hc1.kept (grown_bel hb none) (fun r hr => by cases hr)).kept hgrow2 (fun r hr => by simp only [Value.ownBlock, Option.some.injEq] at hr; omega), ?_, ?_⟩
        · rw [flatP_snoc]
          simpa using hown2
        · exact (bel_trans E1 hb).grown hgrow2 (by have := hb.size; have := E1.size; omega) (fun r hr => by simp only [Value.ownBlock, Option.some.injEq] at hr; omega)
      clear hown2 hgrow2 hat ho1 hc1
      go_roundw
      case rel => exact ⟨k, by go_num, HS.out⟩
      case measure => simp [intOf]

end Go.Proofs.Ytpjmghkhbhhmcaa
