/- SumOf of the program and of the model at every record; conditions: how many seals it has. -/
import Derived.Test.YtjdepjpjjgkmbaaGreatMix9
namespace Go.Proofs.YtjdepjpjjgkmbaaGreat
open Go Go.RowKit

set_option maxRecDepth 100000 in
set_option maxHeartbeats 2000000 in
theorem sumOf_is (r1 r2 r3 r4 r5 r6 r7 : Int) (L : Option Addr) (m mc : Nat) (r8 : Int) (ps : List (Int × Int)) (w : World) (hm : m ≤ 4194304) (hr : Pairs w w.heap.size L m ps) :
    Calls Tryz.prog 142 #[.agg #[.int .i64 r1, .int .i64 r2, .int .i64 r3, .int .i64 r4, .int .i64 r5, .int .i64 r6, .int .i64 r7, .slice L m mc, .int .i64 r8]] w fun e w' => e = .returned (.int .i64 (sumN r1 r2 r3 r4 r5 r6 r7 ps)) ∧ Below w.heap.size w w' := by
  have D := Box.new w 46 #[.int .i64 r1, .int .i64 r2, .int .i64 r3, .int .i64 r4, .int .i64 r5, .int .i64 r6, .int .i64 r7, .slice L m mc, .int .i64 r8]
  have hb0 := bel_alloc w (.cells #[.int .i64 r1, .int .i64 r2, .int .i64 r3, .int .i64 r4, .int .i64 r5, .int .i64 r6, .int .i64 r7, .slice L m mc, .int .i64 r8] 46)
  have HR := Lib.hid hr
  have HL := Lib.hid hr.1
  clear hr
  go_enter Tryz.func142, Tryz.ntmps142
  go_wp2_with fail
  generalize (w.alloc _ : World) = w0 at D hb0 ⊢
  refine (mixer_any w0).mono ?_
  rintro e w1 ⟨rfl, M, hb1⟩
  have D1 := D.later hb1 D.lt
  have E1 := bel_trans hb0 hb1
  have hg := hb0.size
  have hDg := D.lt
  generalize w0.heap.size = g at M hg hDg ⊢
  clear D hb0 hb1
  obtain ⟨d0, d1, d2, d3, d4, d5, d6, d7, d8⟩ := D1.nine
  have R := Box.new w1 2 #[.int .i64 r1, .int .i64 r2, .int .i64 r3, .int .i64 r4, .int .i64 r5, .int .i64 r6, .int .i64 r7]
  have M3 := M.alloc (.cells #[.int .i64 r1, .int .i64 r2, .int .i64 r3, .int .i64 r4, .int .i64 r5, .int .i64 r6, .int .i64 r7] 2)
  have D3 := D1.alloc (.cells #[.int .i64 r1, .int .i64 r2, .int .i64 r3, .int .i64 r4, .int .i64 r5, .int .i64 r6, .int .i64 r7] 2)
  have E3 := bel_trans E1 (bel_alloc w1 (.cells #[.int .i64 r1, .int .i64 r2, .int .i64 r3, .int .i64 r4, .int .i64 r5, .int .i64 r6, .int .i64 r7] 2))
  have hne := Nat.ne_of_gt M.lt
  have hDg' := Nat.ne_of_lt hDg
  clear D1 M E1
  go_wp2_with fail
  generalize (w1.alloc _ : World) = w3 at R M3 D3 E3 ⊢
  refine (mixInW_any g w1.heap.size 7 [r1, r2, r3, r4, r5, r6, r7] 7 w3 bd7 rfl (by omega) M3 R hne).mono ?_
  rintro e w4 ⟨rfl, M4, G⟩
  have D4 := D3.kept G (by intro e; injection e with e; omega)
  have E4 := bel_grown E3 G hg
  clear d0 d1 d2 d3 d4 d5 d6 d7 d8 R M3 D3 E3 G hne
  generalize hx : mixW 7 [r1, r2, r3, r4, r5, r6, r7] = x at M4 ⊢
  have HX := Lib.hid hx
  have hbx : Bd x := hx ▸ mixW_bd _ _ bd7
  clear hx
  obtain ⟨d0, d1, d2, d3, d4, d5, d6, d7, d8⟩ := D4.nine
  clear d0 d1 d2 d3 d4 d5 d6 d8
  go_wp2_with fail
  clear d7
  go_loopw [4, 30] (fun a i wr => ∃ (k : Nat) (y : Int), k ≤ m ∧ i = .int .i64 k ∧ a = .int .i64 y ∧ Hid (mixW x (flatI (ps.take k)) = y) ∧ Box wr g 2 #[.int .i64 y] ∧ Below w.heap.size w wr) (fun _ i _ => m - (intOf i).toNat)
  case atStart => exact ⟨0, x, by omega, rfl, rfl, rfl, M4, E4⟩
  case round =>
    clear M4 E4 D4
    obtain ⟨k, y, hk, rfl, rfl, hy, M, E⟩ := hrel
    by_cases hlt : k < m
    · obtain ⟨b, o, hA, hb, hc⟩ := (HR.out.below E (Nat.le_refl _)).2 (by omega)
      subst hA
      obtain ⟨c0, c1⟩ := hc k hlt
      have hbl := Nat.lt_of_lt_of_le hb E.size
      have HS : Hid (mixW x (flatI (ps.take (k + 1))) = mixW y [(pth ps k).1, (pth ps k).2]) := by
        show _ = _
        rw [flatI_snoc (by rw [HL.out]; exact hlt), mixW_app, hy.out]
      have hby : Bd y := by rw [← hy.out]; exact mixW_bd _ _ hbx
      clear hc
      generalize pth ps k = z at c0 c1 HS
      obtain ⟨z0, z1⟩ := z
      dsimp only at c0 c1 HS
      have S := Box.new wr 136 #[.int .i64 z0, .int .i64 z1]
      have M1 := M.alloc (.cells #[.int .i64 z0, .int .i64 z1] 136)
      have EA := bel_alloc wr (.cells #[.int .i64 z0, .int .i64 z1] 136)
      have R := Box.new (wr.alloc (.cells #[.int .i64 z0, .int .i64 z1] 136)) 2 #[.int .i64 z0, .int .i64 z1]
      have M2 := M1.alloc (.cells #[.int .i64 z0, .int .i64 z1] 2)
      have EB := bel_trans E (bel_trans EA (bel_alloc _ (.cells #[.int .i64 z0, .int .i64 z1] 2)))
      have hne := Nat.ne_of_gt M1.lt
      obtain ⟨s0, s1⟩ := S.two
      go_wp2_with fail
      simp only [World.size_alloc] at R hne
      generalize ((wr.alloc _).alloc _ : World) = w5 at R M2 EB ⊢
      clear S M M1 EA s0 s1 c0 c1
      refine (mixInW_any g (wr.heap.size + 1) 2 [z0, z1] y w5 hby rfl (by omega) M2 R hne).mono ?_
      rintro e w6 ⟨rfl, M6, G6⟩
      have E6 := bel_grown EB G6 hg
      clear R M2 EB G6
      generalize mixW y [z0, z1] = y' at HS M6 ⊢
      go_wp2
      go_roundw
      case rel => exact ⟨k + 1, y', by omega, by go_num, rfl, HS.out, M6, E6⟩
      case measure => simp [intOf]; omega
    · have hz := HL.out
      have HE : Hid (sumN r1 r2 r3 r4 r5 r6 r7 ps = y) := by
        show _ = _
        unfold sumN
        rw [mixW_app, HX.out, ← hy.out, List.take_of_length_le (by omega)]
      clear hz
      go_wp2
      go_ret
      exact ⟨by rw [HE.out]; rfl, E⟩
end Go.Proofs.YtjdepjpjjgkmbaaGreat
