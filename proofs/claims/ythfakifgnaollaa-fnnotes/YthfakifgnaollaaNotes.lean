/- The law FnNotes answers true, whatever bytes it is given: its walk; conditions: the bytes can be read. -/
import Derived.Test.YthfakifgnaollaaDrawNote5
import Derived.Test.YthfakifgnaollaaNote4
import Derived.Test.YthfakifgnaollaaSpecNote2
import Derived.Test.YthfakifgnaollaaBig
namespace Go.Proofs.Ythfakifgnaollaa
open Go.RowKit

theorem notes_big (A : Option Addr) (n cap : Nat) (w : World) (hm : n ≤ maxLen) (hb : 4096 < n) :
    Calls Try.prog 3 #[.slice A n cap] w fun e w' => e = .returned (.bool true) ∧ Below w.heap.size w w' := by
  have hd : decide (4096 < n) = true := by simpa using hb
  go_enter Try.func3, Try.ntmps3
  go_wp2_with (go_at_call 6; refine (big_any A n cap _ hm).mono ?_; rintro e w' ⟨rfl, rfl⟩)
  go_ret
  exact ⟨rfl, Below.refl _ _⟩

theorem ans_cases (k : Int) : ansN k = 0 ∨ ((ansN k == 0) = false ∧ ansN (ansN k) = 0 ∧ ansN k = k + 1 ∧ 1 ≤ k ∧ k ≤ 5) := by
  by_cases h1 : k = 1
  · subst h1; exact .inr ⟨rfl, rfl, rfl, by omega, by omega⟩
  by_cases h3 : k = 3
  · subst h3; exact .inr ⟨rfl, rfl, rfl, by omega, by omega⟩
  by_cases h5 : k = 5
  · subst h5; exact .inr ⟨rfl, rfl, rfl, by omega, by omega⟩
  · exact .inl (by simp [ansN, h1, h3, h5])

set_option maxRecDepth 100000 in
set_option maxHeartbeats 8000000 in
theorem notes_small (A : Option Addr) (n cap : Nat) (w : World) (hn : n ≤ 4096) (hB : Bytes w w.heap.size A n) :
    Calls Try.prog 3 #[.slice A n cap] w fun e w' => e = .returned (.bool true) ∧ Below w.heap.size w w' := by
  have hd : decide (4096 < n) = false := by simpa using hn
  have HM : Hid (n ≤ maxLen) := by show n ≤ maxLen; unfold maxLen; omega
  have HB := Lib.hid hB
  clear hB
  go_enter Try.func3, Try.ntmps3
  go_wp2_with fail
  refine (big_any A n cap _ HM.out).mono ?_
  rintro e w' ⟨rfl, rfl⟩
  go_wp2_with fail
  refine (drawNote_any A n cap w hn HB.out).mono ?_
  rintro e w1 ⟨s, l, c, sh, q', o, m, cap', zs, N, cv, mv, rfl, hrow, hm, hsh, hcer, hmor, hb1⟩
  obtain ⟨k1, k2, k3, k4, k5, t1, t2, v1, o1, o2, v2, l1, l2, v3, rfl⟩ := hsh
  obtain ⟨P, p, pc, ps, rfl, hp21, hps⟩ := hcer.pairs
  obtain ⟨Q, q, qc, qs, rfl, hq20, hqs⟩ := hmor.pairs
  have HX : Hid (m ≤ maxLen ∧ p ≤ maxLen ∧ q ≤ maxLen) := by show m ≤ maxLen ∧ p ≤ maxLen ∧ q ≤ maxLen; unfold maxLen; omega
  have F := bel_trans (bel_alloc w1 (.cells #[.int .i64 s, .int .i64 l, .int .i64 c, .int .i64 sh, .slice (some ⟨q', o, none⟩) m cap'] 26)) (bel_alloc _ (.cells #[.int .i64 k1, .int .i64 k2, .int .i64 k3, .int .i64 k4, .int .i64 k5, .int .i64 t1, .int .i64 t2, .int .i64 v1, .int .i64 o1, .int .i64 o2, .int .i64 v2, .slice P p pc, .slice Q q qc, .int .i64 l1, .int .i64 l2, .int .i64 v3] 31))
  have D2 := (Box.new w1 26 #[.int .i64 s, .int .i64 l, .int .i64 c, .int .i64 sh, .slice (some ⟨q', o, none⟩) m cap']).alloc (.cells #[.int .i64 k1, .int .i64 k2, .int .i64 k3, .int .i64 k4, .int .i64 k5, .int .i64 t1, .int .i64 t2, .int .i64 v1, .int .i64 o1, .int .i64 o2, .int .i64 v2, .slice P p pc, .slice Q q qc, .int .i64 l1, .int .i64 l2, .int .i64 v3] 31)
  have X2 := Box.new (w1.alloc (.cells #[.int .i64 s, .int .i64 l, .int .i64 c, .int .i64 sh, .slice (some ⟨q', o, none⟩) m cap'] 26)) 31 #[.int .i64 k1, .int .i64 k2, .int .i64 k3, .int .i64 k4, .int .i64 k5, .int .i64 t1, .int .i64 t2, .int .i64 v1, .int .i64 o1, .int .i64 o2, .int .i64 v2, .slice P p pc, .slice Q q qc, .int .i64 l1, .int .i64 l2, .int .i64 v3]
  simp only [World.size_alloc] at X2
  have E2 := bel_trans hb1 F
  have r2 := (hrow.below F (Nat.le_refl _)).more F.size
  have p2 := hps.later F
  have q2 := hqs.later F
  clear hrow hps hqs hcer hmor hb1 F
  go_upto_region 4 with fail
  generalize ((w1.alloc _).alloc _ : World) = w2 at D2 X2 E2 r2 p2 q2 ⊢
  go_cut [5] (fun v wr => v = .int .i64 (ansN k1) ∧ Box wr w1.heap.size 26 #[.int .i64 s, .int .i64 l, .int .i64 c, .int .i64 sh, .slice (some ⟨q', o, none⟩) m cap'] ∧ Box wr (w1.heap.size + 1) 31 #[.int .i64 k1, .int .i64 k2, .int .i64 k3, .int .i64 k4, .int .i64 k5, .int .i64 t1, .int .i64 t2, .int .i64 v1, .int .i64 o1, .int .i64 o2, .int .i64 v2, .slice P p pc, .slice Q q qc, .int .i64 l1, .int .i64 l2, .int .i64 v3] ∧ Below w.heap.size w wr ∧ Row wr wr.heap.size (some ⟨q', o, none⟩) m zs ∧ Pairs wr wr.heap.size P p ps ∧ Pairs wr wr.heap.size Q q qs)
  case first =>
    have HSI := Lib.hid (sizeN (N := #[.int .i64 k1, .int .i64 k2, .int .i64 k3, .int .i64 k4, .int .i64 k5, .int .i64 t1, .int .i64 t2, .int .i64 v1, .int .i64 o1, .int .i64 o2, .int .i64 v2, .slice P p pc, .slice Q q qc, .int .i64 l1, .int .i64 l2, .int .i64 v3]) rfl)
    go_wp2_with (refine wpList_load_box 31 _ rfl (w1.heap.size + 1) rfl 31 #[.int .i64 k1, .int .i64 k2, .int .i64 k3, .int .i64 k4, .int .i64 k5, .int .i64 t1, .int .i64 t2, .int .i64 v1, .int .i64 o1, .int .i64 o2, .int .i64 v2, .slice P p pc, .slice Q q qc, .int .i64 l1, .int .i64 l2, .int .i64 v3] X2 _ Try.underlying31 rfl HSI.out (by simp [Region.wanted, yielded]) ?_)
    refine (answer_is k1 k2 k3 k4 k5 t1 t2 v1 o1 o2 v2 P p pc Q q qc l1 l2 v3 w2).mono ?_
    rintro e w3 ⟨rfl, hb⟩
    have D3 := D2.later hb D2.lt
    have X3 := X2.later hb X2.lt
    have E3 := bel_trans E2 hb
    have r3 := (r2.below hb (Nat.le_refl _)).more hb.size
    have p3 := p2.later hb
    have q3 := q2.later hb
    clear D2 X2 E2 r2 p2 q2 hb
    go_wp2_with fail
    go_meet
    exact ⟨rfl, D3, X3, E3, r3, p3, q3⟩
  case rest =>
  obtain ⟨rfl, D3, X3, E3, r3, p3, q3⟩ := hcut
  obtain ⟨w3, rfl⟩ : ∃ x, x = wc := ⟨_, rfl⟩
  clear D2 X2 E2 r2 p2 q2
  obtain ⟨kk, hkk⟩ : ∃ kk, kk = ansN k1 := ⟨_, rfl⟩
  rw [← hkk]
  replace hkk := Lib.hid hkk
  go_upto_region 5 with fail
  go_cut [27] (fun v wr => v = .bool false ∧ Box wr (w1.heap.size + 1) 31 #[.int .i64 k1, .int .i64 k2, .int .i64 k3, .int .i64 k4, .int .i64 k5, .int .i64 t1, .int .i64 t2, .int .i64 v1, .int .i64 o1, .int .i64 o2, .int .i64 v2, .slice P p pc, .slice Q q qc, .int .i64 l1, .int .i64 l2, .int .i64 v3] ∧ Below w.heap.size w wr)
  case first =>
    obtain ⟨g0, g1, g2, g3, g4⟩ := fiveAfter D3
    obtain ⟨a0, a1, a2, a3, a4, a5, a6, a7, a8, a9, a10, a11, a12, a13, a14, a15⟩ := sixteenAfter X3
    generalize hb : ntB s l c sh zs k1 k2 k3 k4 k5 t1 t2 v1 o1 o2 v2 ps qs l1 l2 v3 = bn
    have HBN := Lib.hid hb
    clear hb
    have hff : (bn != bn) = false := by simp
    have hfk : (kk != kk) = false := by simp
    have C1 : Hid (∀ x : After w3, Calls Try.prog 9 #[.agg #[.int .i64 s, .int .i64 l, .int .i64 c, .int .i64 sh, .slice (some ⟨q', o, none⟩) m cap'], .agg #[.int .i64 k1, .int .i64 k2, .int .i64 k3, .int .i64 k4, .int .i64 k5, .int .i64 t1, .int .i64 t2, .int .i64 v1, .int .i64 o1, .int .i64 o2, .int .i64 v2, .slice P p pc, .slice Q q qc, .int .i64 l1, .int .i64 l2, .int .i64 v3]] x.x fun e w' => e = .returned (.bool bn) ∧ Below x.x.heap.size x.x w') := fun x => HBN.out ▸ noteN_is (N := #[.int .i64 k1, .int .i64 k2, .int .i64 k3, .int .i64 k4, .int .i64 k5, .int .i64 t1, .int .i64 t2, .int .i64 v1, .int .i64 o1, .int .i64 o2, .int .i64 v2, .slice P p pc, .slice Q q qc, .int .i64 l1, .int .i64 l2, .int .i64 v3]) rfl s l c sh _ m cap' zs ps qs _ HX.out.1 HX.out.2.1 HX.out.2.2 (rowAfter r3 x) (pairsAfter p3 x) (pairsAfter q3 x)
    have C2 : Hid (∀ x : After w3, Calls Try.prog 10 #[.agg #[.int .i64 s, .int .i64 l, .int .i64 c, .int .i64 sh, .slice (some ⟨q', o, none⟩) m cap'], .agg #[.int .i64 k1, .int .i64 k2, .int .i64 k3, .int .i64 k4, .int .i64 k5, .int .i64 t1, .int .i64 t2, .int .i64 v1, .int .i64 o1, .int .i64 o2, .int .i64 v2, .slice P p pc, .slice Q q qc, .int .i64 l1, .int .i64 l2, .int .i64 v3]] x.x fun e w' => e = .returned (.bool bn) ∧ Below x.x.heap.size x.x w') := fun x => HBN.out ▸ specNote_is s l c sh _ m cap' zs k1 k2 k3 k4 k5 t1 t2 v1 o1 o2 v2 P p pc Q q qc l1 l2 v3 ps qs _ HX.out.1 HX.out.2.1 HX.out.2.2 (rowAfter r3 x) (pairsAfter p3 x) (pairsAfter q3 x)
    have C3 : Hid (∀ x : After w3, Calls Try.prog 11 #[.agg #[.int .i64 k1, .int .i64 k2, .int .i64 k3, .int .i64 k4, .int .i64 k5, .int .i64 t1, .int .i64 t2, .int .i64 v1, .int .i64 o1, .int .i64 o2, .int .i64 v2, .slice P p pc, .slice Q q qc, .int .i64 l1, .int .i64 l2, .int .i64 v3]] x.x fun e w' => e = .returned (.int .i64 kk) ∧ Below x.x.heap.size x.x w') := fun x => by rw [hkk.out]; exact specAnswer_is k1 k2 k3 k4 k5 t1 t2 v1 o1 o2 v2 P p pc Q q qc l1 l2 v3 x.x
    go_wp2_with fail
    refine wp_region_after (by kernel_rfl) (by kernel_rfl) ?_
    repeat (first | go_big_quiet_step (first | (go_at_call 9; with_reducible exact after_of (C1.out _)) | (go_at_call 10; with_reducible exact after_of (C2.out _)) | (go_at_call 11; with_reducible exact after_of (C3.out _))) | quiet_step (first | (go_at_call 9; with_reducible exact after_of (C1.out _)) | (go_at_call 10; with_reducible exact after_of (C2.out _)) | (go_at_call 11; with_reducible exact after_of (C3.out _))))
    refine wpQuiet_nil ?_
    intro pw
    have X4 := X3.later pw.bel X3.lt
    have E4 := bel_trans E3 pw.bel
    clear C1 C2 C3 a0 a1 a2 a3 a4 a5 a6 a7 a8 a9 a10 a11 a12 a13 a14 a15 g0 g1 g2 g3 g4
    go_wp2_with fail
    go_meet
    exact ⟨rfl, X4, E4⟩
  case rest =>
  obtain ⟨rfl, X4, E4⟩ := hcut
  obtain ⟨w4, rfl⟩ : ∃ x, x = wc := ⟨_, rfl⟩
  clear D3 X3 E3 r3 p3 q3
  obtain ⟨a0, a1, a2, a3, a4, a5, a6, a7, a8, a9, a10, a11, a12, a13, a14, a15⟩ := sixteen X4
  have hke := hkk.out
  clear hkk
  rcases ans_cases k1 with h | ⟨h0, h1, h2, hk0, hk5⟩
  · obtain rfl : kk = 0 := hke.trans h
    clear hke h
    go_wp2
    go_ret
    exact ⟨rfl, E4⟩
  · rw [← hke] at h0 h1 h2
    have C := answer_is kk 0 0 0 0 0 0 0 0 0 0 none 0 0 none 0 0 0 0 0 w4
    rw [h1] at C
    have HC := Lib.hid C
    clear C h1 hke
    subst h2
    go_wp2_with fail
    refine HC.out.mono ?_
    rintro e w5 ⟨rfl, hb⟩
    have X5 := X4.later hb X4.lt
    have E5 := bel_trans E4 hb
    clear X4 E4 hb a0 a1 a2 a3 a4 a5 a6 a7 a8 a9 a10 a11 a12 a13 a14 a15 HC
    have a0 : w5.cell? ⟨w1.heap.size + 1, 0, none⟩ = some (.int .i64 k1) := X5.cell 0
    go_wp2
    go_ret
    exact ⟨by first | rfl | simp, E5⟩

end Go.Proofs.Ythfakifgnaollaa
