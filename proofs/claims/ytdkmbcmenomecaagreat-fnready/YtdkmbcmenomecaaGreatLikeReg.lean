/- laws.likeReg on two shelves that read alike. -/
import Derived.Test.YtdkmbcmenomecaaGreatLikes
import Derived.Test.YtdkmbcmenomecaaGreatRegBase
namespace Go.Proofs.YtdkmbcmenomecaaGreat
open Go.RowKit

set_option maxRecDepth 100000 in
set_option maxHeartbeats 4000000 in
theorem likeReg_is (rt rq rv : Int) (P : Option Addr) (p pc : Nat) (Q : Option Addr) (q qc : Nat) (P' : Option Addr) (pc' : Nat) (Q' : Option Addr) (qc' : Nat) (ps : List (Int × Int)) (os : List Opn) (w : World) (hp : p ≤ 1048576) (hq : q ≤ 1048576) (h1 : Pairs w w.heap.size P p ps) (h2 : Quads w w.heap.size Q q os) (h3 : Pairs w w.heap.size P' p ps) (h4 : Quads w w.heap.size Q' q os) :
    Calls Tryz.prog 10 #[.agg #[.int .i64 rt, .int .i64 rq, .int .i64 rv, .slice P p pc, .slice Q q qc], .agg #[.int .i64 rt, .int .i64 rq, .int .i64 rv, .slice P' p pc', .slice Q' q qc']] w fun e w' => e = .returned (.bool true) ∧ Below w.heap.size w w' := by
  have X0 := (Box.new w 32 #[.int .i64 rt, .int .i64 rq, .int .i64 rv, .slice P p pc, .slice Q q qc]).alloc (.cells #[.int .i64 rt, .int .i64 rq, .int .i64 rv, .slice P' p pc', .slice Q' q qc'] 32)
  have Y0 := Box.new (w.alloc (.cells #[.int .i64 rt, .int .i64 rq, .int .i64 rv, .slice P p pc, .slice Q q qc] 32)) 32 #[.int .i64 rt, .int .i64 rq, .int .i64 rv, .slice P' p pc', .slice Q' q qc']
  simp only [World.size_alloc] at Y0
  have E0 := bel_trans (bel_alloc w (.cells #[.int .i64 rt, .int .i64 rq, .int .i64 rv, .slice P p pc, .slice Q q qc] 32)) (bel_alloc _ (.cells #[.int .i64 rt, .int .i64 rq, .int .i64 rv, .slice P' p pc', .slice Q' q qc'] 32))
  have H1 := Lib.hid (h1.later E0)
  have H2 := Lib.hid (h2.later E0)
  have H3 := Lib.hid (h3.later E0)
  have H4 := Lib.hid (h4.later E0)
  clear h1 h2 h3 h4
  go_enter Tryz.func10, Tryz.ntmps10
  go_wp2_with fail
  generalize ((w.alloc _).alloc _ : World) = w0 at X0 Y0 E0 H1 H2 H3 H4 ⊢
  refine (like_is P P' p pc pc' ps w0 hp H1.out H3.out).mono ?_
  rintro e w1 ⟨rfl, hb⟩
  have X1 := X0.later hb X0.lt
  have Y1 := Y0.later hb Y0.lt
  have E1 := bel_trans E0 hb
  replace H2 := Lib.hid (H2.out.later hb)
  replace H4 := Lib.hid (H4.out.later hb)
  have c1 := X1.cell 4
  have c2 := Y1.cell 4
  clear X0 Y0 E0 hb H1 H3
  go_wp2_with fail
  clear c1 c2
  have hzw := E1.size
  go_loopw [5] (fun i wr => ∃ k : Nat, k ≤ q ∧ i = .int .i64 k ∧ Below w1.heap.size w1 wr) (fun i _ => q - (intOf i).toNat)
  case atStart => exact ⟨0, Nat.zero_le _, rfl, Below.refl _ _⟩
  case round =>
    obtain ⟨k, hk, rfl, hb⟩ := hrel
    have c1 := (X1.later hb X1.lt).cell 4
    have c2 := (Y1.later hb Y1.lt).cell 4
    have x1 := X1.lt
    have x2 := Y1.lt
    have hz := hb.size
    by_cases hlt : k < q
    · obtain ⟨b, o, hA, hbB, hcell⟩ := H2.out.2 (by omega)
      obtain ⟨b', o', hA', hbB', hcell'⟩ := H4.out.2 (by omega)
      subst hA hA'
      obtain ⟨g0, g1, g2, g3⟩ := hcell k hlt
      obtain ⟨h0, h1, h2, h3⟩ := hcell' k hlt
      have c1 := After.cell (w := wr) (a := ⟨w.heap.size, 4, none⟩) (by simp; omega) c1
      have c2 := After.cell (w := wr) (a := ⟨w.heap.size + 1, 4, none⟩) (by simp; omega) c2
      have g0 := After.cell (w := wr) (a := ⟨b, o + k * 4, none⟩) (by simp; omega) ((hb.cell (p := ⟨b, o + k * 4, none⟩) hbB).trans g0)
      have g1 := After.cell (w := wr) (a := ⟨b, o + k * 4 + 1, none⟩) (by simp; omega) ((hb.cell (p := ⟨b, o + k * 4 + 1, none⟩) hbB).trans g1)
      have g2 := After.cell (w := wr) (a := ⟨b, o + k * 4 + 2, none⟩) (by simp; omega) ((hb.cell (p := ⟨b, o + k * 4 + 2, none⟩) hbB).trans g2)
      have g3 := After.cell (w := wr) (a := ⟨b, o + k * 4 + 3, none⟩) (by simp; omega) ((hb.cell (p := ⟨b, o + k * 4 + 3, none⟩) hbB).trans g3)
      have h0 := After.cell (w := wr) (a := ⟨b', o' + k * 4, none⟩) (by simp; omega) ((hb.cell (p := ⟨b', o' + k * 4, none⟩) hbB').trans h0)
      have h1 := After.cell (w := wr) (a := ⟨b', o' + k * 4 + 1, none⟩) (by simp; omega) ((hb.cell (p := ⟨b', o' + k * 4 + 1, none⟩) hbB').trans h1)
      have h2 := After.cell (w := wr) (a := ⟨b', o' + k * 4 + 2, none⟩) (by simp; omega) ((hb.cell (p := ⟨b', o' + k * 4 + 2, none⟩) hbB').trans h2)
      have h3 := After.cell (w := wr) (a := ⟨b', o' + k * 4 + 3, none⟩) (by simp; omega) ((hb.cell (p := ⟨b', o' + k * 4 + 3, none⟩) hbB').trans h3)
      generalize oth os k = x at g0 g1 g2 g3 h0 h1 h2 h3
      obtain ⟨x, y, z, v⟩ := x
      have hlt' : (k : Int) < (q : Int) := by omega
      have c1' := (X1.later hb X1.lt).cell 4
      have c2' := (Y1.later hb Y1.lt).cell 4
      clear hcell hcell'
      go_wp2_with fail
      refine wp_region_after (by kernel_rfl) (by kernel_rfl) ?_
      repeat (first | go_big_quiet_step (fail) | quiet_step (fail))
      refine wpQuiet_nil ?_
      intro pw
      have E3 := bel_trans hb pw.bel
      go_wp2
      go_roundw
      case rel => exact ⟨k + 1, by omega, by go_num, E3⟩
      case measure => simp [intOf]; omega
    · go_wp2
      go_ret
      exact ⟨rfl, bel_trans E1 hb⟩

end Go.Proofs.YtdkmbcmenomecaaGreat
