/- What RegOk's parts compute (the program's): an open that is right, opens in order, seals that are as they are left: contracts of each of them. -/
import Derived.Test.YtjdepjpjjgkmbaaGreatNotedSeg0
import Derived.Test.YtjdepjpjjgkmbaaGreatStampBase
import Derived.Test.YtjdepjpjjgkmbaaGreatSink
import Derived.Test.YtjdepjpjjgkmbaaGreatGroup
import Derived.Test.YtjdepjpjjgkmbaaGreatBase
import Derived.Deep.AppendLies
import Derived.Laws.Pointers
import Derived.Deep.RegionLaw
import Derived.Deep.CutBlock
import Derived.Laws.AppendOwn
import Derived.Laws.AppendOwnNone
import Derived.ChangeKeysEq

/- What the model's functions of spec/l03_claim.go answer at every claim: contracts of each of them. -/
namespace Go.Proofs.YtjdepjpjjgkmbaaGreat
open Go.RowKit

theorem l3M_any (w : World) : Calls Tryz.prog 206 #[] w fun e w' => e = .returned (.int .i64 2147483647) ∧ w = w' := by
  go_enter Tryz.func206, Tryz.ntmps206
  go_wp2
  go_ret
  exact ⟨rfl, rfl⟩

theorem l3Value_any (x : Int) (w : World) : Calls Tryz.prog 196 #[.int .i64 x] w fun e w' => e = .returned (.bool (inB x 0 9999)) ∧ w = w' := by
  go_enter Tryz.func196, Tryz.ntmps196
  go_wp2_with (go_at_call 174; refine (l1In_any _ _ _ _).mono ?_; rintro e w' ⟨rfl, rfl⟩)
  go_ret
  exact ⟨rfl, rfl⟩

set_option maxHeartbeats 400000 in
theorem specClaim_any (ck ch ct cq cv : Int) (w : World) :
    Calls Tryz.prog 221 #[.agg #[.int .i64 ck, .int .i64 ch, .int .i64 ct, .int .i64 cq, .int .i64 cv]] w fun e w' => e = .returned (.bool (clB ck ch ct cq cv)) ∧ Below w.heap.size w w' := by
  have D := Box.new w 180 #[.int .i64 ck, .int .i64 ch, .int .i64 ct, .int .i64 cq, .int .i64 cv]
  have hb0 := bel_alloc w (.cells #[.int .i64 ck, .int .i64 ch, .int .i64 ct, .int .i64 cq, .int .i64 cv] 180)
  rcases h1 : inB ck 1 2 with _ | _
  · have e := Lib.hid (clB_1 h1 ch ct cq cv)
    go_enter Tryz.func221, Tryz.ntmps221
    go_wp2_with (go_at_call 174; refine (l1In_any _ _ _ _).mono ?_; rintro e w' ⟨rfl, rfl⟩)
    go_ret
    exact ⟨by rw [e.out]; rfl, hb0⟩
  rcases h2 : inB ch 0 3 with _ | _
  · have e := Lib.hid (clB_2 h2 ck ct cq cv)
    go_enter Tryz.func221, Tryz.ntmps221
    go_wp2_with (go_at_call 174; refine (l1In_any _ _ _ _).mono ?_; rintro e w' ⟨rfl, rfl⟩)
    go_ret
    exact ⟨by rw [e.out]; rfl, hb0⟩
  rcases h3 : stB ct cq with _ | _
  · have e := Lib.hid (clB_3 h3 ck ch cv)
    go_enter Tryz.func221, Tryz.ntmps221
    go_wp2_with (first | (go_at_call 174; refine (l1In_any _ _ _ _).mono ?_; rintro e w' ⟨rfl, rfl⟩) | (go_at_call 195; refine (specStampOk_any ct cq _).mono ?_; rintro e w1 ⟨rfl, hb1⟩))
    go_ret
    exact ⟨by rw [e.out]; rfl, bel_trans hb0 hb1⟩
  · have e := Lib.hid (clB_4 h1 h2 h3 cv)
    go_enter Tryz.func221, Tryz.ntmps221
    go_wp2_with (first | (go_at_call 174; refine (l1In_any _ _ _ _).mono ?_; rintro e w' ⟨rfl, rfl⟩) | (go_at_call 196; refine (l3Value_any _ _).mono ?_; rintro e w' ⟨rfl, rfl⟩) | (go_at_call 195; refine (specStampOk_any ct cq _).mono ?_; rintro e w1 ⟨rfl, hb1⟩; obtain ⟨d0, d1, d2, d3, d4⟩ := (D.later hb1 D.lt).five))
    go_ret
    exact ⟨by rw [e.out]; rfl, bel_trans hb0 hb1⟩

set_option maxHeartbeats 400000 in
theorem l3Mix_any (b n : Nat) (zs : List Int) (w : World) (hz : mixable zs) (hl : zs.length = n) (hn : n ≤ 16) (hr : Box w b 2 (zs.map (Value.int .i64)).toArray) :
    Calls Tryz.prog 188 #[.slice (some ⟨b, 0, none⟩) n n] w fun e w' => e = .returned (.int .i64 (mixN 7 zs)) ∧ Below w.heap.size w w' := by
  have HZ := Lib.hid hz
  have HL := Lib.hid hl
  have HR := Lib.hid hr
  clear hz hl hr
  go_enter Tryz.func188, Tryz.ntmps188
  go_wp2_with fail
  go_loopw [3, 4] (fun a i wr => ∃ (k : Nat) (y : Int), k ≤ n ∧ i = .int .i64 k ∧ a = .int .i64 y ∧ Hid (mixN 7 (zs.take k) = y) ∧ Below w.heap.size w wr) (fun _ i _ => n - (intOf i).toNat)
  case atStart => exact ⟨0, 7, by omega, rfl, rfl, rfl, Below.refl _ _⟩
  case round =>
    obtain ⟨k, y, hk, rfl, rfl, hy, E⟩ := hrel
    by_cases hlt : k < n
    · have R := HR.out.later E HR.out.lt
      have hr := After.cell (a := ⟨b, k, none⟩) R.lt (R.ints (i := k) (by rw [HL.out]; exact hlt))
      have hzk := HZ.out k (by rw [HL.out]; exact hlt)
      have HS : Hid (mixN 7 (zs.take (k + 1)) = mix1 y (nth zs k)) := by show _ = _; rw [mixN_snoc (by rw [HL.out]; exact hlt), hy.out]
      obtain ⟨hy0, hy1⟩ : 0 ≤ y ∧ y ≤ 2147483646 := by rw [← hy.out]; exact mixN_bd _ _ (by omega) (by omega)
      generalize nth zs k = z at hr hzk HS
      obtain ⟨hz0, hz1⟩ := hzk
      have hlt' : (k : Int) < (n : Int) := by omega
      have i1 : IntKind.i64.wrap (48271 * y) = 48271 * y := IntWalk.i64_in _ (by omega)
      have i2 : IntKind.i64.wrap (48271 * y + z) = 48271 * y + z := IntWalk.i64_in _ (by omega)
      have i3 : IntKind.i64.wrap (48271 * y + z + 1) = 48271 * y + z + 1 := IntWalk.i64_in _ (by omega)
      have ht := mix1_tmod hy0 hz0
      have i4 : IntKind.i64.wrap (mix1 y z) = mix1 y z := IntWalk.i64_in _ (by have := mix1_bd y z; omega)
      clear R
      go_wp2_with fail
      refine wp_region_after (by kernel_rfl) (by kernel_rfl) ?_
      repeat (first | go_big_quiet_step ((go_at_call 206; exact after_same (l3M_any _))) | quiet_step ((go_at_call 206; exact after_same (l3M_any _))))
      refine wpQuiet_nil ?_
      intro p
      clear i1 i2 i3 i4 ht
      go_wp2
      go_roundw
      case rel => exact ⟨k + 1, mix1 y z, by omega, by go_num, rfl, HS.out, bel_trans E p.bel⟩
      case measure => simp [intOf]; omega
    · have hz := HL.out
      have HE : Hid (mixN 7 zs = y) := by show _ = _; rw [← hy.out, List.take_of_length_le (by omega)]
      clear hz
      go_wp2
      go_ret
      exact ⟨by rw [HE.out]; rfl, E⟩

set_option maxHeartbeats 400000 in
theorem specDigest_any (ck ch ct cq cv : Int) (w : World) :
    Calls Tryz.prog 222 #[.agg #[.int .i64 ck, .int .i64 ch, .int .i64 ct, .int .i64 cq, .int .i64 cv]] w fun e w' => e = .returned (.int .i64 (digN ck ch ct cq cv)) ∧ Below w.heap.size w w' := by
  have D := Box.new w 180 #[.int .i64 ck, .int .i64 ch, .int .i64 ct, .int .i64 cq, .int .i64 cv]
  have hb0 := bel_alloc w (.cells #[.int .i64 ck, .int .i64 ch, .int .i64 ct, .int .i64 cq, .int .i64 cv] 180)
  go_enter Tryz.func222, Tryz.ntmps222
  go_wp2_with fail
  generalize (w.alloc _ : World) = w0 at hb0 D ⊢
  refine (specClaim_any ck ch ct cq cv w0).mono ?_
  rintro e w1 ⟨rfl, hb1⟩
  have D1 := D.later hb1 D.lt
  have E1 := bel_trans hb0 hb1
  clear D hb0 hb1
  rcases h1 : clB ck ch ct cq cv with _ | _
  · have e := Lib.hid (digN_no h1)
    go_wp2
    go_ret
    exact ⟨by rw [e.out]; rfl, E1⟩
  have e := Lib.hid (digN_yes h1)
  have H1 := Lib.hid (mixable_claim h1)
  obtain ⟨d0, d1, d2, d3, d4⟩ := D1.five
  have R := Box.new w1 2 #[.int .i64 ck, .int .i64 ch, .int .i64 ct, .int .i64 cq, .int .i64 cv]
  have E3 := bel_trans E1 (bel_alloc w1 (.cells #[.int .i64 ck, .int .i64 ch, .int .i64 ct, .int .i64 cq, .int .i64 cv] 2))
  go_wp2_with fail
  generalize (w1.alloc _ : World) = w3 at R E3 ⊢
  refine (l3Mix_any w1.heap.size 5 [ck, ch, ct, cq, cv] w3 H1.out rfl (by omega) R).mono ?_
  rintro e w4 ⟨rfl, G⟩
  go_wp2
  go_ret
  exact ⟨by rw [e.out]; rfl, bel_trans E3 G⟩

end Go.Proofs.YtjdepjpjjgkmbaaGreat

/- What the functions of impl/l03_claim.go answer at every claim: contracts of each of them. -/
namespace Go.Proofs.YtjdepjpjjgkmbaaGreat
open Go.RowKit

set_option maxHeartbeats 400000 in
theorem claimOk_any (ck ch ct cq cv : Int) (w : World) :
    Calls Tryz.prog 253 #[.agg #[.int .i64 ck, .int .i64 ch, .int .i64 ct, .int .i64 cq, .int .i64 cv]] w fun e w' => e = .returned (.bool (clB ck ch ct cq cv)) ∧ Below w.heap.size w w' := by
  have D := Box.new w 180 #[.int .i64 ck, .int .i64 ch, .int .i64 ct, .int .i64 cq, .int .i64 cv]
  have hb0 := bel_alloc w (.cells #[.int .i64 ck, .int .i64 ch, .int .i64 ct, .int .i64 cq, .int .i64 cv] 180)
  rcases h1 : inB ck 1 2 with _ | _
  · have e := Lib.hid (clB_1 h1 ch ct cq cv)
    go_enter Tryz.func253, Tryz.ntmps253
    go_wp2_with (go_at_call 143; refine (within_any _ _ _ _).mono ?_; rintro e w' ⟨rfl, rfl⟩)
    go_ret
    exact ⟨by rw [e.out]; rfl, hb0⟩
  rcases h2 : inB ch 0 3 with _ | _
  · have e := Lib.hid (clB_2 h2 ck ct cq cv)
    go_enter Tryz.func253, Tryz.ntmps253
    go_wp2_with (go_at_call 143; refine (within_any _ _ _ _).mono ?_; rintro e w' ⟨rfl, rfl⟩)
    go_ret
    exact ⟨by rw [e.out]; rfl, hb0⟩
  rcases h3 : stB ct cq with _ | _
  · have e := Lib.hid (clB_3 h3 ck ch cv)
    go_enter Tryz.func253, Tryz.ntmps253
    go_wp2_with (first | (go_at_call 143; refine (within_any _ _ _ _).mono ?_; rintro e w' ⟨rfl, rfl⟩) | (go_at_call 114; refine (stampOk_any ct cq _).mono ?_; rintro e w1 ⟨rfl, hb1⟩))
    go_ret
    exact ⟨by rw [e.out]; rfl, bel_trans hb0 hb1⟩
  · have e := Lib.hid (clB_4 h1 h2 h3 cv)
    go_enter Tryz.func253, Tryz.ntmps253
    go_wp2_with (first | (go_at_call 143; refine (within_any _ _ _ _).mono ?_; rintro e w' ⟨rfl, rfl⟩) | (go_at_call 114; refine (stampOk_any ct cq _).mono ?_; rintro e w1 ⟨rfl, hb1⟩; obtain ⟨d0, d1, d2, d3, d4⟩ := (D.later hb1 D.lt).five))
    go_ret
    exact ⟨by rw [e.out]; rfl, bel_trans hb0 hb1⟩

/-- A mixer is made: a new variable that has 7. -/
theorem mixer_any (w : World) :
    Calls Tryz.prog 189 #[] w fun e w' => e = .returned (.func (.func 223) #[] #[.pointer (some ⟨w.heap.size, 0, none⟩)]) ∧ Box w' w.heap.size 2 #[.int .i64 7] ∧ Below w.heap.size w w' := by
  have D := Box.new w 2 #[.int .i64 7]
  go_enter Tryz.func189, Tryz.ntmps189
  go_wp2
  go_ret
  exact ⟨rfl, D, bel_alloc _ _⟩

set_option maxHeartbeats 400000 in
/-- Numbers are mixed into what a mixer has. -/
theorem mixIn_any (g b n : Nat) (zs : List Int) (x : Int) (w : World) (hx0 : 0 ≤ x) (hx1 : x ≤ 2147483646) (hz : mixable zs) (hl : zs.length = n) (hn : n ≤ 16)
    (hB : Box w g 2 #[.int .i64 x]) (hr : Box w b 2 (zs.map (Value.int .i64)).toArray) (hne : b ≠ g) :
    Calls Tryz.prog 223 #[.slice (some ⟨b, 0, none⟩) n n, .pointer (some ⟨g, 0, none⟩)] w fun e w' => e = .returned (.int .i64 (mixN x zs)) ∧ w.grownBy w' (some g) := by
  have HZ := Lib.hid hz
  have HL := Lib.hid hl
  have HX := Lib.hid (And.intro hx0 hx1)
  have HR := Lib.hid hr
  clear hz hl hr hx0 hx1
  go_enter Tryz.func223, Tryz.ntmps223
  go_wp2_with fail
  go_loopw [8] (fun i wr => ∃ (k : Nat) (y : Int), k ≤ n ∧ i = .int .i64 k ∧ Hid (mixN x (zs.take k) = y) ∧ Box wr g 2 #[.int .i64 y] ∧ w.grownBy wr (some g)) (fun i _ => n - (intOf i).toNat)
  case atStart => exact ⟨0, x, by omega, rfl, rfl, hB, grown_refl _ _⟩
  case round =>
    obtain ⟨k, y, hk, rfl, hy, Y, G⟩ := hrel
    have y0 := Y.cell 0
    have fy := Y.frozen
    by_cases hlt : k < n
    · have hr := (HR.out.kept G (by intro e; injection e with e; exact hne e.symm)).ints (i := k) (by rw [HL.out]; exact hlt)
      have hzk := HZ.out k (by rw [HL.out]; exact hlt)
      have HS : Hid (mixN x (zs.take (k + 1)) = mix1 y (nth zs k)) := by show _ = _; rw [mixN_snoc (by rw [HL.out]; exact hlt), hy.out]
      obtain ⟨hy0, hy1⟩ : 0 ≤ y ∧ y ≤ 2147483646 := by rw [← hy.out]; exact mixN_bd _ _ HX.out.1 HX.out.2
      generalize nth zs k = z at hr hzk HS
      obtain ⟨hz0, hz1⟩ := hzk
      go_wp2
      go_roundw
      case rel => exact ⟨k + 1, _, by omega, by go_num, HS.out, Y.set 0 (.int .i64 (mix1 y z)), grown_set G 0 _⟩
      case measure => simp [intOf]; omega
    · have hz := HL.out
      have HE : Hid (mixN x zs = y) := by show _ = _; rw [← hy.out, List.take_of_length_le (by omega)]
      clear hz
      go_wp2
      go_ret
      exact ⟨by rw [HE.out]; rfl, G⟩

set_option maxHeartbeats 400000 in
theorem digest_any (ck ch ct cq cv : Int) (w : World) :
    Calls Tryz.prog 254 #[.agg #[.int .i64 ck, .int .i64 ch, .int .i64 ct, .int .i64 cq, .int .i64 cv]] w fun e w' => e = .returned (.int .i64 (digN ck ch ct cq cv)) ∧ Below w.heap.size w w' := by
  have D := Box.new w 180 #[.int .i64 ck, .int .i64 ch, .int .i64 ct, .int .i64 cq, .int .i64 cv]
  have hb0 := bel_alloc w (.cells #[.int .i64 ck, .int .i64 ch, .int .i64 ct, .int .i64 cq, .int .i64 cv] 180)
  go_enter Tryz.func254, Tryz.ntmps254
  go_wp2_with fail
  generalize (w.alloc _ : World) = w0 at hb0 D ⊢
  refine (claimOk_any ck ch ct cq cv w0).mono ?_
  rintro e w1 ⟨rfl, hb1⟩
  have D1 := D.later hb1 D.lt
  have E1 := bel_trans hb0 hb1
  clear D hb0 hb1
  rcases h1 : clB ck ch ct cq cv with _ | _
  · have e := Lib.hid (digN_no h1)
    go_wp2
    go_ret
    exact ⟨by rw [e.out]; rfl, E1⟩
  have e := Lib.hid (digN_yes h1)
  have H1 := Lib.hid (mixable_claim h1)
  go_wp2_with fail
  refine (mixer_any w1).mono ?_
  rintro e w2 ⟨rfl, M, hb2⟩
  have D2 := D1.later hb2 D1.lt
  have E2 := bel_trans E1 hb2
  have hs := E1.size
  clear D1 hb2 E1
  obtain ⟨d0, d1, d2, d3, d4⟩ := D2.five
  have R := Box.new w2 2 #[.int .i64 ck, .int .i64 ch, .int .i64 ct, .int .i64 cq, .int .i64 cv]
  have M3 := M.alloc (.cells #[.int .i64 ck, .int .i64 ch, .int .i64 ct, .int .i64 cq, .int .i64 cv] 2)
  have E3 := bel_trans E2 (bel_alloc w2 (.cells #[.int .i64 ck, .int .i64 ch, .int .i64 ct, .int .i64 cq, .int .i64 cv] 2))
  have hne := Nat.ne_of_gt M.lt
  go_wp2_with fail
  generalize (w2.alloc _ : World) = w3 at R M3 E3 ⊢
  refine (mixIn_any w1.heap.size w2.heap.size 5 [ck, ch, ct, cq, cv] 7 w3 (by omega) (by omega) H1.out rfl (by omega) M3 R hne).mono ?_
  rintro e w4 ⟨rfl, G⟩
  go_wp2
  go_ret
  exact ⟨by rw [e.out]; rfl, bel_grown E3 G hs⟩

end Go.Proofs.YtjdepjpjjgkmbaaGreat

/- What SealOf and SealRight of impl/l03_claim.go answer at every group, claim and seal: contracts of each of them. -/
namespace Go.Proofs.YtjdepjpjjgkmbaaGreat
open Go.RowKit

/-- What a seal's making reads is as it was. -/
theorem sealKeep {w w' : World} {g gc b o : Nat} {tg tc : TypeId} {v0 v1 v2 v3 v4 u0 u1 u2 u3 u4 kv : Value} {r : Option Nat} (DG : Box w g tg #[v0, v1, v2, v3, v4]) (DC : Box w gc tc #[u0, u1, u2, u3, u4]) (hb : b < w.heap.size) (k : w.cell? ⟨b, o, none⟩ = some kv)
    (G : w.grownBy w' r) (h1 : r ≠ some g) (h2 : r ≠ some gc) (h3 : r ≠ some b) :
    w'.cell? ⟨g, 4, none⟩ = some v4 ∧ w'.cell? ⟨gc, 0, none⟩ = some u0 ∧ w'.cell? ⟨gc, 1, none⟩ = some u1 ∧ w'.cell? ⟨gc, 2, none⟩ = some u2 ∧ w'.cell? ⟨gc, 3, none⟩ = some u3 ∧ w'.cell? ⟨gc, 4, none⟩ = some u4 ∧ w'.cell? ⟨b, o, none⟩ = some kv :=
  ⟨(DG.kept G h1).cell 4, (DC.kept G h2).cell 0, (DC.kept G h2).cell 1, (DC.kept G h2).cell 2, (DC.kept G h2).cell 3, (DC.kept G h2).cell 4, (World.cell?_of_block (G.block b hb (fun e => h3 e.symm))).trans k⟩

/-- And so where two cells of another block are written. -/
theorem sealSet {w : World} {g gc b o q : Nat} {v4 u0 u1 u2 u3 u4 kv x y : Value}
    (K : w.cell? ⟨g, 4, none⟩ = some v4 ∧ w.cell? ⟨gc, 0, none⟩ = some u0 ∧ w.cell? ⟨gc, 1, none⟩ = some u1 ∧ w.cell? ⟨gc, 2, none⟩ = some u2 ∧ w.cell? ⟨gc, 3, none⟩ = some u3 ∧ w.cell? ⟨gc, 4, none⟩ = some u4 ∧ w.cell? ⟨b, o, none⟩ = some kv)
    (h1 : g ≠ q) (h2 : gc ≠ q) (h3 : b ≠ q) (w' : World) (hw : w' = (w.setCell ⟨q, 0, none⟩ x).setCell ⟨q, 1, none⟩ y) :
    w'.cell? ⟨g, 4, none⟩ = some v4 ∧ w'.cell? ⟨gc, 0, none⟩ = some u0 ∧ w'.cell? ⟨gc, 1, none⟩ = some u1 ∧ w'.cell? ⟨gc, 2, none⟩ = some u2 ∧ w'.cell? ⟨gc, 3, none⟩ = some u3 ∧ w'.cell? ⟨gc, 4, none⟩ = some u4 ∧ w'.cell? ⟨b, o, none⟩ = some kv := by
  have F : ∀ b o, b ≠ q → w'.cell? ⟨b, o, none⟩ = w.cell? ⟨b, o, none⟩ := fun b o h => by
    rw [hw, World.cell?_setCell_other _ _ _ _ (fun e => h (congrArg Addr.block e).symm), World.cell?_setCell_other _ _ _ _ (fun e => h (congrArg Addr.block e).symm)]
  simp only [F _ _ h1, F _ _ h2, F _ _ h3]
  exact K

set_option maxHeartbeats 1000000 in
theorem sealOf_any (s l c sh : Int) (A : Option Addr) (n cap : Nat) (zs : List Int) (ck ch ct cq cv x : Int) (w : World) (hm : n ≤ maxLen) (hr : Row w w.heap.size A n zs) :
    Calls Tryz.prog 247 #[.agg #[.int .i64 s, .int .i64 l, .int .i64 c, .int .i64 sh, .slice A n cap], .agg #[.int .i64 ck, .int .i64 ch, .int .i64 ct, .int .i64 cq, .int .i64 cv], .int .i64 x] w fun e w' => e = .returned (seV s l c sh zs ck ch ct cq cv x) ∧ Below w.heap.size w w' := by
  have HR := Lib.hid hr
  have HM := Lib.hid hm
  clear hr hm
  have DG := ((Box.new w 26 #[.int .i64 s, .int .i64 l, .int .i64 c, .int .i64 sh, .slice A n cap]).alloc (.cells #[.int .i64 ck, .int .i64 ch, .int .i64 ct, .int .i64 cq, .int .i64 cv] 180)).alloc (.cells #[.int .i64 0, .int .i64 0] 136)
  have DC := (Box.new (w.alloc (.cells #[.int .i64 s, .int .i64 l, .int .i64 c, .int .i64 sh, .slice A n cap] 26)) 180 #[.int .i64 ck, .int .i64 ch, .int .i64 ct, .int .i64 cq, .int .i64 cv]).alloc (.cells #[.int .i64 0, .int .i64 0] 136)
  have X := Box.new ((w.alloc (.cells #[.int .i64 s, .int .i64 l, .int .i64 c, .int .i64 sh, .slice A n cap] 26)).alloc (.cells #[.int .i64 ck, .int .i64 ch, .int .i64 ct, .int .i64 cq, .int .i64 cv] 180)) 136 #[.int .i64 0, .int .i64 0]
  have hb0 := bel_trans (bel_trans (bel_alloc w (.cells #[.int .i64 s, .int .i64 l, .int .i64 c, .int .i64 sh, .slice A n cap] 26)) (bel_alloc _ (.cells #[.int .i64 ck, .int .i64 ch, .int .i64 ct, .int .i64 cq, .int .i64 cv] 180))) (bel_alloc _ (.cells #[.int .i64 0, .int .i64 0] 136))
  simp only [World.size_alloc] at DC X
  go_enter Tryz.func247, Tryz.ntmps247
  go_wp2_with fail
  generalize (((w.alloc _).alloc _).alloc _ : World) = w0 at hb0 DG DC X ⊢
  refine (claimOk_any ck ch ct cq cv w0).mono ?_
  rintro e w1 ⟨rfl, hb1⟩
  have DG1 := DG.later hb1 DG.lt
  have DC1 := DC.later hb1 DC.lt
  have X1 := X.later hb1 X.lt
  have E1 := bel_trans hb0 hb1
  clear DG DC X hb0 hb1
  rcases h1 : clB ck ch ct cq cv with _ | _
  · have H := Lib.hid (seV_no (seB_1 h1 s l c sh zs x))
    obtain ⟨x0, x1⟩ := X1.two
    have fx := X1.frozen
    go_wp2
    exact bodyPost_ret (v := .tuple #[.agg #[.int .i64 0, .int .i64 0], .bool false]) (by simp [results, Tryz.results247, go_sem, x0, x1]) rfl ⟨by rw [H.out], (E1.setCell (by simp; omega) _).setCell (by simp; omega) _⟩
  obtain ⟨g0, g1, g2, g3, g4⟩ := DG1.five
  go_wp2_with fail
  refine (server_any s l c sh A n cap zs x w1 HM.out ((HR.out.below E1 (Nat.le_refl _)).more E1.size)).mono ?_
  rintro e w2 ⟨rfl, hb2⟩
  have DG2 := DG1.later hb2 DG1.lt
  have DC2 := DC1.later hb2 DC1.lt
  have X2 := X1.later hb2 X1.lt
  have E2 := bel_trans E1 hb2
  clear DG1 DC1 X1 E1 hb2 g0 g1 g2 g3 g4
  rcases h2 : srvB s l c sh zs x with _ | _
  · have H := Lib.hid (seV_no (seB_2 h2 ck ch ct cq cv))
    obtain ⟨x0, x1⟩ := X2.two
    have fx := X2.frozen
    go_wp2
    exact bodyPost_ret (v := .tuple #[.agg #[.int .i64 0, .int .i64 0], .bool false]) (by simp [results, Tryz.results247, go_sem, x0, x1]) rfl ⟨by rw [H.out], (E2.setCell (by simp; omega) _).setCell (by simp; omega) _⟩
  have H := Lib.hid (seV_yes (seB_3 h1 h2))
  have HX := Lib.hid (mixable_seal h1 h2)
  obtain ⟨hx0, hx9, hxn, hk1, hk2⟩ := srvB_key h2
  have hzn := HR.out.1
  rw [hzn] at hxn
  obtain ⟨b, o, hA, hbB, hcell⟩ := HR.out.2 (by omega)
  subst hA
  have hxk := hcell x.toNat hxn
  have hxi : x < (n : Int) := by omega
  go_wp2_with fail
  refine (mixer_any w2).mono ?_
  rintro e w3 ⟨rfl, M, hb3⟩
  have DG3 := DG2.later hb3 DG2.lt
  have DC3 := DC2.later hb3 DC2.lt
  have X3 := X2.later hb3 X2.lt
  have E3 := bel_trans E2 hb3
  have hs2 := E2.size
  have hxl := X2.lt
  clear DG2 DC2 X2 E2 hb3
  obtain ⟨g0, g1, g2, g3, g4⟩ := DG3.five
  obtain ⟨c0, c1, c2, c3, c4⟩ := DC3.five
  have k0 := (E3.cell (p := ⟨b, o + x.toNat, none⟩) hbB).trans hxk
  clear hcell hxk hzn
  have hbl : b < w3.heap.size := Nat.lt_of_lt_of_le hbB E3.size
  have hn1 : w.heap.size ≠ w.heap.size + 1 + 1 := by omega
  have hn2 : b ≠ w.heap.size + 1 + 1 := by omega
  have hn3 : w.heap.size + 1 ≠ w.heap.size + 1 + 1 := by omega
  go_wp2_with fail
  go_region_held3 (fun w' => w'.cell? ⟨w.heap.size, 4, none⟩ = some (.slice (some ⟨b, o, none⟩) n cap) ∧ w'.cell? ⟨w.heap.size + 1, 0, none⟩ = some (.int .i64 ck) ∧ w'.cell? ⟨w.heap.size + 1, 1, none⟩ = some (.int .i64 ch) ∧ w'.cell? ⟨w.heap.size + 1, 2, none⟩ = some (.int .i64 ct) ∧ w'.cell? ⟨w.heap.size + 1, 3, none⟩ = some (.int .i64 cq) ∧ w'.cell? ⟨w.heap.size + 1, 4, none⟩ = some (.int .i64 cv) ∧ w'.cell? ⟨b, o + x.toNat, none⟩ = some (.int .i64 (nth zs x.toNat))) (first | (with_reducible exact sealSet K6 hn1 hn3 hn2 _ rfl) | (with_reducible exact K6) | (with_reducible exact K5) | go_keep)
    (first
      | (go_at_call 254; refine (digest_any ck ch ct cq cv _).mono ?_; rintro e w5 ⟨rfl, hb5⟩; have F5 := bel_drew' hb5; have K5 := sealKeep DG3 DC3 hbl k0 (grown_bel F5 none) (by simp) (by simp) (by simp))
      | (go_at_call 223; refine (mixIn_any w2.heap.size w5.heap.size 3 [nth zs x.toNat, digN ck ch ct cq cv, x] 7 _ (by omega) (by omega) HX.out rfl (by omega) ?_ ?_ ?_).mono ?_; exact (M.later F5 M.lt).alloc _; exact Box.new w5 2 _; exact Nat.ne_of_gt (M.later F5 M.lt).lt; rintro e w6 ⟨rfl, G6⟩; have G7 := grown_trans (grown_alloc (grown_bel F5 (some w2.heap.size)) _) G6; have K6 := sealKeep DG3 DC3 hbl k0 G7 (by simp; omega) (by simp; omega) (by simp; omega); have X6 := X3.kept G7 (by simp; omega); have E6 := bel_grown E3 G7 hs2; clear G6; obtain ⟨x0, x1⟩ := X6.two; have fx := X6.frozen))
  go_wp2
  exact bodyPost_ret (v := .tuple #[.agg #[.int .i64 x, .int .i64 (tagN zs ck ch ct cq cv x)], .bool true]) (by simp [results, Tryz.results247, go_sem, x0, x1]; rfl) rfl ⟨by rw [H.out], (E6.setCell (by simp; omega) _).setCell (by simp; omega) _⟩

set_option maxHeartbeats 1000000 in
theorem sealRight_any (s l c sh : Int) (A : Option Addr) (n cap : Nat) (zs : List Int) (ck ch ct cq cv x t : Int) (w : World) (hm : n ≤ maxLen) (hr : Row w w.heap.size A n zs) :
    Calls Tryz.prog 244 #[.agg #[.int .i64 s, .int .i64 l, .int .i64 c, .int .i64 sh, .slice A n cap], .agg #[.int .i64 ck, .int .i64 ch, .int .i64 ct, .int .i64 cq, .int .i64 cv], .agg #[.int .i64 x, .int .i64 t]] w fun e w' => e = .returned (.bool (riB s l c sh zs ck ch ct cq cv x t)) ∧ Below w.heap.size w w' := by
  have HR := Lib.hid hr
  have HM := Lib.hid hm
  clear hr hm
  have X := Box.new ((w.alloc (.cells #[.int .i64 s, .int .i64 l, .int .i64 c, .int .i64 sh, .slice A n cap] 26)).alloc (.cells #[.int .i64 ck, .int .i64 ch, .int .i64 ct, .int .i64 cq, .int .i64 cv] 180)) 136 #[.int .i64 x, .int .i64 t]
  have hb0 := bel_trans (bel_trans (bel_alloc w (.cells #[.int .i64 s, .int .i64 l, .int .i64 c, .int .i64 sh, .slice A n cap] 26)) (bel_alloc _ (.cells #[.int .i64 ck, .int .i64 ch, .int .i64 ct, .int .i64 cq, .int .i64 cv] 180))) (bel_alloc _ (.cells #[.int .i64 x, .int .i64 t] 136))
  simp only [World.size_alloc] at X
  go_enter Tryz.func244, Tryz.ntmps244
  go_wp2_with fail
  generalize (((w.alloc _).alloc _).alloc _ : World) = w0 at hb0 X ⊢
  have C := sealOf_any s l c sh A n cap zs ck ch ct cq cv x w0 HM.out ((HR.out.below hb0 (Nat.le_refl _)).more hb0.size)
  rcases h : seB s l c sh zs ck ch ct cq cv x with _ | _
  · have e := Lib.hid (riB_no h t)
    rw [seV_no h] at C
    refine C.mono ?_
    rintro e w1 ⟨rfl, hb1⟩
    have E1 := bel_trans hb0 hb1
    go_wp2
    go_ret
    exact ⟨by rw [e.out]; rfl, bel_trans E1 (bel_alloc _ _)⟩
  · have e := Lib.hid (riB_yes h t)
    rw [seV_yes h] at C
    generalize tagN zs ck ch ct cq cv x = tg at C e
    refine C.mono ?_
    rintro e w1 ⟨rfl, hb1⟩
    have E1 := bel_trans hb0 hb1
    have X1 := X.later hb1 X.lt
    obtain ⟨x0, x1⟩ := X1.two
    have xl := X1.lt
    clear C X hb0 hb1
    by_cases ht : t = tg
    · subst ht
      go_wp2
      go_ret
      exact ⟨by rw [e.out]; simp, bel_trans E1 (bel_alloc _ _)⟩
    · have ht1 : (t == tg) = false := by simpa using ht
      have ht2 : (tg == t) = false := by simpa using fun e => ht e.symm
      have H := Lib.hid ht
      go_wp2
      go_ret
      exact ⟨by rw [e.out]; simp [H.out], bel_trans E1 (bel_alloc _ _)⟩

end Go.Proofs.YtjdepjpjjgkmbaaGreat

/- What SealOf and SealRight of spec/l03_claim.go answer at every group, claim and seal: contracts of each of them. -/
namespace Go.Proofs.YtjdepjpjjgkmbaaGreat
open Go.RowKit

set_option maxHeartbeats 1000000 in
theorem specSeal_any (s l c sh : Int) (A : Option Addr) (n cap : Nat) (zs : List Int) (ck ch ct cq cv x : Int) (w : World) (hm : n ≤ maxLen) (hr : Row w w.heap.size A n zs) :
    Calls Tryz.prog 184 #[.agg #[.int .i64 s, .int .i64 l, .int .i64 c, .int .i64 sh, .slice A n cap], .agg #[.int .i64 ck, .int .i64 ch, .int .i64 ct, .int .i64 cq, .int .i64 cv], .int .i64 x] w fun e w' => e = .returned (seV s l c sh zs ck ch ct cq cv x) ∧ Below w.heap.size w w' := by
  have HR := Lib.hid hr
  have HM := Lib.hid hm
  clear hr hm
  have DG := ((Box.new w 26 #[.int .i64 s, .int .i64 l, .int .i64 c, .int .i64 sh, .slice A n cap]).alloc (.cells #[.int .i64 ck, .int .i64 ch, .int .i64 ct, .int .i64 cq, .int .i64 cv] 180)).alloc (.cells #[.int .i64 0, .int .i64 0] 136)
  have DC := (Box.new (w.alloc (.cells #[.int .i64 s, .int .i64 l, .int .i64 c, .int .i64 sh, .slice A n cap] 26)) 180 #[.int .i64 ck, .int .i64 ch, .int .i64 ct, .int .i64 cq, .int .i64 cv]).alloc (.cells #[.int .i64 0, .int .i64 0] 136)
  have X := Box.new ((w.alloc (.cells #[.int .i64 s, .int .i64 l, .int .i64 c, .int .i64 sh, .slice A n cap] 26)).alloc (.cells #[.int .i64 ck, .int .i64 ch, .int .i64 ct, .int .i64 cq, .int .i64 cv] 180)) 136 #[.int .i64 0, .int .i64 0]
  have hb0 := bel_trans (bel_trans (bel_alloc w (.cells #[.int .i64 s, .int .i64 l, .int .i64 c, .int .i64 sh, .slice A n cap] 26)) (bel_alloc _ (.cells #[.int .i64 ck, .int .i64 ch, .int .i64 ct, .int .i64 cq, .int .i64 cv] 180))) (bel_alloc _ (.cells #[.int .i64 0, .int .i64 0] 136))
  simp only [World.size_alloc] at DC X
  go_enter Tryz.func184, Tryz.ntmps184
  go_wp2_with fail
  generalize (((w.alloc _).alloc _).alloc _ : World) = w0 at hb0 DG DC X ⊢
  refine (specClaim_any ck ch ct cq cv w0).mono ?_
  rintro e w1 ⟨rfl, hb1⟩
  have DG1 := DG.later hb1 DG.lt
  have DC1 := DC.later hb1 DC.lt
  have X1 := X.later hb1 X.lt
  have E1 := bel_trans hb0 hb1
  clear DG DC X hb0 hb1
  rcases h1 : clB ck ch ct cq cv with _ | _
  · have H := Lib.hid (seV_no (seB_1 h1 s l c sh zs x))
    obtain ⟨x0, x1⟩ := X1.two
    have fx := X1.frozen
    go_wp2
    exact bodyPost_ret (v := .tuple #[.agg #[.int .i64 0, .int .i64 0], .bool false]) (by simp [results, Tryz.results184, go_sem, x0, x1]) rfl ⟨by rw [H.out], (E1.setCell (by simp; omega) _).setCell (by simp; omega) _⟩
  obtain ⟨g0, g1, g2, g3, g4⟩ := DG1.five
  go_wp2_with fail
  refine (specServer_any s l c sh A n cap zs x w1 HM.out ((HR.out.below E1 (Nat.le_refl _)).more E1.size)).mono ?_
  rintro e w2 ⟨rfl, hb2⟩
  have DG2 := DG1.later hb2 DG1.lt
  have DC2 := DC1.later hb2 DC1.lt
  have X2 := X1.later hb2 X1.lt
  have E2 := bel_trans E1 hb2
  clear DG1 DC1 X1 E1 hb2 g0 g1 g2 g3 g4
  rcases h2 : srvB s l c sh zs x with _ | _
  · have H := Lib.hid (seV_no (seB_2 h2 ck ch ct cq cv))
    obtain ⟨x0, x1⟩ := X2.two
    have fx := X2.frozen
    go_wp2
    exact bodyPost_ret (v := .tuple #[.agg #[.int .i64 0, .int .i64 0], .bool false]) (by simp [results, Tryz.results184, go_sem, x0, x1]) rfl ⟨by rw [H.out], (E2.setCell (by simp; omega) _).setCell (by simp; omega) _⟩
  have H := Lib.hid (seV_yes (seB_3 h1 h2))
  have HX := Lib.hid (mixable_seal h1 h2)
  obtain ⟨hx0, hx9, hxn, hk1, hk2⟩ := srvB_key h2
  have hzn := HR.out.1
  rw [hzn] at hxn
  obtain ⟨b, o, hA, hbB, hcell⟩ := HR.out.2 (by omega)
  subst hA
  have hxk := hcell x.toNat hxn
  have hxi : x < (n : Int) := by omega
  have DG3 := DG2
  have DC3 := DC2
  have X3 := X2
  have E3 := E2
  have hs2 := E2.size
  have hxl := X2.lt
  clear DG2 DC2 X2 E2
  obtain ⟨g0, g1, g2, g3, g4⟩ := DG3.five
  obtain ⟨c0, c1, c2, c3, c4⟩ := DC3.five
  have k0 := (E3.cell (p := ⟨b, o + x.toNat, none⟩) hbB).trans hxk
  clear hcell hxk hzn
  have hbl : b < w2.heap.size := Nat.lt_of_lt_of_le hbB E3.size
  have hn1 : w.heap.size ≠ w.heap.size + 1 + 1 := by omega
  have hn2 : b ≠ w.heap.size + 1 + 1 := by omega
  have hn3 : w.heap.size + 1 ≠ w.heap.size + 1 + 1 := by omega
  go_wp2_with fail
  go_region_held3 (fun w' => w'.cell? ⟨w.heap.size, 4, none⟩ = some (.slice (some ⟨b, o, none⟩) n cap) ∧ w'.cell? ⟨w.heap.size + 1, 0, none⟩ = some (.int .i64 ck) ∧ w'.cell? ⟨w.heap.size + 1, 1, none⟩ = some (.int .i64 ch) ∧ w'.cell? ⟨w.heap.size + 1, 2, none⟩ = some (.int .i64 ct) ∧ w'.cell? ⟨w.heap.size + 1, 3, none⟩ = some (.int .i64 cq) ∧ w'.cell? ⟨w.heap.size + 1, 4, none⟩ = some (.int .i64 cv) ∧ w'.cell? ⟨b, o + x.toNat, none⟩ = some (.int .i64 (nth zs x.toNat))) (first | (with_reducible exact sealSet K6 hn1 hn3 hn2 _ rfl) | (with_reducible exact K6) | (with_reducible exact K5) | go_keep)
    (first
      | (go_at_call 222; refine (specDigest_any ck ch ct cq cv _).mono ?_; rintro e w5 ⟨rfl, hb5⟩; have F5 := bel_drew' hb5; have K5 := sealKeep DG3 DC3 hbl k0 (grown_bel F5 none) (by simp) (by simp) (by simp))
      | (go_at_call 188; refine (l3Mix_any w5.heap.size 3 [nth zs x.toNat, digN ck ch ct cq cv, x] _ HX.out rfl (by omega) ?_).mono ?_; exact Box.new w5 2 _; rintro e w6 ⟨rfl, hb6⟩; have F6 := bel_trans F5 (bel_trans (bel_alloc w5 _) hb6); have G7 := grown_bel F6 none; have K6 := sealKeep DG3 DC3 hbl k0 G7 (by simp) (by simp) (by simp); have X6 := X3.kept G7 (by simp); have E6 := bel_trans E3 F6; clear hb6; obtain ⟨x0, x1⟩ := X6.two; have fx := X6.frozen))
  go_wp2
  exact bodyPost_ret (v := .tuple #[.agg #[.int .i64 x, .int .i64 (tagN zs ck ch ct cq cv x)], .bool true]) (by simp [results, Tryz.results184, go_sem, x0, x1]; rfl) rfl ⟨by rw [H.out], (E6.setCell (by simp; omega) _).setCell (by simp; omega) _⟩

set_option maxHeartbeats 1000000 in
theorem specRight_any (s l c sh : Int) (A : Option Addr) (n cap : Nat) (zs : List Int) (ck ch ct cq cv x t : Int) (w : World) (hm : n ≤ maxLen) (hr : Row w w.heap.size A n zs) :
    Calls Tryz.prog 237 #[.agg #[.int .i64 s, .int .i64 l, .int .i64 c, .int .i64 sh, .slice A n cap], .agg #[.int .i64 ck, .int .i64 ch, .int .i64 ct, .int .i64 cq, .int .i64 cv], .agg #[.int .i64 x, .int .i64 t]] w fun e w' => e = .returned (.bool (riB s l c sh zs ck ch ct cq cv x t)) ∧ Below w.heap.size w w' := by
  have HR := Lib.hid hr
  have HM := Lib.hid hm
  clear hr hm
  have X := Box.new ((w.alloc (.cells #[.int .i64 s, .int .i64 l, .int .i64 c, .int .i64 sh, .slice A n cap] 26)).alloc (.cells #[.int .i64 ck, .int .i64 ch, .int .i64 ct, .int .i64 cq, .int .i64 cv] 180)) 136 #[.int .i64 x, .int .i64 t]
  have hb0 := bel_trans (bel_trans (bel_alloc w (.cells #[.int .i64 s, .int .i64 l, .int .i64 c, .int .i64 sh, .slice A n cap] 26)) (bel_alloc _ (.cells #[.int .i64 ck, .int .i64 ch, .int .i64 ct, .int .i64 cq, .int .i64 cv] 180))) (bel_alloc _ (.cells #[.int .i64 x, .int .i64 t] 136))
  simp only [World.size_alloc] at X
  go_enter Tryz.func237, Tryz.ntmps237
  go_wp2_with fail
  generalize (((w.alloc _).alloc _).alloc _ : World) = w0 at hb0 X ⊢
  have C := specSeal_any s l c sh A n cap zs ck ch ct cq cv x w0 HM.out ((HR.out.below hb0 (Nat.le_refl _)).more hb0.size)
  rcases h : seB s l c sh zs ck ch ct cq cv x with _ | _
  · have e := Lib.hid (riB_no h t)
    rw [seV_no h] at C
    refine C.mono ?_
    rintro e w1 ⟨rfl, hb1⟩
    have E1 := bel_trans hb0 hb1
    go_wp2
    go_ret
    exact ⟨by rw [e.out]; rfl, bel_trans E1 (bel_alloc _ _)⟩
  · have e := Lib.hid (riB_yes h t)
    rw [seV_yes h] at C
    generalize tagN zs ck ch ct cq cv x = tg at C e
    refine C.mono ?_
    rintro e w1 ⟨rfl, hb1⟩
    have E1 := bel_trans hb0 hb1
    have X1 := X.later hb1 X.lt
    obtain ⟨x0, x1⟩ := X1.two
    have xl := X1.lt
    clear C X hb0 hb1
    by_cases ht : t = tg
    · subst ht
      go_wp2
      go_ret
      exact ⟨by rw [e.out]; simp, bel_trans E1 (bel_alloc _ _)⟩
    · have ht1 : (t == tg) = false := by simpa using ht
      have ht2 : (tg == t) = false := by simpa using fun e => ht e.symm
      have H := Lib.hid ht
      go_wp2
      go_ret
      exact ⟨by rw [e.out]; simp [H.out], bel_trans E1 (bel_alloc _ _)⟩

end Go.Proofs.YtjdepjpjjgkmbaaGreat

/- Numbers of any size are mixed, as the program and as the model do it; conditions: how many they are. -/
namespace Go.Proofs.YtjdepjpjjgkmbaaGreat
open Go Go.RowKit

/-- What one more number makes of what is mixed: round the ends of int64. -/
def mixw (x z : Int) : Int := Int.tmod (wrap64 (wrap64 (48271 * x + z) + 1)) 2147483647
def mixW (x : Int) (zs : List Int) : Int := zs.foldl mixw x
/-- What a mixer can have. -/
def Bd (x : Int) : Prop := -2147483646 ≤ x ∧ x ≤ 2147483646
theorem mixw_bd (x z : Int) : Bd (mixw x z) := by
  unfold mixw Bd
  generalize wrap64 (wrap64 (48271 * x + z) + 1) = y
  have h1 := Int.tmod_lt_of_pos y (b := 2147483647) (by omega)
  have h2 := Int.tmod_lt_of_pos (-y) (b := 2147483647) (by omega)
  rw [Int.neg_tmod] at h2
  omega
theorem mixW_bd : ∀ (zs : List Int) (x : Int), Bd x → Bd (mixW x zs)
  | [], _, h => h
  | z :: zs, x, _ => mixW_bd zs (mixw x z) (mixw_bd x z)
theorem mixW_snoc {zs : List Int} {k : Nat} (h : k < zs.length) (x : Int) : mixW x (zs.take (k + 1)) = mixw (mixW x (zs.take k)) (nth zs k) := by
  unfold mixW
  rw [List.take_succ_eq_append_getElem h, List.foldl_append, List.foldl_cons, List.foldl_nil]
  simp [nth, h]
theorem mixW_app (x : Int) (a b : List Int) : mixW x (a ++ b) = mixW (mixW x a) b := List.foldl_append ..

set_option maxHeartbeats 400000 in
/-- Numbers are mixed into what a mixer has. -/
theorem mixInW_any (g b n : Nat) (zs : List Int) (x : Int) (w : World) (hx : Bd x) (hl : zs.length = n) (hn : n ≤ 16)
    (hB : Box w g 2 #[.int .i64 x]) (hr : Box w b 2 (zs.map (Value.int .i64)).toArray) (hne : b ≠ g) :
    Calls Tryz.prog 223 #[.slice (some ⟨b, 0, none⟩) n n, .pointer (some ⟨g, 0, none⟩)] w fun e w' => e = .returned (.int .i64 (mixW x zs)) ∧ Box w' g 2 #[.int .i64 (mixW x zs)] ∧ w.grownBy w' (some g) := by
  have HL := Lib.hid hl
  have HX := Lib.hid hx
  have HR := Lib.hid hr
  clear hl hr hx
  go_enter Tryz.func223, Tryz.ntmps223
  go_wp2_with fail
  go_loopw [8] (fun i wr => ∃ (k : Nat) (y : Int), k ≤ n ∧ i = .int .i64 k ∧ Hid (mixW x (zs.take k) = y) ∧ Box wr g 2 #[.int .i64 y] ∧ w.grownBy wr (some g)) (fun i _ => n - (intOf i).toNat)
  case atStart => exact ⟨0, x, by omega, rfl, rfl, hB, grown_refl _ _⟩
  case round =>
    obtain ⟨k, y, hk, rfl, hy, Y, G⟩ := hrel
    have y0 := Y.cell 0
    have fy := Y.frozen
    by_cases hlt : k < n
    · have hr := (HR.out.kept G (by intro e; injection e with e; exact hne e.symm)).ints (i := k) (by rw [HL.out]; exact hlt)
      have HS : Hid (mixW x (zs.take (k + 1)) = mixw y (nth zs k)) := by show _ = _; rw [mixW_snoc (by rw [HL.out]; exact hlt), hy.out]
      obtain ⟨hy0, hy1⟩ : Bd y := by rw [← hy.out]; exact mixW_bd _ _ HX.out
      generalize nth zs k = z at hr HS
      have i1 : IntKind.i64.wrap (48271 * y) = 48271 * y := IntWalk.i64_in _ (by omega)
      have i4 : IntKind.i64.wrap (mixw y z) = mixw y z := IntWalk.i64_in _ (by have := mixw_bd y z; unfold Bd at this; omega)
      go_wp2
      go_roundw
      case rel => exact ⟨k + 1, _, by omega, by go_num, HS.out, Y.set 0 (.int .i64 (mixw y z)), grown_set G 0 _⟩
      case measure => simp [intOf]; omega
    · have HE : Hid (mixW x zs = y) := by show _ = _; rw [← hy.out, List.take_of_length_le (by rw [HL.out]; omega)]
      go_wp2
      go_ret
      exact ⟨by rw [HE.out]; rfl, by rw [HE.out]; exact Y, G⟩

/-- The numbers of pairs, one behind the other. -/
def flatI (ps : List (Int × Int)) : List Int := ps.flatMap fun p => [p.1, p.2]
theorem flatI_len (ps : List (Int × Int)) : (flatI ps).length = ps.length * 2 := by
  induction ps with
  | nil => rfl
  | cons p ps ih => show (flatI ps).length + 1 + 1 = _; rw [ih, List.length_cons]; omega
theorem flatI_snoc {ps : List (Int × Int)} {k : Nat} (h : k < ps.length) : flatI (ps.take (k + 1)) = flatI (ps.take k) ++ [(pth ps k).1, (pth ps k).2] := by
  rw [List.take_succ_eq_append_getElem h, ← pth_lt h]
  simp [flatI]
/-- What SumOf answers. -/
def sumN (r1 r2 r3 r4 r5 r6 r7 : Int) (ps : List (Int × Int)) : Int := mixW 7 ([r1, r2, r3, r4, r5, r6, r7] ++ flatI ps)
theorem bd7 : Bd 7 := by unfold Bd; omega
set_option maxHeartbeats 400000 in
theorem l3MixW_any (A : Option Addr) (n cap : Nat) (zs : List Int) (w : World) (hn : n ≤ 16777216) (hr : Row w w.heap.size A n zs) :
    Calls Tryz.prog 188 #[.slice A n cap] w fun e w' => e = .returned (.int .i64 (mixW 7 zs)) ∧ Below w.heap.size w w' := by
  have HL := Lib.hid hr.1
  have HR := Lib.hid hr
  clear hr
  go_enter Tryz.func188, Tryz.ntmps188
  go_wp2_with fail
  go_loopw [3, 4] (fun a i wr => ∃ (k : Nat) (y : Int), k ≤ n ∧ i = .int .i64 k ∧ a = .int .i64 y ∧ Hid (mixW 7 (zs.take k) = y) ∧ Below w.heap.size w wr) (fun _ i _ => n - (intOf i).toNat)
  case atStart => exact ⟨0, 7, by omega, rfl, rfl, rfl, Below.refl _ _⟩
  case round =>
    obtain ⟨k, y, hk, rfl, rfl, hy, E⟩ := hrel
    by_cases hlt : k < n
    · obtain ⟨b, o, hA, hb, hc⟩ := (HR.out.below E (Nat.le_refl _)).2 (by omega)
      subst hA
      have hr := After.cell (a := ⟨b, o + k, none⟩) (Nat.lt_of_lt_of_le hb E.size) (hc k hlt)
      have HS : Hid (mixW 7 (zs.take (k + 1)) = mixw y (nth zs k)) := by show _ = _; rw [mixW_snoc (by rw [HL.out]; exact hlt), hy.out]
      obtain ⟨hy0, hy1⟩ : Bd y := by rw [← hy.out]; exact mixW_bd _ _ bd7
      clear hc
      generalize nth zs k = z at hr HS
      have hlt' : (k : Int) < (n : Int) := by omega
      have i1 : IntKind.i64.wrap (48271 * y) = 48271 * y := IntWalk.i64_in _ (by omega)
      have ht : Int.tmod (wrap64 (wrap64 (48271 * y + z) + 1)) 2147483647 = mixw y z := rfl
      have i4 : IntKind.i64.wrap (mixw y z) = mixw y z := IntWalk.i64_in _ (by have := mixw_bd y z; unfold Bd at this; omega)
      go_wp2_with fail
      refine wp_region_after (by kernel_rfl) (by kernel_rfl) ?_
      repeat (first | go_big_quiet_step ((go_at_call 206; exact after_same (l3M_any _))) | quiet_step ((go_at_call 206; exact after_same (l3M_any _))))
      refine wpQuiet_nil ?_
      intro p
      clear i1 i4 ht
      go_wp2
      go_roundw
      case rel => exact ⟨k + 1, mixw y z, by omega, by go_num, rfl, HS.out, bel_trans E p.bel⟩
      case measure => simp [intOf]; omega
    · have hz := HL.out
      have HE : Hid (mixW 7 zs = y) := by show _ = _; rw [← hy.out, List.take_of_length_le (by omega)]
      clear hz
      go_wp2
      go_ret
      exact ⟨by rw [HE.out]; rfl, E⟩

theorem Box.nine {w : World} {g : Nat} {t : TypeId} {v0 v1 v2 v3 v4 v5 v6 v7 v8 : Value} (h : Box w g t #[v0, v1, v2, v3, v4, v5, v6, v7, v8]) :
    w.cell? ⟨g, 0, none⟩ = some v0 ∧ w.cell? ⟨g, 1, none⟩ = some v1 ∧ w.cell? ⟨g, 2, none⟩ = some v2 ∧ w.cell? ⟨g, 3, none⟩ = some v3 ∧ w.cell? ⟨g, 4, none⟩ = some v4 ∧ w.cell? ⟨g, 5, none⟩ = some v5 ∧ w.cell? ⟨g, 6, none⟩ = some v6 ∧ w.cell? ⟨g, 7, none⟩ = some v7 ∧ w.cell? ⟨g, 8, none⟩ = some v8 :=
  ⟨h.cell 0, h.cell 1, h.cell 2, h.cell 3, h.cell 4, h.cell 5, h.cell 6, h.cell 7, h.cell 8⟩
end Go.Proofs.YtjdepjpjjgkmbaaGreat

/- The laws' own copies of a group, their size and the test that two are alike: contracts of each of them. -/
namespace Go.Proofs.YtjdepjpjjgkmbaaGreat
open Go.RowKit

end Go.Proofs.YtjdepjpjjgkmbaaGreat

/- The laws' own copies of a group whose keys can be written, and their marks: contracts of each of them. -/
namespace Go.Proofs.YtjdepjpjjgkmbaaGreat
open Go.RowKit

end Go.Proofs.YtjdepjpjjgkmbaaGreat

/- A record as data behind variables, and what the laws do with one: sizes, copies, comparisons, marks; conditions: the sizes. -/
namespace Go.Proofs.YtjdepjpjjgkmbaaGreat
open Go Go.RowKit

theorem nineAfter {w : World} {g : Nat} {t : TypeId} {v0 v1 v2 v3 v4 v5 v6 v7 v8 : Value} (h : Box w g t #[v0, v1, v2, v3, v4, v5, v6, v7, v8]) :
    (∀ p : After w, p.x.cell? ⟨g, 0, none⟩ = some v0) ∧ (∀ p : After w, p.x.cell? ⟨g, 1, none⟩ = some v1) ∧ (∀ p : After w, p.x.cell? ⟨g, 2, none⟩ = some v2) ∧ (∀ p : After w, p.x.cell? ⟨g, 3, none⟩ = some v3) ∧ (∀ p : After w, p.x.cell? ⟨g, 4, none⟩ = some v4) ∧ (∀ p : After w, p.x.cell? ⟨g, 5, none⟩ = some v5) ∧ (∀ p : After w, p.x.cell? ⟨g, 6, none⟩ = some v6) ∧ (∀ p : After w, p.x.cell? ⟨g, 7, none⟩ = some v7) ∧ (∀ p : After w, p.x.cell? ⟨g, 8, none⟩ = some v8) :=
  ⟨After.cell h.lt (h.cell 0), After.cell h.lt (h.cell 1), After.cell h.lt (h.cell 2), After.cell h.lt (h.cell 3), After.cell h.lt (h.cell 4), After.cell h.lt (h.cell 5), After.cell h.lt (h.cell 6), After.cell h.lt (h.cell 7), After.cell h.lt (h.cell 8)⟩

/-- A record's numbers. -/
structure RecD where
  r1 : Int
  r2 : Int
  r3 : Int
  r4 : Int
  r5 : Int
  r6 : Int
  r7 : Int
  ps : List (Int × Int)
  r8 : Int
def RecD.cells (d : RecD) (u : Value) : Array Value := #[.int .i64 d.r1, .int .i64 d.r2, .int .i64 d.r3, .int .i64 d.r4, .int .i64 d.r5, .int .i64 d.r6, .int .i64 d.r7, u, .int .i64 d.r8]
def RecD.sz (d : RecD) : Nat := d.ps.length
/-- What SumOf answers. -/
def RecD.sum (d : RecD) : Int := sumN d.r1 d.r2 d.r3 d.r4 d.r5 d.r6 d.r7 d.ps
/-- A value reads as a record, through blocks of F alone; it is one's own. -/
def AtC (d : RecD) (w : World) (F : Nat → Prop) (v : Value) : Prop :=
  ∃ (A : Option Addr) (n cap : Nat), v = .agg (d.cells (.slice A n cap)) ∧ n ≤ maxLen ∧ PairsF w F A n d.ps
def LieC (d : RecD) (w : World) (F : Nat → Prop) (v : Value) : Prop := ∃ u, v = .agg (d.cells u) ∧ OwnP w F u d.ps
theorem keepsC (d : RecD) : Keeps (AtC d) := ⟨fun ⟨A, n, c, e, h1, h2⟩ ht hd => ⟨A, n, c, e, h1, h2.turn ht hd⟩, fun ⟨A, n, c, e, h1, h2⟩ hs => ⟨A, n, c, e, h1, h2.1, fun hn b o e => hs b (h2.2 hn b o e)⟩⟩
theorem keepsLC (d : RecD) : Keeps (LieC d) := ⟨fun ⟨u, e, h⟩ ht hd => ⟨u, e, h.turn ht hd⟩, fun ⟨u, e, h⟩ hs => ⟨u, e, h.sub hs⟩⟩
theorem LieC.at {d : RecD} {w : World} {F : Nat → Prop} {v : Value} (h : LieC d w F v) : AtC d w F v := by
  obtain ⟨u, e, h⟩ := h
  obtain ⟨A, cap, rfl, h1, h2, -⟩ := h.at
  exact ⟨A, _, cap, e, h1, h2⟩
theorem sizeC {d : RecD} {w : World} {F : Nat → Prop} {C : Array Value} (h : AtC d w F (.agg C)) : (Tryz.prog.info? 188).map (·.size) = some C.size ∧ (Tryz.prog.info? 46).map (·.size) = some C.size := by
  obtain ⟨A, n, cap, e, _⟩ := h
  injection e with e
  subst e
  exact ⟨by kernel_rfl, by kernel_rfl⟩
theorem oneC {d : RecD} {w : World} {F : Nat → Prop} {C : Array Value} (h : AtC d w F (.agg C)) : C.size = 9 ∧ C.all (·.oneCell') = true := by
  obtain ⟨A, n, cap, e, _⟩ := h
  injection e with e
  subst e
  exact ⟨rfl, by simp [RecD.cells, Value.oneCell']⟩

end Go.Proofs.YtjdepjpjjgkmbaaGreat

/- SumOf of the program and of the model at every record; conditions: how many seals it has. -/
namespace Go.Proofs.YtjdepjpjjgkmbaaGreat
open Go Go.RowKit

set_option maxRecDepth 100000 in
set_option maxHeartbeats 2000000 in
theorem sumOf_is (r1 r2 r3 r4 r5 r6 r7 : Int) (L : Option Addr) (m mc : Nat) (r8 : Int) (ps : List (Int × Int)) (w : World) (hm : m ≤ 4194304) (hr : Pairs w w.heap.size L m ps) :
    Calls Tryz.prog 142 #[.agg #[.int .i64 r1, .int .i64 r2, .int .i64 r3, .int .i64 r4, .int .i64 r5, .int .i64 r6, .int .i64 r7, .slice L m mc, .int .i64 r8]] w fun e w' => e = .returned (.int .i64 (sumN r1 r2 r3 r4 r5 r6 r7 ps)) ∧ Below w.heap.size w w' := by
  have D := Box.new w 46 #[.int .i64 r1, .int .i64 r2, .int .i64 r3, .int .i64 r4, .int .i64 r5, .int .i64 r6, .int .i64 r7, .slice L m mc, .int .i64 r8]
  have hb0 := bel_alloc w (.cells #[.int .i64 r1, .int .i64 r2, .int .i64 r3, .int .i64 r4, .int .i64 r5, .int .i64 r6, .int .i64 r7, .slice L m mc, .int .i64 r8] 46)
  have HR := Lib.hid hr
  have HL := Lib.hid hr.1
  clear hr
  go_enter Tryz.func142, Tryz.ntmps142
  go_wp2_with fail
  generalize (w.alloc _ : World) = w0 at D hb0 ⊢
  refine (mixer_any w0).mono ?_
  rintro e w1 ⟨rfl, M, hb1⟩
  have D1 := D.later hb1 D.lt
  have E1 := bel_trans hb0 hb1
  have hg := hb0.size
  have hDg := D.lt
  generalize w0.heap.size = g at M hg hDg ⊢
  clear D hb0 hb1
  obtain ⟨d0, d1, d2, d3, d4, d5, d6, d7, d8⟩ := D1.nine
  have R := Box.new w1 2 #[.int .i64 r1, .int .i64 r2, .int .i64 r3, .int .i64 r4, .int .i64 r5, .int .i64 r6, .int .i64 r7]
  have M3 := M.alloc (.cells #[.int .i64 r1, .int .i64 r2, .int .i64 r3, .int .i64 r4, .int .i64 r5, .int .i64 r6, .int .i64 r7] 2)
  have D3 := D1.alloc (.cells #[.int .i64 r1, .int .i64 r2, .int .i64 r3, .int .i64 r4, .int .i64 r5, .int .i64 r6, .int .i64 r7] 2)
  have E3 := bel_trans E1 (bel_alloc w1 (.cells #[.int .i64 r1, .int .i64 r2, .int .i64 r3, .int .i64 r4, .int .i64 r5, .int .i64 r6, .int .i64 r7] 2))
  have hne := Nat.ne_of_gt M.lt
  have hDg' := Nat.ne_of_lt hDg
  clear D1 M E1
  go_wp2_with fail
  generalize (w1.alloc _ : World) = w3 at R M3 D3 E3 ⊢
  refine (mixInW_any g w1.heap.size 7 [r1, r2, r3, r4, r5, r6, r7] 7 w3 bd7 rfl (by omega) M3 R hne).mono ?_
  rintro e w4 ⟨rfl, M4, G⟩
  have D4 := D3.kept G (by intro e; injection e with e; omega)
  have E4 := bel_grown E3 G hg
  clear d0 d1 d2 d3 d4 d5 d6 d7 d8 R M3 D3 E3 G hne
  generalize hx : mixW 7 [r1, r2, r3, r4, r5, r6, r7] = x at M4 ⊢
  have HX := Lib.hid hx
  have hbx : Bd x := hx ▸ mixW_bd _ _ bd7
  clear hx
  obtain ⟨d0, d1, d2, d3, d4, d5, d6, d7, d8⟩ := D4.nine
  clear d0 d1 d2 d3 d4 d5 d6 d8
  go_wp2_with fail
  clear d7
  go_loopw [4, 30] (fun a i wr => ∃ (k : Nat) (y : Int), k ≤ m ∧ i = .int .i64 k ∧ a = .int .i64 y ∧ Hid (mixW x (flatI (ps.take k)) = y) ∧ Box wr g 2 #[.int .i64 y] ∧ Below w.heap.size w wr) (fun _ i _ => m - (intOf i).toNat)
  case atStart => exact ⟨0, x, by omega, rfl, rfl, rfl, M4, E4⟩
  case round =>
    clear M4 E4 D4
    obtain ⟨k, y, hk, rfl, rfl, hy, M, E⟩ := hrel
    by_cases hlt : k < m
    · obtain ⟨b, o, hA, hb, hc⟩ := (HR.out.below E (Nat.le_refl _)).2 (by omega)
      subst hA
      obtain ⟨c0, c1⟩ := hc k hlt
      have hbl := Nat.lt_of_lt_of_le hb E.size
      have HS : Hid (mixW x (flatI (ps.take (k + 1))) = mixW y [(pth ps k).1, (pth ps k).2]) := by
        show _ = _
        rw [flatI_snoc (by rw [HL.out]; exact hlt), mixW_app, hy.out]
      have hby : Bd y := by rw [← hy.out]; exact mixW_bd _ _ hbx
      clear hc
      generalize pth ps k = z at c0 c1 HS
      obtain ⟨z0, z1⟩ := z
      dsimp only at c0 c1 HS
      have S := Box.new wr 136 #[.int .i64 z0, .int .i64 z1]
      have M1 := M.alloc (.cells #[.int .i64 z0, .int .i64 z1] 136)
      have EA := bel_alloc wr (.cells #[.int .i64 z0, .int .i64 z1] 136)
      have R := Box.new (wr.alloc (.cells #[.int .i64 z0, .int .i64 z1] 136)) 2 #[.int .i64 z0, .int .i64 z1]
      have M2 := M1.alloc (.cells #[.int .i64 z0, .int .i64 z1] 2)
      have EB := bel_trans E (bel_trans EA (bel_alloc _ (.cells #[.int .i64 z0, .int .i64 z1] 2)))
      have hne := Nat.ne_of_gt M1.lt
      obtain ⟨s0, s1⟩ := S.two
      go_wp2_with fail
      simp only [World.size_alloc] at R hne
      generalize ((wr.alloc _).alloc _ : World) = w5 at R M2 EB ⊢
      clear S M M1 EA s0 s1 c0 c1
      refine (mixInW_any g (wr.heap.size + 1) 2 [z0, z1] y w5 hby rfl (by omega) M2 R hne).mono ?_
      rintro e w6 ⟨rfl, M6, G6⟩
      have E6 := bel_grown EB G6 hg
      clear R M2 EB G6
      generalize mixW y [z0, z1] = y' at HS M6 ⊢
      go_wp2
      go_roundw
      case rel => exact ⟨k + 1, y', by omega, by go_num, rfl, HS.out, M6, E6⟩
      case measure => simp [intOf]; omega
    · have hz := HL.out
      have HE : Hid (sumN r1 r2 r3 r4 r5 r6 r7 ps = y) := by
        show _ = _
        unfold sumN
        rw [mixW_app, HX.out, ← hy.out, List.take_of_length_le (by omega)]
      clear hz
      go_wp2
      go_ret
      exact ⟨by rw [HE.out]; rfl, E⟩
end Go.Proofs.YtjdepjpjjgkmbaaGreat

/- The model's SumOf at every record; conditions: how many seals it has. -/
namespace Go.Proofs.YtjdepjpjjgkmbaaGreat
open Go Go.RowKit

theorem Tryz.infoI9 : (Tryz.prog.info? 2).map (fun i => (i.zero, i.size, i.bytes)) = some (some (.int .i64 0), 1, 8) := by kernel_rfl
theorem own_built (w : World) (t : TypeId) (zs : List Int) (n : Nat) (h : zs.length = n) (hn : n ≤ 1000) : (w.alloc (.cells (zs.map (Value.int .i64)).toArray t)).ownsRow w.heap.size t 1 (.slice (some ⟨w.heap.size, 0, none⟩) n n) n (zs.map (Value.int .i64)) :=
  ⟨by simp [h], .inr ⟨w.heap.size, n, _, rfl, Nat.le_refl _, heap_alloc_new w _, Nat.le_refl _, by unfold maxLen; omega, by simp [h], by rw [← h]; exact List.take_of_length_le (by simp)⟩⟩
theorem own_row9 {w : World} {base : Nat} {e : TypeId} {q n cap : Nat} {zs : List Int} (h : w.ownsRow base e 1 (.slice (some ⟨q, 0, none⟩) n cap) n (zs.map (Value.int .i64))) (hn : zs.length = n) : Row w w.heap.size (some ⟨q, 0, none⟩) n zs := by
  refine ⟨hn, fun _ => ⟨q, 0, rfl, (h.lt q rfl).2, fun i hi => ?_⟩⟩
  have := h.cellAt i (by simp; omega)
  rw [Nat.zero_add, this]
  simp [nth, show i < zs.length by omega]

/-- What the next round reads of the list of seals and of the record, behind a list that grew. -/
theorem sumKeep {wr w2 : World} {g q b o : Nat} {t : TypeId} {v0 v1 v2 v3 v4 v5 v6 v7 v8 a0 a1 : Value} {ob : Obj} (D : Box wr g t #[v0, v1, v2, v3, v4, v5, v6, v7, v8]) (hb : b < wr.heap.size) (h0 : wr.cell? ⟨b, o, none⟩ = some a0) (h1 : wr.cell? ⟨b, o + 1, none⟩ = some a1)
    (G : (wr.drew.alloc ob).grownBy w2 (some q)) (hg : g ≠ q) (hbq : b ≠ q) :
    (w2.cell? ⟨g, 7, none⟩ = some v7 ∧ w2.cell? ⟨b, o, none⟩ = some a0 ∧ w2.cell? ⟨b, o + 1, none⟩ = some a1) ∧ Box w2 g t #[v0, v1, v2, v3, v4, v5, v6, v7, v8] := by
  have hl := D.lt
  have hB : Below wr.heap.size wr (wr.drew.alloc ob) := ((Below.refl _ wr).drew).alloc (Nat.le_refl _) ob
  have F : ∀ c k u, c < wr.heap.size → c ≠ q → wr.cell? ⟨c, k, none⟩ = some u → w2.cell? ⟨c, k, none⟩ = some u := fun c k u hc hq h =>
    ((World.cell?_of_block (G.block c (Nat.lt_of_lt_of_le hc hB.size) (by intro e; injection e with e; exact hq e))).trans (hB.cell (p := ⟨c, k, none⟩) hc)).trans h
  exact ⟨⟨F g 7 _ hl hg (D.cell 7), F b o _ hb hbq h0, F b (o + 1) _ hb hbq h1⟩, (D.later hB hl).kept G (by intro e; injection e with e; exact hg e.symm)⟩

set_option maxRecDepth 100000 in
set_option maxHeartbeats 2000000 in
theorem specSumOf_is (r1 r2 r3 r4 r5 r6 r7 : Int) (L : Option Addr) (m mc : Nat) (r8 : Int) (ps : List (Int × Int)) (w : World) (hm : m ≤ 4194304) (hr : Pairs w w.heap.size L m ps) :
    Calls Tryz.prog 141 #[.agg #[.int .i64 r1, .int .i64 r2, .int .i64 r3, .int .i64 r4, .int .i64 r5, .int .i64 r6, .int .i64 r7, .slice L m mc, .int .i64 r8]] w fun e w' => e = .returned (.int .i64 (sumN r1 r2 r3 r4 r5 r6 r7 ps)) ∧ Below w.heap.size w w' := by
  obtain ⟨i0, hi0, hz0, hz1, hz2⟩ := info_parts Tryz.infoI9
  have D := Box.new w 46 #[.int .i64 r1, .int .i64 r2, .int .i64 r3, .int .i64 r4, .int .i64 r5, .int .i64 r6, .int .i64 r7, .slice L m mc, .int .i64 r8]
  have hb0 := bel_alloc w (.cells #[.int .i64 r1, .int .i64 r2, .int .i64 r3, .int .i64 r4, .int .i64 r5, .int .i64 r6, .int .i64 r7, .slice L m mc, .int .i64 r8] 46)
  have HR := Lib.hid hr
  have HL := Lib.hid hr.1
  clear hr
  go_enter Tryz.func141, Tryz.ntmps141
  have hDg := D.lt
  have O : ((w.alloc (.cells #[.int .i64 r1, .int .i64 r2, .int .i64 r3, .int .i64 r4, .int .i64 r5, .int .i64 r6, .int .i64 r7, .slice L m mc, .int .i64 r8] 46)).alloc (.cells #[.int .i64 r1, .int .i64 r2, .int .i64 r3, .int .i64 r4, .int .i64 r5, .int .i64 r6, .int .i64 r7] 2)).ownsRow (w.alloc (.cells #[.int .i64 r1, .int .i64 r2, .int .i64 r3, .int .i64 r4, .int .i64 r5, .int .i64 r6, .int .i64 r7, .slice L m mc, .int .i64 r8] 46)).heap.size 2 1 (.slice (some ⟨(w.alloc (.cells #[.int .i64 r1, .int .i64 r2, .int .i64 r3, .int .i64 r4, .int .i64 r5, .int .i64 r6, .int .i64 r7, .slice L m mc, .int .i64 r8] 46)).heap.size, 0, none⟩) 7 7) 7 ([r1, r2, r3, r4, r5, r6, r7].map (Value.int .i64)) := own_built (w.alloc (.cells #[.int .i64 r1, .int .i64 r2, .int .i64 r3, .int .i64 r4, .int .i64 r5, .int .i64 r6, .int .i64 r7, .slice L m mc, .int .i64 r8] 46)) 2 [r1, r2, r3, r4, r5, r6, r7] 7 rfl (by omega)
  have D1 := D.alloc (.cells #[.int .i64 r1, .int .i64 r2, .int .i64 r3, .int .i64 r4, .int .i64 r5, .int .i64 r6, .int .i64 r7] 2)
  have E1 := bel_trans hb0 (bel_alloc _ (.cells #[.int .i64 r1, .int .i64 r2, .int .i64 r3, .int .i64 r4, .int .i64 r5, .int .i64 r6, .int .i64 r7] 2))
  obtain ⟨d0, d1, d2, d3, d4, d5, d6, d7, d8⟩ := D.nine
  simp only [World.size_alloc] at O
  go_wp2_with fail
  clear d0 d1 d2 d3 d4 d5 d6 d7 d8 D hb0 hDg
  generalize ((w.alloc _).alloc _ : World) = w1 at O D1 E1 ⊢
  go_loopw [3, 4] (fun a i wr => ∃ (k q cap : Nat), k ≤ m ∧ i = .int .i64 k ∧ a = .slice (some ⟨q, 0, none⟩) (7 + 2 * k) cap ∧ wr.ownsRow (w.heap.size + 1) 2 1 (.slice (some ⟨q, 0, none⟩) (7 + 2 * k) cap) (7 + 2 * k) (([r1, r2, r3, r4, r5, r6, r7] ++ flatI (ps.take k)).map (Value.int .i64)) ∧ Box wr w.heap.size 46 #[.int .i64 r1, .int .i64 r2, .int .i64 r3, .int .i64 r4, .int .i64 r5, .int .i64 r6, .int .i64 r7, .slice L m mc, .int .i64 r8] ∧ Below w.heap.size w wr) (fun _ i _ => m - (intOf i).toNat)
  case atStart => exact ⟨0, _, 7, by omega, rfl, rfl, by simpa [flatI] using O, D1, E1⟩
  case round =>
    clear O D1 E1
    obtain ⟨k, q, cap, hk, rfl, rfl, O, D, E⟩ := hrel
    have d7 := D.cell 7
    have hq : w.heap.size + 1 ≤ q ∧ q < wr.heap.size := O.lt q rfl
    by_cases hlt : k < m
    · obtain ⟨b, o, hA, hb, hc⟩ := (HR.out.below E (Nat.le_refl _)).2 (by omega)
      subst hA
      obtain ⟨c0, c1⟩ := hc k hlt
      have hbl := Nat.lt_of_lt_of_le hb E.size
      have HS : Hid (([r1, r2, r3, r4, r5, r6, r7] ++ flatI (ps.take (k + 1))).map (Value.int .i64) = ([r1, r2, r3, r4, r5, r6, r7] ++ flatI (ps.take k)).map (Value.int .i64) ++ [.int .i64 (pth ps k).1, .int .i64 (pth ps k).2]) := by
        show _ = _
        rw [flatI_snoc (by rw [HL.out]; exact hlt)]
        simp
      clear hc
      generalize pth ps k = z at c0 c1 HS
      obtain ⟨z0, z1⟩ := z
      dsimp only at c0 c1 HS
      have hDl := D.lt
      have hkI : (k : Int) < (m : Int) := by omega
      go_wp2_with fail
      go_region_held3 (fun w' => w'.cell? ⟨w.heap.size, 7, none⟩ = some (.slice (some ⟨b, o, none⟩) m mc) ∧ w'.cell? ⟨b, o + k * 2, none⟩ = some (.int .i64 z0) ∧ w'.cell? ⟨b, o + k * 2 + 1, none⟩ = some (.int .i64 z1))
        (first | (with_reducible exact K2) | go_keep)
        (first | (refine step_append_lies _ (by rfl) _ _ _ (by rfl) (w.heap.size + 1) 2 i0 _ 1 8 Tryz.underlying24 hi0 hz0 hz1 hz2 rfl (by omega) (.slice (some ⟨q, 0, none⟩) (7 + 2 * k) cap) (7 + 2 * k) (([r1, r2, r3, r4, r5, r6, r7] ++ flatI (ps.take k)).map (Value.int .i64)) (by rfl) (O.drew.alloc _) ⟨wr.heap.size, 0, none⟩ 2 2 [.int .i64 z0, .int .i64 z1] (by rfl) (by rfl) (World.news_of_block (cs := #[.int .i64 z0, .int .i64 z1]) (t := 2) (fr := (0, 0)) (heap_alloc_new wr.drew _)) (by simp [Value.oneCell']) (by omega) (by unfold maxLen; omega) (by omega) (by simp; omega) (wr.heap.size + 1) (by simp) ?_; intro gg cap2 w2 hown2 hgrow2 hat hlt2; replace hgrow2 : World.grownBy _ w2 (some q) := hgrow2; obtain ⟨K2, D2⟩ := sumKeep D hbl c0 c1 hgrow2 (by omega) (by omega); clear hat))
      all_goals
        have O2 : w2.ownsRow (w.heap.size + 1) 2 1 (.slice (some ⟨gg, 0, none⟩) (7 + 2 * (k + 1)) cap2) (7 + 2 * (k + 1)) (([r1, r2, r3, r4, r5, r6, r7] ++ flatI (ps.take (k + 1))).map (Value.int .i64)) := by rw [HS.out]; exact hown2
        have E2 := bel_grown (((E.drew).alloc E.size (.cells #[.int .i64 z0, .int .i64 z1] 2))) hgrow2 (by omega)
        clear K2 hown2 hgrow2 c0 c1 d7 O
        go_wp2
        go_roundw
        case rel => exact ⟨k + 1, gg, cap2, by omega, by go_num, rfl, O2, D2, E2⟩
        case measure => simp [intOf]; omega
    · have hz := HL.out
      have HE : Hid (ps.take k = ps) := by
        show _ = _
        rw [List.take_of_length_le (by omega)]
      have hkm : k = m := by omega
      subst hkm
      rw [HE.out] at O
      have hR9 := own_row9 O (by simp [flatI_len]; omega)
      have E9 := E
      clear hz O
      go_wp2_with fail
      refine (l3MixW_any (some ⟨q, 0, none⟩) (7 + 2 * k) cap ([r1, r2, r3, r4, r5, r6, r7] ++ flatI ps) wr (by omega) hR9).mono ?_
      rintro e w3 ⟨rfl, hb3⟩
      have E3 := bel_trans E hb3
      go_wp2
      go_ret
      exact ⟨rfl, E3⟩
end Go.Proofs.YtjdepjpjjgkmbaaGreat

/- The parts of impl/l05_note.go: what a note has, values, seals that can be sent, what is answered: contracts of each of them. -/
namespace Go.Proofs.YtjdepjpjjgkmbaaGreat
open Go.RowKit

end Go.Proofs.YtjdepjpjjgkmbaaGreat

/- The rest of impl/l05_note.go's parts: what was, seals that can be sent, stamps and values: contracts of each of them. -/
namespace Go.Proofs.YtjdepjpjjgkmbaaGreat
open Go.RowKit

end Go.Proofs.YtjdepjpjjgkmbaaGreat

/- The parts of the model's NoteOk: values, seals that can be sent, what a kind has not; what the model answers: contracts of each of them. -/
namespace Go.Proofs.YtjdepjpjjgkmbaaGreat
open Go.RowKit

end Go.Proofs.YtjdepjpjjgkmbaaGreat

/- The laws' own copies of a note, their size and the test that two are alike: contracts of each of them. -/
namespace Go.Proofs.YtjdepjpjjgkmbaaGreat
open Go.RowKit

/-- What a copying of a note keeps: the note, the answer's variable, the copy so far. -/
structure TN (w wr : World) (tn ti : TypeId) (src zer cur : Array Value) : Prop where
  nb : Box wr w.heap.size tn src
  rb : Box wr (w.heap.size + 1) ti zer
  ob : Box wr (w.heap.size + 1 + 1) ti cur
  bel : Below w.heap.size w wr
theorem TN.later {w wr w' : World} {tn ti : TypeId} {src zer cur : Array Value} (h : TN w wr tn ti src zer cur) (hb : Below wr.heap.size wr w') : TN w w' tn ti src zer cur :=
  ⟨h.nb.later hb h.nb.lt, h.rb.later hb h.rb.lt, h.ob.later hb h.ob.lt, bel_trans h.bel hb⟩
theorem TN.put {w wr : World} {tn ti : TypeId} {src zer cur : Array Value} (h : TN w wr tn ti src zer cur) (i : Nat) (u : Value) : TN w (wr.setCell ⟨w.heap.size + 1 + 1, i, none⟩ u) tn ti src zer (cur.setIfInBounds i u) :=
  ⟨h.nb.far (p := ⟨w.heap.size + 1 + 1, i, none⟩) (by simp; omega) u, h.rb.far (p := ⟨w.heap.size + 1 + 1, i, none⟩) (by simp) u, h.ob.set i u, h.bel.setCell (p := ⟨w.heap.size + 1 + 1, i, none⟩) (by simp; omega) u⟩
theorem TN.start (w : World) (tn ti : TypeId) (src zer cur : Array Value) : TN w (((w.alloc (.cells src tn)).alloc (.cells zer ti)).alloc (.cells cur ti)) tn ti src zer cur := by
  have B1 := (Box.new (w.alloc (.cells src tn)) ti zer).alloc (.cells cur ti)
  have B2 := Box.new ((w.alloc (.cells src tn)).alloc (.cells zer ti)) ti cur
  simp only [World.size_alloc] at B1 B2
  exact ⟨((Box.new w tn src).alloc _).alloc _, B1, B2, bel_trans (bel_trans (bel_alloc _ _) (bel_alloc _ _)) (bel_alloc _ _)⟩

theorem Held.far {w : World} {g : Nat} {d : List (Int × Int)} (h : Held w g d) {a : Addr} (ha : a.block ≠ g) (u : Value) : Held (w.setCell a u) g d := by
  have hf : (w.setCell a u).heap[g]? = w.heap[g]? := Below.heap_setCell w a u g (fun e => ha e.symm)
  refine ⟨by rw [size_set]; exact h.lt, fun o => ?_, fun i hi => ?_, fun i hi => ?_⟩
  · rw [← h.fr o]
    unfold World.frozen?
    simp only [hf]
  · rw [World.cell?_of_block hf]; exact h.at0 i hi
  · rw [World.cell?_of_block hf]; exact h.at1 i hi

/-- What the test that two notes are alike keeps: both, and their lists. -/
structure EN (w wr : World) (t : TypeId) (x y : Array Value) (P : Option Addr) (p : Nat) (ps : List (Int × Int)) (Q : Option Addr) (q : Nat) (qs : List (Int × Int)) (P' Q' : Option Addr) : Prop where
  xb : Box wr w.heap.size t x
  yb : Box wr (w.heap.size + 1) t y
  hp : Pairs wr wr.heap.size P p ps
  hq : Pairs wr wr.heap.size Q q qs
  hp' : Pairs wr wr.heap.size P' p ps
  hq' : Pairs wr wr.heap.size Q' q qs
  bel : Below w.heap.size w wr
theorem EN.later {w wr w' : World} {t : TypeId} {x y : Array Value} {P : Option Addr} {p : Nat} {ps : List (Int × Int)} {Q : Option Addr} {q : Nat} {qs : List (Int × Int)} {P' Q' : Option Addr} (h : EN w wr t x y P p ps Q q qs P' Q') (hb : Below wr.heap.size wr w') : EN w w' t x y P p ps Q q qs P' Q' :=
  ⟨h.xb.later hb h.xb.lt, h.yb.later hb h.yb.lt, h.hp.later hb, h.hq.later hb, h.hp'.later hb, h.hq'.later hb, bel_trans h.bel hb⟩

end Go.Proofs.YtjdepjpjjgkmbaaGreat

/- The exact laws of AnswerTo and NoteOk answer true, whatever they are given: walks of each of them (written by laws_note.py). -/
namespace Go.Proofs.YtjdepjpjjgkmbaaGreat
open Go.RowKit

end Go.Proofs.YtjdepjpjjgkmbaaGreat

/- The laws' sizes, copies, comparisons and marks of groups, shelves and notes as data; conditions: the sizes. -/
namespace Go.Proofs.YtjdepjpjjgkmbaaGreat
open Go.RowKit

/-- A copy was made: the same data, in new blocks. -/
def Copied (P : World → (Nat → Prop) → Value → Prop) (w : World) (e : Ending) (w' : World) : Prop := ∃ C, e = .returned (.agg C) ∧ P w' (Iv w.heap.size w'.heap.size) (.agg C) ∧ Below w.heap.size w w'
end Go.Proofs.YtjdepjpjjgkmbaaGreat

/- The laws' sizes, copies, comparisons and marks of a record as data, and its sum; conditions: the sizes. -/
namespace Go.Proofs.YtjdepjpjjgkmbaaGreat
open Go Go.RowKit

theorem LieC.slc {d : RecD} {w : World} {F : Nat → Prop} {C : Array Value} (h : AtC d w F (.agg C)) (hs : d.sz ≤ 1048576) : ∃ (L : Option Addr) (m mc : Nat), C = d.cells (.slice L m mc) ∧ m ≤ 4194304 ∧ Pairs w w.heap.size L m d.ps := by
  obtain ⟨A, n, cap, e, hm, hr⟩ := h
  injection e with e
  have hl : d.ps.length = n := hr.1.1
  exact ⟨A, n, cap, e, by unfold RecD.sz at hs; omega, hr.1⟩
end Go.Proofs.YtjdepjpjjgkmbaaGreat

/- NewRec of the program at whatever it is given: a record with its sum, its list in a block of its own; conditions: how many seals it has. -/
namespace Go.Proofs.YtjdepjpjjgkmbaaGreat
open Go Go.RowKit

theorem turns_setCell (w : World) (g o : Nat) (u : Value) : Turns (· = g) w (w.setCell ⟨g, o, none⟩ u) :=
  ⟨rfl, rfl, rfl, by rw [size_set]; exact Nat.le_refl _, fun i _ hne => Below.heap_setCell w ⟨g, o, none⟩ u i hne⟩
theorem OwnP.later {w w' : World} {F : Nat → Prop} {v : Value} {ps : List (Int × Int)} (h : OwnP w F v ps) (hb : Below w.heap.size w w') : OwnP w' F v ps := h.turn (T := fun _ => False) (Turns.of_below hb) (fun _ _ h => h)
theorem Own.ownP {w w' : World} {v : Value} {ps : List (Int × Int)} (h : Own w v ps w') : OwnP w' (Iv w.heap.size w'.heap.size) v ps := by
  rcases h.1 with h | ⟨g, cap, hg, h0, h1, h2, h3⟩
  · exact .inl h
  · exact .inr ⟨g, cap, ⟨hg, h3.lt⟩, h0, h1, h2, h3⟩
/-- A list of one's own; one whose block is known whole. -/
def OwnPs (ps : List (Int × Int)) (w : World) (F : Nat → Prop) (v : Value) : Prop := OwnP w F v ps
def RowC (ps : List (Int × Int)) (w : World) (F : Nat → Prop) (v : Value) : Prop := ∃ g cap, F g ∧ v = .slice (some ⟨g, 0, none⟩) ps.length cap ∧ w.ownsRow 0 136 2 v ps.length (flatP ps)
theorem keepsOwn (ps : List (Int × Int)) : Keeps (OwnPs ps) := ⟨fun h ht hd => OwnP.turn h ht hd, fun h hs => OwnP.sub h hs⟩
theorem keepsRow (ps : List (Int × Int)) : Keeps (RowC ps) := by
  refine ⟨?_, fun ⟨g, cap, hF, h⟩ hs => ⟨g, cap, hs g hF, h⟩⟩
  rintro T w w' F v ⟨g, cap, hF, rfl, h1, h2⟩ ht hd
  refine ⟨g, cap, hF, rfl, h1, ?_⟩
  rcases h2 with h | ⟨g', cap', cur, he, hb, hg, hr⟩
  · exact .inl h
  · refine .inr ⟨g', cap', cur, he, hb, ?_, hr⟩
    injection he with e1
    injection e1 with e1
    injection e1 with e1 _ _
    subst e1
    exact (ht.block g (Box.lt hg) (hd g hF)).trans hg
theorem ownPs_lt {ps : List (Int × Int)} {w : World} {F : Nat → Prop} {v : Value} (h : OwnPs ps w F v) : OwnPs ps w (fun b => F b ∧ b < w.heap.size) v := by
  rcases h with h | ⟨g, cap, hg, h0, h1, h2, h3⟩
  · exact .inl h
  · exact .inr ⟨g, cap, ⟨hg, h3.lt⟩, h0, h1, h2, h3⟩
theorem rowC_lt {ps : List (Int × Int)} {w : World} {F : Nat → Prop} {v : Value} (h : RowC ps w F v) : RowC ps w (fun b => F b ∧ b < w.heap.size) v := by
  obtain ⟨g, cap, hF, rfl, h⟩ := h
  exact ⟨g, cap, ⟨hF, (h.lt g rfl).2⟩, rfl, h⟩
theorem ownPs_at {ps : List (Int × Int)} {w : World} {F : Nat → Prop} {A : Option Addr} {n c : Nat} (h : OwnPs ps w F (.slice A n c)) : n ≤ maxLen ∧ ps.length = n ∧ Pairs w w.heap.size A n ps := by
  obtain ⟨A', c', e, h1, h2, h3⟩ := OwnP.at h
  injection e with e1 e2 e3
  subst e1 e2
  exact ⟨h1, rfl, h2.1⟩

/-- The record's variable is laid: its list is one's own, apart from it and from the answer's variable. -/
structure NewR (P : World → (Nat → Prop) → Value → Prop) (w wr : World) (V : Nat) (r1 r2 r3 r4 r5 r6 r7 : Int) (u : Value) : Prop where
  bel : Below w.heap.size w wr
  vr : Box wr V 46 #[.int .i64 r1, .int .i64 r2, .int .i64 r3, .int .i64 r4, .int .i64 r5, .int .i64 r6, .int .i64 r7, u, .int .i64 0]
  rs : Box wr (w.heap.size + 1) 46 #[.int .i64 0, .int .i64 0, .int .i64 0, .int .i64 0, .int .i64 0, .int .i64 0, .int .i64 0, .slice none 0 0, .int .i64 0]
  own : P wr (fun b => w.heap.size + 1 < b ∧ b ≠ V) u
  hV : w.heap.size + 1 < V
section
variable {P : World → (Nat → Prop) → Value → Prop} (k : Keeps P)
include k
theorem NewR.later {w wr w' : World} {V : Nat} {r1 r2 r3 r4 r5 r6 r7 : Int} {u : Value} (h : NewR P w wr V r1 r2 r3 r4 r5 r6 r7 u) (hb : Below wr.heap.size wr w') : NewR P w w' V r1 r2 r3 r4 r5 r6 r7 u :=
  ⟨bel_trans h.bel hb, h.vr.later hb h.vr.lt, h.rs.later hb h.rs.lt, k.later h.own hb, h.hV⟩
/-- The list was made ahead of the variable; behind it. -/
theorem newR_a {w w1 : World} {r1 r2 r3 r4 r5 r6 r7 : Int} {u : Value} {N : Nat} (hb0 : Below w.heap.size w w1)
    (R : Box w1 (w.heap.size + 1) 46 #[.int .i64 0, .int .i64 0, .int .i64 0, .int .i64 0, .int .i64 0, .int .i64 0, .int .i64 0, .slice none 0 0, .int .i64 0]) (hO : P w1 (Iv N w1.heap.size) u) (hN : w.heap.size + 1 < N) :
    NewR P w ((w1.alloc (.cells #[.int .i64 0, .int .i64 0, .int .i64 0, .int .i64 0, .int .i64 0, .int .i64 0, .int .i64 0, .slice none 0 0, .int .i64 0] 46)).setRow w1.heap.size #[.int .i64 r1, .int .i64 r2, .int .i64 r3, .int .i64 r4, .int .i64 r5, .int .i64 r6, .int .i64 r7, u, .int .i64 0]) w1.heap.size r1 r2 r3 r4 r5 r6 r7 u := by
  have hR := R.lt
  have hn := bel_new_row w1 #[.int .i64 0, .int .i64 0, .int .i64 0, .int .i64 0, .int .i64 0, .int .i64 0, .int .i64 0, .slice none 0 0, .int .i64 0] 46 #[.int .i64 r1, .int .i64 r2, .int .i64 r3, .int .i64 r4, .int .i64 r5, .int .i64 r6, .int .i64 r7, u, .int .i64 0]
  refine ⟨bel_trans hb0 hn, (Box.new w1 46 #[.int .i64 0, .int .i64 0, .int .i64 0, .int .i64 0, .int .i64 0, .int .i64 0, .int .i64 0, .slice none 0 0, .int .i64 0]).setRow #[.int .i64 r1, .int .i64 r2, .int .i64 r3, .int .i64 r4, .int .i64 r5, .int .i64 r6, .int .i64 r7, u, .int .i64 0], R.later hn hR, ?_, by omega⟩
  refine k.later (k.sub hO fun b hb => ?_) hn
  have h1 := hb.1
  have h2 := hb.2
  omega
theorem newR_b {w w1 : World} {r1 r2 r3 r4 r5 r6 r7 : Int} {u : Value} {V : Nat} {F : Nat → Prop} (hb0 : Below w.heap.size w w1)
    (R : Box w1 (w.heap.size + 1) 46 #[.int .i64 0, .int .i64 0, .int .i64 0, .int .i64 0, .int .i64 0, .int .i64 0, .int .i64 0, .slice none 0 0, .int .i64 0]) (B : Box w1 V 46 #[.int .i64 0, .int .i64 0, .int .i64 0, .int .i64 0, .int .i64 0, .int .i64 0, .int .i64 0, .slice none 0 0, .int .i64 0]) (hV : w.heap.size + 1 < V) (hO : P w1 F u) (hF : ∀ b, F b → w.heap.size + 1 < b ∧ b ≠ V) :
    NewR P w (w1.setRow V #[.int .i64 r1, .int .i64 r2, .int .i64 r3, .int .i64 r4, .int .i64 r5, .int .i64 r6, .int .i64 r7, u, .int .i64 0]) V r1 r2 r3 r4 r5 r6 r7 u := by
  have ht := turns_setRow w1 V #[.int .i64 r1, .int .i64 r2, .int .i64 r3, .int .i64 r4, .int .i64 r5, .int .i64 r6, .int .i64 r7, u, .int .i64 0]
  exact ⟨ht.below hb0 (fun i hi => by omega), B.setRow #[.int .i64 r1, .int .i64 r2, .int .i64 r3, .int .i64 r4, .int .i64 r5, .int .i64 r6, .int .i64 r7, u, .int .i64 0], R.turn ht (by omega), k.turn (k.sub hO hF) ht (fun b hb e => hb.2 e), hV⟩
end

set_option maxRecDepth 100000 in
set_option maxHeartbeats 4000000 in
theorem newRec_is (r1 r2 r3 r4 r5 r6 r7 : Int) (u0 : Value) (ps : List (Int × Int)) (w : World) (hn : ps.length ≤ 1048576) (h : Slc w u0 ps) :
    Calls Tryz.prog 78 #[.int .i64 r1, .int .i64 r2, .int .i64 r3, .int .i64 r4, .agg #[.int .i64 r5, .int .i64 r6], .int .i64 r7, u0] w (Copied (LieC ⟨r1, r2, r3, r4, r5, r6, r7, ps, sumN r1 r2 r3 r4 r5 r6 r7 ps⟩) w) := by
  obtain ⟨A0, n0, c0, rfl⟩ := slc_form h
  have S := (Box.new w 39 #[.int .i64 r5, .int .i64 r6]).alloc (.cells #[.int .i64 0, .int .i64 0, .int .i64 0, .int .i64 0, .int .i64 0, .int .i64 0, .int .i64 0, .slice none 0 0, .int .i64 0] 46)
  have R := Box.new (w.alloc (.cells #[.int .i64 r5, .int .i64 r6] 39)) 46 #[.int .i64 0, .int .i64 0, .int .i64 0, .int .i64 0, .int .i64 0, .int .i64 0, .int .i64 0, .slice none 0 0, .int .i64 0]
  have hb0 := bel_trans (bel_alloc w (.cells #[.int .i64 r5, .int .i64 r6] 39)) (bel_alloc _ (.cells #[.int .i64 0, .int .i64 0, .int .i64 0, .int .i64 0, .int .i64 0, .int .i64 0, .int .i64 0, .slice none 0 0, .int .i64 0] 46))
  simp only [World.size_alloc] at R
  have H := h.later hb0
  have hnn := Lib.hid hn
  clear h
  go_enter Tryz.func78, Tryz.ntmps78
  go_upto_region 1 with fail
  generalize ((w.alloc _).alloc _ : World) = w0 at hb0 S R H ⊢
  go_cut [15] (fun pv wr => ∃ (V : Nat) (A : Option Addr) (n c : Nat), pv = .pointer (some ⟨V, 0, none⟩) ∧ NewR (OwnPs ps) w wr V r1 r2 r3 r4 r5 r6 r7 (.slice A n c))
  case first =>
    refine wp_region_sink 11 (fun w' => Box w' w.heap.size 39 #[.int .i64 r5, .int .i64 r6]) (by kernel_rfl) S (fun hH => ?_)
    have hb := (Below.refl w0.heap.size w0).drew
    replace hb0 := bel_trans hb0 hb
    replace S := S.later hb S.lt
    replace R := R.later hb R.lt
    replace H := H.later hb
    clear hb
    generalize w0.drew = w3 at hb0 S R H hH ⊢
    have hRl := R.lt
    refine wpAnyE_takeS (i := 4) (v := .agg #[.int .i64 r5, .int .i64 r6]) (by simp only [List.getElem?_toArray, List.getElem?_cons_succ, List.getElem?_cons_zero]; rfl) (by kernel_rfl) (by kernel_rfl) (by kernel_rfl) (by exact fun _ _ _ h => h) (by kernel_rfl) ?yl hH ?_
    case yl => exact yields_box 39 _ rfl (w.heap.size) rfl 39 #[.int .i64 r5, .int .i64 r6] (fun _ h => h) _ Tryz.underlying39 rfl (by kernel_rfl) (by first | rfl | simp [Region.wanted, yielded] | (simp [Region.wanted, yielded, Act.put] <;> omega))
    try simp only [Act.put, List.setIfInBounds_toArray, List.set_cons_zero, List.set_cons_succ]
    refine wpAnyE_pure (i := 0) (v := ?vm0) (by simp only [List.getElem?_toArray, List.getElem?_cons_zero]; rfl) (by kernel_rfl) (by kernel_rfl) (by kernel_rfl) (by exact fun _ _ _ h => h) (by kernel_rfl) (Or.inl ⟨by rfl, ?ym0⟩) hH ?rm0
    case ym0 => (intro w' hSw; (try dsimp only at hSw); go_simp; try with_reducible rfl)
    try simp only [Act.put, List.setIfInBounds_toArray, List.set_cons_zero, List.set_cons_succ]
    refine wpAnyE_pure (i := 1) (v := ?vm1) (by simp only [List.getElem?_toArray, List.getElem?_cons_succ, List.getElem?_cons_zero]; rfl) (by kernel_rfl) (by kernel_rfl) (by kernel_rfl) (by exact fun _ _ _ h => h) (by kernel_rfl) (Or.inl ⟨by rfl, ?ym1⟩) hH ?rm1
    case ym1 => (intro w' hSw; (try dsimp only at hSw); go_simp; try with_reducible rfl)
    try simp only [Act.put, List.setIfInBounds_toArray, List.set_cons_zero, List.set_cons_succ]
    refine wpAnyE_pure (i := 2) (v := ?vm2) (by simp only [List.getElem?_toArray, List.getElem?_cons_succ, List.getElem?_cons_zero]; rfl) (by kernel_rfl) (by kernel_rfl) (by kernel_rfl) (by exact fun _ _ _ h => h) (by kernel_rfl) (Or.inl ⟨by rfl, ?ym2⟩) hH ?rm2
    case ym2 => (intro w' hSw; (try dsimp only at hSw); go_simp; try with_reducible rfl)
    try simp only [Act.put, List.setIfInBounds_toArray, List.set_cons_zero, List.set_cons_succ]
    refine wpAnyE_pure (i := 3) (v := ?vm3) (by simp only [List.getElem?_toArray, List.getElem?_cons_succ, List.getElem?_cons_zero]; rfl) (by kernel_rfl) (by kernel_rfl) (by kernel_rfl) (by exact fun _ _ _ h => h) (by kernel_rfl) (Or.inl ⟨by rfl, ?ym3⟩) hH ?rm3
    case ym3 => (intro w' hSw; (try dsimp only at hSw); go_simp; try with_reducible rfl)
    try simp only [Act.put, List.setIfInBounds_toArray, List.set_cons_zero, List.set_cons_succ]
    refine wpAnyE_pure (i := 5) (v := ?vm5) (by simp only [List.getElem?_toArray, List.getElem?_cons_succ, List.getElem?_cons_zero]; rfl) (by kernel_rfl) (by kernel_rfl) (by kernel_rfl) (by exact fun _ _ _ h => h) (by kernel_rfl) (Or.inl ⟨by rfl, ?ym5⟩) hH ?rm5
    case ym5 => (intro w' hSw; (try dsimp only at hSw); go_simp; try with_reducible rfl)
    try simp only [Act.put, List.setIfInBounds_toArray, List.set_cons_zero, List.set_cons_succ]
    refine wpAnyE_pure (i := 6) (v := ?vm6) (by simp only [List.getElem?_toArray, List.getElem?_cons_succ, List.getElem?_cons_zero]; rfl) (by kernel_rfl) (by kernel_rfl) (by kernel_rfl) (by exact fun _ _ _ h => h) (by kernel_rfl) (Or.inl ⟨by rfl, ?ym6⟩) hH ?rm6
    case ym6 => (intro w' hSw; (try dsimp only at hSw); go_simp; try with_reducible rfl)
    try simp only [Act.put, List.setIfInBounds_toArray, List.set_cons_zero, List.set_cons_succ]
    refine wpAnyE_two (i := 7) (j := 9) (by kernel_rfl) (by simp only [List.getElem?_toArray, List.getElem?_cons_succ, List.getElem?_cons_zero]; rfl) (by simp only [List.getElem?_toArray, List.getElem?_cons_succ, List.getElem?_cons_zero]; rfl) (fun K hK => ?_) (fun K hK => ?_)
    · skip
      go_simp
      refine (cloneSeals_is _ ps _ (by omega) H).mono ?_
      rintro e w4 ⟨u, rfl, hO⟩
      obtain ⟨A1, m1, c1, rfl⟩ := slc_form hO.slc
      have S4 := S.later hO.2 S.lt
      clear hH
      refine hK.out _ _ S4 (fun hH => ?_)
      clear hK K
      try simp only [Act.put, List.setIfInBounds_toArray, List.set_cons_zero, List.set_cons_succ]
      refine wpAnyE_pure (i := 8) (v := ?vb8) (by simp only [List.getElem?_toArray, List.getElem?_cons_succ, List.getElem?_cons_zero]; rfl) (by kernel_rfl) (by kernel_rfl) (by kernel_rfl) (by exact fun _ _ _ h => h) (by kernel_rfl) (Or.inl ⟨by rfl, ?yb8⟩) hH ?rb8
      case yb8 => (intro w' hSw; (try dsimp only at hSw); go_simp; try with_reducible rfl)
      try simp only [Act.put, List.setIfInBounds_toArray, List.set_cons_zero, List.set_cons_succ]
      refine wpAnyE_one (i := 9) (by kernel_rfl) (by simp only [List.getElem?_toArray, List.getElem?_cons_succ, List.getElem?_cons_zero]; rfl) (fun K hK => ?_)
      go_simp
      clear hH
      refine hK.out _ _ (S4.alloc _) (fun hH => ?_)
      clear hK K
      try simp only [Act.put, List.setIfInBounds_toArray, List.set_cons_zero, List.set_cons_succ]
      refine wpAnyE_end (i := 10) (by kernel_rfl) (by simp only [List.getElem?_toArray, List.getElem?_cons_succ, List.getElem?_cons_zero]; rfl) (by kernel_rfl) (fun K hK => ?_)
      rw [if_pos (by first | rfl | kernel_rfl | simp [Region.wanted, yielded])]
      refine wp_store_row 46 _ _ rfl w4.heap.size #[.int .i64 r1, .int .i64 r2, .int .i64 r3, .int .i64 r4, .int .i64 r5, .int .i64 r6, .int .i64 r7, .slice A1 m1 c1, .int .i64 0] rfl rfl 46 #[.int .i64 0, .int .i64 0, .int .i64 0, .int .i64 0, .int .i64 0, .int .i64 0, .int .i64 0, .slice none 0 0, .int .i64 0] (Box.new w4 46 #[.int .i64 0, .int .i64 0, .int .i64 0, .int .i64 0, .int .i64 0, .int .i64 0, .int .i64 0, .slice none 0 0, .int .i64 0]) (by kernel_rfl) rfl (by simp [Value.oneCell']) ?_
      refine hK.out _ _ (S4.later (bel_new_row w4 #[.int .i64 0, .int .i64 0, .int .i64 0, .int .i64 0, .int .i64 0, .int .i64 0, .int .i64 0, .slice none 0 0, .int .i64 0] 46 #[.int .i64 r1, .int .i64 r2, .int .i64 r3, .int .i64 r4, .int .i64 r5, .int .i64 r6, .int .i64 r7, .slice A1 m1 c1, .int .i64 0]) S4.lt) ?_
      clear hK K
      try simp only [Act.put]
      have HN := Lib.hid (newR_a (keepsOwn ps) (r1 := r1) (r2 := r2) (r3 := r3) (r4 := r4) (r5 := r5) (r6 := r6) (r7 := r7) (bel_trans hb0 hO.2) (R.later hO.2 R.lt) hO.ownP hRl)
      clear hH
      go_wp2_with fail
      go_meet
      exact ⟨_, _, _, _, rfl, HN.out⟩
    · skip
      go_simp
      have hn := bel_alloc w3 (.cells #[.int .i64 0, .int .i64 0, .int .i64 0, .int .i64 0, .int .i64 0, .int .i64 0, .int .i64 0, .slice none 0 0, .int .i64 0] 46)
      clear hH
      refine hK.out _ _ (S.alloc _) (fun hH => ?_)
      clear hK K
      try simp only [Act.put, List.setIfInBounds_toArray, List.set_cons_zero, List.set_cons_succ]
      refine wpAnyE_one (i := 7) (by kernel_rfl) (by simp only [List.getElem?_toArray, List.getElem?_cons_succ, List.getElem?_cons_zero]; rfl) (fun K hK => ?_)
      go_simp
      refine (cloneSeals_is _ ps _ (by omega) (H.later hn)).mono ?_
      rintro e w4 ⟨u, rfl, hO⟩
      obtain ⟨A1, m1, c1, rfl⟩ := slc_form hO.slc
      have S4 := (S.later hn S.lt).later hO.2 (S.later hn S.lt).lt
      have V4 := (Box.new w3 46 #[.int .i64 0, .int .i64 0, .int .i64 0, .int .i64 0, .int .i64 0, .int .i64 0, .int .i64 0, .slice none 0 0, .int .i64 0]).later hO.2 (Box.new w3 46 #[.int .i64 0, .int .i64 0, .int .i64 0, .int .i64 0, .int .i64 0, .int .i64 0, .int .i64 0, .slice none 0 0, .int .i64 0]).lt
      clear hH
      refine hK.out _ _ S4 (fun hH => ?_)
      clear hK K
      try simp only [Act.put, List.setIfInBounds_toArray, List.set_cons_zero, List.set_cons_succ]
      refine wpAnyE_pure (i := 8) (v := ?vc8) (by simp only [List.getElem?_toArray, List.getElem?_cons_succ, List.getElem?_cons_zero]; rfl) (by kernel_rfl) (by kernel_rfl) (by kernel_rfl) (by exact fun _ _ _ h => h) (by kernel_rfl) (Or.inl ⟨by rfl, ?yc8⟩) hH ?rc8
      case yc8 => (intro w' hSw; (try dsimp only at hSw); go_simp; try with_reducible rfl)
      try simp only [Act.put, List.setIfInBounds_toArray, List.set_cons_zero, List.set_cons_succ]
      refine wpAnyE_end (i := 10) (by kernel_rfl) (by simp only [List.getElem?_toArray, List.getElem?_cons_succ, List.getElem?_cons_zero]; rfl) (by kernel_rfl) (fun K hK => ?_)
      rw [if_pos (by first | rfl | kernel_rfl | simp [Region.wanted, yielded])]
      refine wp_store_row 46 _ _ rfl w3.heap.size #[.int .i64 r1, .int .i64 r2, .int .i64 r3, .int .i64 r4, .int .i64 r5, .int .i64 r6, .int .i64 r7, .slice A1 m1 c1, .int .i64 0] rfl rfl 46 #[.int .i64 0, .int .i64 0, .int .i64 0, .int .i64 0, .int .i64 0, .int .i64 0, .int .i64 0, .slice none 0 0, .int .i64 0] V4 (by kernel_rfl) rfl (by simp [Value.oneCell']) ?_
      refine hK.out _ _ (S4.turn (turns_setRow w4 w3.heap.size #[.int .i64 r1, .int .i64 r2, .int .i64 r3, .int .i64 r4, .int .i64 r5, .int .i64 r6, .int .i64 r7, .slice A1 m1 c1, .int .i64 0]) (Nat.ne_of_lt S.lt)) ?_
      clear hK K
      try simp only [Act.put]
      have HN := Lib.hid (newR_b (keepsOwn ps) (r1 := r1) (r2 := r2) (r3 := r3) (r4 := r4) (r5 := r5) (r6 := r6) (r7 := r7) (bel_trans (bel_trans hb0 hn) hO.2) ((R.later hn R.lt).later hO.2 (R.later hn R.lt).lt) V4 hRl hO.ownP (fun b hb => by have h1 := hb.1; simp only [World.size_alloc] at h1; omega))
      clear hH
      go_wp2_with fail
      go_meet
      exact ⟨_, _, _, _, rfl, HN.out⟩
  case rest =>
  clear S R hb0 H
  obtain ⟨V, A, n, c, rfl, N⟩ := hcut
  obtain ⟨w1, rfl⟩ : ∃ x, x = wc := ⟨_, rfl⟩
  obtain ⟨hm, hl, hp⟩ := ownPs_at N.own
  have hn4 : n ≤ 4194304 := by have := hnn.out; omega
  have J := Lib.hid (show (Tryz.prog.info? 46).map (·.size) = some (#[.int .i64 r1, .int .i64 r2, .int .i64 r3, .int .i64 r4, .int .i64 r5, .int .i64 r6, .int .i64 r7, .slice A n c, .int .i64 0] : Array Value).size from by kernel_rfl)
  go_wp2_with (refine wpList_load_box 46 _ rfl V rfl 46 #[.int .i64 r1, .int .i64 r2, .int .i64 r3, .int .i64 r4, .int .i64 r5, .int .i64 r6, .int .i64 r7, .slice A n c, .int .i64 0] N.vr _ Tryz.underlying46 rfl J.out (by first | rfl | simp [Region.wanted, yielded] | (simp [Region.wanted, yielded, Act.put] <;> omega)) ?_)
  refine (sumOf_is r1 r2 r3 r4 r5 r6 r7 A n c 0 ps w1 hn4 hp).mono ?_
  rintro e w2 ⟨rfl, hb⟩
  replace N := N.later (keepsOwn ps) hb
  clear hp hb
  obtain ⟨v0, v1, v2, v3, v4, v5, v6, v7, v8⟩ := N.vr.nine
  have fv := N.vr.frozen
  have hVw := N.hV
  have hVl := N.vr.lt
  generalize hs : sumN r1 r2 r3 r4 r5 r6 r7 ps = sm
  have V3 := N.vr.set 8 (.int .i64 sm)
  have R3 := N.rs.far (p := ⟨V, 8, none⟩) (by show V ≠ _; omega) (.int .i64 sm)
  have O3 := (keepsOwn ps).turn N.own (turns_setCell w2 V 8 (.int .i64 sm)) (fun b hb e => hb.2 e)
  have E3 := N.bel.setCell (p := ⟨V, 8, none⟩) (by show _ ≤ V; omega) (.int .i64 sm)
  replace V3 := Lib.hid V3
  replace R3 := Lib.hid R3
  replace O3 := Lib.hid O3
  replace E3 := Lib.hid E3
  clear N
  go_upto_region 3 with fail
  clear v0 v1 v2 v3 v4 v5 v6 v7 v8 fv
  generalize (w2.setCell _ _ : World) = w3 at V3 R3 O3 E3 ⊢
  have V4 : Box w3 V 46 #[.int .i64 r1, .int .i64 r2, .int .i64 r3, .int .i64 r4, .int .i64 r5, .int .i64 r6, .int .i64 r7, .slice A n c, .int .i64 sm] := V3.out
  have J2 := Lib.hid (show (Tryz.prog.info? 46).map (·.size) = some (#[.int .i64 r1, .int .i64 r2, .int .i64 r3, .int .i64 r4, .int .i64 r5, .int .i64 r6, .int .i64 r7, .slice A n c, .int .i64 sm] : Array Value).size from by kernel_rfl)
  have ht := turns_setRow w3 (w.heap.size + 1) #[.int .i64 r1, .int .i64 r2, .int .i64 r3, .int .i64 r4, .int .i64 r5, .int .i64 r6, .int .i64 r7, .slice A n c, .int .i64 sm]
  have X := R3.out.setRow #[.int .i64 r1, .int .i64 r2, .int .i64 r3, .int .i64 r4, .int .i64 r5, .int .i64 r6, .int .i64 r7, .slice A n c, .int .i64 sm]
  have O4 := Lib.hid ((keepsOwn ps).sub (F' := Iv w.heap.size (w3.setRow (w.heap.size + 1) #[.int .i64 r1, .int .i64 r2, .int .i64 r3, .int .i64 r4, .int .i64 r5, .int .i64 r6, .int .i64 r7, .slice A n c, .int .i64 sm]).heap.size) (ownPs_lt ((keepsOwn ps).turn O3.out ht (fun b hb e => by have := hb.1; omega))) (fun b hb => ⟨by have := hb.1.1; omega, hb.2⟩))
  have E4 := Lib.hid (ht.below E3.out (fun i hi => by omega))
  obtain ⟨x0, x1, x2, x3, x4, x5, x6, x7, x8⟩ := X.nine
  clear ht X
  go_wp2_with (first | (refine wpList_load_box 46 _ rfl V rfl 46 #[.int .i64 r1, .int .i64 r2, .int .i64 r3, .int .i64 r4, .int .i64 r5, .int .i64 r6, .int .i64 r7, .slice A n c, .int .i64 sm] V4 _ Tryz.underlying46 rfl J2.out (by first | rfl | simp [Region.wanted, yielded] | (simp [Region.wanted, yielded, Act.put] <;> omega)) ?_) | (refine wpList_store_row rfl 46 _ _ rfl (w.heap.size + 1) _ rfl rfl 46 #[.int .i64 0, .int .i64 0, .int .i64 0, .int .i64 0, .int .i64 0, .int .i64 0, .int .i64 0, .slice none 0 0, .int .i64 0] R3.out J2.out rfl (by simp [Value.oneCell']) ?_))
  exact bodyPost_ret (v := .agg #[.int .i64 r1, .int .i64 r2, .int .i64 r3, .int .i64 r4, .int .i64 r5, .int .i64 r6, .int .i64 r7, .slice A n c, .int .i64 sm]) (by simp [results, Tryz.results78, go_sem, x0, x1, x2, x3, x4, x5, x6, x7, x8]) rfl ⟨_, rfl, ⟨_, by rw [← hs]; rfl, O4.out⟩, E4.out⟩

end Go.Proofs.YtjdepjpjjgkmbaaGreat

/- Append onto a slice of the call's own, of whatever slice (nil, empty, somewhere): one law for a plain statement and one for a step of a region that draws its order; no conditions but the sizes. -/
namespace Go.Proofs.YtjdepjpjjgkmbaaGreat
open Go.RowKit Go.Deep

/-- The slice u of m elements, 'size' cells each, holds the cells news; nil where it is nil. -/
def Src (w : World) (u : Value) (m size : Nat) (news : List Value) : Prop :=
  (u = .slice none 0 0 ∧ m = 0 ∧ news = []) ∨ ∃ (ad : Addr) (c : Nat), u = .slice (some ad) m c ∧ news.length = m * size ∧ (∀ j x, news[j]? = some x → w.cell? (ad.add j) = some x) ∧ ∀ x ∈ news, x.oneCell' = true

theorem own_lies {w : World} {base : Nat} {e : TypeId} {size : Nat} {v : Value} {n : Nat} {xs : List Value} (h : w.ownsRow base e size v n xs) (hv : v ≠ .slice none 0 0) : ∃ g cap, v = .slice (some ⟨g, 0, none⟩) n cap ∧ base ≤ g ∧ g < w.heap.size := by
  rcases h.2 with ⟨h', _⟩ | ⟨g, cap, cur, rfl, hb, hg, _⟩
  · exact absurd h' hv
  · exact ⟨g, cap, rfl, hb, (h.lt g rfl).2⟩

section
variable {P : Program} {w : World}
theorem run_append_src (base : Nat) (t ty e : TypeId) (i : TypeInfo) (z : Value) (size bytes : Nat) (ht : P.underlying t = some (.slice e)) (hi : P.info? e = some i) (hz : i.zero = some z)
    (hsize : i.size = size) (hby : i.bytes = bytes) (hzs : z.cells.size = size) (hsz : 0 < size)
    (v : Value) (n : Nat) (xs : List Value) (hown : w.ownsRow base e size v n xs) (hv : v ≠ .slice none 0 0)
    (u : Value) (m : Nat) (news : List Value) (hu : Src w u m size news) (h63 : n + m ≤ maxLen) (hbytes : (n + m) * bytes ≤ 140737488355328) (hbase : base ≤ w.heap.size) :
    ∃ g cap w', (Builtin.append_ #[t, t] ty #[v, u]).run P w = .ok (.slice (some ⟨g, 0, none⟩) (n + m) cap) w' ∧ w'.ownsRow base e size (.slice (some ⟨g, 0, none⟩) (n + m) cap) (n + m) (xs ++ news) ∧ w.grownBy w' v.ownBlock ∧ base ≤ g ∧ g < w'.heap.size := by
  rcases hu with ⟨rfl, rfl, rfl⟩ | ⟨ad, c, rfl, hl, hn, h1⟩
  · have hr := run_append_owned_none (P := P) (w := w) base t ty e i size ht hi v n xs hown
    obtain ⟨g, cap, rfl, hb, hg⟩ := own_lies hown hv
    refine ⟨g, cap, w, hr, by simpa using hown, ⟨rfl, rfl, rfl, Nat.le_refl _, fun _ _ _ => rfl⟩, hb, hg⟩
  · obtain ⟨v', w', hr, h2, h3, h4⟩ := run_append_own (P := P) w base t ty e i z size bytes ht hi hz hsize hby hzs hsz v n xs hown ad m c news hl hn h1 h63 hbytes hbase
    have hv' : v' ≠ .slice none 0 0 := fun e => hv (h4.1 e).1
    obtain ⟨g, cap, rfl, hb, hg⟩ := own_lies h2 hv'
    exact ⟨g, cap, w', hr, h2, h3, hb, hg⟩

theorem wp_append_src {o : Oper} {a : Act} {K : Act → World → Prop} {Q : Exit → Act → World → Prop} (s x : Operand) (t : TypeId)
    (ho : o.op = .call { callee := .builtin .append, args := #[s, x], argTypes := #[t, t] })
    (base : Nat) (e : TypeId) (i : TypeInfo) (z : Value) (size bytes : Nat) (ht : P.underlying t = some (.slice e)) (hi : P.info? e = some i) (hz : i.zero = some z)
    (hsize : i.size = size) (hby : i.bytes = bytes) (hzs : z.cells.size = size) (hsz : 0 < size)
    (v : Value) (n : Nat) (xs : List Value) (hs : a.eval s = v) (hown : w.ownsRow base e size v n xs) (hv : v ≠ .slice none 0 0)
    (u : Value) (m : Nat) (news : List Value) (hx : a.eval x = u) (hu : Src w u m size news) (h63 : n + m ≤ maxLen) (hbytes : (n + m) * bytes ≤ 140737488355328) (hbase : base ≤ w.heap.size)
    (h : ∀ g cap w', w'.ownsRow base e size (.slice (some ⟨g, 0, none⟩) (n + m) cap) (n + m) (xs ++ news) → w.grownBy w' v.ownBlock → base ≤ g → g < w'.heap.size → K (a.put o.dst (.slice (some ⟨g, 0, none⟩) (n + m) cap)) w') : o.wp P a w K Q := by
  obtain ⟨g, cap, w', hr, h2, h3, h4, h5⟩ := run_append_src (P := P) base t o.type e i z size bytes ht hi hz hsize hby hzs hsz v n xs hown hv u m news hu h63 hbytes hbase
  unfold Oper.wp execOp
  simp only [ho, resolve, invoke, builtin, Sem.run_bind, Sem.run_pure, Result.andThen_ok, List.map_toArray, List.map_cons, List.map_nil, hs, hx, hr]
  exact h g cap w' h2 h3 h4 h5

theorem wpList_append_src {ops : Array Oper} {rest : List Oper} {o : Oper} {a : Act} {Q : Exit → Act → World → Prop} (hgd : o.guard = none) (s x : Operand) (t : TypeId)
    (ho : o.op = .call { callee := .builtin .append, args := #[s, x], argTypes := #[t, t] })
    (base : Nat) (e : TypeId) (i : TypeInfo) (z : Value) (size bytes : Nat) (ht : P.underlying t = some (.slice e)) (hi : P.info? e = some i) (hz : i.zero = some z)
    (hsize : i.size = size) (hby : i.bytes = bytes) (hzs : z.cells.size = size) (hsz : 0 < size)
    (v : Value) (n : Nat) (xs : List Value) (hs : a.eval s = v) (hown : w.ownsRow base e size v n xs) (hv : v ≠ .slice none 0 0)
    (u : Value) (m : Nat) (news : List Value) (hx : a.eval x = u) (hu : Src w u m size news) (h63 : n + m ≤ maxLen) (hbytes : (n + m) * bytes ≤ 140737488355328) (hbase : base ≤ w.heap.size)
    (h : ∀ g cap w', w'.ownsRow base e size (.slice (some ⟨g, 0, none⟩) (n + m) cap) (n + m) (xs ++ news) → w.grownBy w' v.ownBlock → base ≤ g → g < w'.heap.size → wpList P ops Q rest (a.put o.dst (.slice (some ⟨g, 0, none⟩) (n + m) cap)) w') : wpList P ops Q (o :: rest) a w :=
  wpList_plain hgd fun _ hK => wp_append_src s x t ho base e i z size bytes ht hi hz hsize hby hzs hsz v n xs hs hown hv u m news hx hu h63 hbytes hbase fun g cap w' h2 h3 h4 h5 => hK _ _ (h g cap w' h2 h3 h4 h5)

theorem step_append_src {ops : Array Oper} {o : Oper} {a : Act} {K : Act → World → Prop} {Q : Exit → Act → World → Prop} {E : Prop} (hgd : o.guard = none) (s x : Operand) (t : TypeId)
    (ho : o.op = .call { callee := .builtin .append, args := #[s, x], argTypes := #[t, t] })
    (base : Nat) (e : TypeId) (i : TypeInfo) (z : Value) (size bytes : Nat) (ht : P.underlying t = some (.slice e)) (hi : P.info? e = some i) (hz : i.zero = some z)
    (hsize : i.size = size) (hby : i.bytes = bytes) (hzs : z.cells.size = size) (hsz : 0 < size)
    (v : Value) (n : Nat) (xs : List Value) (hs : a.eval s = v) (hown : w.ownsRow base e size v n xs) (hv : v ≠ .slice none 0 0)
    (u : Value) (m : Nat) (news : List Value) (hx : a.eval x = u) (hu : Src w u m size news) (h63 : n + m ≤ maxLen) (hbytes : (n + m) * bytes ≤ 140737488355328) (hbase : base ≤ w.heap.size)
    (h : ∀ g cap w', w'.ownsRow base e size (.slice (some ⟨g, 0, none⟩) (n + m) cap) (n + m) (xs ++ news) → w.grownBy w' v.ownBlock → base ≤ g → g < w'.heap.size → K (a.put o.dst (.slice (some ⟨g, 0, none⟩) (n + m) cap)) w') :
    if Region.wanted o (yielded ops a.tmps) = true then Oper.wp P o a w K Q else E := by
  have hw : Region.wanted o (yielded ops a.tmps) = true := by simp [Region.wanted, hgd]
  rw [if_pos hw]
  exact wp_append_src s x t ho base e i z size bytes ht hi hz hsize hby hzs hsz v n xs hs hown hv u m news hx hu h63 hbytes hbase h
theorem step_append_srcN {ops : Array Oper} {o : Oper} {a : Act} {K : Act → World → Prop} {Q : Exit → Act → World → Prop} {E : Prop} (hgd : o.guard = none) (s x : Operand) (t : TypeId)
    (ho : o.op = .call { callee := .builtin .append, args := #[s, x], argTypes := #[t, t] })
    (base : Nat) (e : TypeId) (i : TypeInfo) (z : Value) (size bytes : Nat) (ht : P.underlying t = some (.slice e)) (hi : P.info? e = some i) (hz : i.zero = some z)
    (hsize : i.size = size) (hby : i.bytes = bytes) (hzs : z.cells.size = size) (hsz : 0 < size)
    (v : Value) (n : Nat) (xs : List Value) (hs : a.eval s = v) (hown : w.ownsRow base e size v n xs) (hv : v ≠ .slice none 0 0)
    (u : Value) (m : Nat) (news : List Value) (hx : a.eval x = u) (hu : Src w u m size news) (N : Nat) (XS : List Value) (hN : n + m = N) (hXS : xs ++ news = XS) (h63 : N ≤ maxLen) (hbytes : N * bytes ≤ 140737488355328) (hbase : base ≤ w.heap.size)
    (h : ∀ g cap w', w'.ownsRow base e size (.slice (some ⟨g, 0, none⟩) N cap) N XS → w.grownBy w' v.ownBlock → base ≤ g → g < w'.heap.size → K (a.put o.dst (.slice (some ⟨g, 0, none⟩) N cap)) w') :
    if Region.wanted o (yielded ops a.tmps) = true then Oper.wp P o a w K Q else E := by
  subst hN hXS
  exact step_append_src hgd s x t ho base e i z size bytes ht hi hz hsize hby hzs hsz v n xs hs hown hv u m news hx hu h63 hbytes hbase h
end

end Go.Proofs.YtjdepjpjjgkmbaaGreat

/- The model's functions of shelves, first part: a shelf copied, an open put to its place: contracts of each of them. -/
namespace Go.Proofs.YtjdepjpjjgkmbaaGreat
open Go.RowKit Go.Deep

theorem Slc.src {w : World} {u : Value} {ps : List (Int × Int)} (h : Slc w u ps) : Src w u ps.length 2 (flatP ps) := by
  rcases h with ⟨rfl, rfl⟩ | ⟨b, o, n, cap, rfl, hp⟩
  · exact .inl ⟨rfl, rfl, rfl⟩
  · exact .inr ⟨_, cap, by rw [hp.1], flatP_len ps, pairs_news hp, flatP_one ps⟩
theorem SlcQ.src {w : World} {u : Value} {os : List Opn} (h : SlcQ w u os) : Src w u os.length 4 (flatO os) := by
  rcases h with ⟨rfl, rfl⟩ | ⟨b, o, n, cap, rfl, _, _, hp⟩
  · exact .inl ⟨rfl, rfl, rfl⟩
  · exact .inr ⟨_, cap, by rw [hp.1], flatO_len os, quads_news hp, flatO_one os⟩
theorem own_resP {w : World} {base : Nat} {t : TypeId} {g cap : Nat} {ps : List (Int × Int)} (h : w.ownsRow base t 2 (.slice (some ⟨g, 0, none⟩) ps.length cap) ps.length (flatP ps)) : ResP w base w.heap.size (.slice (some ⟨g, 0, none⟩) ps.length cap) ps := by
  have h0 := own_held h
  rcases h.2 with ⟨h', _⟩ | ⟨g', cap', cur, h', hb, hg, hnc, hcm, _⟩
  · cases h'
  · injection h' with e1 _ e3
    injection e1 with e1
    injection e1 with e1 _ _
    subst e1 e3
    exact .inr ⟨g, cap, hb, h0.lt, rfl, hnc, hcm, h0⟩
theorem own_resO {w : World} {base : Nat} {t : TypeId} {g cap : Nat} {os : List Opn} (h : w.ownsRow base t 4 (.slice (some ⟨g, 0, none⟩) os.length cap) os.length (flatO os)) : ResO w base (.slice (some ⟨g, 0, none⟩) os.length cap) os := by
  have h0 := own_heldQ h
  rcases h.2 with ⟨h', _⟩ | ⟨g', cap', cur, h', hb, hg, hnc, hcm, _⟩
  · cases h'
  · injection h' with e1 _ e3
    injection e1 with e1
    injection e1 with e1 _ _
    subst e1 e3
    exact .inr ⟨g, cap, hb, rfl, hnc, hcm, h0⟩
theorem heldKept {w w' : World} {g : Nat} {d : List (Int × Int)} {r : Option Nat} (h : Held w g d) (hg : w.grownBy w' r) (hne : r ≠ some g) : Held w' g d :=
  ⟨Nat.lt_of_lt_of_le h.lt hg.size, fun o => (hg.frozen_far ⟨g, o, none⟩ h.lt (fun e => hne e.symm)).trans (h.fr o), fun i hi => (hg.cell_far ⟨g, i * 2, none⟩ h.lt (fun e => hne e.symm)).trans (h.at0 i hi), fun i hi => (hg.cell_far ⟨g, i * 2 + 1, none⟩ h.lt (fun e => hne e.symm)).trans (h.at1 i hi)⟩
theorem ResP.kept {w w' : World} {lo hi : Nat} {u : Value} {D : List (Int × Int)} {r : Nat} (h : ResP w lo hi u D) (hg : w.grownBy w' (some r)) (hr : hi ≤ r) : ResP w' lo hi u D := by
  rcases h with h | ⟨g, cap, h1, h2, h3, h4, h5, h6⟩
  · exact .inl h
  · exact .inr ⟨g, cap, h1, h2, h3, h4, h5, heldKept h6 hg (by intro e; injection e with e; omega)⟩

set_option maxRecDepth 100000 in
set_option maxHeartbeats 2000000 in
theorem l7Copy_is (rt rq rv : Int) (P : Option Addr) (p pc : Nat) (Q : Option Addr) (q qc : Nat) (ps : List (Int × Int)) (os : List Opn) (w : World) (hp : ps.length ≤ 4194304) (hq : os.length ≤ 4194304) (h1 : Slc w (.slice P p pc) ps) (h2 : SlcQ w (.slice Q q qc) os) :
    Calls Tryz.prog 98 #[.agg #[.int .i64 rt, .int .i64 rq, .int .i64 rv, .slice P p pc, .slice Q q qc]] w (RegR w rt rq rv ps os) := by
  obtain ⟨i0, hi0, hz0, hz1, hz2⟩ := info_parts Tryz.infoSealI
  obtain ⟨j0, hj0, hy0, hy1, hy2⟩ := info_parts Tryz.infoOpen
  have D := (Box.new w 80 #[.int .i64 rt, .int .i64 rq, .int .i64 rv, .slice P p pc, .slice Q q qc]).alloc (.cells #[.int .i64 0, .int .i64 0, .int .i64 0, .slice none 0 0, .slice none 0 0] 80)
  have X := Box.new (w.alloc (.cells #[.int .i64 rt, .int .i64 rq, .int .i64 rv, .slice P p pc, .slice Q q qc] 80)) 80 #[.int .i64 0, .int .i64 0, .int .i64 0, .slice none 0 0, .slice none 0 0]
  have hb0 := bel_trans (bel_alloc w (.cells #[.int .i64 rt, .int .i64 rq, .int .i64 rv, .slice P p pc, .slice Q q qc] 80)) (bel_alloc _ (.cells #[.int .i64 0, .int .i64 0, .int .i64 0, .slice none 0 0, .slice none 0 0] 80))
  simp only [World.size_alloc] at X
  have hszW : w.heap.size + 1 + 1 = ((w.alloc (.cells #[.int .i64 rt, .int .i64 rq, .int .i64 rv, .slice P p pc, .slice Q q qc] 80)).alloc (.cells #[.int .i64 0, .int .i64 0, .int .i64 0, .slice none 0 0, .slice none 0 0] 80)).heap.size := by simp
  generalize hW : ((w.alloc (.cells #[.int .i64 rt, .int .i64 rq, .int .i64 rv, .slice P p pc, .slice Q q qc] 80)).alloc (.cells #[.int .i64 0, .int .i64 0, .int .i64 0, .slice none 0 0, .slice none 0 0] 80) : World) = w0 at hb0 D X hszW
  have hb1 := bel_alloc w0 (.cells #[] 136)
  have hown := own_new w0 136 2
  have S1 := Lib.hid ((h1.later hb0).later hb1).src
  have H2 := Lib.hid (h2.later hb0)
  have D1 := D.later hb1 D.lt
  have X1 := X.later hb1 X.lt
  have E1 := bel_trans hb0 hb1
  have hbs : w0.heap.size ≤ (w0.alloc (.cells #[] 136)).heap.size := hb1.size
  replace hszW := Lib.hid hszW
  go_enter Tryz.func98, Tryz.ntmps98
  go_upto_region 1 with fail
  clear hW
  obtain ⟨d0, d1, d2, d3, d4⟩ := D.five
  have hD := D.lt
  have hX := X.lt
  go_upto_region 2 with (at_builtin; refine wpList_append_src rfl _ _ _ rfl w0.heap.size 136 i0 _ 2 16 Tryz.underlying40 hi0 hz0 hz1 hz2 rfl (by omega) (.slice (some ⟨w0.heap.size, 0, none⟩) 0 0) 0 [] rfl hown (by simp) (.slice P p pc) ps.length (flatP ps) rfl S1.out (by unfold maxLen; omega) (by omega) hbs ?_; intro g1 cap1 w1 hown1 hgrow1 hbg1 hlg1; have hR1 := hown1; rw [Nat.zero_add, List.nil_append] at hR1; have R1 := own_resP hR1; have hgr : (w0.alloc (.cells #[] 136)).grownBy w1 (some w0.heap.size) := hgrow1; have D2 := D1.kept hgr (by intro e; injection e with e; omega); have X2 := X1.kept hgr (by intro e; injection e with e; omega); have E2 := bel_grown E1 hgr (by have := hb0.size; omega); obtain ⟨e0, e1, e2, e3, e4⟩ := D2.five; have fd := D2.frozen; clear hown1 hgrow1 hR1)
  have hlo : w.heap.size < w0.heap.size := hD
  have R3 := R1.far (b := w.heap.size) hlo 3 (.slice (some ⟨g1, 0, none⟩) ps.length cap1)
  have D3 : Box (w1.setCell ⟨w.heap.size, 3, none⟩ (.slice (some ⟨g1, 0, none⟩) ps.length cap1)) w.heap.size 80 #[.int .i64 rt, .int .i64 rq, .int .i64 rv, .slice (some ⟨g1, 0, none⟩) ps.length cap1, .slice Q q qc] := D2.set 3 _
  have X3 := X2.far (p := ⟨w.heap.size, 3, none⟩) (by show w.heap.size ≠ _; omega) (.slice (some ⟨g1, 0, none⟩) ps.length cap1)
  have E3 := E2.setCell (p := ⟨w.heap.size, 3, none⟩) (Nat.le_refl _) (.slice (some ⟨g1, 0, none⟩) ps.length cap1)
  have hs3 : (w1.setCell ⟨w.heap.size, 3, none⟩ (.slice (some ⟨g1, 0, none⟩) ps.length cap1)).heap.size = w1.heap.size := size_set _ _ _
  rw [← hs3] at R3
  clear R1 D2 X2 E2 hgr e0 e1 e2 e3 e4 fd d0 d1 d2 d3 d4 D X D1 X1 E1 S1 hown hb1 hbs hs3 hlg1
  try simp only [Nat.zero_add]
  generalize (w1.setCell _ _ : World) = w2 at R3 D3 X3 E3 ⊢
  have hb4 := bel_alloc w2 (.cells #[] 97)
  have hown := own_new w2 97 4
  have S2 := Lib.hid ((h2.later E3).later hb4).src
  have D4 := D3.later hb4 D3.lt
  have X4 := X3.later hb4 X3.lt
  have E4 := bel_trans E3 hb4
  have R4 := R3.later hb4
  have hbs : w2.heap.size ≤ (w2.alloc (.cells #[] 97)).heap.size := hb4.size
  obtain ⟨d0, d1, d2, d3, d4⟩ := D3.five
  have hD3 := D3.lt
  have hX3 := X3.lt
  go_upto_region 3 with (at_builtin; refine wpList_append_src rfl _ _ _ rfl w2.heap.size 97 j0 _ 4 32 Tryz.underlying78 hj0 hy0 hy1 hy2 rfl (by omega) (.slice (some ⟨w2.heap.size, 0, none⟩) 0 0) 0 [] rfl hown (by simp) (.slice Q q qc) os.length (flatO os) rfl S2.out (by unfold maxLen; omega) (by omega) hbs ?_; intro g2 cap2 w5 hown5 hgrow5 hbg5 hlg5; have hR5 := hown5; rw [Nat.zero_add, List.nil_append] at hR5; have O5 := own_resO hR5; have hgr : (w2.alloc (.cells #[] 97)).grownBy w5 (some w2.heap.size) := hgrow5; have D5 := D4.kept hgr (by intro e; injection e with e; omega); have X5 := X4.kept hgr (by intro e; injection e with e; omega); have E5 := bel_grown E4 hgr (by have := E3.size; omega); have R5 := R4.kept hgr (Nat.le_refl _); obtain ⟨e0, e1, e2, e3, e4⟩ := D5.five; have fd := D5.frozen; clear hown5 hgrow5 hR5)
  have R6 := R5.far (b := w.heap.size) hlo 4 (.slice (some ⟨g2, 0, none⟩) os.length cap2)
  have O6 := O5.far (b := w.heap.size) hD3 4 (.slice (some ⟨g2, 0, none⟩) os.length cap2)
  have D6 : Box (w5.setCell ⟨w.heap.size, 4, none⟩ (.slice (some ⟨g2, 0, none⟩) os.length cap2)) w.heap.size 80 #[.int .i64 rt, .int .i64 rq, .int .i64 rv, .slice (some ⟨g1, 0, none⟩) ps.length cap1, .slice (some ⟨g2, 0, none⟩) os.length cap2] := D5.set 4 _
  have X6 := X5.far (p := ⟨w.heap.size, 4, none⟩) (by show w.heap.size ≠ _; omega) (.slice (some ⟨g2, 0, none⟩) os.length cap2)
  have E6 := E5.setCell (p := ⟨w.heap.size, 4, none⟩) (Nat.le_refl _) (.slice (some ⟨g2, 0, none⟩) os.length cap2)
  have hs6 : w2.heap.size ≤ (w5.setCell ⟨w.heap.size, 4, none⟩ (.slice (some ⟨g2, 0, none⟩) os.length cap2)).heap.size := by rw [size_set]; exact Nat.le_trans hb4.size hgr.size
  clear R5 O5 D5 X5 E5 hgr e0 e1 e2 e3 e4 fd d0 d1 d2 d3 d4 D3 X3 E4 R4 D4 X4 S2 hown hb4 hbs hlg5 R3
  try simp only [Nat.zero_add]
  generalize (w5.setCell _ _ : World) = w6 at R6 O6 D6 X6 E6 hs6 ⊢
  have hw2 : w0.heap.size ≤ w2.heap.size := Nat.le_trans (Nat.le_of_eq hszW.out.symm) (by omega)
  have hwB : w.heap.size ≤ w2.heap.size := E3.size
  have HP : Hid (∀ x0 x1 x2 x3 x4 : Value, RegR w rt rq rv ps os (.returned (.agg #[.int .i64 rt, .int .i64 rq, .int .i64 rv, .slice (some ⟨g1, 0, none⟩) ps.length cap1, .slice (some ⟨g2, 0, none⟩) os.length cap2])) (((((w6.setCell ⟨w.heap.size + 1, 0, none⟩ x0).setCell ⟨w.heap.size + 1, 1, none⟩ x1).setCell ⟨w.heap.size + 1, 2, none⟩ x2).setCell ⟨w.heap.size + 1, 3, none⟩ x3).setCell ⟨w.heap.size + 1, 4, none⟩ x4)) := Lib.hid fun x0 x1 x2 x3 x4 =>
    ⟨w2.heap.size, _, _, hwB, by simp only [size_set]; exact hs6, rfl, (R6.far5 hX x0 x1 x2 x3 x4).wide hb0.size (Nat.le_refl _), O6.far5 (by omega) x0 x1 x2 x3 x4, bel_five E6 (by omega) x0 x1 x2 x3 x4⟩
  obtain ⟨d0, d1, d2, d3, d4⟩ := D6.five
  obtain ⟨x0, x1, x2, x3, x4⟩ := X6.five
  have fx := X6.frozen
  clear R6 O6 E6 D6 X6
  go_wp2
  exact bodyPost_ret (v := .agg #[.int .i64 rt, .int .i64 rq, .int .i64 rv, .slice (some ⟨g1, 0, none⟩) ps.length cap1, .slice (some ⟨g2, 0, none⟩) os.length cap2]) (by simp [results, Tryz.results98, go_sem, x0, x1, x2, x3, x4]) rfl (HP.out _ _ _ _ _)


theorem putO_set {os : List Opn} {i : Nat} (h : i < os.length) (o : Opn) : putO os i (i + 1) o = os.set i o := by
  unfold putO
  rw [List.set_eq_take_append_cons_drop, if_pos h]
  simp
theorem ResP.farHi {w : World} {lo hi : Nat} {u : Value} {D : List (Int × Int)} (h : ResP w lo hi u D) {b : Nat} (hb : hi ≤ b) (o : Nat) (x : Value) : ResP (w.setCell ⟨b, o, none⟩ x) lo hi u D := by
  rcases h with h | ⟨g, cap, h1, h2, h3, h4, h5, h6⟩
  · exact .inl h
  · exact .inr ⟨g, cap, h1, h2, h3, h4, h5, HeldK.far h6 (by omega) o x⟩
theorem ResO.farS {w : World} {lo : Nat} {v : Value} {D : List Opn} (h : ResO w lo v D) {b : Nat} (hb : ∀ g cap, v = .slice (some ⟨g, 0, none⟩) D.length cap → b ≠ g) (o : Nat) (x : Value) : ResO (w.setCell ⟨b, o, none⟩ x) lo v D := by
  rcases h with h | ⟨g, cap, h1, h3, h4, h5, h6⟩
  · exact .inl h
  · exact .inr ⟨g, cap, h1, h3, h4, h5, h6.far (hb g cap h3) o x⟩
/-- One open of the copy is written, and the answer. -/
theorem swith_set {w wr : World} {rt rq rv : Int} {B g k cap : Nat} {u : Value} {ps : List (Int × Int)} {os : List Opn} {o : Opn} (hk : k < os.length) (hlo : w.heap.size + 1 + 1 < B) (hBg : B ≤ g) (hb : Below w.heap.size w wr) (hR : ResP wr (w.heap.size + 1 + 1 + 1) B u ps) (hh : HeldQ wr g os) (hc : os.length ≤ cap) (hm : cap ≤ maxLen) (hw : withO os o = putO os k (k + 1) o) (x0 x1 x2 x3 x4 : Value) :
    RegR w rt rq rv ps (withO os o) (.returned (.agg #[.int .i64 rt, .int .i64 rq, .int .i64 rv, u, .slice (some ⟨g, 0, none⟩) os.length cap])) (((((((((wr.setCell ⟨g, k * 4, none⟩ (.int .i64 o.1)).setCell ⟨g, k * 4 + 1, none⟩ (.int .i64 o.2.1)).setCell ⟨g, k * 4 + 2, none⟩ (.int .i64 o.2.2.1)).setCell ⟨g, k * 4 + 3, none⟩ (.int .i64 o.2.2.2)).setCell ⟨w.heap.size + 1 + 1, 0, none⟩ x0).setCell ⟨w.heap.size + 1 + 1, 1, none⟩ x1).setCell ⟨w.heap.size + 1 + 1, 2, none⟩ x2).setCell ⟨w.heap.size + 1 + 1, 3, none⟩ x3).setCell ⟨w.heap.size + 1 + 1, 4, none⟩ x4) := by
  have hV := hh.put k o
  have hR' := (((hR.farHi hBg (k * 4) (.int .i64 o.1)).farHi hBg (k * 4 + 1) (.int .i64 o.2.1)).farHi hBg (k * 4 + 2) (.int .i64 o.2.2.1)).farHi hBg (k * 4 + 3) (.int .i64 o.2.2.2)
  have hgw : w.heap.size ≤ g := by omega
  have hb' := (((hb.setCell (p := ⟨g, k * 4, none⟩) hgw (.int .i64 o.1)).setCell (p := ⟨g, k * 4 + 1, none⟩) hgw (.int .i64 o.2.1)).setCell (p := ⟨g, k * 4 + 2, none⟩) hgw (.int .i64 o.2.2.1)).setCell (p := ⟨g, k * 4 + 3, none⟩) hgw (.int .i64 o.2.2.2)
  have hgl := hh.lt
  rw [hw, putO_set hk]
  have hl : (os.set k o).length = os.length := List.length_set
  refine ⟨B, _, _, by omega, by simp only [size_set]; omega, rfl, (hR'.far5 (by omega) x0 x1 x2 x3 x4).wide (by omega) (Nat.le_refl _), ?_, bel_five hb' (by omega) x0 x1 x2 x3 x4⟩
  have hV' : ResO _ B (.slice (some ⟨g, 0, none⟩) os.length cap) (os.set k o) := .inr ⟨g, cap, hBg, by rw [hl], by rw [hl]; exact hc, hm, hV⟩
  exact hV'.far5 (by omega) x0 x1 x2 x3 x4

/-- What the model's WithOpen keeps: what came in, the copy, the variable of the answer. -/
structure SWith (w wr : World) (S B : Nat) (rt rq rv : Int) (P : Option Addr) (p pc : Nat) (Q : Option Addr) (q qc : Nat) (a b c d : Int) (u v : Value) (ps : List (Int × Int)) (os : List Opn) : Prop where
  bel : Below w.heap.size w wr
  D : Box wr w.heap.size 80 #[.int .i64 rt, .int .i64 rq, .int .i64 rv, .slice P p pc, .slice Q q qc]
  O : Box wr (w.heap.size + 1) 97 #[.int .i64 a, .int .i64 b, .int .i64 c, .int .i64 d]
  X : Box wr (w.heap.size + 1 + 1) 80 #[.int .i64 0, .int .i64 0, .int .i64 0, .slice none 0 0, .slice none 0 0]
  Y : Box wr S 80 #[.int .i64 rt, .int .i64 rq, .int .i64 rv, u, v]
  hlo : w.heap.size + 1 + 1 < B
  hBS : B ≤ S
  R : ResP wr (w.heap.size + 1 + 1 + 1) B u ps
  V : ResO wr B v os
  VS : ∀ g cap, v = .slice (some ⟨g, 0, none⟩) os.length cap → g < S
theorem SWith.later {w wr w' : World} {S B : Nat} {rt rq rv : Int} {P : Option Addr} {p pc : Nat} {Q : Option Addr} {q qc : Nat} {a b c d : Int} {u v : Value} {ps : List (Int × Int)} {os : List Opn} (h : SWith w wr S B rt rq rv P p pc Q q qc a b c d u v ps os) (hb : Below wr.heap.size wr w') : SWith w w' S B rt rq rv P p pc Q q qc a b c d u v ps os :=
  ⟨bel_trans h.bel hb, h.D.later hb h.D.lt, h.O.later hb h.O.lt, h.X.later hb h.X.lt, h.Y.later hb h.Y.lt, h.hlo, h.hBS, h.R.later hb, h.V.later hb, h.VS⟩

theorem ownLow {w : World} {base base' : Nat} {e : TypeId} {size : Nat} {v : Value} {n : Nat} {xs : List Value} (h : w.ownsRow base e size v n xs) (hb : base' ≤ base) : w.ownsRow base' e size v n xs := by
  refine ⟨h.1, ?_⟩
  rcases h.2 with h' | ⟨g, cap, cur, h1, h2, h3⟩
  · exact .inl h'
  · exact .inr ⟨g, cap, cur, h1, by omega, h3⟩
theorem dfive {w : World} {g g' : Nat} {t t' : TypeId} {v0 v1 v2 v3 v4 u0 u1 u2 u3 : Value} (h : Box w g t #[v0, v1, v2, v3, v4]) (h' : Box w g' t' #[u0, u1, u2, u3]) :
    w.cell? ⟨g, 4, none⟩ = some v4 ∧ w.cell? ⟨g', 0, none⟩ = some u0 ∧ w.cell? ⟨g', 1, none⟩ = some u1 ∧ w.cell? ⟨g', 2, none⟩ = some u2 ∧ w.cell? ⟨g', 3, none⟩ = some u3 :=
  ⟨h.cell 4, h'.cell 0, h'.cell 1, h'.cell 2, h'.cell 3⟩
/-- What the model's WithOpen keeps, behind its list put together. -/
def SEnd (w wr : World) (S B : Nat) (rt rq rv : Int) (u : Value) (ps : List (Int × Int)) (os : List Opn) : Prop :=
  ∃ (g n cap : Nat), Box wr (w.heap.size + 1 + 1) 80 #[.int .i64 0, .int .i64 0, .int .i64 0, .slice none 0 0, .slice none 0 0] ∧ Box wr S 80 #[.int .i64 rt, .int .i64 rq, .int .i64 rv, u, .slice (some ⟨g, 0, none⟩) n cap] ∧ ResP wr (w.heap.size + 1 + 1 + 1) B u ps ∧ ResO wr B (.slice (some ⟨g, 0, none⟩) n cap) os ∧ Below w.heap.size w wr ∧ B ≤ wr.heap.size
theorem send_mk {w wr : World} {S B : Nat} {rt rq rv : Int} {P : Option Addr} {p pc : Nat} {Q : Option Addr} {q qc : Nat} {a b c d : Int} {u v : Value} {ps : List (Int × Int)} {os J : List Opn} {g n cap : Nat} (h : SWith w wr S B rt rq rv P p pc Q q qc a b c d u v ps os) {w' : World} {t : TypeId} (hb : Below wr.heap.size wr w') (ho : w'.ownsRow wr.heap.size t 4 (.slice (some ⟨g, 0, none⟩) n cap) n (flatO J)) (hn : J.length = n) :
    SEnd w (w'.setCell ⟨S, 4, none⟩ (.slice (some ⟨g, 0, none⟩) n cap)) S B rt rq rv u ps J := by
  subst hn
  have h' := h.later hb
  have hlo := h.hlo
  have hBS := h.hBS
  have hYl := h.Y.lt
  refine ⟨g, _, cap, h'.X.far (p := ⟨S, 4, none⟩) (by show S ≠ _; omega) _, h'.Y.set 4 _, h'.R.farHi hBS 4 _, ((own_resO ho).wide (by omega)).farS (b := S) ?_ 4 _, h'.bel.setCell (p := ⟨S, 4, none⟩) (by show _ ≤ S; omega) _, by rw [size_set]; have := hb.size; omega⟩
  intro g' cap' hv
  injection hv with e1 _ _
  injection e1 with e1
  injection e1 with e1 _ _
  have := (ho.lt g rfl).1
  omega

theorem send_put {w wr : World} {B : Nat} {rt rq rv : Int} {u v : Value} {ps : List (Int × Int)} {J : List Opn} (hlo : w.heap.size + 1 + 1 < B) (hR : ResP wr (w.heap.size + 1 + 1 + 1) B u ps) (hO : ResO wr B v J) (hb : Below w.heap.size w wr) (hB : B ≤ wr.heap.size) (x0 x1 x2 x3 x4 : Value) :
    RegR w rt rq rv ps J (.returned (.agg #[.int .i64 rt, .int .i64 rq, .int .i64 rv, u, v])) (((((wr.setCell ⟨w.heap.size + 1 + 1, 0, none⟩ x0).setCell ⟨w.heap.size + 1 + 1, 1, none⟩ x1).setCell ⟨w.heap.size + 1 + 1, 2, none⟩ x2).setCell ⟨w.heap.size + 1 + 1, 3, none⟩ x3).setCell ⟨w.heap.size + 1 + 1, 4, none⟩ x4) :=
  ⟨B, u, v, by omega, by simp only [size_set]; exact hB, rfl, (hR.far5 (by omega) x0 x1 x2 x3 x4).wide (by omega) (Nat.le_refl _), hO.far5 (by omega) x0 x1 x2 x3 x4, bel_five hb (by omega) x0 x1 x2 x3 x4⟩

set_option maxRecDepth 100000 in
set_option maxHeartbeats 4000000 in
theorem specWith_is (rt rq rv : Int) (P : Option Addr) (p pc : Nat) (Q : Option Addr) (q qc : Nat) (a b c d : Int) (ps : List (Int × Int)) (os : List Opn) (w : World) (hp : ps.length ≤ 2000000) (hq : os.length ≤ 2000000) (h1 : Slc w (.slice P p pc) ps) (h2 : SlcQ w (.slice Q q qc) os) :
    Calls Tryz.prog 96 #[.agg #[.int .i64 rt, .int .i64 rq, .int .i64 rv, .slice P p pc, .slice Q q qc], .agg #[.int .i64 a, .int .i64 b, .int .i64 c, .int .i64 d]] w (RegR w rt rq rv ps (withO os (a, b, c, d))) := by
  obtain ⟨j0, hj0, hy0, hy1, hy2⟩ := info_parts Tryz.infoOpen
  have D := ((Box.new w 80 #[.int .i64 rt, .int .i64 rq, .int .i64 rv, .slice P p pc, .slice Q q qc]).alloc (.cells #[.int .i64 a, .int .i64 b, .int .i64 c, .int .i64 d] 97)).alloc (.cells #[.int .i64 0, .int .i64 0, .int .i64 0, .slice none 0 0, .slice none 0 0] 80)
  have O := (Box.new (w.alloc (.cells #[.int .i64 rt, .int .i64 rq, .int .i64 rv, .slice P p pc, .slice Q q qc] 80)) 97 #[.int .i64 a, .int .i64 b, .int .i64 c, .int .i64 d]).alloc (.cells #[.int .i64 0, .int .i64 0, .int .i64 0, .slice none 0 0, .slice none 0 0] 80)
  have X := Box.new ((w.alloc (.cells #[.int .i64 rt, .int .i64 rq, .int .i64 rv, .slice P p pc, .slice Q q qc] 80)).alloc (.cells #[.int .i64 a, .int .i64 b, .int .i64 c, .int .i64 d] 97)) 80 #[.int .i64 0, .int .i64 0, .int .i64 0, .slice none 0 0, .slice none 0 0]
  have hb0 := bel_trans (bel_trans (bel_alloc w (.cells #[.int .i64 rt, .int .i64 rq, .int .i64 rv, .slice P p pc, .slice Q q qc] 80)) (bel_alloc _ (.cells #[.int .i64 a, .int .i64 b, .int .i64 c, .int .i64 d] 97))) (bel_alloc _ (.cells #[.int .i64 0, .int .i64 0, .int .i64 0, .slice none 0 0, .slice none 0 0] 80))
  simp only [World.size_alloc] at X O
  have H1w := Lib.hid h1
  have H2w := Lib.hid h2
  clear h1 h2
  go_enter Tryz.func96, Tryz.ntmps96
  go_wp2_with fail
  generalize (((w.alloc _).alloc _).alloc _ : World) = w0 at hb0 D O X ⊢
  refine (l7Copy_is rt rq rv P p pc Q q qc ps os w0 (by omega) (by omega) (H1w.out.later hb0) (H2w.out.later hb0)).mono ?_
  rintro e w1 ⟨B, u, v, hB, hB', rfl, hR, hV, hb1⟩
  obtain ⟨A5, c5, rfl, _, _, _, _⟩ := hR.form
  obtain ⟨A6, c6, rfl, _, _, _, _⟩ := hV.form
  have hb2 := bel_alloc w1 (.cells #[.int .i64 rt, .int .i64 rq, .int .i64 rv, .slice A5 ps.length c5, .slice A6 os.length c6] 80)
  have hXl := X.lt
  have K : SWith w (w1.alloc (.cells #[.int .i64 rt, .int .i64 rq, .int .i64 rv, .slice A5 ps.length c5, .slice A6 os.length c6] 80)) w1.heap.size B rt rq rv P p pc Q q qc a b c d (.slice A5 ps.length c5) (.slice A6 os.length c6) ps os := by
    have hb12 := bel_trans hb1 hb2
    refine ⟨bel_trans hb0 hb12, D.later hb12 D.lt, O.later hb12 O.lt, X.later hb12 X.lt, Box.new w1 _ _, by omega, hB', (hR.later hb2).wide (by omega) (Nat.le_refl _), hV.later hb2, ?_⟩
    intro g cap hg
    rcases hV with ⟨h', _⟩ | ⟨g', cap', _, h', _, _, hh⟩
    · rw [h'] at hg; cases hg
    · rw [h'] at hg
      injection hg with e1 _ _
      injection e1 with e1
      injection e1 with e1 _ _
      rw [← e1]
      exact hh.lt
  clear hR hV D O X hb0 hb1 hb2 hB
  go_wp2_with fail
  generalize (w1.alloc _ : World) = w2 at K ⊢
  generalize w1.heap.size = S at K hB' ⊢
  clear hB' hXl
  go_loopw [6] (fun iv wr => ∃ k : Nat, k ≤ os.length ∧ iv = .int .i64 k ∧ (∀ j, j < k → (oth os j).1 ≠ a) ∧ SWith w wr S B rt rq rv P p pc Q q qc a b c d (.slice A5 ps.length c5) (.slice A6 os.length c6) ps os) (fun i _ => os.length - (intOf i).toNat)
  case atStart => exact ⟨0, Nat.zero_le _, rfl, fun j hj => absurd hj (by omega), K⟩
  case round =>
    obtain ⟨k, hk, rfl, hne, hK⟩ := hrel
    clear K
    by_cases hlt : k < os.length
    · rcases hK.V with ⟨_, h0⟩ | ⟨g, cap, hBg, hv, hl1, hl2, hh⟩
      · rw [h0] at hlt; exact absurd hlt (by simp)
      injection hv with e1 _ e3
      subst e1 e3
      have hgS := hK.VS g c6 rfl
      obtain ⟨g0, g1, g2, g3⟩ := hh.cs k hlt
      have hgl := hh.lt
      have m0 := After.cell (w := wr) (a := ⟨g, k * 4, none⟩) hgl g0
      have m1 := After.cell (w := wr) (a := ⟨S, 4, none⟩) hK.Y.lt (hK.Y.cell 4)
      have m2 := After.cell (w := wr) (a := ⟨w.heap.size + 1, 0, none⟩) hK.O.lt (hK.O.cell 0)
      have n4 := hK.Y.cell 4
      generalize hx : oth os k = x at m0 g0 g1 g2 g3
      obtain ⟨x, y, z, t⟩ := x
      have HX := Lib.hid hx
      have hlt' : (k : Int) < (os.length : Int) := by omega
      replace hne := Lib.hid hne
      clear hx
      have hlo := hK.hlo
      have hBS := hK.hBS
      by_cases he : x = a
      · subst he
        have hw := Lib.hid (withO_first (os := os) (o := (x, b, c, d)) (i := k) ⟨hlt, by rw [HX.out], hne.out⟩)
        go_wp2_with fail
        refine wp_region_after (by kernel_rfl) (by kernel_rfl) ?_
        repeat (first | go_big_quiet_step (fail) | quiet_step (fail))
        refine wpQuiet_nil ?_
        intro pw
        have K3 := hK.later pw.bel
        have hh3 := hh.later pw.bel
        generalize pw.x = w3 at K3 hh3 ⊢
        clear pw m0 m1 m2 g0 g1 g2 g3 hK hh n4
        obtain ⟨g0, g1, g2, g3⟩ := hh3.cs k hlt
        have fg := hh3.fr
        obtain ⟨o0, o1, o2, o3⟩ := K3.O.four
        obtain ⟨y0, y1, y2, y3, y4⟩ := K3.Y.five
        obtain ⟨x0, x1, x2, x3, x4⟩ := K3.X.five
        have fx := K3.X.frozen
        have HP := Lib.hid (swith_set (rt := rt) (rq := rq) (rv := rv) (o := (x, b, c, d)) hlt hlo hBg K3.bel K3.R hh3 hl1 hl2 hw.out)
        clear hh3 K3
        go_wp2
        exact bodyPost_ret (v := .agg #[.int .i64 rt, .int .i64 rq, .int .i64 rv, .slice A5 ps.length c5, .slice (some ⟨g, 0, none⟩) os.length c6]) (by simp [results, Tryz.results96, go_sem, x0, x1, x2, x3, x4]) rfl (HP.out _ _ _ _ _)
      · have he' : (x == a) = false := by simpa using he
        have hne2 := Lib.hid (show ∀ j, j < k + 1 → (oth os j).1 ≠ a from fun j hj => by
          by_cases ej : j = k
          · subst ej; rw [HX.out]; exact he
          · exact hne.out j (by omega))
        go_wp2_with fail
        refine wp_region_after (by kernel_rfl) (by kernel_rfl) ?_
        repeat (first | go_big_quiet_step (fail) | quiet_step (fail))
        refine wpQuiet_nil ?_
        intro pw
        have K3 := hK.later pw.bel
        replace K3 := Lib.hid K3
        go_wp2
        go_roundw
        case rel => exact ⟨k + 1, by omega, by go_num, hne2.out, K3.out⟩
        case measure => simp [intOf]; omega
    · obtain rfl : k = os.length := by omega
      have hno : noneAt a os := hne
      have HN := Lib.hid hno
      have hw := Lib.hid (withO_none (os := os) (o := (a, b, c, d)) hno)
      clear hne hno
      obtain ⟨AQ, nQ, cQ, hQv, hQl, hQ⟩ : ∃ (A : Option Addr) (n cap : Nat), Value.slice Q q qc = .slice A n cap ∧ n = os.length ∧ Quads w w.heap.size A n os := by
        rcases H2w.out with ⟨hv, rfl⟩ | ⟨bb, oo, n, cap, hv, _, _, hq⟩
        · exact ⟨none, 0, 0, hv, rfl, quads_nil _ _ _⟩
        · exact ⟨_, n, cap, hv, hq.1.symm, hq⟩
      injection hQv with e1 e2 e3
      subst e1 e2 e3 hQl
      have HQ := Lib.hid hQ
      clear hQ
      obtain ⟨d0, d1, d2, d3, d4⟩ := hK.D.five
      obtain ⟨y0, y1, y2, y3, y4⟩ := hK.Y.five
      go_wp2_with fail
      go_loopw [7, 8] (fun bv iv wr => ∃ k bb : Nat, k ≤ os.length ∧ bb ≤ k ∧ iv = .int .i64 k ∧ bv = .int .i64 bb ∧ behN a (os.take k) = bb ∧ SWith w wr S B rt rq rv P p pc Q os.length qc a b c d (.slice A5 ps.length c5) (.slice A6 os.length c6) ps os) (fun _ i _ => os.length - (intOf i).toNat)
      case atStart => exact ⟨0, 0, Nat.zero_le _, Nat.le_refl _, rfl, rfl, rfl, hK⟩
      case round =>
        clear d0 d1 d2 d3 d4 y0 y1 y2 y3 y4 hK
        obtain ⟨k, bb, hk, hbk, rfl, rfl, hbe, hK⟩ := hrel
        by_cases hlt : k < os.length
        · obtain ⟨qb, qo, hA, hbB, hcell⟩ := HQ.out.2 (by omega)
          subst hA
          have hb := hK.bel
          have hzb := hb.size
          obtain ⟨g0, _, _, _⟩ := hcell k hlt
          have g0 := (hb.cell (p := ⟨qb, qo + k * 4, none⟩) hbB).trans g0
          have m0 := After.cell (w := wr) (a := ⟨qb, qo + k * 4, none⟩) (by show qb < _; omega) g0
          have m1 := After.cell (w := wr) (a := ⟨w.heap.size, 4, none⟩) hK.D.lt (hK.D.cell 4)
          have m2 := After.cell (w := wr) (a := ⟨w.heap.size + 1, 0, none⟩) hK.O.lt (hK.O.cell 0)
          have n4 := hK.D.cell 4
          have hsn := behN_snoc (c := a) (os := os) (k := k) hlt
          generalize oth os k = x at m0 g0 hsn
          obtain ⟨x, y, z, t⟩ := x
          have hlt' : (k : Int) < (os.length : Int) := by omega
          rw [hbe] at hsn
          replace hbe := Lib.hid hbe
          clear hcell
          by_cases hl : x < a
          · simp only [hl, if_true] at hsn
            replace hsn := Lib.hid hsn
            go_wp2_with fail
            refine wp_region_after (by kernel_rfl) (by kernel_rfl) ?_
            repeat (first | go_big_quiet_step (fail) | quiet_step (fail))
            refine wpQuiet_nil ?_
            intro pw
            have K3 := hK.later pw.bel
            replace K3 := Lib.hid K3
            go_wp2
            go_roundw
            case rel => exact ⟨k + 1, k + 1, by omega, by omega, by go_num, by go_num, hsn.out, K3.out⟩
            case measure => simp [intOf]; omega
          · simp only [hl, if_false] at hsn
            replace hsn := Lib.hid hsn
            go_wp2_with fail
            refine wp_region_after (by kernel_rfl) (by kernel_rfl) ?_
            repeat (first | go_big_quiet_step (fail) | quiet_step (fail))
            refine wpQuiet_nil ?_
            intro pw
            have K3 := hK.later pw.bel
            replace K3 := Lib.hid K3
            go_wp2
            go_roundw
            case rel => exact ⟨k + 1, bb, by omega, by omega, by go_num, rfl, hsn.out, K3.out⟩
            case measure => simp [intOf]; omega
        · obtain rfl : k = os.length := by omega
          rw [List.take_length] at hbe
          rw [hbe] at hw
          replace hbe := Lib.hid hbe
          obtain ⟨o0, o1, o2, o3⟩ := hK.O.four
          have n4 := hK.D.cell 4
          have y4 := hK.Y.cell 4
          have fy := hK.Y.frozen
          have hYl := hK.Y.lt
          have hlo := hK.hlo
          have hBS := hK.hBS
          have hDl := hK.D.lt
          have hOl := hK.O.lt
          rcases H2w.out with ⟨hv, hos⟩ | ⟨qb, qo, n, cap, hv, hnc, hcm, hQ⟩
          · injection hv with e1 e2 e3
            subst e1 e3
            obtain rfl := hos
            obtain rfl : bb = 0 := by simpa using hbk
            have hEw := hK.bel
            have hsz := hEw.size
            have hbE := bel_alloc wr (.cells #[] 97)
            have OE : (wr.alloc (.cells #[] 97)).drew.ownsRow wr.heap.size 97 4 (.slice (some ⟨wr.heap.size, 0, none⟩) 0 0) 0 [] := (own_new wr 97 4).drew
            have SQ1 : Src (wr.alloc (.cells #[] 97)).drew (.slice none 0 0) 0 4 [] := .inl ⟨rfl, rfl, rfl⟩
            have hbEb := bel_trans hbE (bel_alloc _ (.cells #[.int .i64 a, .int .i64 b, .int .i64 c, .int .i64 d] 97))
            have OEb : ((wr.alloc (.cells #[] 97)).alloc (.cells #[.int .i64 a, .int .i64 b, .int .i64 c, .int .i64 d] 97)).drew.ownsRow wr.heap.size 97 4 (.slice (some ⟨wr.heap.size, 0, none⟩) 0 0) 0 [] := ((own_new wr 97 4).alloc _).drew
            have SQb : Src ((wr.alloc (.cells #[] 97)).alloc (.cells #[.int .i64 a, .int .i64 b, .int .i64 c, .int .i64 d] 97)).drew (.slice none 0 0) 0 4 [] := .inl ⟨rfl, rfl, rfl⟩
            have BOb : Box ((wr.alloc (.cells #[] 97)).alloc (.cells #[.int .i64 a, .int .i64 b, .int .i64 c, .int .i64 d] 97)).drew (wr.heap.size + 1) 97 #[.int .i64 a, .int .i64 b, .int .i64 c, .int .i64 d] := by
              have := Box.new (wr.alloc (.cells #[] 97)) 97 #[.int .i64 a, .int .i64 b, .int .i64 c, .int .i64 d]
              simp only [World.size_alloc] at this
              exact this
            have hbEc := bel_trans (bel_alloc wr (.cells #[.int .i64 a, .int .i64 b, .int .i64 c, .int .i64 d] 97)) (bel_alloc _ (.cells #[] 97))
            have OEc : ((wr.alloc (.cells #[.int .i64 a, .int .i64 b, .int .i64 c, .int .i64 d] 97)).alloc (.cells #[] 97)).drew.ownsRow wr.heap.size 97 4 (.slice (some ⟨wr.heap.size + 1, 0, none⟩) 0 0) 0 [] := by
              have := own_new (wr.alloc (.cells #[.int .i64 a, .int .i64 b, .int .i64 c, .int .i64 d] 97)) 97 4
              simp only [World.size_alloc] at this
              exact (ownLow this (by omega)).drew
            have SQc : Src ((wr.alloc (.cells #[.int .i64 a, .int .i64 b, .int .i64 c, .int .i64 d] 97)).alloc (.cells #[] 97)).drew (.slice none 0 0) 0 4 [] := .inl ⟨rfl, rfl, rfl⟩
            have BOc : Box ((wr.alloc (.cells #[.int .i64 a, .int .i64 b, .int .i64 c, .int .i64 d] 97)).alloc (.cells #[] 97)).drew wr.heap.size 97 #[.int .i64 a, .int .i64 b, .int .i64 c, .int .i64 d] := (Box.new wr 97 #[.int .i64 a, .int .i64 b, .int .i64 c, .int .i64 d]).alloc (.cells #[] 97)
            obtain ⟨L, hL⟩ : ∃ L, (putO [] 0 0 (a, b, c, d)).length = L := ⟨_, rfl⟩
            have hL' : 0 + 1 + 0 = L := by rw [← hL]; rfl
            have hLm : L ≤ 4194304 := by omega
            replace hL := Lib.hid hL
            replace hL' := Lib.hid hL'
            have hX2 : ([] : List Value) ++ [.int .i64 a, .int .i64 b, .int .i64 c, .int .i64 d] = flatO [(a, b, c, d)] := rfl
            have hX3 : flatO [(a, b, c, d)] ++ [] = flatO (putO [] 0 0 (a, b, c, d)) := rfl
            replace hX2 := Lib.hid hX2
            replace hX3 := Lib.hid hX3
            have hSD : (⟨S, 4, none⟩ : Addr).block ≠ w.heap.size := by show S ≠ _; omega
            have hSO : (⟨S, 4, none⟩ : Addr).block ≠ w.heap.size + 1 := by show S ≠ _; omega
            go_upto_region 14 with fail
            go_cut [64] (fun _ wr => SEnd w wr S B rt rq rv (.slice A5 ps.length c5) ps (putO [] 0 0 (a, b, c, d)))
            case first =>
              go_region_held3 (fun w' => w'.cell? ⟨w.heap.size, 4, none⟩ = some (.slice none 0 0) ∧ w'.cell? ⟨w.heap.size + 1, 0, none⟩ = some (.int .i64 a) ∧ w'.cell? ⟨w.heap.size + 1, 1, none⟩ = some (.int .i64 b) ∧ w'.cell? ⟨w.heap.size + 1, 2, none⟩ = some (.int .i64 c) ∧ w'.cell? ⟨w.heap.size + 1, 3, none⟩ = some (.int .i64 d))
                (first | (with_reducible exact KD) | (with_reducible exact KC) | (with_reducible exact KB) | (with_reducible exact KA) | go_keep)
                (first
                  | (refine step_append_srcN (by rfl) _ _ _ (by rfl) wr.heap.size 97 j0 _ 4 32 Tryz.underlying78 hj0 hy0 hy1 hy2 rfl (by omega) (.slice (some ⟨wr.heap.size, 0, none⟩) 0 0) 0 [] (by rfl) OE (by simp) (.slice none 0 0) 0 [] (by rfl) SQ1 0 [] (Nat.zero_add _) rfl (by unfold maxLen; omega) (by omega) (by simp; try omega) ?_; intro g1 cap1 wA hown1 hgrow1 hbg1 hlg1; have FA := bel_grown (g := wr.heap.size) (hbE.drew) hgrow1 (by omega); have KA := dfive (hK.D.later FA hK.D.lt) (hK.O.later FA hK.O.lt); have hsA' := FA.size; have hbO := bel_alloc wA (.cells #[.int .i64 a, .int .i64 b, .int .i64 c, .int .i64 d] 97); have hown1' := hown1.alloc (.cells #[.int .i64 a, .int .i64 b, .int .i64 c, .int .i64 d] 97); have SQ2 := (slcQ_one (Box.new wA 97 #[.int .i64 a, .int .i64 b, .int .i64 c, .int .i64 d])).src; have FAO := bel_trans FA hbO; have hsA := FAO.size)
                  | (refine step_append_srcN (by rfl) _ _ _ (by rfl) wr.heap.size 97 j0 _ 4 32 Tryz.underlying78 hj0 hy0 hy1 hy2 rfl (by omega) (.slice (some ⟨wr.heap.size, 0, none⟩) 0 0) 0 [] (by rfl) OEb (by simp) (.slice none 0 0) 0 [] (by rfl) SQb 0 [] (Nat.zero_add _) rfl (by unfold maxLen; omega) (by omega) (by simp; try omega) ?_; intro g1 cap1 wA hown1 hgrow1 hbg1 hlg1; have FA := bel_grown (g := wr.heap.size) (hbEb.drew) hgrow1 (by omega); have KA := dfive (hK.D.later FA hK.D.lt) (hK.O.later FA hK.O.lt); have hsA' := FA.size; have hown1' := hown1; have SQ2 := (slcQ_one (BOb.kept (r := some wr.heap.size) hgrow1 (by simp))).src; have FAO := FA; have hsA := FAO.size)
                  | (refine step_append_srcN (by rfl) _ _ _ (by rfl) wr.heap.size 97 j0 _ 4 32 Tryz.underlying78 hj0 hy0 hy1 hy2 rfl (by omega) (.slice (some ⟨wr.heap.size + 1, 0, none⟩) 0 0) 0 [] (by rfl) OEc (by simp) (.slice none 0 0) 0 [] (by rfl) SQc 0 [] (Nat.zero_add _) rfl (by unfold maxLen; omega) (by omega) (by simp; try omega) ?_; intro g1 cap1 wA hown1 hgrow1 hbg1 hlg1; have FA := bel_grown (g := wr.heap.size + 1) (hbEc.drew) hgrow1 (by omega); have KA := dfive (hK.D.later FA hK.D.lt) (hK.O.later FA hK.O.lt); have hsA' := FA.size; have hown1' := hown1; have SQ2 := (slcQ_one (BOc.kept (r := some (wr.heap.size + 1)) hgrow1 (by simp))).src; have FAO := FA; have hsA := FAO.size)
                  | (refine step_append_srcN (by rfl) _ _ _ (by rfl) wr.heap.size 97 j0 _ 4 32 Tryz.underlying78 hj0 hy0 hy1 hy2 rfl (by omega) (.slice (some ⟨g1, 0, none⟩) 0 cap1) 0 [] (by rfl) hown1' (by simp) _ 1 (flatO [(a, b, c, d)]) (by rfl) SQ2 1 (flatO [(a, b, c, d)]) rfl hX2.out (by unfold maxLen; omega) (by omega) hsA ?_; intro g2 cap2 wB hown2 hgrow2 hbg2 hlg2; have FB := bel_grown (g := g1) FAO hgrow2 hbg1; have KB := dfive (hK.D.later FB hK.D.lt) (hK.O.later FB hK.O.lt); have hsB := FB.size; have SQ3 : Src wB (.slice none 0 0) 0 4 [] := .inl ⟨rfl, rfl, rfl⟩)
                  | (refine step_append_srcN (by rfl) _ _ _ (by rfl) wr.heap.size 97 j0 _ 4 32 Tryz.underlying78 hj0 hy0 hy1 hy2 rfl (by omega) (.slice (some ⟨g2, 0, none⟩) 1 cap2) 1 (flatO [(a, b, c, d)]) (by rfl) hown2 (by simp) (.slice none 0 0) 0 [] (by rfl) SQ3 L (flatO (putO [] 0 0 (a, b, c, d))) hL'.out hX3.out (by unfold maxLen; omega) (by omega) hsB ?_; intro g3 cap3 wC hown3 hgrow3 hbg3 hlg3; have FC := bel_grown (g := g2) FB hgrow3 hbg2; have KC := dfive (hK.D.later FC hK.D.lt) (hK.O.later FC hK.O.lt); have KD := dfive ((hK.D.later FC hK.D.lt).far (p := ⟨S, 4, none⟩) hSD (.slice (some ⟨g3, 0, none⟩) L cap3)) ((hK.O.later FC hK.O.lt).far (p := ⟨S, 4, none⟩) hSO (.slice (some ⟨g3, 0, none⟩) L cap3)); have yC := (hK.Y.later FC hK.Y.lt).cell 4; have fyC := (hK.Y.later FC hK.Y.lt).frozen))
              all_goals
                have HE := Lib.hid (send_mk hK FC hown3 hL.out)
                clear KA KB KC KD yC fyC hown1 hown1' hown2 hown3 SQ1 SQ2 SQ3 SQb SQc OE OEb OEc FA FAO FB FC
                go_wp2_with fail
                go_meet
                exact HE.out
            case rest =>
            clear o0 o1 o2 o3 n4 y4 fy
            obtain ⟨g3, n3, cap3, X4, Y4, R4, O4, E4, hB4⟩ := hcut
            obtain ⟨x0, x1, x2, x3, x4⟩ := X4.five
            obtain ⟨y0, y1, y2, y3, y4'⟩ := Y4.five
            have fx := X4.frozen
            have HP := Lib.hid (send_put (rt := rt) (rq := rq) (rv := rv) hlo R4 O4 E4 hB4)
            rw [← hw.out] at HP
            clear R4 O4 X4 Y4 E4
            go_wp2
            exact bodyPost_ret (v := .agg #[.int .i64 rt, .int .i64 rq, .int .i64 rv, .slice A5 ps.length c5, .slice (some ⟨g3, 0, none⟩) n3 cap3]) (by simp [results, Tryz.results96, go_sem, x0, x1, x2, x3, x4]) rfl (HP.out _ _ _ _ _)

          · injection hv with e1 e2 e3
            subst e1 e2 e3
            unfold maxLen at hcm
            have hi0 : (0 : Int) ≤ (bb : Int) := by omega
            have hi1 : (bb : Int) ≤ (qc : Int) := by omega
            have hi2 : (bb : Int) ≤ (os.length : Int) := by omega
            have hi3 : (os.length : Int) ≤ (qc : Int) := by omega
            obtain ⟨Z, hZ⟩ : ∃ Z : Option Addr, (if qc = bb then some ⟨qb, qo, none⟩ else some ⟨qb, qo + bb * 4, none⟩) = Z := ⟨_, rfl⟩
            have hEw := hK.bel
            have hsz := hEw.size
            have hbE := bel_alloc wr (.cells #[] 97)
            have OE : (wr.alloc (.cells #[] 97)).drew.ownsRow wr.heap.size 97 4 (.slice (some ⟨wr.heap.size, 0, none⟩) 0 0) 0 [] := (own_new wr 97 4).drew
            have hQr := hQ.later hEw
            have SQ1 : Src (wr.alloc (.cells #[] 97)).drew (.slice (some ⟨qb, qo, none⟩) bb qc) bb 4 (flatO (os.take bb)) := by
              have := (slcQ_take (hQr.later hbE) hbk hnc (show qc ≤ maxLen by unfold maxLen; omega)).src
              rw [List.length_take, Nat.min_eq_left hbk] at this
              exact this
            have hbEb := bel_trans hbE (bel_alloc _ (.cells #[.int .i64 a, .int .i64 b, .int .i64 c, .int .i64 d] 97))
            have OEb : ((wr.alloc (.cells #[] 97)).alloc (.cells #[.int .i64 a, .int .i64 b, .int .i64 c, .int .i64 d] 97)).drew.ownsRow wr.heap.size 97 4 (.slice (some ⟨wr.heap.size, 0, none⟩) 0 0) 0 [] := ((own_new wr 97 4).alloc _).drew
            have SQb : Src ((wr.alloc (.cells #[] 97)).alloc (.cells #[.int .i64 a, .int .i64 b, .int .i64 c, .int .i64 d] 97)).drew (.slice (some ⟨qb, qo, none⟩) bb qc) bb 4 (flatO (os.take bb)) := by
              have := (slcQ_take (hQr.later hbEb) hbk hnc (show qc ≤ maxLen by unfold maxLen; omega)).src
              rw [List.length_take, Nat.min_eq_left hbk] at this
              exact this
            have BOb : Box ((wr.alloc (.cells #[] 97)).alloc (.cells #[.int .i64 a, .int .i64 b, .int .i64 c, .int .i64 d] 97)).drew (wr.heap.size + 1) 97 #[.int .i64 a, .int .i64 b, .int .i64 c, .int .i64 d] := by
              have := Box.new (wr.alloc (.cells #[] 97)) 97 #[.int .i64 a, .int .i64 b, .int .i64 c, .int .i64 d]
              simp only [World.size_alloc] at this
              exact this
            have hbEc := bel_trans (bel_alloc wr (.cells #[.int .i64 a, .int .i64 b, .int .i64 c, .int .i64 d] 97)) (bel_alloc _ (.cells #[] 97))
            have OEc : ((wr.alloc (.cells #[.int .i64 a, .int .i64 b, .int .i64 c, .int .i64 d] 97)).alloc (.cells #[] 97)).drew.ownsRow wr.heap.size 97 4 (.slice (some ⟨wr.heap.size + 1, 0, none⟩) 0 0) 0 [] := by
              have := own_new (wr.alloc (.cells #[.int .i64 a, .int .i64 b, .int .i64 c, .int .i64 d] 97)) 97 4
              simp only [World.size_alloc] at this
              exact (ownLow this (by omega)).drew
            have SQc : Src ((wr.alloc (.cells #[.int .i64 a, .int .i64 b, .int .i64 c, .int .i64 d] 97)).alloc (.cells #[] 97)).drew (.slice (some ⟨qb, qo, none⟩) bb qc) bb 4 (flatO (os.take bb)) := by
              have := (slcQ_take (hQr.later hbEc) hbk hnc (show qc ≤ maxLen by unfold maxLen; omega)).src
              rw [List.length_take, Nat.min_eq_left hbk] at this
              exact this
            have BOc : Box ((wr.alloc (.cells #[.int .i64 a, .int .i64 b, .int .i64 c, .int .i64 d] 97)).alloc (.cells #[] 97)).drew wr.heap.size 97 #[.int .i64 a, .int .i64 b, .int .i64 c, .int .i64 d] := (Box.new wr 97 #[.int .i64 a, .int .i64 b, .int .i64 c, .int .i64 d]).alloc (.cells #[] 97)
            obtain ⟨L, hL⟩ : ∃ L, (putO os bb bb (a, b, c, d)).length = L := ⟨_, rfl⟩
            have hL' : bb + 1 + (os.length - bb) = L := by rw [← hL, putO_len hbk hbk]
            have hLm : L ≤ 4194304 := by omega
            replace hL := Lib.hid hL
            replace hL' := Lib.hid hL'
            have hX2 : flatO (os.take bb) ++ [.int .i64 a, .int .i64 b, .int .i64 c, .int .i64 d] = flatO (os.take bb ++ [(a, b, c, d)]) := (flatO_snoc _ _ _ _ _).symm
            have hX3 : flatO (os.take bb ++ [(a, b, c, d)]) ++ flatO (os.drop bb) = flatO (putO os bb bb (a, b, c, d)) := by unfold putO; rw [flatO_app (os.take bb ++ [(a, b, c, d)])]
            replace hX2 := Lib.hid hX2
            replace hX3 := Lib.hid hX3
            have hSD : (⟨S, 4, none⟩ : Addr).block ≠ w.heap.size := by show S ≠ _; omega
            have hSO : (⟨S, 4, none⟩ : Addr).block ≠ w.heap.size + 1 := by show S ≠ _; omega
            go_upto_region 14 with fail
            go_cut [64] (fun _ wr => SEnd w wr S B rt rq rv (.slice A5 ps.length c5) ps (putO os bb bb (a, b, c, d)))
            case first =>
              go_region_held3 (fun w' => w'.cell? ⟨w.heap.size, 4, none⟩ = some (.slice (some ⟨qb, qo, none⟩) os.length qc) ∧ w'.cell? ⟨w.heap.size + 1, 0, none⟩ = some (.int .i64 a) ∧ w'.cell? ⟨w.heap.size + 1, 1, none⟩ = some (.int .i64 b) ∧ w'.cell? ⟨w.heap.size + 1, 2, none⟩ = some (.int .i64 c) ∧ w'.cell? ⟨w.heap.size + 1, 3, none⟩ = some (.int .i64 d))
                (first | (with_reducible exact KD) | (with_reducible exact KC) | (with_reducible exact KB) | (with_reducible exact KA) | go_keep)
                (first
                  | (refine step_append_srcN (by rfl) _ _ _ (by rfl) wr.heap.size 97 j0 _ 4 32 Tryz.underlying78 hj0 hy0 hy1 hy2 rfl (by omega) (.slice (some ⟨wr.heap.size, 0, none⟩) 0 0) 0 [] (by rfl) OE (by simp) (.slice (some ⟨qb, qo, none⟩) bb qc) bb (flatO (os.take bb)) (by rfl) SQ1 bb (flatO (os.take bb)) (Nat.zero_add _) rfl (by unfold maxLen; omega) (by omega) (by simp; try omega) ?_; intro g1 cap1 wA hown1 hgrow1 hbg1 hlg1; have FA := bel_grown (g := wr.heap.size) (hbE.drew) hgrow1 (by omega); have KA := dfive (hK.D.later FA hK.D.lt) (hK.O.later FA hK.O.lt); have hsA' := FA.size; have hbO := bel_alloc wA (.cells #[.int .i64 a, .int .i64 b, .int .i64 c, .int .i64 d] 97); have hown1' := hown1.alloc (.cells #[.int .i64 a, .int .i64 b, .int .i64 c, .int .i64 d] 97); have SQ2 := (slcQ_one (Box.new wA 97 #[.int .i64 a, .int .i64 b, .int .i64 c, .int .i64 d])).src; have FAO := bel_trans FA hbO; have hsA := FAO.size)
                  | (refine step_append_srcN (by rfl) _ _ _ (by rfl) wr.heap.size 97 j0 _ 4 32 Tryz.underlying78 hj0 hy0 hy1 hy2 rfl (by omega) (.slice (some ⟨wr.heap.size, 0, none⟩) 0 0) 0 [] (by rfl) OEb (by simp) (.slice (some ⟨qb, qo, none⟩) bb qc) bb (flatO (os.take bb)) (by rfl) SQb bb (flatO (os.take bb)) (Nat.zero_add _) rfl (by unfold maxLen; omega) (by omega) (by simp; try omega) ?_; intro g1 cap1 wA hown1 hgrow1 hbg1 hlg1; have FA := bel_grown (g := wr.heap.size) (hbEb.drew) hgrow1 (by omega); have KA := dfive (hK.D.later FA hK.D.lt) (hK.O.later FA hK.O.lt); have hsA' := FA.size; have hown1' := hown1; have SQ2 := (slcQ_one (BOb.kept (r := some wr.heap.size) hgrow1 (by simp))).src; have FAO := FA; have hsA := FAO.size)
                  | (refine step_append_srcN (by rfl) _ _ _ (by rfl) wr.heap.size 97 j0 _ 4 32 Tryz.underlying78 hj0 hy0 hy1 hy2 rfl (by omega) (.slice (some ⟨wr.heap.size + 1, 0, none⟩) 0 0) 0 [] (by rfl) OEc (by simp) (.slice (some ⟨qb, qo, none⟩) bb qc) bb (flatO (os.take bb)) (by rfl) SQc bb (flatO (os.take bb)) (Nat.zero_add _) rfl (by unfold maxLen; omega) (by omega) (by simp; try omega) ?_; intro g1 cap1 wA hown1 hgrow1 hbg1 hlg1; have FA := bel_grown (g := wr.heap.size + 1) (hbEc.drew) hgrow1 (by omega); have KA := dfive (hK.D.later FA hK.D.lt) (hK.O.later FA hK.O.lt); have hsA' := FA.size; have hown1' := hown1; have SQ2 := (slcQ_one (BOc.kept (r := some (wr.heap.size + 1)) hgrow1 (by simp))).src; have FAO := FA; have hsA := FAO.size)
                  | (refine step_append_srcN (by rfl) _ _ _ (by rfl) wr.heap.size 97 j0 _ 4 32 Tryz.underlying78 hj0 hy0 hy1 hy2 rfl (by omega) (.slice (some ⟨g1, 0, none⟩) bb cap1) bb (flatO (os.take bb)) (by rfl) hown1' (by simp) _ 1 (flatO [(a, b, c, d)]) (by rfl) SQ2 (bb + 1) (flatO (os.take bb ++ [(a, b, c, d)])) rfl hX2.out (by unfold maxLen; omega) (by omega) hsA ?_; intro g2 cap2 wB hown2 hgrow2 hbg2 hlg2; have FB := bel_grown (g := g1) FAO hgrow2 hbg1; have KB := dfive (hK.D.later FB hK.D.lt) (hK.O.later FB hK.O.lt); have hsB := FB.size; have SQ3 := (slcQ_drop (hQr.later FB) hbk hnc (show qc ≤ maxLen by unfold maxLen; omega)).src; rw [hZ, List.length_drop] at SQ3)
                  | (refine step_append_srcN (by rfl) _ _ _ (by rfl) wr.heap.size 97 j0 _ 4 32 Tryz.underlying78 hj0 hy0 hy1 hy2 rfl (by omega) (.slice (some ⟨g2, 0, none⟩) (bb + 1) cap2) (bb + 1) (flatO (os.take bb ++ [(a, b, c, d)])) (by rfl) hown2 (by simp) (.slice Z (os.length - bb) (qc - bb)) (os.length - bb) (flatO (os.drop bb)) (by rfl) SQ3 L (flatO (putO os bb bb (a, b, c, d))) hL'.out hX3.out (by unfold maxLen; omega) (by omega) hsB ?_; intro g3 cap3 wC hown3 hgrow3 hbg3 hlg3; have FC := bel_grown (g := g2) FB hgrow3 hbg2; have KC := dfive (hK.D.later FC hK.D.lt) (hK.O.later FC hK.O.lt); have KD := dfive ((hK.D.later FC hK.D.lt).far (p := ⟨S, 4, none⟩) hSD (.slice (some ⟨g3, 0, none⟩) L cap3)) ((hK.O.later FC hK.O.lt).far (p := ⟨S, 4, none⟩) hSO (.slice (some ⟨g3, 0, none⟩) L cap3)); have yC := (hK.Y.later FC hK.Y.lt).cell 4; have fyC := (hK.Y.later FC hK.Y.lt).frozen))
              all_goals
                have HE := Lib.hid (send_mk hK FC hown3 hL.out)
                clear KA KB KC KD yC fyC hown1 hown1' hown2 hown3 SQ1 SQ2 SQ3 SQb SQc OE OEb OEc FA FAO FB FC
                go_wp2_with fail
                go_meet
                exact HE.out
            case rest =>
            clear o0 o1 o2 o3 n4 y4 fy
            obtain ⟨g3, n3, cap3, X4, Y4, R4, O4, E4, hB4⟩ := hcut
            obtain ⟨x0, x1, x2, x3, x4⟩ := X4.five
            obtain ⟨y0, y1, y2, y3, y4'⟩ := Y4.five
            have fx := X4.frozen
            have HP := Lib.hid (send_put (rt := rt) (rq := rq) (rv := rv) hlo R4 O4 E4 hB4)
            rw [← hw.out] at HP
            clear R4 O4 X4 Y4 E4
            go_wp2
            exact bodyPost_ret (v := .agg #[.int .i64 rt, .int .i64 rq, .int .i64 rv, .slice A5 ps.length c5, .slice (some ⟨g3, 0, none⟩) n3 cap3]) (by simp [results, Tryz.results96, go_sem, x0, x1, x2, x3, x4]) rfl (HP.out _ _ _ _ _)

end Go.Proofs.YtjdepjpjjgkmbaaGreat

/- NewRec of the model at whatever it is given; conditions: how many seals it has. -/
namespace Go.Proofs.YtjdepjpjjgkmbaaGreat
open Go Go.RowKit

theorem rowC_of {w : World} {base : Nat} {g cap : Nat} {ps : List (Int × Int)} (h : w.ownsRow base 136 2 (.slice (some ⟨g, 0, none⟩) ps.length cap) ps.length (flatP ps)) : RowC ps w (Iv base w.heap.size) (.slice (some ⟨g, 0, none⟩) ps.length cap) :=
  ⟨g, cap, ⟨(h.lt g rfl).1, (h.lt g rfl).2⟩, rfl, ownLow h (Nat.zero_le _)⟩
/-- The list lies apart from a variable of another type. -/
theorem rowC_other {w : World} {base V : Nat} {t' : TypeId} {Z : Array Value} {g cap : Nat} {ps : List (Int × Int)} (h : w.ownsRow base 136 2 (.slice (some ⟨g, 0, none⟩) ps.length cap) ps.length (flatP ps)) (B : Box w V t' Z) (hne : 136 ≠ t') : RowC ps w (fun b => base ≤ b ∧ b ≠ V) (.slice (some ⟨g, 0, none⟩) ps.length cap) := by
  have hV : g ≠ V := by
    rintro rfl
    rcases h.2 with ⟨h', _⟩ | ⟨g', cap', cur, h', hb, hg, _⟩
    · cases h'
    · injection h' with e1 _ e3
      injection e1 with e1
      injection e1 with e1 _ _
      subst e1
      have e := hg.symm.trans B
      injection e with e
      injection e with _ e
      exact hne e
  exact ⟨g, cap, ⟨(h.lt g rfl).1, hV⟩, rfl, ownLow h (Nat.zero_le _)⟩
theorem RowC.own {ps : List (Int × Int)} {w : World} {F : Nat → Prop} {v : Value} (h : RowC ps w F v) : OwnPs ps w F v := by
  obtain ⟨g, cap, hF, rfl, h⟩ := h
  rcases own_resP h with h' | ⟨g', cap', h1, h2, h0, h3⟩
  · cases h'.1
  · injection h0 with e1 _ e3
    injection e1 with e1
    injection e1 with e1 _ _
    subst e1 e3
    exact .inr ⟨g, cap, hF, rfl, h3⟩
theorem rowC_at {ps : List (Int × Int)} {w : World} {F : Nat → Prop} {A : Option Addr} {n c : Nat} (h : RowC ps w F (.slice A n c)) : n ≤ maxLen ∧ ps.length = n ∧ Pairs w w.heap.size A n ps := ownPs_at h.own
/-- A record of one's own, whose list's block is known whole. -/
def LieCR (d : RecD) (w : World) (F : Nat → Prop) (v : Value) : Prop := ∃ u, v = .agg (d.cells u) ∧ RowC d.ps w F u
theorem LieCR.lie {d : RecD} {w : World} {F : Nat → Prop} {v : Value} (h : LieCR d w F v) : LieC d w F v := by
  obtain ⟨u, e, h⟩ := h
  exact ⟨u, e, h.own⟩
theorem keepsCR (d : RecD) : Keeps (LieCR d) := ⟨fun ⟨u, e, h⟩ ht hd => ⟨u, e, (keepsRow d.ps).turn h ht hd⟩, fun ⟨u, e, h⟩ hs => ⟨u, e, (keepsRow d.ps).sub h hs⟩⟩

set_option maxRecDepth 100000 in
set_option maxHeartbeats 4000000 in
theorem specNewRow_is (r1 r2 r3 r4 r5 r6 r7 : Int) (u0 : Value) (ps : List (Int × Int)) (w : World) (hn : ps.length ≤ 1048576) (h : Slc w u0 ps) :
    Calls Tryz.prog 82 #[.int .i64 r1, .int .i64 r2, .int .i64 r3, .int .i64 r4, .agg #[.int .i64 r5, .int .i64 r6], .int .i64 r7, u0] w (Copied (LieCR ⟨r1, r2, r3, r4, r5, r6, r7, ps, sumN r1 r2 r3 r4 r5 r6 r7 ps⟩) w) := by
  obtain ⟨i0, hi0, hz0, hz1, hz2⟩ := info_parts Tryz.infoSealI
  obtain ⟨A0, n0, c0, rfl⟩ := slc_form h
  have S := (Box.new w 39 #[.int .i64 r5, .int .i64 r6]).alloc (.cells #[.int .i64 0, .int .i64 0, .int .i64 0, .int .i64 0, .int .i64 0, .int .i64 0, .int .i64 0, .slice none 0 0, .int .i64 0] 46)
  have R := Box.new (w.alloc (.cells #[.int .i64 r5, .int .i64 r6] 39)) 46 #[.int .i64 0, .int .i64 0, .int .i64 0, .int .i64 0, .int .i64 0, .int .i64 0, .int .i64 0, .slice none 0 0, .int .i64 0]
  have hb0 := bel_trans (bel_alloc w (.cells #[.int .i64 r5, .int .i64 r6] 39)) (bel_alloc _ (.cells #[.int .i64 0, .int .i64 0, .int .i64 0, .int .i64 0, .int .i64 0, .int .i64 0, .int .i64 0, .slice none 0 0, .int .i64 0] 46))
  simp only [World.size_alloc] at R
  have H := h.later hb0
  have hnn := Lib.hid hn
  clear h
  go_enter Tryz.func82, Tryz.ntmps82
  go_upto_region 1 with fail
  generalize ((w.alloc _).alloc _ : World) = w0 at hb0 S R H ⊢
  go_cut [15] (fun pv wr => ∃ (V : Nat) (A : Option Addr) (n c : Nat), pv = .pointer (some ⟨V, 0, none⟩) ∧ NewR (RowC ps) w wr V r1 r2 r3 r4 r5 r6 r7 (.slice A n c))
  case first =>
    refine wp_region_sink 12 (fun w' => Box w' w.heap.size 39 #[.int .i64 r5, .int .i64 r6]) (by kernel_rfl) S (fun hH => ?_)
    have hb := (Below.refl w0.heap.size w0).drew
    replace hb0 := bel_trans hb0 hb
    replace S := S.later hb S.lt
    replace R := R.later hb R.lt
    replace H := H.later hb
    clear hb
    generalize w0.drew = w3 at hb0 S R H hH ⊢
    have hRl := R.lt
    refine wpAnyE_takeS (i := 4) (v := .agg #[.int .i64 r5, .int .i64 r6]) (by simp only [List.getElem?_toArray, List.getElem?_cons_succ, List.getElem?_cons_zero]; rfl) (by kernel_rfl) (by kernel_rfl) (by kernel_rfl) (by exact fun _ _ _ h => h) (by kernel_rfl) ?yl hH ?_
    case yl => exact yields_box 39 _ rfl (w.heap.size) rfl 39 #[.int .i64 r5, .int .i64 r6] (fun _ h => h) _ Tryz.underlying39 rfl (by kernel_rfl) (by first | rfl | simp [Region.wanted, yielded] | (simp [Region.wanted, yielded, Act.put] <;> omega))
    try simp only [Act.put, List.setIfInBounds_toArray, List.set_cons_zero, List.set_cons_succ]
    refine wpAnyE_pure (i := 0) (v := ?vm0) (by simp only [List.getElem?_toArray, List.getElem?_cons_zero]; rfl) (by kernel_rfl) (by kernel_rfl) (by kernel_rfl) (by exact fun _ _ _ h => h) (by kernel_rfl) (Or.inl ⟨by rfl, ?ym0⟩) hH ?rm0
    case ym0 => (intro w' hSw; (try dsimp only at hSw); go_simp; try with_reducible rfl)
    try simp only [Act.put, List.setIfInBounds_toArray, List.set_cons_zero, List.set_cons_succ]
    refine wpAnyE_pure (i := 1) (v := ?vm1) (by simp only [List.getElem?_toArray, List.getElem?_cons_succ, List.getElem?_cons_zero]; rfl) (by kernel_rfl) (by kernel_rfl) (by kernel_rfl) (by exact fun _ _ _ h => h) (by kernel_rfl) (Or.inl ⟨by rfl, ?ym1⟩) hH ?rm1
    case ym1 => (intro w' hSw; (try dsimp only at hSw); go_simp; try with_reducible rfl)
    try simp only [Act.put, List.setIfInBounds_toArray, List.set_cons_zero, List.set_cons_succ]
    refine wpAnyE_pure (i := 2) (v := ?vm2) (by simp only [List.getElem?_toArray, List.getElem?_cons_succ, List.getElem?_cons_zero]; rfl) (by kernel_rfl) (by kernel_rfl) (by kernel_rfl) (by exact fun _ _ _ h => h) (by kernel_rfl) (Or.inl ⟨by rfl, ?ym2⟩) hH ?rm2
    case ym2 => (intro w' hSw; (try dsimp only at hSw); go_simp; try with_reducible rfl)
    try simp only [Act.put, List.setIfInBounds_toArray, List.set_cons_zero, List.set_cons_succ]
    refine wpAnyE_pure (i := 3) (v := ?vm3) (by simp only [List.getElem?_toArray, List.getElem?_cons_succ, List.getElem?_cons_zero]; rfl) (by kernel_rfl) (by kernel_rfl) (by kernel_rfl) (by exact fun _ _ _ h => h) (by kernel_rfl) (Or.inl ⟨by rfl, ?ym3⟩) hH ?rm3
    case ym3 => (intro w' hSw; (try dsimp only at hSw); go_simp; try with_reducible rfl)
    try simp only [Act.put, List.setIfInBounds_toArray, List.set_cons_zero, List.set_cons_succ]
    refine wpAnyE_pure (i := 5) (v := ?vm5) (by simp only [List.getElem?_toArray, List.getElem?_cons_succ, List.getElem?_cons_zero]; rfl) (by kernel_rfl) (by kernel_rfl) (by kernel_rfl) (by exact fun _ _ _ h => h) (by kernel_rfl) (Or.inl ⟨by rfl, ?ym5⟩) hH ?rm5
    case ym5 => (intro w' hSw; (try dsimp only at hSw); go_simp; try with_reducible rfl)
    try simp only [Act.put, List.setIfInBounds_toArray, List.set_cons_zero, List.set_cons_succ]
    refine wpAnyE_pure (i := 7) (v := ?vm7) (by simp only [List.getElem?_toArray, List.getElem?_cons_succ, List.getElem?_cons_zero]; rfl) (by kernel_rfl) (by kernel_rfl) (by kernel_rfl) (by exact fun _ _ _ h => h) (by kernel_rfl) (Or.inl ⟨by rfl, ?ym7⟩) hH ?rm7
    case ym7 => (intro w' hSw; (try dsimp only at hSw); go_simp; try with_reducible rfl)
    try simp only [Act.put, List.setIfInBounds_toArray, List.set_cons_zero, List.set_cons_succ]
    refine wpAnyE_two (i := 6) (j := 10) (by kernel_rfl) (by simp only [List.getElem?_toArray, List.getElem?_cons_succ, List.getElem?_cons_zero]; rfl) (by simp only [List.getElem?_toArray, List.getElem?_cons_succ, List.getElem?_cons_zero]; rfl) (fun K hK => ?_) (fun K hK => ?_)
    · skip
      go_simp
      have hn := bel_alloc w3 (.cells #[] 136)
      have O3 := own_new w3 136 2
      replace S := S.alloc (.cells #[] 136)
      replace R := R.alloc (.cells #[] 136)
      replace H := H.later hn
      replace hb0 := bel_trans hb0 hn
      clear hH
      refine hK.out _ _ S (fun hH => ?_)
      clear hK K
      try simp only [Act.put, List.setIfInBounds_toArray, List.set_cons_zero, List.set_cons_succ]
      clear hn
      have hz3 : w3.heap.size < (w3.alloc (.cells #[] 136)).heap.size := by simp
      generalize (w3.alloc _ : World) = w5 at S R H hb0 O3 hH hz3 ⊢
      refine wpAnyE_two (i := 8) (j := 10) (by kernel_rfl) (by simp only [List.getElem?_toArray, List.getElem?_cons_succ, List.getElem?_cons_zero]; rfl) (by simp only [List.getElem?_toArray, List.getElem?_cons_succ, List.getElem?_cons_zero]; rfl) (fun K hK => ?_) (fun K hK => ?_)
      · skip
        refine step_append_srcN (by rfl) _ _ _ (by rfl) w3.heap.size 136 i0 _ 2 16 Tryz.underlying40 hi0 hz0 hz1 hz2 rfl (by omega) (.slice (some ⟨w3.heap.size, 0, none⟩) 0 0) 0 [] (by rfl) O3 (by simp) _ ps.length (flatP ps) (by rfl) H.src ps.length (flatP ps) (Nat.zero_add _) (List.nil_append _) (by have := hnn.out; unfold maxLen; omega) (by have := hnn.out; omega) (by (try simp only [World.size_alloc]); omega) ?_
        intro g1 cap1 w4 hown4 hgrow hbg hlg
        replace hgrow : World.grownBy _ w4 (some (w3.heap.size)) := hgrow
        have S4 := S.kept hgrow (by intro e; injection e with e; omega)
        have R4 := R.kept hgrow (by intro e; injection e with e; omega)
        have hb4 := bel_grown hb0 hgrow (by omega)
        clear hH
        refine hK.out _ _ S4 (fun hH => ?_)
        clear hK K
        try simp only [Act.put, List.setIfInBounds_toArray, List.set_cons_zero, List.set_cons_succ]
        refine wpAnyE_pure (i := 9) (v := ?va9) (by simp only [List.getElem?_toArray, List.getElem?_cons_succ, List.getElem?_cons_zero]; rfl) (by kernel_rfl) (by kernel_rfl) (by kernel_rfl) (by exact fun _ _ _ h => h) (by kernel_rfl) (Or.inl ⟨by rfl, ?ya9⟩) hH ?ra9
        case ya9 => (intro w' hSw; (try dsimp only at hSw); go_simp; try with_reducible rfl)
        try simp only [Act.put, List.setIfInBounds_toArray, List.set_cons_zero, List.set_cons_succ]
        refine wpAnyE_one (i := 10) (by kernel_rfl) (by simp only [List.getElem?_toArray, List.getElem?_cons_succ, List.getElem?_cons_zero]; rfl) (fun K hK => ?_)
        go_simp
        clear hH
        refine hK.out _ _ (S4.alloc _) (fun hH => ?_)
        clear hK K
        try simp only [Act.put, List.setIfInBounds_toArray, List.set_cons_zero, List.set_cons_succ]
        refine wpAnyE_end (i := 11) (by kernel_rfl) (by simp only [List.getElem?_toArray, List.getElem?_cons_succ, List.getElem?_cons_zero]; rfl) (by kernel_rfl) (fun K hK => ?_)
        rw [if_pos (by first | rfl | kernel_rfl | simp [Region.wanted, yielded])]
        refine wp_store_row 46 _ _ rfl w4.heap.size #[.int .i64 r1, .int .i64 r2, .int .i64 r3, .int .i64 r4, .int .i64 r5, .int .i64 r6, .int .i64 r7, .slice (some ⟨g1, 0, none⟩) ps.length cap1, .int .i64 0] rfl rfl 46 #[.int .i64 0, .int .i64 0, .int .i64 0, .int .i64 0, .int .i64 0, .int .i64 0, .int .i64 0, .slice none 0 0, .int .i64 0] (Box.new w4 46 #[.int .i64 0, .int .i64 0, .int .i64 0, .int .i64 0, .int .i64 0, .int .i64 0, .int .i64 0, .slice none 0 0, .int .i64 0]) (by kernel_rfl) rfl (by simp [Value.oneCell']) ?_
        refine hK.out _ _ (S4.later (bel_new_row w4 #[.int .i64 0, .int .i64 0, .int .i64 0, .int .i64 0, .int .i64 0, .int .i64 0, .int .i64 0, .slice none 0 0, .int .i64 0] 46 #[.int .i64 r1, .int .i64 r2, .int .i64 r3, .int .i64 r4, .int .i64 r5, .int .i64 r6, .int .i64 r7, .slice (some ⟨g1, 0, none⟩) ps.length cap1, .int .i64 0]) S4.lt) ?_
        clear hK K
        try simp only [Act.put]
        have HN := Lib.hid (newR_a (keepsRow ps) (r1 := r1) (r2 := r2) (r3 := r3) (r4 := r4) (r5 := r5) (r6 := r6) (r7 := r7) hb4 R4 (rowC_of hown4) (by omega))
        clear hH
        go_wp2_with fail
        go_meet
        exact ⟨_, _, _, _, rfl, HN.out⟩
      · skip
        go_simp
        have hn := bel_alloc w5 (.cells #[.int .i64 0, .int .i64 0, .int .i64 0, .int .i64 0, .int .i64 0, .int .i64 0, .int .i64 0, .slice none 0 0, .int .i64 0] 46)
        have V5 := Box.new w5 46 #[.int .i64 0, .int .i64 0, .int .i64 0, .int .i64 0, .int .i64 0, .int .i64 0, .int .i64 0, .slice none 0 0, .int .i64 0]
        replace S := S.alloc (.cells #[.int .i64 0, .int .i64 0, .int .i64 0, .int .i64 0, .int .i64 0, .int .i64 0, .int .i64 0, .slice none 0 0, .int .i64 0] 46)
        replace R := R.alloc (.cells #[.int .i64 0, .int .i64 0, .int .i64 0, .int .i64 0, .int .i64 0, .int .i64 0, .int .i64 0, .slice none 0 0, .int .i64 0] 46)
        replace H := H.later hn
        replace hb0 := bel_trans hb0 hn
        replace O3 := O3.alloc (.cells #[.int .i64 0, .int .i64 0, .int .i64 0, .int .i64 0, .int .i64 0, .int .i64 0, .int .i64 0, .slice none 0 0, .int .i64 0] 46)
        clear hH
        refine hK.out _ _ S (fun hH => ?_)
        clear hK K
        try simp only [Act.put, List.setIfInBounds_toArray, List.set_cons_zero, List.set_cons_succ]
        refine wpAnyE_one (i := 8) (by kernel_rfl) (by simp only [List.getElem?_toArray, List.getElem?_cons_succ, List.getElem?_cons_zero]; rfl) (fun K hK => ?_)
        refine step_append_srcN (by rfl) _ _ _ (by rfl) w3.heap.size 136 i0 _ 2 16 Tryz.underlying40 hi0 hz0 hz1 hz2 rfl (by omega) (.slice (some ⟨w3.heap.size, 0, none⟩) 0 0) 0 [] (by rfl) O3 (by simp) _ ps.length (flatP ps) (by rfl) H.src ps.length (flatP ps) (Nat.zero_add _) (List.nil_append _) (by have := hnn.out; unfold maxLen; omega) (by have := hnn.out; omega) (by (try simp only [World.size_alloc]); omega) ?_
        intro g1 cap1 w4 hown4 hgrow hbg hlg
        replace hgrow : World.grownBy _ w4 (some (w3.heap.size)) := hgrow
        have S4 := S.kept hgrow (by intro e; injection e with e; omega)
        have R4 := R.kept hgrow (by intro e; injection e with e; omega)
        have V4 := V5.kept hgrow (by intro e; injection e with e; omega)
        have hb4 := bel_grown hb0 hgrow (by omega)
        clear hH
        refine hK.out _ _ S4 (fun hH => ?_)
        clear hK K
        try simp only [Act.put, List.setIfInBounds_toArray, List.set_cons_zero, List.set_cons_succ]
        refine wpAnyE_pure (i := 9) (v := ?vb9) (by simp only [List.getElem?_toArray, List.getElem?_cons_succ, List.getElem?_cons_zero]; rfl) (by kernel_rfl) (by kernel_rfl) (by kernel_rfl) (by exact fun _ _ _ h => h) (by kernel_rfl) (Or.inl ⟨by rfl, ?yb9⟩) hH ?rb9
        case yb9 => (intro w' hSw; (try dsimp only at hSw); go_simp; try with_reducible rfl)
        try simp only [Act.put, List.setIfInBounds_toArray, List.set_cons_zero, List.set_cons_succ]
        refine wpAnyE_end (i := 11) (by kernel_rfl) (by simp only [List.getElem?_toArray, List.getElem?_cons_succ, List.getElem?_cons_zero]; rfl) (by kernel_rfl) (fun K hK => ?_)
        rw [if_pos (by first | rfl | kernel_rfl | simp [Region.wanted, yielded])]
        refine wp_store_row 46 _ _ rfl w5.heap.size #[.int .i64 r1, .int .i64 r2, .int .i64 r3, .int .i64 r4, .int .i64 r5, .int .i64 r6, .int .i64 r7, .slice (some ⟨g1, 0, none⟩) ps.length cap1, .int .i64 0] rfl rfl 46 #[.int .i64 0, .int .i64 0, .int .i64 0, .int .i64 0, .int .i64 0, .int .i64 0, .int .i64 0, .slice none 0 0, .int .i64 0] V4 (by kernel_rfl) rfl (by simp [Value.oneCell']) ?_
        refine hK.out _ _ (S4.turn (turns_setRow w4 w5.heap.size #[.int .i64 r1, .int .i64 r2, .int .i64 r3, .int .i64 r4, .int .i64 r5, .int .i64 r6, .int .i64 r7, .slice (some ⟨g1, 0, none⟩) ps.length cap1, .int .i64 0]) (by omega)) ?_
        clear hK K
        try simp only [Act.put]
        have HN := Lib.hid (newR_b (keepsRow ps) (r1 := r1) (r2 := r2) (r3 := r3) (r4 := r4) (r5 := r5) (r6 := r6) (r7 := r7) hb4 R4 V4 (by omega) (rowC_other hown4 V4 (by decide)) (fun b hb => ⟨by have := hb.1; omega, hb.2⟩))
        clear hH
        go_wp2_with fail
        go_meet
        exact ⟨_, _, _, _, rfl, HN.out⟩
    · skip
      go_simp
      have hn := bel_alloc w3 (.cells #[.int .i64 0, .int .i64 0, .int .i64 0, .int .i64 0, .int .i64 0, .int .i64 0, .int .i64 0, .slice none 0 0, .int .i64 0] 46)
      have V5 := Box.new w3 46 #[.int .i64 0, .int .i64 0, .int .i64 0, .int .i64 0, .int .i64 0, .int .i64 0, .int .i64 0, .slice none 0 0, .int .i64 0]
      replace S := S.alloc (.cells #[.int .i64 0, .int .i64 0, .int .i64 0, .int .i64 0, .int .i64 0, .int .i64 0, .int .i64 0, .slice none 0 0, .int .i64 0] 46)
      replace R := R.alloc (.cells #[.int .i64 0, .int .i64 0, .int .i64 0, .int .i64 0, .int .i64 0, .int .i64 0, .int .i64 0, .slice none 0 0, .int .i64 0] 46)
      replace H := H.later hn
      replace hb0 := bel_trans hb0 hn
      have hz3 : w3.heap.size < (w3.alloc (.cells #[.int .i64 0, .int .i64 0, .int .i64 0, .int .i64 0, .int .i64 0, .int .i64 0, .int .i64 0, .slice none 0 0, .int .i64 0] 46)).heap.size := by simp
      have hVb := hRl
      generalize w3.heap.size = V at V5 hz3 hVb ⊢
      generalize hw5 : (w3.alloc _ : World) = w5 at S R H hb0 V5 hz3 ⊢
      clear hH
      refine hK.out _ _ S (fun hH => ?_)
      clear hK K
      try simp only [Act.put, List.setIfInBounds_toArray, List.set_cons_zero, List.set_cons_succ]
      refine wpAnyE_one (i := 6) (by kernel_rfl) (by simp only [List.getElem?_toArray, List.getElem?_cons_succ, List.getElem?_cons_zero]; rfl) (fun K hK => ?_)
      go_simp
      have hn := bel_alloc w5 (.cells #[] 136)
      have O3 := own_new w5 136 2
      replace S := S.alloc (.cells #[] 136)
      replace R := R.alloc (.cells #[] 136)
      replace V5 := V5.alloc (.cells #[] 136)
      replace H := H.later hn
      replace hb0 := bel_trans hb0 hn
      clear hH
      refine hK.out _ _ S (fun hH => ?_)
      clear hK K
      try simp only [Act.put, List.setIfInBounds_toArray, List.set_cons_zero, List.set_cons_succ]
      refine wpAnyE_one (i := 8) (by kernel_rfl) (by simp only [List.getElem?_toArray, List.getElem?_cons_succ, List.getElem?_cons_zero]; rfl) (fun K hK => ?_)
      refine step_append_srcN (by rfl) _ _ _ (by rfl) w5.heap.size 136 i0 _ 2 16 Tryz.underlying40 hi0 hz0 hz1 hz2 rfl (by omega) (.slice (some ⟨w5.heap.size, 0, none⟩) 0 0) 0 [] (by rfl) O3 (by simp) _ ps.length (flatP ps) (by rfl) H.src ps.length (flatP ps) (Nat.zero_add _) (List.nil_append _) (by have := hnn.out; unfold maxLen; omega) (by have := hnn.out; omega) (by (try simp only [World.size_alloc]); omega) ?_
      intro g1 cap1 w4 hown4 hgrow hbg hlg
      replace hgrow : World.grownBy _ w4 (some (w5.heap.size)) := hgrow
      have S4 := S.kept hgrow (by intro e; injection e with e; omega)
      have R4 := R.kept hgrow (by intro e; injection e with e; omega)
      have V4 := V5.kept hgrow (by intro e; injection e with e; omega)
      have hb4 := bel_grown hb0 hgrow (by omega)
      clear hH
      refine hK.out _ _ S4 (fun hH => ?_)
      clear hK K
      try simp only [Act.put, List.setIfInBounds_toArray, List.set_cons_zero, List.set_cons_succ]
      refine wpAnyE_pure (i := 9) (v := ?vc9) (by simp only [List.getElem?_toArray, List.getElem?_cons_succ, List.getElem?_cons_zero]; rfl) (by kernel_rfl) (by kernel_rfl) (by kernel_rfl) (by exact fun _ _ _ h => h) (by kernel_rfl) (Or.inl ⟨by rfl, ?yc9⟩) hH ?rc9
      case yc9 => (intro w' hSw; (try dsimp only at hSw); go_simp; try with_reducible rfl)
      try simp only [Act.put, List.setIfInBounds_toArray, List.set_cons_zero, List.set_cons_succ]
      refine wpAnyE_end (i := 11) (by kernel_rfl) (by simp only [List.getElem?_toArray, List.getElem?_cons_succ, List.getElem?_cons_zero]; rfl) (by kernel_rfl) (fun K hK => ?_)
      rw [if_pos (by first | rfl | kernel_rfl | simp [Region.wanted, yielded])]
      refine wp_store_row 46 _ _ rfl V #[.int .i64 r1, .int .i64 r2, .int .i64 r3, .int .i64 r4, .int .i64 r5, .int .i64 r6, .int .i64 r7, .slice (some ⟨g1, 0, none⟩) ps.length cap1, .int .i64 0] rfl rfl 46 #[.int .i64 0, .int .i64 0, .int .i64 0, .int .i64 0, .int .i64 0, .int .i64 0, .int .i64 0, .slice none 0 0, .int .i64 0] V4 (by kernel_rfl) rfl (by simp [Value.oneCell']) ?_
      refine hK.out _ _ (S4.turn (turns_setRow w4 V #[.int .i64 r1, .int .i64 r2, .int .i64 r3, .int .i64 r4, .int .i64 r5, .int .i64 r6, .int .i64 r7, .slice (some ⟨g1, 0, none⟩) ps.length cap1, .int .i64 0]) (by omega)) ?_
      clear hK K
      try simp only [Act.put]
      have HN := Lib.hid (newR_b (keepsRow ps) (r1 := r1) (r2 := r2) (r3 := r3) (r4 := r4) (r5 := r5) (r6 := r6) (r7 := r7) hb4 R4 V4 hVb (rowC_of hown4) (fun b hb => by have := hb.1; omega))
      clear hH
      go_wp2_with fail
      go_meet
      exact ⟨_, _, _, _, rfl, HN.out⟩
  case rest =>
  clear S R hb0 H
  obtain ⟨V, A, n, c, rfl, N⟩ := hcut
  obtain ⟨w1, rfl⟩ : ∃ x, x = wc := ⟨_, rfl⟩
  obtain ⟨hm, hl, hp⟩ := rowC_at N.own
  have hn4 : n ≤ 4194304 := by have := hnn.out; omega
  have J := Lib.hid (show (Tryz.prog.info? 46).map (·.size) = some (#[.int .i64 r1, .int .i64 r2, .int .i64 r3, .int .i64 r4, .int .i64 r5, .int .i64 r6, .int .i64 r7, .slice A n c, .int .i64 0] : Array Value).size from by kernel_rfl)
  go_wp2_with (refine wpList_load_box 46 _ rfl V rfl 46 #[.int .i64 r1, .int .i64 r2, .int .i64 r3, .int .i64 r4, .int .i64 r5, .int .i64 r6, .int .i64 r7, .slice A n c, .int .i64 0] N.vr _ Tryz.underlying46 rfl J.out (by first | rfl | simp [Region.wanted, yielded] | (simp [Region.wanted, yielded, Act.put] <;> omega)) ?_)
  refine (specSumOf_is r1 r2 r3 r4 r5 r6 r7 A n c 0 ps w1 hn4 hp).mono ?_
  rintro e w2 ⟨rfl, hb⟩
  replace N := N.later (keepsRow ps) hb
  clear hp hb
  obtain ⟨v0, v1, v2, v3, v4, v5, v6, v7, v8⟩ := N.vr.nine
  have fv := N.vr.frozen
  have hVw := N.hV
  have hVl := N.vr.lt
  generalize hs : sumN r1 r2 r3 r4 r5 r6 r7 ps = sm
  have V3 := N.vr.set 8 (.int .i64 sm)
  have R3 := N.rs.far (p := ⟨V, 8, none⟩) (by show V ≠ _; omega) (.int .i64 sm)
  have O3 := (keepsRow ps).turn N.own (turns_setCell w2 V 8 (.int .i64 sm)) (fun b hb e => hb.2 e)
  have E3 := N.bel.setCell (p := ⟨V, 8, none⟩) (by show _ ≤ V; omega) (.int .i64 sm)
  replace V3 := Lib.hid V3
  replace R3 := Lib.hid R3
  replace O3 := Lib.hid O3
  replace E3 := Lib.hid E3
  clear N
  go_upto_region 3 with fail
  clear v0 v1 v2 v3 v4 v5 v6 v7 v8 fv
  generalize (w2.setCell _ _ : World) = w3 at V3 R3 O3 E3 ⊢
  have V4 : Box w3 V 46 #[.int .i64 r1, .int .i64 r2, .int .i64 r3, .int .i64 r4, .int .i64 r5, .int .i64 r6, .int .i64 r7, .slice A n c, .int .i64 sm] := V3.out
  have J2 := Lib.hid (show (Tryz.prog.info? 46).map (·.size) = some (#[.int .i64 r1, .int .i64 r2, .int .i64 r3, .int .i64 r4, .int .i64 r5, .int .i64 r6, .int .i64 r7, .slice A n c, .int .i64 sm] : Array Value).size from by kernel_rfl)
  have ht := turns_setRow w3 (w.heap.size + 1) #[.int .i64 r1, .int .i64 r2, .int .i64 r3, .int .i64 r4, .int .i64 r5, .int .i64 r6, .int .i64 r7, .slice A n c, .int .i64 sm]
  have X := R3.out.setRow #[.int .i64 r1, .int .i64 r2, .int .i64 r3, .int .i64 r4, .int .i64 r5, .int .i64 r6, .int .i64 r7, .slice A n c, .int .i64 sm]
  have O4 := Lib.hid ((keepsRow ps).sub (F' := Iv w.heap.size (w3.setRow (w.heap.size + 1) #[.int .i64 r1, .int .i64 r2, .int .i64 r3, .int .i64 r4, .int .i64 r5, .int .i64 r6, .int .i64 r7, .slice A n c, .int .i64 sm]).heap.size) (rowC_lt ((keepsRow ps).turn O3.out ht (fun b hb e => by have := hb.1; omega))) (fun b hb => ⟨by have := hb.1.1; omega, hb.2⟩))
  have E4 := Lib.hid (ht.below E3.out (fun i hi => by omega))
  obtain ⟨x0, x1, x2, x3, x4, x5, x6, x7, x8⟩ := X.nine
  clear ht X
  go_wp2_with (first | (refine wpList_load_box 46 _ rfl V rfl 46 #[.int .i64 r1, .int .i64 r2, .int .i64 r3, .int .i64 r4, .int .i64 r5, .int .i64 r6, .int .i64 r7, .slice A n c, .int .i64 sm] V4 _ Tryz.underlying46 rfl J2.out (by first | rfl | simp [Region.wanted, yielded] | (simp [Region.wanted, yielded, Act.put] <;> omega)) ?_) | (refine wpList_store_row rfl 46 _ _ rfl (w.heap.size + 1) _ rfl rfl 46 #[.int .i64 0, .int .i64 0, .int .i64 0, .int .i64 0, .int .i64 0, .int .i64 0, .int .i64 0, .slice none 0 0, .int .i64 0] R3.out J2.out rfl (by simp [Value.oneCell']) ?_))
  exact bodyPost_ret (v := .agg #[.int .i64 r1, .int .i64 r2, .int .i64 r3, .int .i64 r4, .int .i64 r5, .int .i64 r6, .int .i64 r7, .slice A n c, .int .i64 sm]) (by simp [results, Tryz.results82, go_sem, x0, x1, x2, x3, x4, x5, x6, x7, x8]) rfl ⟨_, rfl, ⟨_, by rw [← hs]; rfl, O4.out⟩, E4.out⟩

theorem specNewRec_is (r1 r2 r3 r4 r5 r6 r7 : Int) (u0 : Value) (ps : List (Int × Int)) (w : World) (hn : ps.length ≤ 1048576) (h : Slc w u0 ps) :
    Calls Tryz.prog 82 #[.int .i64 r1, .int .i64 r2, .int .i64 r3, .int .i64 r4, .agg #[.int .i64 r5, .int .i64 r6], .int .i64 r7, u0] w (Copied (LieC ⟨r1, r2, r3, r4, r5, r6, r7, ps, sumN r1 r2 r3 r4 r5 r6 r7 ps⟩) w) := by
  refine (specNewRow_is r1 r2 r3 r4 r5 r6 r7 u0 ps w hn h).mono ?_
  rintro e w' ⟨C, rfl, L, hb⟩
  exact ⟨C, rfl, L.lie, hb⟩

end Go.Proofs.YtjdepjpjjgkmbaaGreat

/- Words of chapter 4: what the functions of certificates compute; SealRight's contracts with the answer under a name; no conditions. -/
namespace Go.Proofs.YtjdepjpjjgkmbaaGreat
open Go.RowKit

/-- Is this seal right? -/
def rB (s l c sh : Int) (zs : List Int) (ck ch ct cq cv : Int) (p : Int × Int) : Bool := riB s l c sh zs ck ch ct cq cv p.1 p.2
/-- The right ones, one of each server, in order. -/
def goodP (R : Int × Int → Bool) (ps : List (Int × Int)) : List (Int × Int) := puts (ps.filter R)
theorem goodP_nil (R : Int × Int → Bool) : goodP R [] = [] := rfl
theorem goodP_yes {R : Int × Int → Bool} {ps : List (Int × Int)} {k : Nat} (h : k < ps.length) (hR : R (pth ps k) = true) : goodP R (ps.take (k + 1)) = put (goodP R (ps.take k)) (pth ps k) := by
  rw [List.take_succ_eq_append_getElem h, ← pth_lt h]
  unfold goodP
  rw [List.filter_append, show [pth ps k].filter R = [pth ps k] by simp [hR], puts_snoc]
theorem goodP_no {R : Int × Int → Bool} {ps : List (Int × Int)} {k : Nat} (h : k < ps.length) (hR : R (pth ps k) = false) : goodP R (ps.take (k + 1)) = goodP R (ps.take k) := by
  rw [List.take_succ_eq_append_getElem h, ← pth_lt h]
  unfold goodP
  rw [List.filter_append, show [pth ps k].filter R = [] by simp [hR], List.append_nil]
theorem goodP_le (R : Int × Int → Bool) (ps : List (Int × Int)) : (goodP R ps).length ≤ ps.length :=
  Nat.le_trans (puts_le _) (List.length_filter_le _ _)
/-- What CertCount answers. -/
def cntN (s l c sh : Int) (zs : List Int) (ck ch ct cq cv : Int) (ps : List (Int × Int)) : Int := ((goodP (rB s l c sh zs ck ch ct cq cv) ps).length : Int)
/-- What CertOk answers. -/
def cerB (s l c sh : Int) (zs : List Int) (ck ch ct cq cv : Int) (ps : List (Int × Int)) : Bool := okB s l c sh zs && decide ((ps.length : Int) ≤ 20) && decide (quoN s l c sh zs ≤ cntN s l c sh zs ck ch ct cq cv ps)
/-- What ProvenOk answers. -/
def proB (s l c sh : Int) (zs : List Int) (x ct cq v : Int) (ps : List (Int × Int)) : Bool :=
  okB s l c sh zs && inB x 0 (sh - 1) && ((decide (ct = 0 ∧ cq = 0) && decide (v = 0)) || cerB s l c sh zs 1 x ct cq v ps)

theorem rightB_is {s l c sh : Int} {zs : List Int} {ck ch ct cq cv x t : Int} {b : Bool} (h : rB s l c sh zs ck ch ct cq cv (x, t) = b) (A : Option Addr) (n cap : Nat) (w : World) (hm : n ≤ maxLen) (hr : Row w w.heap.size A n zs) :
    Calls Tryz.prog 244 #[.agg #[.int .i64 s, .int .i64 l, .int .i64 c, .int .i64 sh, .slice A n cap], .agg #[.int .i64 ck, .int .i64 ch, .int .i64 ct, .int .i64 cq, .int .i64 cv], .agg #[.int .i64 x, .int .i64 t]] w fun e w' => e = .returned (.bool b) ∧ Below w.heap.size w w' := h ▸ sealRight_any s l c sh A n cap zs ck ch ct cq cv x t w hm hr
theorem specRightB_is {s l c sh : Int} {zs : List Int} {ck ch ct cq cv x t : Int} {b : Bool} (h : rB s l c sh zs ck ch ct cq cv (x, t) = b) (A : Option Addr) (n cap : Nat) (w : World) (hm : n ≤ maxLen) (hr : Row w w.heap.size A n zs) :
    Calls Tryz.prog 237 #[.agg #[.int .i64 s, .int .i64 l, .int .i64 c, .int .i64 sh, .slice A n cap], .agg #[.int .i64 ck, .int .i64 ch, .int .i64 ct, .int .i64 cq, .int .i64 cv], .agg #[.int .i64 x, .int .i64 t]] w fun e w' => e = .returned (.bool b) ∧ Below w.heap.size w w' := h ▸ specRight_any s l c sh A n cap zs ck ch ct cq cv x t w hm hr
/-- A right one is of a server. -/
theorem rB_who {s l c sh : Int} {zs : List Int} {ck ch ct cq cv : Int} {p : Int × Int} (h : rB s l c sh zs ck ch ct cq cv p = true) : 0 ≤ p.1 ∧ p.1 < s ∧ s ≤ 10 := by
  simp only [rB, riB, seB, srvB, Bool.and_eq_true] at h
  have h1 := okB_parts h.1.2.1
  have h2 := inB_true.1 h.1.2.2
  omega

end Go.Proofs.YtjdepjpjjgkmbaaGreat

/- The functions of certificates, first part: the flags of who sealed, CertCount, GoodSeals: contracts of each of them; up to some four million seals. -/
namespace Go.Proofs.YtjdepjpjjgkmbaaGreat
open Go.RowKit

/-- The flag of the server i: has it sealed? -/
def fl (J : List (Int × Int)) (i : Nat) : Bool := has J (i : Int)
theorem fl_put (J : List (Int × Int)) (x t : Int) (i : Nat) : fl (put J (x, t)) i = (fl J i || decide ((i : Int) = x)) := by
  rw [Bool.eq_iff_iff]
  simp only [fl, Bool.or_eq_true, decide_eq_true_eq, has_mem]
  unfold put
  split
  · rename_i h
    constructor
    · exact .inl
    · rintro (h' | h')
      · exact h'
      · rw [h']; exact has_mem.1 h
  · constructor
    · rintro ⟨p, hp, e⟩
      rcases ins_mem.1 hp with h | h
      · rw [h] at e; exact .inr e.symm
      · exact .inl ⟨p, h, e⟩
    · rintro (⟨p, hp, e⟩ | e)
      · exact ⟨p, ins_mem.2 (.inr hp), e⟩
      · exact ⟨(x, t), ins_mem.2 (.inl rfl), e.symm⟩

theorem Box.ten' {w : World} {g : Nat} {t : TypeId} {v0 v1 v2 v3 v4 v5 v6 v7 v8 v9 : Value} (h : Box w g t #[v0, v1, v2, v3, v4, v5, v6, v7, v8, v9]) :
    w.cell? ⟨g, 0, none⟩ = some v0 ∧ w.cell? ⟨g, 1, none⟩ = some v1 ∧ w.cell? ⟨g, 2, none⟩ = some v2 ∧ w.cell? ⟨g, 3, none⟩ = some v3 ∧ w.cell? ⟨g, 4, none⟩ = some v4 ∧ w.cell? ⟨g, 5, none⟩ = some v5 ∧ w.cell? ⟨g, 6, none⟩ = some v6 ∧ w.cell? ⟨g, 7, none⟩ = some v7 ∧ w.cell? ⟨g, 8, none⟩ = some v8 ∧ w.cell? ⟨g, 9, none⟩ = some v9 :=
  ⟨h.cell 0, h.cell 1, h.cell 2, h.cell 3, h.cell 4, h.cell 5, h.cell 6, h.cell 7, h.cell 8, h.cell 9⟩

theorem bel_ten {w w' : World} {B g : Nat} (h : Below B w w') (hg : B ≤ g) (u0 u1 u2 u3 u4 u5 u6 u7 u8 u9 : Value) :
    Below B w ((((((((((w'.setCell ⟨g, 0, none⟩ u0).setCell ⟨g, 1, none⟩ u1).setCell ⟨g, 2, none⟩ u2).setCell ⟨g, 3, none⟩ u3).setCell ⟨g, 4, none⟩ u4).setCell ⟨g, 5, none⟩ u5).setCell ⟨g, 6, none⟩ u6).setCell ⟨g, 7, none⟩ u7).setCell ⟨g, 8, none⟩ u8).setCell ⟨g, 9, none⟩ u9) :=
  (((((((((h.setCell hg u0).setCell hg u1).setCell hg u2).setCell hg u3).setCell hg u4).setCell hg u5).setCell hg u6).setCell hg u7).setCell hg u8).setCell hg u9
/-- The flag of x is set. -/
theorem Box.flag {w : World} {g : Nat} {ty : TypeId} {J : List (Int × Int)} (h : Box w g ty #[.bool (fl (J) 0), .bool (fl (J) 1), .bool (fl (J) 2), .bool (fl (J) 3), .bool (fl (J) 4), .bool (fl (J) 5), .bool (fl (J) 6), .bool (fl (J) 7), .bool (fl (J) 8), .bool (fl (J) 9)]) (x t : Int) (hx : 0 ≤ x ∧ x < 10) : Box (w.setCell ⟨g, x.toNat, none⟩ (.bool true)) g ty #[.bool (fl (put J (x, t)) 0), .bool (fl (put J (x, t)) 1), .bool (fl (put J (x, t)) 2), .bool (fl (put J (x, t)) 3), .bool (fl (put J (x, t)) 4), .bool (fl (put J (x, t)) 5), .bool (fl (put J (x, t)) 6), .bool (fl (put J (x, t)) 7), .bool (fl (put J (x, t)) 8), .bool (fl (put J (x, t)) 9)] := by
  have h' := h.set x.toNat (.bool true)
  have e : (#[.bool (fl (J) 0), .bool (fl (J) 1), .bool (fl (J) 2), .bool (fl (J) 3), .bool (fl (J) 4), .bool (fl (J) 5), .bool (fl (J) 6), .bool (fl (J) 7), .bool (fl (J) 8), .bool (fl (J) 9)] : Array Value).setIfInBounds x.toNat (.bool true) = #[.bool (fl (put J (x, t)) 0), .bool (fl (put J (x, t)) 1), .bool (fl (put J (x, t)) 2), .bool (fl (put J (x, t)) 3), .bool (fl (put J (x, t)) 4), .bool (fl (put J (x, t)) 5), .bool (fl (put J (x, t)) 6), .bool (fl (put J (x, t)) 7), .bool (fl (put J (x, t)) 8), .bool (fl (put J (x, t)) 9)] := by
    have hc : x = 0 ∨ x = 1 ∨ x = 2 ∨ x = 3 ∨ x = 4 ∨ x = 5 ∨ x = 6 ∨ x = 7 ∨ x = 8 ∨ x = 9 := by omega
    rcases hc with rfl | rfl | rfl | rfl | rfl | rfl | rfl | rfl | rfl | rfl <;> simp [fl_put] <;> rfl
  rw [e] at h'
  exact h'

set_option maxRecDepth 100000 in
set_option maxHeartbeats 1000000 in
theorem and_no (J : List (Int × Int)) (s l c sh : Int) (A : Option Addr) (n cap : Nat) (zs : List Int) (ck ch ct cq cv x t : Int) (w : World) (hR : rB s l c sh zs ck ch ct cq cv (x, t) = false) (hm : n ≤ maxLen) (hr : Row w w.heap.size A n zs) :
    Calls Tryz.prog 246 #[.agg #[.bool (fl (J) 0), .bool (fl (J) 1), .bool (fl (J) 2), .bool (fl (J) 3), .bool (fl (J) 4), .bool (fl (J) 5), .bool (fl (J) 6), .bool (fl (J) 7), .bool (fl (J) 8), .bool (fl (J) 9)], .agg #[.int .i64 s, .int .i64 l, .int .i64 c, .int .i64 sh, .slice A n cap], .agg #[.int .i64 ck, .int .i64 ch, .int .i64 ct, .int .i64 cq, .int .i64 cv], .agg #[.int .i64 x, .int .i64 t]] w fun e w' => e = .returned (.agg #[.bool (fl (J) 0), .bool (fl (J) 1), .bool (fl (J) 2), .bool (fl (J) 3), .bool (fl (J) 4), .bool (fl (J) 5), .bool (fl (J) 6), .bool (fl (J) 7), .bool (fl (J) 8), .bool (fl (J) 9)]) ∧ Below w.heap.size w w' := by
  have hz : Box ((((w.alloc (.cells #[.bool (fl (J) 0), .bool (fl (J) 1), .bool (fl (J) 2), .bool (fl (J) 3), .bool (fl (J) 4), .bool (fl (J) 5), .bool (fl (J) 6), .bool (fl (J) 7), .bool (fl (J) 8), .bool (fl (J) 9)] 255)).alloc (.cells #[.int .i64 s, .int .i64 l, .int .i64 c, .int .i64 sh, .slice A n cap] 26)).alloc (.cells #[.int .i64 ck, .int .i64 ch, .int .i64 ct, .int .i64 cq, .int .i64 cv] 180)).alloc (.cells #[.int .i64 x, .int .i64 t] 136)) w.heap.size 255 #[.bool (fl (J) 0), .bool (fl (J) 1), .bool (fl (J) 2), .bool (fl (J) 3), .bool (fl (J) 4), .bool (fl (J) 5), .bool (fl (J) 6), .bool (fl (J) 7), .bool (fl (J) 8), .bool (fl (J) 9)] := (((Box.new w _ _).alloc _).alloc _).alloc _
  have DG := ((Box.new (w.alloc (.cells #[.bool (fl (J) 0), .bool (fl (J) 1), .bool (fl (J) 2), .bool (fl (J) 3), .bool (fl (J) 4), .bool (fl (J) 5), .bool (fl (J) 6), .bool (fl (J) 7), .bool (fl (J) 8), .bool (fl (J) 9)] 255)) 26 #[.int .i64 s, .int .i64 l, .int .i64 c, .int .i64 sh, .slice A n cap]).alloc (.cells #[.int .i64 ck, .int .i64 ch, .int .i64 ct, .int .i64 cq, .int .i64 cv] 180)).alloc (.cells #[.int .i64 x, .int .i64 t] 136)
  have DC := (Box.new ((w.alloc (.cells #[.bool (fl (J) 0), .bool (fl (J) 1), .bool (fl (J) 2), .bool (fl (J) 3), .bool (fl (J) 4), .bool (fl (J) 5), .bool (fl (J) 6), .bool (fl (J) 7), .bool (fl (J) 8), .bool (fl (J) 9)] 255)).alloc (.cells #[.int .i64 s, .int .i64 l, .int .i64 c, .int .i64 sh, .slice A n cap] 26)) 180 #[.int .i64 ck, .int .i64 ch, .int .i64 ct, .int .i64 cq, .int .i64 cv]).alloc (.cells #[.int .i64 x, .int .i64 t] 136)
  have DS := Box.new (((w.alloc (.cells #[.bool (fl (J) 0), .bool (fl (J) 1), .bool (fl (J) 2), .bool (fl (J) 3), .bool (fl (J) 4), .bool (fl (J) 5), .bool (fl (J) 6), .bool (fl (J) 7), .bool (fl (J) 8), .bool (fl (J) 9)] 255)).alloc (.cells #[.int .i64 s, .int .i64 l, .int .i64 c, .int .i64 sh, .slice A n cap] 26)).alloc (.cells #[.int .i64 ck, .int .i64 ch, .int .i64 ct, .int .i64 cq, .int .i64 cv] 180)) 136 #[.int .i64 x, .int .i64 t]
  have E0 := bel_trans (bel_trans (bel_trans (bel_alloc w (.cells #[.bool (fl (J) 0), .bool (fl (J) 1), .bool (fl (J) 2), .bool (fl (J) 3), .bool (fl (J) 4), .bool (fl (J) 5), .bool (fl (J) 6), .bool (fl (J) 7), .bool (fl (J) 8), .bool (fl (J) 9)] 255)) (bel_alloc _ (.cells #[.int .i64 s, .int .i64 l, .int .i64 c, .int .i64 sh, .slice A n cap] 26))) (bel_alloc _ (.cells #[.int .i64 ck, .int .i64 ch, .int .i64 ct, .int .i64 cq, .int .i64 cv] 180))) (bel_alloc _ (.cells #[.int .i64 x, .int .i64 t] 136))
  simp only [World.size_alloc] at DG DC DS
  have HR := Lib.hid hr
  have HM := Lib.hid hm
  clear hr hm
  replace hz := hz.alloc (.cells #[.bool false, .bool false, .bool false, .bool false, .bool false, .bool false, .bool false, .bool false, .bool false, .bool false] 255)
  replace DG := DG.alloc (.cells #[.bool false, .bool false, .bool false, .bool false, .bool false, .bool false, .bool false, .bool false, .bool false, .bool false] 255)
  replace DC := DC.alloc (.cells #[.bool false, .bool false, .bool false, .bool false, .bool false, .bool false, .bool false, .bool false, .bool false, .bool false] 255)
  replace DS := DS.alloc (.cells #[.bool false, .bool false, .bool false, .bool false, .bool false, .bool false, .bool false, .bool false, .bool false, .bool false] 255)
  have DR := Box.new ((((w.alloc (.cells #[.bool (fl (J) 0), .bool (fl (J) 1), .bool (fl (J) 2), .bool (fl (J) 3), .bool (fl (J) 4), .bool (fl (J) 5), .bool (fl (J) 6), .bool (fl (J) 7), .bool (fl (J) 8), .bool (fl (J) 9)] 255)).alloc (.cells #[.int .i64 s, .int .i64 l, .int .i64 c, .int .i64 sh, .slice A n cap] 26)).alloc (.cells #[.int .i64 ck, .int .i64 ch, .int .i64 ct, .int .i64 cq, .int .i64 cv] 180)).alloc (.cells #[.int .i64 x, .int .i64 t] 136)) 255 #[.bool false, .bool false, .bool false, .bool false, .bool false, .bool false, .bool false, .bool false, .bool false, .bool false]
  replace E0 := bel_trans E0 (bel_alloc _ (.cells #[.bool false, .bool false, .bool false, .bool false, .bool false, .bool false, .bool false, .bool false, .bool false, .bool false] 255))
  simp only [World.size_alloc] at DR
  have HY := Lib.hid hR
  clear hR
  go_enter Tryz.func246, Tryz.ntmps246
  go_wp2_with fail
  generalize (((((w.alloc _).alloc _).alloc _).alloc _).alloc _ : World) = w1 at E0 hz DG DC DS DR ⊢
  refine (rightB_is HY.out A n cap w1 HM.out ((HR.out.below E0 (Nat.le_refl _)).more E0.size)).mono ?_
  rintro e w2 ⟨rfl, hb2⟩
  have E2 := bel_trans E0 hb2
  have hz2 := hz.later hb2 hz.lt
  have DR2 := DR.later hb2 DR.lt
  obtain ⟨d0, d1, d2, d3, d4, d5, d6, d7, d8, d9⟩ := hz2.ten'
  obtain ⟨r0, r1, r2, r3, r4, r5, r6, r7, r8, r9⟩ := DR2.ten'
  have fr := DR2.frozen
  clear hz DG DC DS DR E0 hb2
  go_wp2
  refine bodyPost_ret (v := .agg #[.bool (fl (J) 0), .bool (fl (J) 1), .bool (fl (J) 2), .bool (fl (J) 3), .bool (fl (J) 4), .bool (fl (J) 5), .bool (fl (J) 6), .bool (fl (J) 7), .bool (fl (J) 8), .bool (fl (J) 9)]) (by simp [results, Tryz.results246, go_sem, r0, r1, r2, r3, r4, r5, r6, r7, r8, r9]) rfl ⟨rfl, ?_⟩
  exact bel_ten E2 (by omega) _ _ _ _ _ _ _ _ _ _

set_option maxRecDepth 100000 in
set_option maxHeartbeats 1000000 in
theorem and_yes (J : List (Int × Int)) (s l c sh : Int) (A : Option Addr) (n cap : Nat) (zs : List Int) (ck ch ct cq cv x t : Int) (w : World) (hR : rB s l c sh zs ck ch ct cq cv (x, t) = true) (hm : n ≤ maxLen) (hr : Row w w.heap.size A n zs) :
    Calls Tryz.prog 246 #[.agg #[.bool (fl (J) 0), .bool (fl (J) 1), .bool (fl (J) 2), .bool (fl (J) 3), .bool (fl (J) 4), .bool (fl (J) 5), .bool (fl (J) 6), .bool (fl (J) 7), .bool (fl (J) 8), .bool (fl (J) 9)], .agg #[.int .i64 s, .int .i64 l, .int .i64 c, .int .i64 sh, .slice A n cap], .agg #[.int .i64 ck, .int .i64 ch, .int .i64 ct, .int .i64 cq, .int .i64 cv], .agg #[.int .i64 x, .int .i64 t]] w fun e w' => e = .returned (.agg #[.bool (fl (put J (x, t)) 0), .bool (fl (put J (x, t)) 1), .bool (fl (put J (x, t)) 2), .bool (fl (put J (x, t)) 3), .bool (fl (put J (x, t)) 4), .bool (fl (put J (x, t)) 5), .bool (fl (put J (x, t)) 6), .bool (fl (put J (x, t)) 7), .bool (fl (put J (x, t)) 8), .bool (fl (put J (x, t)) 9)]) ∧ Below w.heap.size w w' := by
  have hz : Box ((((w.alloc (.cells #[.bool (fl (J) 0), .bool (fl (J) 1), .bool (fl (J) 2), .bool (fl (J) 3), .bool (fl (J) 4), .bool (fl (J) 5), .bool (fl (J) 6), .bool (fl (J) 7), .bool (fl (J) 8), .bool (fl (J) 9)] 255)).alloc (.cells #[.int .i64 s, .int .i64 l, .int .i64 c, .int .i64 sh, .slice A n cap] 26)).alloc (.cells #[.int .i64 ck, .int .i64 ch, .int .i64 ct, .int .i64 cq, .int .i64 cv] 180)).alloc (.cells #[.int .i64 x, .int .i64 t] 136)) w.heap.size 255 #[.bool (fl (J) 0), .bool (fl (J) 1), .bool (fl (J) 2), .bool (fl (J) 3), .bool (fl (J) 4), .bool (fl (J) 5), .bool (fl (J) 6), .bool (fl (J) 7), .bool (fl (J) 8), .bool (fl (J) 9)] := (((Box.new w _ _).alloc _).alloc _).alloc _
  have DG := ((Box.new (w.alloc (.cells #[.bool (fl (J) 0), .bool (fl (J) 1), .bool (fl (J) 2), .bool (fl (J) 3), .bool (fl (J) 4), .bool (fl (J) 5), .bool (fl (J) 6), .bool (fl (J) 7), .bool (fl (J) 8), .bool (fl (J) 9)] 255)) 26 #[.int .i64 s, .int .i64 l, .int .i64 c, .int .i64 sh, .slice A n cap]).alloc (.cells #[.int .i64 ck, .int .i64 ch, .int .i64 ct, .int .i64 cq, .int .i64 cv] 180)).alloc (.cells #[.int .i64 x, .int .i64 t] 136)
  have DC := (Box.new ((w.alloc (.cells #[.bool (fl (J) 0), .bool (fl (J) 1), .bool (fl (J) 2), .bool (fl (J) 3), .bool (fl (J) 4), .bool (fl (J) 5), .bool (fl (J) 6), .bool (fl (J) 7), .bool (fl (J) 8), .bool (fl (J) 9)] 255)).alloc (.cells #[.int .i64 s, .int .i64 l, .int .i64 c, .int .i64 sh, .slice A n cap] 26)) 180 #[.int .i64 ck, .int .i64 ch, .int .i64 ct, .int .i64 cq, .int .i64 cv]).alloc (.cells #[.int .i64 x, .int .i64 t] 136)
  have DS := Box.new (((w.alloc (.cells #[.bool (fl (J) 0), .bool (fl (J) 1), .bool (fl (J) 2), .bool (fl (J) 3), .bool (fl (J) 4), .bool (fl (J) 5), .bool (fl (J) 6), .bool (fl (J) 7), .bool (fl (J) 8), .bool (fl (J) 9)] 255)).alloc (.cells #[.int .i64 s, .int .i64 l, .int .i64 c, .int .i64 sh, .slice A n cap] 26)).alloc (.cells #[.int .i64 ck, .int .i64 ch, .int .i64 ct, .int .i64 cq, .int .i64 cv] 180)) 136 #[.int .i64 x, .int .i64 t]
  have E0 := bel_trans (bel_trans (bel_trans (bel_alloc w (.cells #[.bool (fl (J) 0), .bool (fl (J) 1), .bool (fl (J) 2), .bool (fl (J) 3), .bool (fl (J) 4), .bool (fl (J) 5), .bool (fl (J) 6), .bool (fl (J) 7), .bool (fl (J) 8), .bool (fl (J) 9)] 255)) (bel_alloc _ (.cells #[.int .i64 s, .int .i64 l, .int .i64 c, .int .i64 sh, .slice A n cap] 26))) (bel_alloc _ (.cells #[.int .i64 ck, .int .i64 ch, .int .i64 ct, .int .i64 cq, .int .i64 cv] 180))) (bel_alloc _ (.cells #[.int .i64 x, .int .i64 t] 136))
  simp only [World.size_alloc] at DG DC DS
  have HR := Lib.hid hr
  have HM := Lib.hid hm
  clear hr hm
  replace hz := hz.alloc (.cells #[.bool false, .bool false, .bool false, .bool false, .bool false, .bool false, .bool false, .bool false, .bool false, .bool false] 255)
  replace DG := DG.alloc (.cells #[.bool false, .bool false, .bool false, .bool false, .bool false, .bool false, .bool false, .bool false, .bool false, .bool false] 255)
  replace DC := DC.alloc (.cells #[.bool false, .bool false, .bool false, .bool false, .bool false, .bool false, .bool false, .bool false, .bool false, .bool false] 255)
  replace DS := DS.alloc (.cells #[.bool false, .bool false, .bool false, .bool false, .bool false, .bool false, .bool false, .bool false, .bool false, .bool false] 255)
  have DR := Box.new ((((w.alloc (.cells #[.bool (fl (J) 0), .bool (fl (J) 1), .bool (fl (J) 2), .bool (fl (J) 3), .bool (fl (J) 4), .bool (fl (J) 5), .bool (fl (J) 6), .bool (fl (J) 7), .bool (fl (J) 8), .bool (fl (J) 9)] 255)).alloc (.cells #[.int .i64 s, .int .i64 l, .int .i64 c, .int .i64 sh, .slice A n cap] 26)).alloc (.cells #[.int .i64 ck, .int .i64 ch, .int .i64 ct, .int .i64 cq, .int .i64 cv] 180)).alloc (.cells #[.int .i64 x, .int .i64 t] 136)) 255 #[.bool false, .bool false, .bool false, .bool false, .bool false, .bool false, .bool false, .bool false, .bool false, .bool false]
  replace E0 := bel_trans E0 (bel_alloc _ (.cells #[.bool false, .bool false, .bool false, .bool false, .bool false, .bool false, .bool false, .bool false, .bool false, .bool false] 255))
  simp only [World.size_alloc] at DR
  have HY := Lib.hid hR
  have hx0 : 0 ≤ x := (rB_who hR).1
  have hx1 : x < 10 := Int.lt_of_lt_of_le (rB_who hR).2.1 (rB_who hR).2.2
  clear hR
  go_enter Tryz.func246, Tryz.ntmps246
  go_wp2_with fail
  generalize (((((w.alloc _).alloc _).alloc _).alloc _).alloc _ : World) = w1 at E0 hz DG DC DS DR ⊢
  refine (rightB_is HY.out A n cap w1 HM.out ((HR.out.below E0 (Nat.le_refl _)).more E0.size)).mono ?_
  rintro e w2 ⟨rfl, hb2⟩
  have E2 := bel_trans E0 hb2
  have hz2 := hz.later hb2 hz.lt
  have DR2 := DR.later hb2 DR.lt
  have DS2 := DS.later hb2 DS.lt
  obtain ⟨s0, s1⟩ := DS2.two
  have cx : w2.cell? ⟨w.heap.size, x.toNat, none⟩ = some (.bool (fl J x.toNat)) := by
    rw [hz2.cell]
    have hc : x = 0 ∨ x = 1 ∨ x = 2 ∨ x = 3 ∨ x = 4 ∨ x = 5 ∨ x = 6 ∨ x = 7 ∨ x = 8 ∨ x = 9 := by omega
    rcases hc with rfl | rfl | rfl | rfl | rfl | rfl | rfl | rfl | rfl | rfl <;> rfl
  have fz := hz2.frozen
  have HF := Lib.hid (hz2.flag x t ⟨hx0, hx1⟩)
  have HD := Lib.hid (DR2.far (p := ⟨w.heap.size, x.toNat, none⟩) (by simp; omega) (.bool true))
  have HE := Lib.hid (E2.setCell (p := ⟨w.heap.size, x.toNat, none⟩) (Nat.le_refl _) (.bool true))
  clear hz DG DC DS DR E0 hb2 hz2 DR2 E2
  go_upto_region 3 with fail
  generalize (w2.setCell _ _ : World) = w3 at HF HD HE ⊢
  have DR3 := HD.out
  obtain ⟨d0, d1, d2, d3, d4, d5, d6, d7, d8, d9⟩ := HF.out.ten'
  obtain ⟨r0, r1, r2, r3, r4, r5, r6, r7, r8, r9⟩ := HD.out.ten'
  have fr := DR3.frozen
  go_wp2
  refine bodyPost_ret (v := .agg #[.bool (fl (put J (x, t)) 0), .bool (fl (put J (x, t)) 1), .bool (fl (put J (x, t)) 2), .bool (fl (put J (x, t)) 3), .bool (fl (put J (x, t)) 4), .bool (fl (put J (x, t)) 5), .bool (fl (put J (x, t)) 6), .bool (fl (put J (x, t)) 7), .bool (fl (put J (x, t)) 8), .bool (fl (put J (x, t)) 9)]) (by simp [results, Tryz.results246, go_sem, r0, r1, r2, r3, r4, r5, r6, r7, r8, r9]) rfl ⟨rfl, ?_⟩
  exact bel_ten HE.out (by omega) _ _ _ _ _ _ _ _ _ _

end Go.Proofs.YtjdepjpjjgkmbaaGreat

/- The flags of who sealed are compared: a contract of the comparison; no conditions. -/
namespace Go.Proofs.YtjdepjpjjgkmbaaGreat
open Go.RowKit

theorem Tryz.infoBool : ∃ i, Tryz.prog.info? 4 = some i ∧ i.size = 1 := by
  obtain ⟨i, hi, hzz⟩ := Option.map_eq_some_iff.1 (show (Tryz.prog.info? 4).map (fun i => i.size) = some 1 by kernel_rfl)
  exact ⟨i, hi, hzz⟩

theorem eqItems_step (xs ys : Array Value) (i : Nat) (is : List Nat) (a b : Bool) (w : World) (hc : Tryz.prog.cellsOf 4 = 1) (ha : (part 4 xs i).run Tryz.prog w = .ok (.bool a) w) (hb : (part 4 ys i).run Tryz.prog w = .ok (.bool b) w) :
    (Op.eqItems 9999 4 (Tryz.prog.cellsOf 4) xs ys (i :: is)).run Tryz.prog w = if a = b then (Op.eqItems 9999 4 (Tryz.prog.cellsOf 4) xs ys is).run Tryz.prog w else .ok false w := by
  rw [hc]
  simp only [Op.eqItems, Nat.mul_one, Sem.run_bind, ha, hb, Result.andThen_ok, run_equalIn_bool w 9998 4 a b Tryz.underlying4]
  by_cases h : a = b
  · subst h; simp
  · have : (a == b) = false := by simpa using h
    simp [this, h]

theorem part_flag (cs : Array Value) (i : Nat) (v : Value) (w : World) (h : cs[i]? = some v) : (part 4 cs i).run Tryz.prog w = .ok v w := by
  obtain ⟨i0, hi, hs⟩ := Tryz.infoBool
  simp [part, typeInfo, sizeOf, hi, hs, h, isAgg, run_underlying Tryz.underlying4]

theorem Tryz.cellsBool : Tryz.prog.cellsOf 4 = 1 := by kernel_rfl

/-- All of these places, from k on. -/
theorem eqItems_all (J J' : List (Int × Int)) (w : World) : ∀ (is : List Nat), (∀ i ∈ is, i < 10) →
    (Op.eqItems 9999 4 (Tryz.prog.cellsOf 4) #[.bool (fl (J) 0), .bool (fl (J) 1), .bool (fl (J) 2), .bool (fl (J) 3), .bool (fl (J) 4), .bool (fl (J) 5), .bool (fl (J) 6), .bool (fl (J) 7), .bool (fl (J) 8), .bool (fl (J) 9)] #[.bool (fl (J') 0), .bool (fl (J') 1), .bool (fl (J') 2), .bool (fl (J') 3), .bool (fl (J') 4), .bool (fl (J') 5), .bool (fl (J') 6), .bool (fl (J') 7), .bool (fl (J') 8), .bool (fl (J') 9)] is).run Tryz.prog w = .ok (is.all fun i => fl J i == fl J' i) w
  | [], _ => by simp [Op.eqItems]
  | i :: is, h => by
    have hi : i < 10 := h i (by simp)
    have hat : ∀ K : List (Int × Int), (#[.bool (fl (K) 0), .bool (fl (K) 1), .bool (fl (K) 2), .bool (fl (K) 3), .bool (fl (K) 4), .bool (fl (K) 5), .bool (fl (K) 6), .bool (fl (K) 7), .bool (fl (K) 8), .bool (fl (K) 9)] : Array Value)[i]? = some (.bool (fl K i)) := fun K => by
      have hc : i = 0 ∨ i = 1 ∨ i = 2 ∨ i = 3 ∨ i = 4 ∨ i = 5 ∨ i = 6 ∨ i = 7 ∨ i = 8 ∨ i = 9 := by omega
      rcases hc with rfl | rfl | rfl | rfl | rfl | rfl | rfl | rfl | rfl | rfl <;> rfl
    rw [eqItems_step _ _ i is (fl J i) (fl J' i) w Tryz.cellsBool (part_flag _ _ _ _ (hat J)) (part_flag _ _ _ _ (hat J')), eqItems_all J J' w is (fun j hj => h j (by simp [hj]))]
    by_cases e : fl J i = fl J' i
    · simp [e]
    · have : (fl J i == fl J' i) = false := by simpa using e
      simp [e]

/-- The same flags. -/
theorem eqFlags_same (J : List (Int × Int)) (w : World) : (Op.equalIn 10000 255 (.agg #[.bool (fl (J) 0), .bool (fl (J) 1), .bool (fl (J) 2), .bool (fl (J) 3), .bool (fl (J) 4), .bool (fl (J) 5), .bool (fl (J) 6), .bool (fl (J) 7), .bool (fl (J) 8), .bool (fl (J) 9)]) (.agg #[.bool (fl (J) 0), .bool (fl (J) 1), .bool (fl (J) 2), .bool (fl (J) 3), .bool (fl (J) 4), .bool (fl (J) 5), .bool (fl (J) 6), .bool (fl (J) 7), .bool (fl (J) 8), .bool (fl (J) 9)])).run Tryz.prog w = .ok true w := by
  obtain ⟨i0, hi, _⟩ := Tryz.infoBool
  rw [run_equalIn_array w 9999 _ _ Tryz.underlying255 hi, eqItems_all J J w _ (fun i hi => by simpa using hi)]
  simp
/-- One more flag. -/
theorem eqFlags_more (J J' : List (Int × Int)) (k : Nat) (hk : k < 10) (h : fl J k = false) (h' : fl J' k = true) (w : World) : (Op.equalIn 10000 255 (.agg #[.bool (fl (J') 0), .bool (fl (J') 1), .bool (fl (J') 2), .bool (fl (J') 3), .bool (fl (J') 4), .bool (fl (J') 5), .bool (fl (J') 6), .bool (fl (J') 7), .bool (fl (J') 8), .bool (fl (J') 9)]) (.agg #[.bool (fl (J) 0), .bool (fl (J) 1), .bool (fl (J) 2), .bool (fl (J) 3), .bool (fl (J) 4), .bool (fl (J) 5), .bool (fl (J) 6), .bool (fl (J) 7), .bool (fl (J) 8), .bool (fl (J) 9)])).run Tryz.prog w = .ok false w := by
  obtain ⟨i0, hi, _⟩ := Tryz.infoBool
  rw [run_equalIn_array w 9999 _ _ Tryz.underlying255 hi, eqItems_all J' J w _ (fun i hi => by simpa using hi)]
  have : (List.range 10).all (fun i => fl J' i == fl J i) = false := by
    rw [List.all_eq_false]
    exact ⟨k, by simpa using hk, by rw [h, h']; simp⟩
  rw [this]

end Go.Proofs.YtjdepjpjjgkmbaaGreat

/- The model's lists of seals: putting one in, joining two: contracts of each of them; up to some four million seals. -/
namespace Go.Proofs.YtjdepjpjjgkmbaaGreat
open Go.RowKit

theorem ins_small {l : List (Int × Int)} {s : Int × Int} (h : ∀ p ∈ l, p.1 ≤ s.1) : ins l s = l ++ [s] := by
  induction l with
  | nil => rfl
  | cons x l ih =>
    unfold ins
    rw [if_neg (Int.not_lt.2 (h x (by simp))), ih (fun p hp => h p (by simp [hp]))]
    rfl
theorem ins_snoc {l : List (Int × Int)} {s : Int × Int} (h : ∃ p ∈ l, s.1 < p.1) (y : Int × Int) : ins (l ++ [y]) s = ins l s ++ [y] := by
  induction l with
  | nil => simp at h
  | cons x l ih =>
    rw [List.cons_append]
    unfold ins
    split
    · rfl
    · rename_i hx
      obtain ⟨p, hp, hlt⟩ := h
      rcases List.mem_cons.1 hp with e | e
      · rw [e] at hlt; exact absurd hlt hx
      · rw [ih ⟨p, e, hlt⟩]; rfl
theorem ins_here {l : List (Int × Int)} {s y : Int × Int} (h : ∀ p ∈ l, p.1 ≤ s.1) (hy : s.1 < y.1) : ins (l ++ [y]) s = l ++ [s] ++ [y] := by
  induction l with
  | nil => simp [ins, hy]
  | cons x l ih =>
    rw [List.cons_append]
    unfold ins
    rw [if_neg (Int.not_lt.2 (h x (by simp))), ih (fun p hp => h p (by simp [hp]))]
    rfl

/-- A list of the call's own, and the box of the pair that is put. -/
structure PutAt (w0 wr : World) (x t : Int) (q cap' : Nat) (o : List (Int × Int)) : Prop where
  own : wr.ownsRow (w0.heap.size + 1) 136 2 (.slice (some ⟨q, 0, none⟩) o.length cap') o.length (flatP o)
  bel : Below w0.heap.size w0 wr
  box : Box wr w0.heap.size 136 #[.int .i64 x, .int .i64 t]
theorem PutAt.later {w0 wr w' : World} {x t : Int} {q cap' : Nat} {o : List (Int × Int)} (h : PutAt w0 wr x t q cap' o) (hb : Below wr.heap.size wr w') : PutAt w0 w' x t q cap' o :=
  ⟨h.own.kept (grown_bel hb none) (by simp [Value.ownBlock]), bel_trans h.bel hb, h.box.later hb h.box.lt⟩
theorem PutAt.push {w0 wr w2 : World} {x t : Int} {q cap' gg cap2 : Nat} {o : List (Int × Int)} {a b : Int} {ob : Obj} (h : PutAt w0 wr x t q cap' o)
    (hown : w2.ownsRow (w0.heap.size + 1) 136 2 (.slice (some ⟨gg, 0, none⟩) (o.length + 1) cap2) (o.length + 1) (flatP o ++ [.int .i64 a, .int .i64 b])) (hg : (wr.alloc ob).grownBy w2 (Value.ownBlock (.slice (some ⟨q, 0, none⟩) o.length cap'))) : PutAt w0 w2 x t gg cap2 (o ++ [(a, b)]) := by
  have hq := (h.own.lt q rfl).1
  have hg : (wr.alloc ob).grownBy w2 (some q) := hg
  refine ⟨?_, bel_grown (bel_trans h.bel (bel_alloc wr ob)) hg (by omega), (h.box.alloc ob).kept hg (by intro e; injection e with e; omega)⟩
  rw [flatP_snoc]
  simpa using hown

/-- What is answered: a list somewhere. -/
def Gives (w : World) (ps : List (Int × Int)) (e : Ending) (w' : World) : Prop :=
  ∃ g cap, e = .returned (.slice (some ⟨g, 0, none⟩) ps.length cap) ∧ Pairs w' w'.heap.size (some ⟨g, 0, none⟩) ps.length ps ∧ Below w.heap.size w w'

set_option maxRecDepth 100000 in
set_option maxHeartbeats 2000000 in
theorem put_is (g cap : Nat) (l : List (Int × Int)) (x t : Int) (w : World) (hn : l.length ≤ 4194304) (h : Pairs w w.heap.size (some ⟨g, 0, none⟩) l.length l) :
    Calls Tryz.prog 238 #[.slice (some ⟨g, 0, none⟩) l.length cap, .agg #[.int .i64 x, .int .i64 t]] w (Gives w (put l (x, t))) := by
  obtain ⟨i0, hi0, hz0, hz1, hz2⟩ := info_parts Tryz.infoSealI
  have K0 : PutAt w ((w.alloc (.cells #[.int .i64 x, .int .i64 t] 136)).alloc (.cells #[] 136)) x t (w.heap.size + 1) 0 [] := by
    refine ⟨⟨rfl, .inr ⟨w.heap.size + 1, 0, #[], rfl, Nat.le_refl _, ?_, Nat.le_refl _, Nat.zero_le _, rfl, rfl⟩⟩, bel_trans (bel_alloc _ _) (bel_alloc _ _), (Box.new w _ _).alloc _⟩
    have := Box.new (w.alloc (.cells #[.int .i64 x, .int .i64 t] 136)) 136 #[]
    simp only [World.size_alloc] at this
    exact this
  have HP := Lib.hid h
  obtain ⟨n, hnl⟩ : ∃ n, l.length = n := ⟨_, rfl⟩
  have K1 : ∀ k, k < n → l.take (k + 1) = l.take k ++ [pth l k] := fun k hk => by
    rw [List.take_succ_eq_append_getElem (by omega), pth_lt (by omega)]
  have K1 := Lib.hid K1
  rw [hnl] at hn ⊢
  have hnl := Lib.hid hnl
  rename_i q1 q2
  clear h q1 q2
  go_enter Tryz.func238, Tryz.ntmps238
  go_wp2_with fail
  generalize ((w.alloc _).alloc _ : World) = w1 at K0 ⊢
  go_loopw [5, 6, 7] (fun ov bv iv wr => ∃ (k q cap' : Nat) (o : List (Int × Int)) (b : Bool), k ≤ n ∧ iv = .int .i64 k ∧ bv = .bool b ∧ ov = .slice (some ⟨q, 0, none⟩) o.length cap' ∧ PutAt w wr x t q cap' o ∧ o.length ≤ k + 1 ∧ (∀ p ∈ l.take k, p.1 ≠ x) ∧
      ((b = false ∧ o = l.take k ∧ ∀ p ∈ l.take k, p.1 ≤ x) ∨ (b = true ∧ o = ins (l.take k) (x, t) ∧ ∃ p ∈ l.take k, x < p.1))) (fun _ _ i _ => n - (intOf i).toNat)
  case atStart => exact ⟨0, _, 0, [], false, Nat.zero_le _, rfl, rfl, rfl, K0, by simp, by simp, .inl ⟨rfl, by simp, by simp⟩⟩
  case round =>
    obtain ⟨k, q, cap', o, b, hk, rfl, rfl, rfl, hP, hol, hne, hcase⟩ := hrel
    by_cases hlt : k < n
    · have hlt' : (k : Int) < (n : Int) := by omega
      obtain ⟨b', o', hA, hbB, hcell⟩ := HP.out.2 (by have := hnl.out; omega)
      cases hA
      obtain ⟨c0, c1⟩ := hcell k (by have := hnl.out; omega)
      rw [Nat.zero_add] at c0 c1
      have c0 := (hP.bel.cell (p := ⟨g, k * 2, none⟩) hbB).trans c0
      have c1 := (hP.bel.cell (p := ⟨g, k * 2 + 1, none⟩) hbB).trans c1
      have hst := Lib.hid (K1.out k hlt)
      generalize hy : pth l k = y at c0 c1 hst
      obtain ⟨y, y'⟩ := y
      obtain ⟨s0, s1⟩ := hP.box.two
      have hgl : g < wr.heap.size := Nat.lt_of_lt_of_le hbB hP.bel.size
      have hq := (hP.own.lt q rfl)
      have g0 := After.cell (by exact hgl) c0
      have g1 := After.cell (by exact hgl) c1
      have e0 := After.cell (by exact hP.box.lt) s0
      have e1 := After.cell (by exact hP.box.lt) s1
      have hy := Lib.hid hy
      have hcase := Lib.hid hcase
      have hne := Lib.hid hne
      have hPP := Lib.hid hP
      rename_i q1 q2 q3
      clear q1 q2 q3 hcell c0 c1 s0 s1 hP
      by_cases hyx : y = x
      · subst hyx
        have hhas : put l (y, t) = l := by
          have : has l y = true := has_mem.2 ⟨pth l k, by rw [pth_lt (by have := hnl.out; omega)]; exact List.getElem_mem _, by rw [hy.out]⟩
          simp [put, this]
        rw [hhas]
        go_wp2_with fail
        refine wp_region_after (by kernel_rfl) (by kernel_rfl) ?_
        repeat (first | go_big_quiet_step (fail) | quiet_step (fail))
        refine wpQuiet_nil ?_
        intro pw
        have hP := hPP.out.later pw.bel
        clear g0 g1 e0 e1
        go_wp2
        go_ret
        exact ⟨g, cap, by rw [hnl.out]; rfl, HP.out.later hP.bel, hP.bel⟩
      · have hyx' : (y == x) = false := by simp [hyx]
        have hyx := Lib.hid hyx
        rename_i q1
        clear q1
        go_wp2_with fail
        refine wp_region_after (by kernel_rfl) (by kernel_rfl) ?_
        repeat (first | go_big_quiet_step (fail) | quiet_step (fail))
        refine wpQuiet_nil ?_
        intro pw
        have d0 := g0 pw
        have d1 := g1 pw
        have d2 := e0 pw
        have d3 := e1 pw
        have hP := hPP.out.later pw.bel
        clear g0 g1 e0 e1 hPP
        generalize pw.x = w2 at d0 d1 d2 d3 hP ⊢
        have hsz := hP.bel.size
        have hbl := hP.box.lt
        have hgl2 : g < w2.heap.size := Nat.lt_of_lt_of_le hbB hsz
        have g0 := After.cell (by exact hgl2) d0
        have g1 := After.cell (by exact hgl2) d1
        have e0 := After.cell (by exact hbl) d2
        have e1 := After.cell (by exact hbl) d3
        have hPP := Lib.hid hP
        clear d0 d1 d2 d3 hP
        have hne' : ∀ p ∈ l.take (k + 1), p.1 ≠ x := by
          rw [hst.out]
          intro p hp
          rcases List.mem_append.1 hp with e | e
          · exact hne.out p e
          · simp only [List.mem_singleton] at e
            rw [e]
            exact hyx.out
        have hne' := Lib.hid hne'
        rename_i q1
        clear q1
        rcases hcase.out with ⟨rfl, ho, hall⟩ | ⟨rfl, ho, hex⟩
        · have ho := Lib.hid ho
          have hall := Lib.hid hall
          rename_i q1 q2
          clear q1 q2
          by_cases hxy : x < y
          · go_wp2_with fail
            refine wp_region_after (by kernel_rfl) (by kernel_rfl) ?_
            repeat (first | go_big_quiet_step (fail) | quiet_step (fail))
            refine wpQuiet_nil ?_
            intro pw2
            have d0 := g0 pw2
            have d1 := g1 pw2
            have d2 := e0 pw2
            have d3 := e1 pw2
            have hP := hPP.out.later pw2.bel
            clear g0 g1 e0 e1 hPP
            generalize pw2.x = w3 at d0 d1 d2 d3 hP ⊢
            have hq3 := hP.own.lt q rfl
            have hsz3 := hP.bel.size
            have hbx3 := hP.box.lt
            go_wp2_with (first | (at_builtin; refine wpList_append_lies _ rfl _ _ _ rfl (w.heap.size + 1) 136 i0 _ 2 16 Tryz.underlying40 hi0 hz0 hz1 hz2 rfl (by omega) (.slice (some ⟨gg, 0, none⟩) (o.length + 1) cap2) (o.length + 1) (flatP o ++ [.int .i64 x, .int .i64 t]) rfl (hown2.alloc _) ⟨w5.heap.size, 0, none⟩ 1 1 [.int .i64 y, .int .i64 y'] rfl rfl (World.news_of_block (cs := #[.int .i64 y, .int .i64 y']) (t := 136) (fr := (0, 0)) (heap_alloc_new w5 _)) (by simp [Value.oneCell']) (by omega) (by unfold maxLen; omega) (by omega) (by simp; omega) (w5.heap.size + 1) (by simp) ?_; intro g3 cap3 w6 hown3 hgrow3 hat3 hlt3; have hP3 := hP2.push (gg := g3) (cap2 := cap3) (a := y) (b := y') (by simpa [flatP_snoc] using hown3) (by simpa using hgrow3); clear hown3 hgrow3 hat3 hown2) | (at_builtin; refine wpList_append_lies _ rfl _ _ _ rfl (w.heap.size + 1) 136 i0 _ 2 16 Tryz.underlying40 hi0 hz0 hz1 hz2 rfl (by omega) (.slice (some ⟨q, 0, none⟩) (o.length) cap') (o.length) (flatP o) rfl (hP.own.alloc _) ⟨w3.heap.size, 0, none⟩ 1 1 [.int .i64 x, .int .i64 t] rfl rfl (World.news_of_block (cs := #[.int .i64 x, .int .i64 t]) (t := 136) (fr := (0, 0)) (heap_alloc_new w3 _)) (by simp [Value.oneCell']) (by omega) (by unfold maxLen; omega) (by omega) (by simp; omega) (w3.heap.size + 1) (by simp) ?_; intro gg cap2 w5 hown2 hgrow2 hat hlt2; have hP2 := hP.push hown2 hgrow2; have c0 := (hP2.bel.cell (p := ⟨g, k * 2, none⟩) hbB).trans ((hP.bel.cell (p := ⟨g, k * 2, none⟩) hbB).symm.trans d0); have c1 := (hP2.bel.cell (p := ⟨g, k * 2 + 1, none⟩) hbB).trans ((hP.bel.cell (p := ⟨g, k * 2 + 1, none⟩) hbB).symm.trans d1); have hsz5 := hP2.bel.size; have hbx5 := hP2.box.lt; clear hgrow2 hat))
            have hP3 := Lib.hid hP3
            rename_i q1
            clear q1 hP2 hP
            go_roundw
            case rel =>
              have hl2 : (o ++ [(x, t)] ++ [(y, y')]).length = o.length + 1 + 1 := by simp
              exact ⟨k + 1, _, _, o ++ [(x, t)] ++ [(y, y')], true, by omega, by go_num, rfl, by rw [hl2], hP3.out, by rw [hl2, ho.out, List.length_take]; have := hnl.out; omega, hne'.out, .inr ⟨rfl, by rw [hst.out, ins_here hall.out hxy, ho.out], (y, y'), by rw [hst.out]; simp, hxy⟩⟩
            case measure => simp [intOf]; omega
          · have hxy' : y ≤ x := Int.not_lt.1 hxy
            clear hxy
            go_wp2_with fail
            refine wp_region_after (by kernel_rfl) (by kernel_rfl) ?_
            repeat (first | go_big_quiet_step (fail) | quiet_step (fail))
            refine wpQuiet_nil ?_
            intro pw2
            have d0 := g0 pw2
            have d1 := g1 pw2
            have d2 := e0 pw2
            have d3 := e1 pw2
            have hP := hPP.out.later pw2.bel
            clear g0 g1 e0 e1 hPP
            generalize pw2.x = w3 at d0 d1 d2 d3 hP ⊢
            have hq3 := hP.own.lt q rfl
            have hsz3 := hP.bel.size
            have hbx3 := hP.box.lt
            go_wp2_with (at_builtin; refine wpList_append_lies _ rfl _ _ _ rfl (w.heap.size + 1) 136 i0 _ 2 16 Tryz.underlying40 hi0 hz0 hz1 hz2 rfl (by omega) (.slice (some ⟨q, 0, none⟩) (o.length) cap') (o.length) (flatP o) rfl (hP.own.alloc _) ⟨w3.heap.size, 0, none⟩ 1 1 [.int .i64 y, .int .i64 y'] rfl rfl (World.news_of_block (cs := #[.int .i64 y, .int .i64 y']) (t := 136) (fr := (0, 0)) (heap_alloc_new w3 _)) (by simp [Value.oneCell']) (by omega) (by unfold maxLen; omega) (by omega) (by simp; omega) (w3.heap.size + 1) (by simp) ?_; intro gg cap2 w5 hown2 hgrow2 hat hlt2; have hP3 := hP.push hown2 hgrow2; clear hown2 hgrow2 hat)
            have hP3 := Lib.hid hP3
            rename_i q1
            clear q1 hP
            go_roundw
            case rel =>
              exact ⟨k + 1, _, _, o ++ [(y, y')], false, by omega, by go_num, rfl, by simp, hP3.out, by rw [List.length_append, ho.out, List.length_take]; simp; omega, hne'.out, .inl ⟨rfl, by rw [hst.out, ho.out], by
                rw [hst.out]
                intro p hp
                rcases List.mem_append.1 hp with e | e
                · exact hall.out p e
                · simp only [List.mem_singleton] at e
                  rw [e]
                  exact hxy'⟩⟩
            case measure => simp [intOf]; omega
        · have ho := Lib.hid ho
          have hex := Lib.hid hex
          rename_i q1 q2
          clear q1 q2
          go_wp2_with fail
          refine wp_region_after (by kernel_rfl) (by kernel_rfl) ?_
          repeat (first | go_big_quiet_step (fail) | quiet_step (fail))
          refine wpQuiet_nil ?_
          intro pw2
          have d0 := g0 pw2
          have d1 := g1 pw2
          have d2 := e0 pw2
          have d3 := e1 pw2
          have hP := hPP.out.later pw2.bel
          clear g0 g1 e0 e1 hPP
          generalize pw2.x = w3 at d0 d1 d2 d3 hP ⊢
          have hq3 := hP.own.lt q rfl
          have hsz3 := hP.bel.size
          have hbx3 := hP.box.lt
          go_wp2_with (at_builtin; refine wpList_append_lies _ rfl _ _ _ rfl (w.heap.size + 1) 136 i0 _ 2 16 Tryz.underlying40 hi0 hz0 hz1 hz2 rfl (by omega) (.slice (some ⟨q, 0, none⟩) (o.length) cap') (o.length) (flatP o) rfl (hP.own.alloc _) ⟨w3.heap.size, 0, none⟩ 1 1 [.int .i64 y, .int .i64 y'] rfl rfl (World.news_of_block (cs := #[.int .i64 y, .int .i64 y']) (t := 136) (fr := (0, 0)) (heap_alloc_new w3 _)) (by simp [Value.oneCell']) (by omega) (by unfold maxLen; omega) (by omega) (by simp; omega) (w3.heap.size + 1) (by simp) ?_; intro gg cap2 w5 hown2 hgrow2 hat hlt2; have hP3 := hP.push hown2 hgrow2; clear hown2 hgrow2 hat)
          have hP3 := Lib.hid hP3
          rename_i q1
          clear q1 hP
          go_roundw
          case rel =>
            exact ⟨k + 1, _, _, o ++ [(y, y')], true, by omega, by go_num, rfl, by simp, hP3.out, by rw [List.length_append, ho.out, ins_len, List.length_take]; simp; omega, hne'.out, .inr ⟨rfl, by rw [hst.out, ins_snoc hex.out, ho.out], by
              obtain ⟨p, hp, hlt⟩ := hex.out
              exact ⟨p, by rw [hst.out]; simp [hp], hlt⟩⟩⟩
          case measure => simp [intOf]; omega
    · obtain rfl : k = n := by omega
      have hno : has l x = false := has_not.2 (by have := hne; rwa [← hnl.out, List.take_length] at this)
      have hpt : put l (x, t) = ins l (x, t) := by simp [put, hno]
      have hpt := Lib.hid hpt
      have hcase : (b = false ∧ o = l ∧ ∀ p ∈ l, p.1 ≤ x) ∨ (b = true ∧ o = ins l (x, t) ∧ ∃ p ∈ l, x < p.1) := by rwa [← hnl.out, List.take_length] at hcase
      rename_i q1 q2
      clear q1 q2 hno hne
      have hq3 := hP.own.lt q rfl
      have hsz3 := hP.bel.size
      have hbx3 := hP.box.lt
      obtain ⟨s0, s1⟩ := hP.box.two
      rcases hcase with ⟨rfl, ho, hall⟩ | ⟨rfl, ho, hex⟩
      · have ho := Lib.hid ho
        have hall := Lib.hid hall
        rename_i q1 q2
        clear q1 q2
        go_wp2_with (at_builtin; refine wpList_append_lies _ rfl _ _ _ rfl (w.heap.size + 1) 136 i0 _ 2 16 Tryz.underlying40 hi0 hz0 hz1 hz2 rfl (by omega) (.slice (some ⟨q, 0, none⟩) (o.length) cap') (o.length) (flatP o) rfl (hP.own.alloc _) ⟨wr.heap.size, 0, none⟩ 1 1 [.int .i64 x, .int .i64 t] rfl rfl (World.news_of_block (cs := #[.int .i64 x, .int .i64 t]) (t := 136) (fr := (0, 0)) (heap_alloc_new wr _)) (by simp [Value.oneCell']) (by omega) (by unfold maxLen; omega) (by omega) (by simp; omega) (wr.heap.size + 1) (by simp) ?_; intro gg cap2 w5 hown2 hgrow2 hat hlt2; have hP3 := hP.push hown2 hgrow2; clear hown2 hgrow2 hat)
        go_ret
        have e : put l (x, t) = o ++ [(x, t)] := by rw [hpt.out, ins_small hall.out, ho.out]
        rw [e]
        exact ⟨gg, cap2, by rw [List.length_append]; rfl, own_pairs hP3.own, hP3.bel⟩
      · have ho := Lib.hid ho
        have hex := Lib.hid hex
        rename_i q1 q2
        clear q1 q2
        go_wp2
        go_ret
        have e : put l (x, t) = o := by rw [hpt.out, ho.out]
        rw [e]
        exact ⟨_, _, rfl, own_pairs hP.own, hP.bel⟩

end Go.Proofs.YtjdepjpjjgkmbaaGreat

/- The model's JoinSeals, GoodSeals and CertCount: contracts of each of them; up to some four million seals. -/
namespace Go.Proofs.YtjdepjpjjgkmbaaGreat
open Go.RowKit

set_option maxRecDepth 100000 in
set_option maxHeartbeats 1000000 in
theorem specGood_is (s l c sh : Int) (A : Option Addr) (n cap : Nat) (zs : List Int) (ck ch ct cq cv : Int) (P : Option Addr) (m pcap : Nat) (ps : List (Int × Int)) (w : World) (hm : n ≤ maxLen) (hr : Row w w.heap.size A n zs) (hn : m ≤ 4194304) (h : Pairs w w.heap.size P m ps) :
    Calls Tryz.prog 220 #[.agg #[.int .i64 s, .int .i64 l, .int .i64 c, .int .i64 sh, .slice A n cap], .agg #[.int .i64 ck, .int .i64 ch, .int .i64 ct, .int .i64 cq, .int .i64 cv], .slice P m pcap] w (Gives w (goodP (rB s l c sh zs ck ch ct cq cv) ps)) := by
  have E0 := bel_trans (bel_trans (bel_alloc w (.cells #[.int .i64 s, .int .i64 l, .int .i64 c, .int .i64 sh, .slice A n cap] 26)) (bel_alloc _ (.cells #[.int .i64 ck, .int .i64 ch, .int .i64 ct, .int .i64 cq, .int .i64 cv] 180))) (bel_alloc _ (.cells #[] 136))
  have DG := ((Box.new w 26 #[.int .i64 s, .int .i64 l, .int .i64 c, .int .i64 sh, .slice A n cap]).alloc (.cells #[.int .i64 ck, .int .i64 ch, .int .i64 ct, .int .i64 cq, .int .i64 cv] 180)).alloc (.cells #[] 136)
  have DC := (Box.new (w.alloc (.cells #[.int .i64 s, .int .i64 l, .int .i64 c, .int .i64 sh, .slice A n cap] 26)) 180 #[.int .i64 ck, .int .i64 ch, .int .i64 ct, .int .i64 cq, .int .i64 cv]).alloc (.cells #[] 136)
  simp only [World.size_alloc] at DC
  have HR := Lib.hid hr
  have HM := Lib.hid hm
  have HP := Lib.hid h
  have hl := Lib.hid h.1
  clear h hr hm
  generalize hR : rB s l c sh zs ck ch ct cq cv = R
  have HRR := Lib.hid hR
  clear hR
  go_enter Tryz.func220, Tryz.ntmps220
  go_wp2_with fail
  generalize (((w.alloc _).alloc _).alloc _ : World) = w1 at E0 DG DC ⊢
  go_loopw [7, 8] (fun ov iv wr => ∃ (k q c' : Nat) (L : List (Int × Int)), k ≤ m ∧ iv = .int .i64 k ∧ ov = .slice (some ⟨q, 0, none⟩) L.length c' ∧ L = goodP R (ps.take k) ∧ Pairs wr wr.heap.size (some ⟨q, 0, none⟩) L.length L ∧ Below w.heap.size w wr ∧ Box wr w.heap.size 26 #[.int .i64 s, .int .i64 l, .int .i64 c, .int .i64 sh, .slice A n cap] ∧ Box wr (w.heap.size + 1) 180 #[.int .i64 ck, .int .i64 ch, .int .i64 ct, .int .i64 cq, .int .i64 cv]) (fun _ i _ => m - (intOf i).toNat)
  case atStart => exact ⟨0, _, 0, [], Nat.zero_le _, rfl, rfl, by simp [goodP_nil], ⟨rfl, fun h => absurd h (by simp)⟩, E0, DG, DC⟩
  case round =>
    obtain ⟨k, q, c', L, hk, rfl, rfl, hL, hp, hbel, DG, DC⟩ := hrel
    by_cases hlt : k < m
    · have hlt' : (k : Int) < (m : Int) := by omega
      obtain ⟨b, o, hA, hbB, hcell⟩ := HP.out.2 (by omega)
      subst hA
      obtain ⟨c0, c1⟩ := hcell k hlt
      replace c0 := (hbel.cell (p := ⟨b, o + k * 2, none⟩) hbB).trans c0
      replace c1 := (hbel.cell (p := ⟨b, o + k * 2 + 1, none⟩) hbB).trans c1
      have hyes := Lib.hid (goodP_yes (R := R) (ps := ps) (k := k) (by rw [hl.out]; exact hlt))
      have hno := Lib.hid (goodP_no (R := R) (ps := ps) (k := k) (by rw [hl.out]; exact hlt))
      rw [← hL] at hyes hno
      have hLl : L.length ≤ 4194304 := by
        rw [hL]
        have := goodP_le R (ps.take k)
        rw [List.length_take] at this
        omega
      generalize hy : pth ps k = y at c0 c1 hyes hno
      obtain ⟨y, y'⟩ := y
      replace hL := Lib.hid hL
      replace hy := Lib.hid hy
      have hbl : b < wr.heap.size := Nat.lt_of_lt_of_le hbB hbel.size
      have g0 := After.cell (by exact hbl) c0
      have g1 := After.cell (by exact hbl) c1
      obtain ⟨f0, f1, f2, f3, f4⟩ := fiveAfter DG
      obtain ⟨f5, f6, f7, f8, f9⟩ := fiveAfter DC
      have hrow := Lib.hid ((HR.out.below hbel (Nat.le_refl _)).more hbel.size)
      have HDG := Lib.hid DG
      have HDC := Lib.hid DC
      have HPL := Lib.hid hp
      clear hcell c0 c1 DG DC hp
      rcases hRy : R (y, y') with _ | _
      · have HY : Hid (rB s l c sh zs ck ch ct cq cv (y, y') = false) := by rw [HRR.out]; exact hRy
        replace hno := Lib.hid (hno.out hRy)
        clear hRy
        go_wp2_with fail
        refine wp_region_after (by kernel_rfl) (by kernel_rfl) ?_
        repeat (first | go_big_quiet_step ((go_at_call 237; exact after_of (specRightB_is HY.out _ n cap _ HM.out (rowAfter hrow.out _)))) | quiet_step ((go_at_call 237; exact after_of (specRightB_is HY.out _ n cap _ HM.out (rowAfter hrow.out _)))))
        refine wpQuiet_nil ?_
        intro pw
        have E2 := bel_trans hbel pw.bel
        have DG := HDG.out.later pw.bel HDG.out.lt
        have DC := HDC.out.later pw.bel HDC.out.lt
        have hp := Lib.hid (HPL.out.later pw.bel)
        clear g0 g1 f0 f1 f2 f3 f4 f5 f6 f7 f8 f9
        go_wp2
        go_roundw
        case rel => exact ⟨k + 1, q, c', L, by omega, by go_num, rfl, hno.out.symm, hp.out, E2, DG, DC⟩
        case measure => simp [intOf]; omega
      · have HY : Hid (rB s l c sh zs ck ch ct cq cv (y, y') = true) := by rw [HRR.out]; exact hRy
        replace hyes := Lib.hid (hyes.out hRy)
        clear hRy
        go_wp2_with fail
        refine wp_region_after (by kernel_rfl) (by kernel_rfl) ?_
        repeat (first | go_big_quiet_step ((go_at_call 237; exact after_of (specRightB_is HY.out _ n cap _ HM.out (rowAfter hrow.out _)))) | quiet_step ((go_at_call 237; exact after_of (specRightB_is HY.out _ n cap _ HM.out (rowAfter hrow.out _)))))
        refine wpQuiet_nil ?_
        intro pw
        have E2 := bel_trans hbel pw.bel
        have DG := HDG.out.later pw.bel HDG.out.lt
        have DC := HDC.out.later pw.bel HDC.out.lt
        have hp := HPL.out.later pw.bel
        have d0 := g0 pw
        have d1 := g1 pw
        clear g0 g1 f0 f1 f2 f3 f4 f5 f6 f7 f8 f9 HDG HDC HPL
        generalize pw.x = w2 at E2 DG DC hp d0 d1 ⊢
        go_wp2_with fail
        refine (put_is q c' L y y' w2 hLl hp).mono ?_
        rintro e w3 ⟨g', c'', rfl, hp', hb'⟩
        replace hp' := Lib.hid hp'
        have DG' := DG.later hb' DG.lt
        have DC' := DC.later hb' DC.lt
        go_wp2
        go_roundw
        case rel => exact ⟨k + 1, g', c'', put L (y, y'), by omega, by go_num, rfl, hyes.out.symm, hp'.out, bel_trans E2 hb', DG', DC'⟩
        case measure => simp [intOf]; omega
    · obtain rfl : k = m := by omega
      rw [← hl.out, List.take_length] at hL
      replace hL := Lib.hid hL
      replace hp := Lib.hid hp
      go_wp2
      go_ret
      rw [← hL.out]
      exact ⟨q, c', rfl, hp.out, hbel⟩

theorem specCount_is (s l c sh : Int) (A : Option Addr) (n cap : Nat) (zs : List Int) (ck ch ct cq cv : Int) (P : Option Addr) (m pcap : Nat) (ps : List (Int × Int)) (w : World) (hm : n ≤ maxLen) (hr : Row w w.heap.size A n zs) (hn : m ≤ 4194304) (h : Pairs w w.heap.size P m ps) :
    Calls Tryz.prog 228 #[.agg #[.int .i64 s, .int .i64 l, .int .i64 c, .int .i64 sh, .slice A n cap], .agg #[.int .i64 ck, .int .i64 ch, .int .i64 ct, .int .i64 cq, .int .i64 cv], .slice P m pcap] w fun e w' => e = .returned (.int .i64 (cntN s l c sh zs ck ch ct cq cv ps)) ∧ Below w.heap.size w w' := by
  have E0 := bel_trans (bel_alloc w (.cells #[.int .i64 s, .int .i64 l, .int .i64 c, .int .i64 sh, .slice A n cap] 26)) (bel_alloc _ (.cells #[.int .i64 ck, .int .i64 ch, .int .i64 ct, .int .i64 cq, .int .i64 cv] 180))
  have DG := (Box.new w 26 #[.int .i64 s, .int .i64 l, .int .i64 c, .int .i64 sh, .slice A n cap]).alloc (.cells #[.int .i64 ck, .int .i64 ch, .int .i64 ct, .int .i64 cq, .int .i64 cv] 180)
  have DC := Box.new (w.alloc (.cells #[.int .i64 s, .int .i64 l, .int .i64 c, .int .i64 sh, .slice A n cap] 26)) 180 #[.int .i64 ck, .int .i64 ch, .int .i64 ct, .int .i64 cq, .int .i64 cv]
  simp only [World.size_alloc] at DC
  have HR := Lib.hid hr
  have HM := Lib.hid hm
  have HP := Lib.hid h
  have hle := goodP_le (rB s l c sh zs ck ch ct cq cv) ps
  have hl := h.1
  obtain ⟨K, hK⟩ : ∃ K, K = (goodP (rB s l c sh zs ck ch ct cq cv) ps).length := ⟨_, rfl⟩
  have hKn : K ≤ 4194304 := by omega
  replace hK := Lib.hid hK
  clear h hr hm hle hl
  obtain ⟨d0, d1, d2, d3, d4, x0, x1, x2, x3, x4⟩ := ten DG DC
  go_enter Tryz.func228, Tryz.ntmps228
  go_wp2_with fail
  generalize ((w.alloc _).alloc _ : World) = w1 at E0 DG DC d0 d1 d2 d3 d4 x0 x1 x2 x3 x4 ⊢
  refine (specGood_is s l c sh A n cap zs ck ch ct cq cv P m pcap ps w1 HM.out ((HR.out.below E0 (Nat.le_refl _)).more E0.size) hn (HP.out.later E0)).mono ?_
  rintro e w2 ⟨q, c', rfl, _, hb⟩
  rw [← hK.out]
  have E2 := bel_trans E0 hb
  go_wp2
  go_ret
  exact ⟨by unfold cntN; rw [← hK.out]; rfl, E2⟩

end Go.Proofs.YtjdepjpjjgkmbaaGreat

/- The functions of certificates, second part: CertCount: its contract; up to some four million seals. -/
namespace Go.Proofs.YtjdepjpjjgkmbaaGreat
open Go.RowKit

/-- What CertCount keeps: the group, the claim, the flags. -/
structure CountAt (w0 wr : World) (J : List (Int × Int)) (s l c sh : Int) (A : Option Addr) (n cap : Nat) (ck ch ct cq cv : Int) : Prop where
  bel : Below w0.heap.size w0 wr
  gr : Box wr w0.heap.size 26 #[.int .i64 s, .int .i64 l, .int .i64 c, .int .i64 sh, .slice A n cap]
  cl : Box wr (w0.heap.size + 1) 180 #[.int .i64 ck, .int .i64 ch, .int .i64 ct, .int .i64 cq, .int .i64 cv]
  who : Box wr (w0.heap.size + 1 + 1) 255 #[.bool (fl (J) 0), .bool (fl (J) 1), .bool (fl (J) 2), .bool (fl (J) 3), .bool (fl (J) 4), .bool (fl (J) 5), .bool (fl (J) 6), .bool (fl (J) 7), .bool (fl (J) 8), .bool (fl (J) 9)]
theorem CountAt.later {w0 wr w' : World} {J : List (Int × Int)} {s l c sh : Int} {A : Option Addr} {n cap : Nat} {ck ch ct cq cv : Int} (h : CountAt w0 wr J s l c sh A n cap ck ch ct cq cv) (hb : Below wr.heap.size wr w') : CountAt w0 w' J s l c sh A n cap ck ch ct cq cv :=
  ⟨bel_trans h.bel hb, h.gr.later hb h.gr.lt, h.cl.later hb h.cl.lt, h.who.later hb h.who.lt⟩
theorem Box.put10 {w : World} {g : Nat} {t : TypeId} {v0 v1 v2 v3 v4 v5 v6 v7 v8 v9 : Value} (h : Box w g t #[v0, v1, v2, v3, v4, v5, v6, v7, v8, v9]) (u0 u1 u2 u3 u4 u5 u6 u7 u8 u9 : Value) : Box ((((((((((w.setCell ⟨g, 0, none⟩ u0).setCell ⟨g, 1, none⟩ u1).setCell ⟨g, 2, none⟩ u2).setCell ⟨g, 3, none⟩ u3).setCell ⟨g, 4, none⟩ u4).setCell ⟨g, 5, none⟩ u5).setCell ⟨g, 6, none⟩ u6).setCell ⟨g, 7, none⟩ u7).setCell ⟨g, 8, none⟩ u8).setCell ⟨g, 9, none⟩ u9) g t #[u0, u1, u2, u3, u4, u5, u6, u7, u8, u9] := by
  have h0 : Box _ g t #[u0, v1, v2, v3, v4, v5, v6, v7, v8, v9] := h.set 0 u0
  have h1 : Box _ g t #[u0, u1, v2, v3, v4, v5, v6, v7, v8, v9] := h0.set 1 u1
  have h2 : Box _ g t #[u0, u1, u2, v3, v4, v5, v6, v7, v8, v9] := h1.set 2 u2
  have h3 : Box _ g t #[u0, u1, u2, u3, v4, v5, v6, v7, v8, v9] := h2.set 3 u3
  have h4 : Box _ g t #[u0, u1, u2, u3, u4, v5, v6, v7, v8, v9] := h3.set 4 u4
  have h5 : Box _ g t #[u0, u1, u2, u3, u4, u5, v6, v7, v8, v9] := h4.set 5 u5
  have h6 : Box _ g t #[u0, u1, u2, u3, u4, u5, u6, v7, v8, v9] := h5.set 6 u6
  have h7 : Box _ g t #[u0, u1, u2, u3, u4, u5, u6, u7, v8, v9] := h6.set 7 u7
  have h8 : Box _ g t #[u0, u1, u2, u3, u4, u5, u6, u7, u8, v9] := h7.set 8 u8
  have h9 : Box _ g t #[u0, u1, u2, u3, u4, u5, u6, u7, u8, u9] := h8.set 9 u9
  exact h9
theorem Box.far10 {w : World} {g g' : Nat} {t : TypeId} {cs : Array Value} (h : Box w g' t cs) (hR : g ≠ g') (u0 u1 u2 u3 u4 u5 u6 u7 u8 u9 : Value) : Box ((((((((((w.setCell ⟨g, 0, none⟩ u0).setCell ⟨g, 1, none⟩ u1).setCell ⟨g, 2, none⟩ u2).setCell ⟨g, 3, none⟩ u3).setCell ⟨g, 4, none⟩ u4).setCell ⟨g, 5, none⟩ u5).setCell ⟨g, 6, none⟩ u6).setCell ⟨g, 7, none⟩ u7).setCell ⟨g, 8, none⟩ u8).setCell ⟨g, 9, none⟩ u9) g' t cs :=
  ((((((((((h.far (p := ⟨g, _, none⟩) hR u0).far (p := ⟨g, _, none⟩) hR u1).far (p := ⟨g, _, none⟩) hR u2).far (p := ⟨g, _, none⟩) hR u3).far (p := ⟨g, _, none⟩) hR u4).far (p := ⟨g, _, none⟩) hR u5).far (p := ⟨g, _, none⟩) hR u6).far (p := ⟨g, _, none⟩) hR u7).far (p := ⟨g, _, none⟩) hR u8).far (p := ⟨g, _, none⟩) hR u9)
/-- The flags are written anew. -/
theorem CountAt.put10 {w0 wr : World} {J : List (Int × Int)} {s l c sh : Int} {A : Option Addr} {n cap : Nat} {ck ch ct cq cv : Int} (h : CountAt w0 wr J s l c sh A n cap ck ch ct cq cv) (J' : List (Int × Int)) : CountAt w0 ((((((((((wr.setCell ⟨w0.heap.size + 1 + 1, 0, none⟩ (.bool (fl J' 0))).setCell ⟨w0.heap.size + 1 + 1, 1, none⟩ (.bool (fl J' 1))).setCell ⟨w0.heap.size + 1 + 1, 2, none⟩ (.bool (fl J' 2))).setCell ⟨w0.heap.size + 1 + 1, 3, none⟩ (.bool (fl J' 3))).setCell ⟨w0.heap.size + 1 + 1, 4, none⟩ (.bool (fl J' 4))).setCell ⟨w0.heap.size + 1 + 1, 5, none⟩ (.bool (fl J' 5))).setCell ⟨w0.heap.size + 1 + 1, 6, none⟩ (.bool (fl J' 6))).setCell ⟨w0.heap.size + 1 + 1, 7, none⟩ (.bool (fl J' 7))).setCell ⟨w0.heap.size + 1 + 1, 8, none⟩ (.bool (fl J' 8))).setCell ⟨w0.heap.size + 1 + 1, 9, none⟩ (.bool (fl J' 9))) J' s l c sh A n cap ck ch ct cq cv :=
  ⟨bel_ten h.bel (by omega) _ _ _ _ _ _ _ _ _ _, h.gr.far10 (by omega) _ _ _ _ _ _ _ _ _ _, h.cl.far10 (by omega) _ _ _ _ _ _ _ _ _ _, h.who.put10 _ _ _ _ _ _ _ _ _ _⟩

set_option maxRecDepth 100000 in
set_option maxHeartbeats 2000000 in
theorem count_is (s l c sh : Int) (A : Option Addr) (n cap : Nat) (zs : List Int) (ck ch ct cq cv : Int) (P : Option Addr) (m pcap : Nat) (ps : List (Int × Int)) (w : World) (hm : n ≤ maxLen) (hr : Row w w.heap.size A n zs) (hn : m ≤ 4194304) (h : Pairs w w.heap.size P m ps) :
    Calls Tryz.prog 242 #[.agg #[.int .i64 s, .int .i64 l, .int .i64 c, .int .i64 sh, .slice A n cap], .agg #[.int .i64 ck, .int .i64 ch, .int .i64 ct, .int .i64 cq, .int .i64 cv], .slice P m pcap] w fun e w' => e = .returned (.int .i64 (cntN s l c sh zs ck ch ct cq cv ps)) ∧ Below w.heap.size w w' := by
  have K0 : CountAt w (((w.alloc (.cells #[.int .i64 s, .int .i64 l, .int .i64 c, .int .i64 sh, .slice A n cap] 26)).alloc (.cells #[.int .i64 ck, .int .i64 ch, .int .i64 ct, .int .i64 cq, .int .i64 cv] 180)).alloc (.cells #[.bool false, .bool false, .bool false, .bool false, .bool false, .bool false, .bool false, .bool false, .bool false, .bool false] 255)) [] s l c sh A n cap ck ch ct cq cv := by
    refine ⟨bel_trans (bel_trans (bel_alloc _ _) (bel_alloc _ _)) (bel_alloc _ _), ((Box.new w _ _).alloc _).alloc _, ?_, ?_⟩
    · have := (Box.new (w.alloc (.cells #[.int .i64 s, .int .i64 l, .int .i64 c, .int .i64 sh, .slice A n cap] 26)) 180 #[.int .i64 ck, .int .i64 ch, .int .i64 ct, .int .i64 cq, .int .i64 cv]).alloc (.cells #[.bool false, .bool false, .bool false, .bool false, .bool false, .bool false, .bool false, .bool false, .bool false, .bool false] 255)
      simp only [World.size_alloc] at this
      exact this
    · have := Box.new ((w.alloc (.cells #[.int .i64 s, .int .i64 l, .int .i64 c, .int .i64 sh, .slice A n cap] 26)).alloc (.cells #[.int .i64 ck, .int .i64 ch, .int .i64 ct, .int .i64 cq, .int .i64 cv] 180)) 255 #[.bool false, .bool false, .bool false, .bool false, .bool false, .bool false, .bool false, .bool false, .bool false, .bool false]
      simp only [World.size_alloc] at this
      exact this
  have HR := Lib.hid hr
  have HM := Lib.hid hm
  have HP := Lib.hid h
  have hl := Lib.hid h.1
  clear h hr hm
  unfold cntN
  generalize hR : rB s l c sh zs ck ch ct cq cv = R
  have HRR := Lib.hid hR
  clear hR
  go_enter Tryz.func242, Tryz.ntmps242
  go_wp2_with fail
  generalize (((w.alloc _).alloc _).alloc _ : World) = w1 at K0 ⊢
  go_loopw [8, 14] (fun nv iv wr => ∃ (k : Nat) (J : List (Int × Int)), k ≤ m ∧ iv = .int .i64 k ∧ nv = .int .i64 J.length ∧ J = goodP R (ps.take k) ∧ CountAt w wr J s l c sh A n cap ck ch ct cq cv) (fun _ i _ => m - (intOf i).toNat)
  case atStart => exact ⟨0, [], Nat.zero_le _, rfl, rfl, by simp [goodP_nil], K0⟩
  case round =>
    obtain ⟨k, J, hk, rfl, rfl, hJ, hK⟩ := hrel
    by_cases hlt : k < m
    · have hlt' : (k : Int) < (m : Int) := by omega
      obtain ⟨b, o, hA, hbB, hcell⟩ := HP.out.2 (by omega)
      subst hA
      obtain ⟨c0, c1⟩ := hcell k hlt
      replace c0 := (hK.bel.cell (p := ⟨b, o + k * 2, none⟩) hbB).trans c0
      replace c1 := (hK.bel.cell (p := ⟨b, o + k * 2 + 1, none⟩) hbB).trans c1
      have hyes := Lib.hid (goodP_yes (R := R) (ps := ps) (k := k) (by rw [hl.out]; exact hlt))
      have hno := Lib.hid (goodP_no (R := R) (ps := ps) (k := k) (by rw [hl.out]; exact hlt))
      rw [← hJ] at hyes hno
      have hJl : J.length ≤ 4194304 := by
        rw [hJ]
        have := goodP_le R (ps.take k)
        rw [List.length_take] at this
        omega
      generalize hy : pth ps k = y at c0 c1 hyes hno
      obtain ⟨y, y'⟩ := y
      replace hJ := Lib.hid hJ
      replace hy := Lib.hid hy
      clear hcell
      have K2 := hK.later (bel_alloc wr (.cells #[.int .i64 y, .int .i64 y'] 136))
      have DS := Box.new wr 136 #[.int .i64 y, .int .i64 y']
      go_upto_region 6 with fail
      generalize (wr.alloc _ : World) = w2 at K2 DS ⊢
      generalize wr.heap.size = S at DS ⊢
      obtain ⟨p0, p1⟩ := DS.two
      obtain ⟨d0, d1, d2, d3, d4, x0, x1, x2, x3, x4⟩ := ten K2.gr K2.cl
      obtain ⟨e0, e1, e2, e3, e4, e5, e6, e7, e8, e9⟩ := K2.who.ten'
      have hrow := Lib.hid ((HR.out.below K2.bel (Nat.le_refl _)).more K2.bel.size)
      have HK2 := Lib.hid K2
      clear hK K0
      rcases hRy : R (y, y') with _ | _
      · have HY : Hid (rB s l c sh zs ck ch ct cq cv (y, y') = false) := by rw [HRR.out]; exact hRy
        replace hno := Lib.hid (hno.out hRy)
        clear hRy
        go_wp2_with fail
        refine (and_no J s l c sh A n cap zs ck ch ct cq cv y y' w2 HY.out HM.out hrow.out).mono ?_
        rintro e w3 ⟨rfl, hb3⟩
        clear p0 p1 d0 d1 d2 d3 d4 x0 x1 x2 x3 x4 e0 e1 e2 e3 e4 e5 e6 e7 e8 e9
        have K3 := K2.later hb3
        have DM := Box.new w3 255 #[.bool (fl (J) 0), .bool (fl (J) 1), .bool (fl (J) 2), .bool (fl (J) 3), .bool (fl (J) 4), .bool (fl (J) 5), .bool (fl (J) 6), .bool (fl (J) 7), .bool (fl (J) 8), .bool (fl (J) 9)]
        have K4 := K3.later (bel_alloc w3 (.cells #[.bool (fl (J) 0), .bool (fl (J) 1), .bool (fl (J) 2), .bool (fl (J) 3), .bool (fl (J) 4), .bool (fl (J) 5), .bool (fl (J) 6), .bool (fl (J) 7), .bool (fl (J) 8), .bool (fl (J) 9)] 255))
        clear K2 DS hb3 K3 HK2
        go_upto_region 7 with fail
        generalize (w3.alloc _ : World) = w4 at DM K4 ⊢
        generalize w3.heap.size = M at DM ⊢
        obtain ⟨d0, d1, d2, d3, d4, d5, d6, d7, d8, d9⟩ := K4.who.ten'
        obtain ⟨e0, e1, e2, e3, e4, e5, e6, e7, e8, e9⟩ := DM.ten'
        have HK4 := Lib.hid K4
        have hq := eqFlags_same J
        clear K4
        go_wp2
        go_roundw
        case rel => exact ⟨k + 1, J, by omega, by go_num, rfl, hno.out.symm, HK4.out⟩
        case measure => simp [intOf]; omega
      · have HY : Hid (rB s l c sh zs ck ch ct cq cv (y, y') = true) := by rw [HRR.out]; exact hRy
        replace hyes := Lib.hid (hyes.out hRy)
        have hy0 : 0 ≤ y := (rB_who HY.out).1
        have hy1 : y < 10 := Int.lt_of_lt_of_le (rB_who HY.out).2.1 (rB_who HY.out).2.2
        clear hRy
        have CC := and_yes J s l c sh A n cap zs ck ch ct cq cv y y' w2 HY.out HM.out hrow.out
        rcases hb : has J y with _ | _
        · obtain ⟨J', hJ'⟩ : ∃ J', put J (y, y') = J' := ⟨_, rfl⟩
          have hJl' : J'.length = J.length + 1 := by rw [← hJ', put_len]; simp [hb]
          rw [hJ'] at CC
          replace hyes : Hid (goodP R (ps.take (k + 1)) = J') := by rw [← hJ']; exact hyes.out
          replace hJ' := Lib.hid hJ'
          replace hJl' := Lib.hid hJl'
          have HC := Lib.hid CC
          clear CC
          go_wp2_with fail
          refine HC.out.mono ?_
          rintro e w3 ⟨rfl, hb3⟩
          clear HC p0 p1 d0 d1 d2 d3 d4 x0 x1 x2 x3 x4 e0 e1 e2 e3 e4 e5 e6 e7 e8 e9
          have K3 := K2.later hb3
          have DM := Box.new w3 255 #[.bool (fl (J') 0), .bool (fl (J') 1), .bool (fl (J') 2), .bool (fl (J') 3), .bool (fl (J') 4), .bool (fl (J') 5), .bool (fl (J') 6), .bool (fl (J') 7), .bool (fl (J') 8), .bool (fl (J') 9)]
          have K4 := K3.later (bel_alloc w3 (.cells #[.bool (fl (J') 0), .bool (fl (J') 1), .bool (fl (J') 2), .bool (fl (J') 3), .bool (fl (J') 4), .bool (fl (J') 5), .bool (fl (J') 6), .bool (fl (J') 7), .bool (fl (J') 8), .bool (fl (J') 9)] 255))
          have hM : w.heap.size + 1 + 1 < w3.heap.size := K3.who.lt
          clear K2 DS hb3 K3 HK2
          go_upto_region 7 with fail
          generalize (w3.alloc _ : World) = w4 at DM K4 ⊢
          generalize w3.heap.size = M at DM hM ⊢
          obtain ⟨d0, d1, d2, d3, d4, d5, d6, d7, d8, d9⟩ := K4.who.ten'
          obtain ⟨e0, e1, e2, e3, e4, e5, e6, e7, e8, e9⟩ := DM.ten'
          have hq := eqFlags_more J J' y.toNat (by omega) (by unfold fl; rw [show (y.toNat : Int) = y by omega]; exact hb) (by rw [← hJ'.out, fl_put]; simp; right; omega)
          have fz := K4.who.frozen
          have hne : M ≠ w.heap.size + 1 + 1 := by omega
          have hne' : w.heap.size + 1 + 1 ≠ M := by omega
          have HK5 := Lib.hid (CountAt.put10 K4 J')
          clear K4
          go_wp2
          go_roundw
          case rel => exact ⟨k + 1, J', by omega, by go_num, vint (by have := hJl'.out; omega), hyes.out.symm, HK5.out⟩
          case measure => simp [intOf]; omega
        · have hpj : put J (y, y') = J := by simp [put, hb]
          rw [hpj] at CC
          replace hyes : Hid (goodP R (ps.take (k + 1)) = J) := by rw [hyes.out]; exact hpj
          have HC := Lib.hid CC
          clear CC hpj hb
          go_wp2_with fail
          refine HC.out.mono ?_
          rintro e w3 ⟨rfl, hb3⟩
          clear HC p0 p1 d0 d1 d2 d3 d4 x0 x1 x2 x3 x4 e0 e1 e2 e3 e4 e5 e6 e7 e8 e9
          have K3 := K2.later hb3
          have DM := Box.new w3 255 #[.bool (fl (J) 0), .bool (fl (J) 1), .bool (fl (J) 2), .bool (fl (J) 3), .bool (fl (J) 4), .bool (fl (J) 5), .bool (fl (J) 6), .bool (fl (J) 7), .bool (fl (J) 8), .bool (fl (J) 9)]
          have K4 := K3.later (bel_alloc w3 (.cells #[.bool (fl (J) 0), .bool (fl (J) 1), .bool (fl (J) 2), .bool (fl (J) 3), .bool (fl (J) 4), .bool (fl (J) 5), .bool (fl (J) 6), .bool (fl (J) 7), .bool (fl (J) 8), .bool (fl (J) 9)] 255))
          clear K2 DS hb3 K3 HK2
          go_upto_region 7 with fail
          generalize (w3.alloc _ : World) = w4 at DM K4 ⊢
          generalize w3.heap.size = M at DM ⊢
          obtain ⟨d0, d1, d2, d3, d4, d5, d6, d7, d8, d9⟩ := K4.who.ten'
          obtain ⟨e0, e1, e2, e3, e4, e5, e6, e7, e8, e9⟩ := DM.ten'
          have HK4 := Lib.hid K4
          have hq := eqFlags_same J
          clear K4
          go_wp2
          go_roundw
          case rel => exact ⟨k + 1, J, by omega, by go_num, rfl, hyes.out.symm, HK4.out⟩
          case measure => simp [intOf]; omega
    · obtain rfl : k = m := by omega
      rw [← hl.out, List.take_length] at hJ
      replace hJ := Lib.hid hJ
      go_wp2
      go_ret
      rw [← hJ.out]
      exact ⟨rfl, hK.bel⟩

end Go.Proofs.YtjdepjpjjgkmbaaGreat

/- CertOk and ProvenOk, and their models: contracts of each of them; up to some four million seals. -/
namespace Go.Proofs.YtjdepjpjjgkmbaaGreat
open Go.RowKit

set_option maxRecDepth 100000 in
set_option maxHeartbeats 2000000 in
theorem certOk_is (s l c sh : Int) (A : Option Addr) (n cap : Nat) (zs : List Int) (ck ch ct cq cv : Int) (P : Option Addr) (m pcap : Nat) (ps : List (Int × Int)) (w : World) (hm : n ≤ maxLen) (hr : Row w w.heap.size A n zs) (hn : m ≤ 4194304) (h : Pairs w w.heap.size P m ps) :
    Calls Tryz.prog 234 #[.agg #[.int .i64 s, .int .i64 l, .int .i64 c, .int .i64 sh, .slice A n cap], .agg #[.int .i64 ck, .int .i64 ch, .int .i64 ct, .int .i64 cq, .int .i64 cv], .slice P m pcap] w fun e w' => e = .returned (.bool (cerB s l c sh zs ck ch ct cq cv ps)) ∧ Below w.heap.size w w' := by
  have E0 := bel_trans (bel_alloc w (.cells #[.int .i64 s, .int .i64 l, .int .i64 c, .int .i64 sh, .slice A n cap] 26)) (bel_alloc _ (.cells #[.int .i64 ck, .int .i64 ch, .int .i64 ct, .int .i64 cq, .int .i64 cv] 180))
  have DG := (Box.new w 26 #[.int .i64 s, .int .i64 l, .int .i64 c, .int .i64 sh, .slice A n cap]).alloc (.cells #[.int .i64 ck, .int .i64 ch, .int .i64 ct, .int .i64 cq, .int .i64 cv] 180)
  have DC := Box.new (w.alloc (.cells #[.int .i64 s, .int .i64 l, .int .i64 c, .int .i64 sh, .slice A n cap] 26)) 180 #[.int .i64 ck, .int .i64 ch, .int .i64 ct, .int .i64 cq, .int .i64 cv]
  simp only [World.size_alloc] at DC
  have HR := Lib.hid ((hr.below E0 (Nat.le_refl _)).more E0.size)
  have HM := Lib.hid hm
  have HP := Lib.hid (h.later E0)
  have hl := Lib.hid h.1
  have hN := Lib.hid hn
  clear h hr hm
  have hcer : Hid (cerB s l c sh zs ck ch ct cq cv ps = (okB s l c sh zs && decide ((m : Int) ≤ 20) && decide (quoN s l c sh zs ≤ cntN s l c sh zs ck ch ct cq cv ps))) := by
    unfold cerB
    rw [hl.out]
    exact rfl
  go_enter Tryz.func234, Tryz.ntmps234
  go_wp2_with fail
  generalize ((w.alloc _).alloc _ : World) = w1 at E0 DG DC HR HP ⊢
  obtain ⟨f0, f1, f2, f3, f4⟩ := fiveAfter DG
  obtain ⟨f5, f6, f7, f8, f9⟩ := fiveAfter DC
  rcases hok : okB s l c sh zs with _ | _
  · have HO := Lib.hid hok
    clear hok
    refine wp_region_after (by kernel_rfl) (by kernel_rfl) ?_
    repeat (first | go_big_quiet_step ((go_at_call 175; exact after_of (groupB_is HO.out _ n cap _ HM.out (rowAfter HR.out _)))) | quiet_step ((go_at_call 175; exact after_of (groupB_is HO.out _ n cap _ HM.out (rowAfter HR.out _)))))
    refine wpQuiet_nil ?_
    intro pw
    go_wp2
    go_ret
    exact ⟨by rw [hcer.out, HO.out]; rfl, bel_trans E0 pw.bel⟩
  · have HO := Lib.hid hok
    clear hok
    by_cases h20 : m ≤ 20
    · have h20' : (m : Int) ≤ 20 := by omega
      refine wp_region_after (by kernel_rfl) (by kernel_rfl) ?_
      repeat (first | go_big_quiet_step (first
        | (go_at_call 175; exact after_of (groupB_is HO.out _ n cap _ HM.out (rowAfter HR.out _)))
        | (go_at_call 242; exact after_of (count_is s l c sh _ n cap zs ck ch ct cq cv _ m pcap ps _ HM.out (rowAfter HR.out _) hN.out (pairsAfter HP.out _)))
        | (go_at_call 243; exact after_of (quorum_any s l c sh _ n cap zs _ HM.out (rowAfter HR.out _)))) | quiet_step (first
        | (go_at_call 175; exact after_of (groupB_is HO.out _ n cap _ HM.out (rowAfter HR.out _)))
        | (go_at_call 242; exact after_of (count_is s l c sh _ n cap zs ck ch ct cq cv _ m pcap ps _ HM.out (rowAfter HR.out _) hN.out (pairsAfter HP.out _)))
        | (go_at_call 243; exact after_of (quorum_any s l c sh _ n cap zs _ HM.out (rowAfter HR.out _)))))
      refine wpQuiet_nil ?_
      intro pw
      go_wp2
      go_ret
      exact ⟨by rw [hcer.out, HO.out]; simp [h20'], bel_trans E0 pw.bel⟩
    · have h20' : ¬ (m : Int) ≤ 20 := by omega
      have h20d := Lib.hid (show decide ((m : Int) ≤ 20) = false by simpa using h20')
      refine wp_region_after (by kernel_rfl) (by kernel_rfl) ?_
      repeat (first | go_big_quiet_step ((go_at_call 175; exact after_of (groupB_is HO.out _ n cap _ HM.out (rowAfter HR.out _)))) | quiet_step ((go_at_call 175; exact after_of (groupB_is HO.out _ n cap _ HM.out (rowAfter HR.out _)))))
      refine wpQuiet_nil ?_
      intro pw
      go_wp2
      go_ret
      exact ⟨by rw [hcer.out, HO.out, h20d.out]; rfl, bel_trans E0 pw.bel⟩

set_option maxRecDepth 100000 in
set_option maxHeartbeats 2000000 in
theorem specCertOk_is (s l c sh : Int) (A : Option Addr) (n cap : Nat) (zs : List Int) (ck ch ct cq cv : Int) (P : Option Addr) (m pcap : Nat) (ps : List (Int × Int)) (w : World) (hm : n ≤ maxLen) (hr : Row w w.heap.size A n zs) (hn : m ≤ 4194304) (h : Pairs w w.heap.size P m ps) :
    Calls Tryz.prog 199 #[.agg #[.int .i64 s, .int .i64 l, .int .i64 c, .int .i64 sh, .slice A n cap], .agg #[.int .i64 ck, .int .i64 ch, .int .i64 ct, .int .i64 cq, .int .i64 cv], .slice P m pcap] w fun e w' => e = .returned (.bool (cerB s l c sh zs ck ch ct cq cv ps)) ∧ Below w.heap.size w w' := by
  have E0 := bel_trans (bel_alloc w (.cells #[.int .i64 s, .int .i64 l, .int .i64 c, .int .i64 sh, .slice A n cap] 26)) (bel_alloc _ (.cells #[.int .i64 ck, .int .i64 ch, .int .i64 ct, .int .i64 cq, .int .i64 cv] 180))
  have DG := (Box.new w 26 #[.int .i64 s, .int .i64 l, .int .i64 c, .int .i64 sh, .slice A n cap]).alloc (.cells #[.int .i64 ck, .int .i64 ch, .int .i64 ct, .int .i64 cq, .int .i64 cv] 180)
  have DC := Box.new (w.alloc (.cells #[.int .i64 s, .int .i64 l, .int .i64 c, .int .i64 sh, .slice A n cap] 26)) 180 #[.int .i64 ck, .int .i64 ch, .int .i64 ct, .int .i64 cq, .int .i64 cv]
  simp only [World.size_alloc] at DC
  have HR := Lib.hid ((hr.below E0 (Nat.le_refl _)).more E0.size)
  have HM := Lib.hid hm
  have HP := Lib.hid (h.later E0)
  have hl := Lib.hid h.1
  have hN := Lib.hid hn
  clear h hr hm
  have hcer : Hid (cerB s l c sh zs ck ch ct cq cv ps = (okB s l c sh zs && decide ((m : Int) ≤ 20) && decide (quoN s l c sh zs ≤ cntN s l c sh zs ck ch ct cq cv ps))) := by
    unfold cerB
    rw [hl.out]
    exact rfl
  go_enter Tryz.func199, Tryz.ntmps199
  go_wp2_with fail
  generalize ((w.alloc _).alloc _ : World) = w1 at E0 DG DC HR HP ⊢
  obtain ⟨f0, f1, f2, f3, f4⟩ := fiveAfter DG
  obtain ⟨f5, f6, f7, f8, f9⟩ := fiveAfter DC
  rcases hok : okB s l c sh zs with _ | _
  · have HO := Lib.hid hok
    clear hok
    refine wp_region_after (by kernel_rfl) (by kernel_rfl) ?_
    repeat (first | go_big_quiet_step ((go_at_call 133; exact after_of (specGroupB_is HO.out _ n cap _ HM.out (rowAfter HR.out _)))) | quiet_step ((go_at_call 133; exact after_of (specGroupB_is HO.out _ n cap _ HM.out (rowAfter HR.out _)))))
    refine wpQuiet_nil ?_
    intro pw
    go_wp2
    go_ret
    exact ⟨by rw [hcer.out, HO.out]; rfl, bel_trans E0 pw.bel⟩
  · have HO := Lib.hid hok
    clear hok
    by_cases h20 : m ≤ 20
    · have h20' : (m : Int) ≤ 20 := by omega
      refine wp_region_after (by kernel_rfl) (by kernel_rfl) ?_
      repeat (first | go_big_quiet_step (first
        | (go_at_call 133; exact after_of (specGroupB_is HO.out _ n cap _ HM.out (rowAfter HR.out _)))
        | (go_at_call 228; exact after_of (specCount_is s l c sh _ n cap zs ck ch ct cq cv _ m pcap ps _ HM.out (rowAfter HR.out _) hN.out (pairsAfter HP.out _)))
        | (go_at_call 183; exact after_of (specQuorum_any s l c sh _ n cap zs _ HM.out (rowAfter HR.out _)))) | quiet_step (first
        | (go_at_call 133; exact after_of (specGroupB_is HO.out _ n cap _ HM.out (rowAfter HR.out _)))
        | (go_at_call 228; exact after_of (specCount_is s l c sh _ n cap zs ck ch ct cq cv _ m pcap ps _ HM.out (rowAfter HR.out _) hN.out (pairsAfter HP.out _)))
        | (go_at_call 183; exact after_of (specQuorum_any s l c sh _ n cap zs _ HM.out (rowAfter HR.out _)))))
      refine wpQuiet_nil ?_
      intro pw
      go_wp2
      go_ret
      exact ⟨by rw [hcer.out, HO.out]; simp [h20'], bel_trans E0 pw.bel⟩
    · have h20' : ¬ (m : Int) ≤ 20 := by omega
      have h20d := Lib.hid (show decide ((m : Int) ≤ 20) = false by simpa using h20')
      refine wp_region_after (by kernel_rfl) (by kernel_rfl) ?_
      repeat (first | go_big_quiet_step ((go_at_call 133; exact after_of (specGroupB_is HO.out _ n cap _ HM.out (rowAfter HR.out _)))) | quiet_step ((go_at_call 133; exact after_of (specGroupB_is HO.out _ n cap _ HM.out (rowAfter HR.out _)))))
      refine wpQuiet_nil ?_
      intro pw
      go_wp2
      go_ret
      exact ⟨by rw [hcer.out, HO.out, h20d.out]; rfl, bel_trans E0 pw.bel⟩


theorem certB_is {s l c sh : Int} {zs : List Int} {ck ch ct cq cv : Int} {ps : List (Int × Int)} {b : Bool} (hb : cerB s l c sh zs ck ch ct cq cv ps = b) (A : Option Addr) (n cap : Nat) (P : Option Addr) (m pcap : Nat) (w : World) (hm : n ≤ maxLen) (hr : Row w w.heap.size A n zs) (hn : m ≤ 4194304) (h : Pairs w w.heap.size P m ps) :
    Calls Tryz.prog 234 #[.agg #[.int .i64 s, .int .i64 l, .int .i64 c, .int .i64 sh, .slice A n cap], .agg #[.int .i64 ck, .int .i64 ch, .int .i64 ct, .int .i64 cq, .int .i64 cv], .slice P m pcap] w fun e w' => e = .returned (.bool b) ∧ Below w.heap.size w w' := hb ▸ certOk_is s l c sh A n cap zs ck ch ct cq cv P m pcap ps w hm hr hn h
theorem specCertB_is {s l c sh : Int} {zs : List Int} {ck ch ct cq cv : Int} {ps : List (Int × Int)} {b : Bool} (hb : cerB s l c sh zs ck ch ct cq cv ps = b) (A : Option Addr) (n cap : Nat) (P : Option Addr) (m pcap : Nat) (w : World) (hm : n ≤ maxLen) (hr : Row w w.heap.size A n zs) (hn : m ≤ 4194304) (h : Pairs w w.heap.size P m ps) :
    Calls Tryz.prog 199 #[.agg #[.int .i64 s, .int .i64 l, .int .i64 c, .int .i64 sh, .slice A n cap], .agg #[.int .i64 ck, .int .i64 ch, .int .i64 ct, .int .i64 cq, .int .i64 cv], .slice P m pcap] w fun e w' => e = .returned (.bool b) ∧ Below w.heap.size w w' := hb ▸ specCertOk_is s l c sh A n cap zs ck ch ct cq cv P m pcap ps w hm hr hn h

end Go.Proofs.YtjdepjpjjgkmbaaGreat

/- ProvenOk and its model: contracts of each of them; up to some four million seals. -/
namespace Go.Proofs.YtjdepjpjjgkmbaaGreat
open Go.RowKit

theorem proB_eq (s l c sh : Int) (zs : List Int) (x ct cq v : Int) (ps : List (Int × Int)) : proB s l c sh zs x ct cq v ps = (shfB s l c sh zs x && (nilB ct cq v || cerB s l c sh zs 1 x ct cq v ps)) := rfl

set_option maxRecDepth 100000 in
set_option maxHeartbeats 2000000 in
theorem proven_is (s l c sh : Int) (A : Option Addr) (n cap : Nat) (zs : List Int) (x ct cq v : Int) (P : Option Addr) (m pcap : Nat) (ps : List (Int × Int)) (w : World) (hm : n ≤ maxLen) (hr : Row w w.heap.size A n zs) (hn : m ≤ 4194304) (h : Pairs w w.heap.size P m ps) :
    Calls Tryz.prog 209 #[.agg #[.int .i64 s, .int .i64 l, .int .i64 c, .int .i64 sh, .slice A n cap], .int .i64 x, .agg #[.int .i64 ct, .int .i64 cq], .int .i64 v, .slice P m pcap] w fun e w' => e = .returned (.bool (proB s l c sh zs x ct cq v ps)) ∧ Below w.heap.size w w' := by
  rw [proB_eq]
  have E0 := bel_trans (bel_alloc w (.cells #[.int .i64 s, .int .i64 l, .int .i64 c, .int .i64 sh, .slice A n cap] 26)) (bel_alloc _ (.cells #[.int .i64 ct, .int .i64 cq] 39))
  have DG := (Box.new w 26 #[.int .i64 s, .int .i64 l, .int .i64 c, .int .i64 sh, .slice A n cap]).alloc (.cells #[.int .i64 ct, .int .i64 cq] 39)
  have DT := Box.new (w.alloc (.cells #[.int .i64 s, .int .i64 l, .int .i64 c, .int .i64 sh, .slice A n cap] 26)) 39 #[.int .i64 ct, .int .i64 cq]
  simp only [World.size_alloc] at DT
  have HR := Lib.hid ((hr.below E0 (Nat.le_refl _)).more E0.size)
  have HM := Lib.hid hm
  have HP := Lib.hid (h.later E0)
  have hN := Lib.hid hn
  clear h hr hm
  obtain ⟨d0, d1, d2, d3, d4⟩ := DG.five
  go_enter Tryz.func209, Tryz.ntmps209
  go_wp2_with fail
  generalize ((w.alloc _).alloc _ : World) = w1 at E0 DG DT HR HP d0 d1 d2 d3 d4 ⊢
  rcases hsf : shfB s l c sh zs x with _ | _
  · have HO := Lib.hid hsf
    clear hsf
    refine (isShelfB_is HO.out A n cap w1 HM.out HR.out).mono ?_
    rintro e w2 ⟨rfl, hb2⟩
    have E2 := bel_trans E0 hb2
    go_wp2
    go_ret
    exact ⟨by first | rfl | (rw [HO.out]; rfl), E2⟩
  · have HO := Lib.hid hsf
    clear hsf
    refine (isShelfB_is HO.out A n cap w1 HM.out HR.out).mono ?_
    rintro e w2 ⟨rfl, hb2⟩
    have E2 := bel_trans E0 hb2
    have DG2 := DG.later hb2 DG.lt
    have DT2 := DT.later hb2 DT.lt
    have HR2 := Lib.hid ((HR.out.below hb2 (Nat.le_refl _)).more hb2.size)
    have HP2 := Lib.hid (HP.out.later hb2)
    clear d0 d1 d2 d3 d4 DG DT HR HP hb2 E0
    obtain ⟨d0, d1, d2, d3, d4⟩ := DG2.five
    obtain ⟨t0, t1⟩ := DT2.two
    rcases hc : cerB s l c sh zs 1 x ct cq v ps with _ | _
    all_goals (
      have HC := Lib.hid hc
      clear hc
      rcases nil_cases ct cq v with ⟨rfl, rfl, rfl, hnil⟩ | ⟨hnil, hcase⟩
      · have HNL := Lib.hid hnil
        clear hnil
        go_wp2
        go_ret
        exact ⟨by first | rfl | (rw [HNL.out]; rfl) | (rw [HO.out, HNL.out]; rfl), E2⟩
      · have HNL := Lib.hid hnil
        clear hnil
        rcases hcase with h1 | ⟨h1, h2⟩ | ⟨rfl, rfl, h2⟩
        all_goals (
          go_wp2_with fail
          refine (certB_is HC.out A n cap P m pcap w2 HM.out HR2.out hN.out HP2.out).mono ?_
          rintro e w3 ⟨rfl, hb3⟩
          have E3 := bel_trans E2 hb3
          go_wp2
          go_ret
          exact ⟨by first | rfl | (rw [HNL.out]; rfl) | (rw [HO.out, HNL.out]; rfl) | (rw [HNL.out, HC.out]; rfl) | (rw [HO.out, HNL.out, HC.out]; rfl), E3⟩))

end Go.Proofs.YtjdepjpjjgkmbaaGreat

/- The functions of certificates, third part: GoodSeals: its contract; up to some two million seals. -/
namespace Go.Proofs.YtjdepjpjjgkmbaaGreat
open Go.RowKit

/-- What GoodSeals keeps: the group, the claim, the right ones so far. -/
structure GoodAt (w0 wr : World) (q cap' : Nat) (o : List (Int × Int)) (s l c sh : Int) (A : Option Addr) (n cap : Nat) (ck ch ct cq cv : Int) : Prop where
  bel : Below w0.heap.size w0 wr
  gr : Box wr w0.heap.size 26 #[.int .i64 s, .int .i64 l, .int .i64 c, .int .i64 sh, .slice A n cap]
  cl : Box wr (w0.heap.size + 1) 180 #[.int .i64 ck, .int .i64 ch, .int .i64 ct, .int .i64 cq, .int .i64 cv]
  own : wr.ownsRow (w0.heap.size + 2) 136 2 (.slice (some ⟨q, 0, none⟩) o.length cap') o.length (flatP o)
theorem GoodAt.later {w0 wr w' : World} {q cap' : Nat} {o : List (Int × Int)} {s l c sh : Int} {A : Option Addr} {n cap : Nat} {ck ch ct cq cv : Int} (h : GoodAt w0 wr q cap' o s l c sh A n cap ck ch ct cq cv) (hb : Below wr.heap.size wr w') : GoodAt w0 w' q cap' o s l c sh A n cap ck ch ct cq cv :=
  ⟨bel_trans h.bel hb, h.gr.later hb h.gr.lt, h.cl.later hb h.cl.lt, h.own.kept (grown_bel hb none) (by simp [Value.ownBlock])⟩
theorem GoodAt.push {w0 wr w2 : World} {q cap' gg cap2 : Nat} {o : List (Int × Int)} {s l c sh : Int} {A : Option Addr} {n cap : Nat} {ck ch ct cq cv : Int} {a b : Int} {ob : Obj} (h : GoodAt w0 wr q cap' o s l c sh A n cap ck ch ct cq cv)
    (hown : w2.ownsRow (w0.heap.size + 2) 136 2 (.slice (some ⟨gg, 0, none⟩) (o.length + 1) cap2) (o.length + 1) (flatP o ++ [.int .i64 a, .int .i64 b])) (hg : (wr.alloc ob).grownBy w2 (Value.ownBlock (.slice (some ⟨q, 0, none⟩) o.length cap'))) : GoodAt w0 w2 gg cap2 (o ++ [(a, b)]) s l c sh A n cap ck ch ct cq cv := by
  have hq := (h.own.lt q rfl).1
  have hg : (wr.alloc ob).grownBy w2 (some q) := hg
  refine ⟨bel_grown (bel_trans h.bel (bel_alloc wr ob)) hg (by omega), (h.gr.alloc ob).kept hg (by intro e; injection e with e; omega), (h.cl.alloc ob).kept hg (by intro e; injection e with e; omega), ?_⟩
  rw [flatP_snoc]
  simpa using hown
theorem filter_take {R : Int × Int → Bool} {ps : List (Int × Int)} {k : Nat} (h : k < ps.length) : (ps.take (k + 1)).filter R = (ps.take k).filter R ++ if R (pth ps k) then [pth ps k] else [] := by
  rw [List.take_succ_eq_append_getElem h, ← pth_lt h, List.filter_append]
  rcases hR : R (pth ps k) with _ | _ <;> simp [hR]

set_option maxRecDepth 100000 in
set_option maxHeartbeats 2000000 in
theorem good_is (s l c sh : Int) (A : Option Addr) (n cap : Nat) (zs : List Int) (ck ch ct cq cv : Int) (P : Option Addr) (m pcap : Nat) (ps : List (Int × Int)) (w : World) (hm : n ≤ maxLen) (hr : Row w w.heap.size A n zs) (hn : m ≤ 4194304) (h : Pairs w w.heap.size P m ps) :
    Calls Tryz.prog 239 #[.agg #[.int .i64 s, .int .i64 l, .int .i64 c, .int .i64 sh, .slice A n cap], .agg #[.int .i64 ck, .int .i64 ch, .int .i64 ct, .int .i64 cq, .int .i64 cv], .slice P m pcap] w fun e w' => ∃ u, e = .returned u ∧ Own w u (goodP (rB s l c sh zs ck ch ct cq cv) ps) w' := by
  obtain ⟨i0, hi0, hz0, hz1, hz2⟩ := info_parts Tryz.infoSealI
  have K0 : GoodAt w (((w.alloc (.cells #[.int .i64 s, .int .i64 l, .int .i64 c, .int .i64 sh, .slice A n cap] 26)).alloc (.cells #[.int .i64 ck, .int .i64 ch, .int .i64 ct, .int .i64 cq, .int .i64 cv] 180)).alloc (.cells #[] 136)) (w.heap.size + 1 + 1) 0 [] s l c sh A n cap ck ch ct cq cv := by
    refine ⟨bel_trans (bel_trans (bel_alloc _ _) (bel_alloc _ _)) (bel_alloc _ _), ((Box.new w _ _).alloc _).alloc _, ?_, ⟨rfl, .inr ⟨w.heap.size + 1 + 1, 0, #[], rfl, Nat.le_refl _, ?_, Nat.le_refl _, Nat.zero_le _, rfl, rfl⟩⟩⟩
    · have := (Box.new (w.alloc (.cells #[.int .i64 s, .int .i64 l, .int .i64 c, .int .i64 sh, .slice A n cap] 26)) 180 #[.int .i64 ck, .int .i64 ch, .int .i64 ct, .int .i64 cq, .int .i64 cv]).alloc (.cells #[] 136)
      simp only [World.size_alloc] at this
      exact this
    · have := Box.new ((w.alloc (.cells #[.int .i64 s, .int .i64 l, .int .i64 c, .int .i64 sh, .slice A n cap] 26)).alloc (.cells #[.int .i64 ck, .int .i64 ch, .int .i64 ct, .int .i64 cq, .int .i64 cv] 180)) 136 #[]
      simp only [World.size_alloc] at this
      exact this
  have HR := Lib.hid hr
  have HM := Lib.hid hm
  have HP := Lib.hid h
  have hl := Lib.hid h.1
  clear h hr hm
  generalize hR : rB s l c sh zs ck ch ct cq cv = R
  have HRR := Lib.hid hR
  clear hR
  go_enter Tryz.func239, Tryz.ntmps239
  go_wp2_with fail
  generalize (((w.alloc _).alloc _).alloc _ : World) = w1 at K0 ⊢
  go_loopw [7, 13] (fun ov iv wr => ∃ (k q cap' : Nat) (o : List (Int × Int)), k ≤ m ∧ iv = .int .i64 k ∧ ov = .slice (some ⟨q, 0, none⟩) o.length cap' ∧ o = (ps.take k).filter R ∧ GoodAt w wr q cap' o s l c sh A n cap ck ch ct cq cv) (fun _ i _ => m - (intOf i).toNat)
  case atStart => exact ⟨0, _, 0, [], Nat.zero_le _, rfl, rfl, by simp, K0⟩
  case round =>
    obtain ⟨k, q, cap', o, hk, rfl, rfl, ho, hK⟩ := hrel
    by_cases hlt : k < m
    · have hlt' : (k : Int) < (m : Int) := by omega
      obtain ⟨b, o', hA, hbB, hcell⟩ := HP.out.2 (by omega)
      subst hA
      obtain ⟨c0, c1⟩ := hcell k hlt
      replace c0 := (hK.bel.cell (p := ⟨b, o' + k * 2, none⟩) hbB).trans c0
      replace c1 := (hK.bel.cell (p := ⟨b, o' + k * 2 + 1, none⟩) hbB).trans c1
      have hst := Lib.hid (filter_take (R := R) (ps := ps) (k := k) (by rw [hl.out]; exact hlt))
      rw [← ho] at hst
      have hol : o.length ≤ 4194304 := by
        rw [ho]
        have := List.length_filter_le R (ps.take k)
        rw [List.length_take] at this
        omega
      generalize hy : pth ps k = y at c0 c1 hst
      obtain ⟨y, y'⟩ := y
      replace ho := Lib.hid ho
      replace hy := Lib.hid hy
      clear hcell
      have K2 := hK.later (bel_alloc wr (.cells #[.int .i64 y, .int .i64 y'] 136))
      have DS := Box.new wr 136 #[.int .i64 y, .int .i64 y']
      go_upto_region 5 with fail
      generalize (wr.alloc _ : World) = w2 at K2 DS ⊢
      generalize wr.heap.size = S at DS ⊢
      obtain ⟨p0, p1⟩ := DS.two
      obtain ⟨d0, d1, d2, d3, d4, x0, x1, x2, x3, x4⟩ := ten K2.gr K2.cl
      have hrow := Lib.hid ((HR.out.below K2.bel (Nat.le_refl _)).more K2.bel.size)
      clear hK K0
      rcases hRy : R (y, y') with _ | _
      · have HY : Hid (rB s l c sh zs ck ch ct cq cv (y, y') = false) := by rw [HRR.out]; exact hRy
        have hst' := Lib.hid (show (ps.take (k + 1)).filter R = o by rw [hst.out, hRy]; simp)
        clear hRy
        go_wp2_with fail
        refine (rightB_is HY.out A n cap w2 HM.out hrow.out).mono ?_
        rintro e w3 ⟨rfl, hb3⟩
        have HK3 := Lib.hid (K2.later hb3)
        clear K2 DS hb3 p0 p1 d0 d1 d2 d3 d4 x0 x1 x2 x3 x4
        go_wp2
        go_roundw
        case rel => exact ⟨k + 1, q, cap', o, by omega, by go_num, rfl, hst'.out.symm, HK3.out⟩
        case measure => simp [intOf]; omega
      · have HY : Hid (rB s l c sh zs ck ch ct cq cv (y, y') = true) := by rw [HRR.out]; exact hRy
        have hst' := Lib.hid (show (ps.take (k + 1)).filter R = o ++ [(y, y')] by rw [hst.out, hRy]; simp)
        clear hRy
        go_wp2_with fail
        refine (rightB_is HY.out A n cap w2 HM.out hrow.out).mono ?_
        rintro e w3 ⟨rfl, hb3⟩
        have K3 := K2.later hb3
        have DS3 := DS.later hb3 DS.lt
        clear K2 DS hb3 p0 p1 d0 d1 d2 d3 d4 x0 x1 x2 x3 x4
        obtain ⟨p0, p1⟩ := DS3.two
        have hsz := K3.bel.size
        have hcl := K3.cl.lt
        go_wp2_with (at_builtin; refine wpList_append_lies _ rfl _ _ _ rfl (w.heap.size + 2) 136 i0 _ 2 16 Tryz.underlying40 hi0 hz0 hz1 hz2 rfl (by omega) (.slice (some ⟨q, 0, none⟩) o.length cap') o.length (flatP o) rfl (K3.own.alloc _) ⟨w3.heap.size, 0, none⟩ 1 1 [.int .i64 y, .int .i64 y'] rfl rfl (World.news_of_block (cs := #[.int .i64 y, .int .i64 y']) (t := 136) (fr := (0, 0)) (heap_alloc_new w3 _)) (by simp [Value.oneCell']) (by omega) (by unfold maxLen; omega) (by omega) (by simp; omega) (w3.heap.size + 1) (by simp) ?_; intro gg cap2 w5 hown2 hgrow2 hat hlt2; have HK5 := Lib.hid (K3.push hown2 hgrow2); clear hown2 hgrow2 hat)
        go_roundw
        case rel =>
          have hl2 : (o ++ [(y, y')]).length = o.length + 1 := by simp
          exact ⟨k + 1, gg, cap2, o ++ [(y, y')], by omega, by go_num, by rw [hl2], hst'.out.symm, HK5.out⟩
        case measure => simp [intOf]; omega
    · obtain rfl : k = m := by omega
      rw [← hl.out, List.take_length] at ho
      have hol : o.length ≤ 4194304 := by
        rw [ho]
        have := List.length_filter_le R ps
        rw [hl.out] at this
        omega
      replace ho := Lib.hid ho
      have hsl : Slc wr (.slice (some ⟨q, 0, none⟩) o.length cap') o := .inr ⟨q, 0, _, cap', rfl, own_pairs hK.own⟩
      have hsl := Lib.hid hsl
      go_wp2_with fail
      refine (join_is _ _ o [] wr (by simpa using hol) hsl.out (.inl ⟨rfl, rfl⟩)).mono ?_
      rintro e w2 ⟨u, rfl, hown⟩
      have hown := Lib.hid hown
      go_wp2
      go_ret
      refine ⟨_, rfl, ?_, bel_trans hK.bel hown.out.2⟩
      have e : goodP R ps = puts (o ++ []) := by rw [List.append_nil, ho.out]; rfl
      rw [e]
      rcases hown.out.1 with hh | ⟨g, cap2, hg, hu, h1, h2, hh⟩
      · exact .inl hh
      · exact .inr ⟨g, cap2, Nat.le_trans hK.bel.size hg, hu, h1, h2, hh⟩

end Go.Proofs.YtjdepjpjjgkmbaaGreat

namespace Go.Proofs.YtjdepjpjjgkmbaaGreat
open Go.RowKit

/-- An open that is right. -/
def opnB (s l c sh : Int) (zs : List Int) (o : Opn) : Bool := cliB s l c sh zs o.1 && decide (o.2.2.1 = o.1) && decide (1 ≤ o.2.1) && stB o.2.1 o.2.2.1 && valB o.2.2.2
theorem opn_1 {s l c sh : Int} {zs : List Int} {k t y v : Int} (h : cliB s l c sh zs k = false) : opnB s l c sh zs (k, t, y, v) = false := by simp [opnB, h]
theorem opn_2 {s l c sh : Int} {zs : List Int} {k t y v : Int} (h : y ≠ k) : opnB s l c sh zs (k, t, y, v) = false := by simp [opnB, h]
theorem opn_3 {s l c sh : Int} {zs : List Int} {k t y v : Int} (h : ¬ 1 ≤ t) : opnB s l c sh zs (k, t, y, v) = false := by simp [opnB, h]
theorem opn_4 {s l c sh : Int} {zs : List Int} {k t y v : Int} (h : stB t y = false) : opnB s l c sh zs (k, t, y, v) = false := by simp [opnB, h]
theorem opn_5 {s l c sh : Int} {zs : List Int} {k t v : Int} (h1 : cliB s l c sh zs k = true) (h3 : 1 ≤ t) (h4 : stB t k = true) : opnB s l c sh zs (k, t, k, v) = valB v := by simp [opnB, h1, h3, h4]
/-- The open at place i is right, and of a later client than the one ahead of it. -/
def stepB (R : Opn → Bool) (os : List Opn) (i : Nat) : Bool := R (oth os i) && (decide (i = 0) || decide ((oth os (i - 1)).1 < (oth os i).1))
def opsB (R : Opn → Bool) (os : List Opn) : Bool := (List.range os.length).all (stepB R os)
theorem opsB_false {R : Opn → Bool} {os : List Opn} {k : Nat} (hk : k < os.length) (h : stepB R os k = false) : opsB R os = false := by
  unfold opsB
  rw [List.all_eq_false]
  exact ⟨k, List.mem_range.2 hk, by simp [h]⟩
theorem opsB_true {R : Opn → Bool} {os : List Opn} (h : ∀ j, j < os.length → stepB R os j = true) : opsB R os = true := by
  unfold opsB
  rw [List.all_eq_true]
  exact fun j hj => h j (List.mem_range.1 hj)

theorem isValR_is {x : Int} {b : Bool} (h : valB x = b) (w : World) : Calls Tryz.prog 225 #[.int .i64 x] w fun e w' => e = .returned (.bool b) ∧ w = w' := by
  subst h
  go_enter Tryz.func225, Tryz.ntmps225
  go_wp2_with (go_at_call 143; refine (within_any _ _ _ _).mono ?_; rintro e w' ⟨rfl, rfl⟩)
  go_ret
  exact ⟨rfl, rfl⟩
theorem clientR_is {s l c sh : Int} {zs : List Int} {x : Int} {b : Bool} (h : cliB s l c sh zs x = b) (A : Option Addr) (n cap : Nat) (w : World) (hm : n ≤ maxLen) (hr : Row w w.heap.size A n zs) :
    Calls Tryz.prog 224 #[.agg #[.int .i64 s, .int .i64 l, .int .i64 c, .int .i64 sh, .slice A n cap], .int .i64 x] w fun e w' => e = .returned (.bool b) ∧ Below w.heap.size w w' := h ▸ client_any s l c sh A n cap zs x w hm hr
theorem stampR_is {c k : Int} {b : Bool} (h : stB c k = b) (w : World) : Calls Tryz.prog 114 #[.agg #[.int .i64 c, .int .i64 k]] w fun e w' => e = .returned (.bool b) ∧ Below w.heap.size w w' := h ▸ stampOk_any c k w

set_option maxHeartbeats 1000000 in
theorem isRight_is (s l c sh : Int) (A : Option Addr) (n cap : Nat) (zs : List Int) (k t y v : Int) (w : World) (hm : n ≤ maxLen) (hr : Row w w.heap.size A n zs) :
    Calls Tryz.prog 191 #[.agg #[.int .i64 k, .int .i64 t, .int .i64 y, .int .i64 v], .agg #[.int .i64 s, .int .i64 l, .int .i64 c, .int .i64 sh, .slice A n cap]] w fun e w' => e = .returned (.bool (opnB s l c sh zs (k, t, y, v))) ∧ Below w.heap.size w w' := by
  have D := (Box.new w 97 #[.int .i64 k, .int .i64 t, .int .i64 y, .int .i64 v]).alloc (.cells #[.int .i64 s, .int .i64 l, .int .i64 c, .int .i64 sh, .slice A n cap] 26)
  have E := bel_trans (bel_alloc w (.cells #[.int .i64 k, .int .i64 t, .int .i64 y, .int .i64 v] 97)) (bel_alloc _ (.cells #[.int .i64 s, .int .i64 l, .int .i64 c, .int .i64 sh, .slice A n cap] 26))
  have HR := Lib.hid ((hr.below E (Nat.le_refl _)).more E.size)
  have HM := Lib.hid hm
  clear hr hm
  rcases hcl : cliB s l c sh zs k with _ | _
  · have HV := Lib.hid (opn_1 (t := t) (y := y) (v := v) hcl)
    have HC := Lib.hid hcl
    clear hcl
    go_enter Tryz.func191, Tryz.ntmps191
    go_wp2_with fail
    generalize ((w.alloc _).alloc _ : World) = w0 at D E HR ⊢
    refine (clientR_is HC.out A n cap w0 HM.out HR.out).mono ?_
    rintro e w1 ⟨rfl, hb1⟩
    go_wp2
    go_ret
    exact ⟨by rw [HV.out]; rfl, bel_trans E hb1⟩
  · have HC := Lib.hid hcl
    clear hcl
    go_enter Tryz.func191, Tryz.ntmps191
    go_wp2_with fail
    generalize ((w.alloc _).alloc _ : World) = w0 at D E HR ⊢
    refine (clientR_is HC.out A n cap w0 HM.out HR.out).mono ?_
    rintro e w1 ⟨rfl, hb1⟩
    have D1 := D.later hb1 D.lt
    have E1 := bel_trans E hb1
    clear D E HR hb1
    obtain ⟨d0, d1, d2, d3⟩ := D1.four
    by_cases h2 : y = k
    · subst h2
      by_cases h3 : 1 ≤ t
      · rcases h4 : stB t y with _ | _
        · have HV := Lib.hid (opn_4 (s := s) (l := l) (c := c) (sh := sh) (zs := zs) (k := y) (v := v) h4)
          have H4 := Lib.hid h4
          clear h4
          go_wp2_with (go_at_call 114; refine (stampR_is H4.out _).mono ?_; rintro e w2 ⟨rfl, hb2⟩; have E2 := bel_trans E1 hb2)
          go_ret
          exact ⟨by rw [HV.out]; rfl, E2⟩
        · have HV := Lib.hid (opn_5 (v := v) HC.out h3 h4)
          have H4 := Lib.hid h4
          clear h4
          rcases h5 : valB v with _ | _
          all_goals
            have H5 := Lib.hid h5
            clear h5
            go_wp2_with fail
            refine (stampR_is H4.out w1).mono ?_
            rintro e w2 ⟨rfl, hb2⟩
            have E2 := bel_trans E1 hb2
            have D2 := D1.later hb2 D1.lt
            have c3 : w2.cell? ⟨w.heap.size, 3, none⟩ = some (.int .i64 v) := D2.cell 3
            clear D2 hb2
            go_wp2_with (go_at_call 225; refine (isValR_is H5.out _).mono ?_; rintro e w3 ⟨rfl, rfl⟩)
            go_ret
            exact ⟨by rw [HV.out, H5.out]; rfl, E2⟩
      · have HV := Lib.hid (opn_3 (s := s) (l := l) (c := c) (sh := sh) (zs := zs) (k := y) (y := y) (v := v) h3)
        go_wp2
        go_ret
        exact ⟨by rw [HV.out]; rfl, E1⟩
    · have h2' : (y == k) = false := by simpa using h2
      have HV := Lib.hid (opn_2 (s := s) (l := l) (c := c) (sh := sh) (zs := zs) (t := t) (v := v) h2)
      go_wp2
      go_ret
      exact ⟨by rw [HV.out]; rfl, E1⟩
theorem isRightB_is {s l c sh : Int} {zs : List Int} {k t y v : Int} {b : Bool} (h : opnB s l c sh zs (k, t, y, v) = b) (A : Option Addr) (n cap : Nat) (w : World) (hm : n ≤ maxLen) (hr : Row w w.heap.size A n zs) :
    Calls Tryz.prog 191 #[.agg #[.int .i64 k, .int .i64 t, .int .i64 y, .int .i64 v], .agg #[.int .i64 s, .int .i64 l, .int .i64 c, .int .i64 sh, .slice A n cap]] w fun e w' => e = .returned (.bool b) ∧ Below w.heap.size w w' := h ▸ isRight_is s l c sh A n cap zs k t y v w hm hr

theorem quadA {w : World} {g : Nat} {t : TypeId} {v0 v1 v2 v3 : Value} (h : Box w g t #[v0, v1, v2, v3]) :
    (∀ p : After w, p.x.cell? ⟨g, 0, none⟩ = some v0) ∧ (∀ p : After w, p.x.cell? ⟨g, 1, none⟩ = some v1) ∧ (∀ p : After w, p.x.cell? ⟨g, 2, none⟩ = some v2) ∧ (∀ p : After w, p.x.cell? ⟨g, 3, none⟩ = some v3) :=
  ⟨After.cell h.lt (h.cell 0), After.cell h.lt (h.cell 1), After.cell h.lt (h.cell 2), After.cell h.lt (h.cell 3)⟩

set_option maxRecDepth 100000 in
set_option maxHeartbeats 2000000 in
theorem opensOk_is (s l c sh : Int) (A : Option Addr) (n cap : Nat) (zs : List Int) (Q : Option Addr) (q qc : Nat) (os : List Opn) (w : World) (hm : n ≤ maxLen) (hr : Row w w.heap.size A n zs) (hq : q ≤ 4194304) (h : Quads w w.heap.size Q q os) :
    Calls Tryz.prog 201 #[.agg #[.int .i64 s, .int .i64 l, .int .i64 c, .int .i64 sh, .slice A n cap], .slice Q q qc] w fun e w' => e = .returned (.bool (opsB (opnB s l c sh zs) os)) ∧ Below w.heap.size w w' := by
  have HL := Lib.hid h.1
  have HQ := Lib.hid h
  have HR := Lib.hid hr
  have HM := Lib.hid hm
  clear h hr hm
  go_enter Tryz.func201, Tryz.ntmps201
  go_wp2_with fail
  go_loopw [9] (fun iv wr => ∃ k : Nat, k ≤ q ∧ iv = .int .i64 k ∧ (∀ j, j < k → stepB (opnB s l c sh zs) os j = true) ∧ Box wr w.heap.size 26 #[.int .i64 s, .int .i64 l, .int .i64 c, .int .i64 sh, .slice A n cap] ∧ Below w.heap.size w wr) (fun i _ => q - (intOf i).toNat)
  case atStart => exact ⟨0, Nat.zero_le _, rfl, fun j hj => absurd hj (by omega), Box.new w _ _, bel_alloc _ _⟩
  case round =>
    obtain ⟨k, hk, rfl, hst, G, hb⟩ := hrel
    by_cases hlt : k < q
    · obtain ⟨b, o, hA, hbB, hcell⟩ := HQ.out.2 (by omega)
      subst hA
      obtain ⟨g0, g1, g2, g3⟩ := hcell k hlt
      have g0 := (hb.cell (p := ⟨b, o + k * 4, none⟩) hbB).trans g0
      have g1 := (hb.cell (p := ⟨b, o + k * 4 + 1, none⟩) hbB).trans g1
      have g2 := (hb.cell (p := ⟨b, o + k * 4 + 2, none⟩) hbB).trans g2
      have g3 := (hb.cell (p := ⟨b, o + k * 4 + 3, none⟩) hbB).trans g3
      generalize hx : oth os k = x at g0 g1 g2 g3
      obtain ⟨x, t, y, v⟩ := x
      have HX := Lib.hid hx
      have hlt' : (k : Int) < (q : Int) := by omega
      replace hst := Lib.hid hst
      have hzb := hb.size
      have Y := Box.new wr 97 #[.int .i64 x, .int .i64 t, .int .i64 y, .int .i64 v]
      have hbY := bel_alloc wr (.cells #[.int .i64 x, .int .i64 t, .int .i64 y, .int .i64 v] 97)
      have G2 := G.later hbY G.lt
      have E2 := bel_trans hb hbY
      clear hx
      go_upto_region 4 with fail
      generalize (wr.alloc _ : World) = w2 at Y hbY G2 E2 ⊢
      generalize wr.heap.size = S at Y ⊢
      obtain ⟨f0, f1, f2, f3⟩ := quadA Y
      obtain ⟨e0, e1, e2, e3, e4⟩ := fiveAfter G2
      have hrow := Lib.hid ((HR.out.below E2 (Nat.le_refl _)).more E2.size)
      clear g0 g1 g2 g3 hb G
      rcases hR : opnB s l c sh zs (x, t, y, v) with _ | _
      · have HF : Hid (opsB (opnB s l c sh zs) os = false) := Lib.hid (opsB_false (k := k) (by rw [HL.out]; exact hlt) (by unfold stepB; rw [HX.out, hR]; rfl))
        have HRR := Lib.hid hR
        clear hR hcell
        refine wp_region_after (by kernel_rfl) (by kernel_rfl) ?_
        repeat (first | go_big_quiet_step ((go_at_call 191; exact after_of (isRightB_is HRR.out _ n cap _ HM.out (rowAfter hrow.out _)))) | quiet_step ((go_at_call 191; exact after_of (isRightB_is HRR.out _ n cap _ HM.out (rowAfter hrow.out _)))))
        refine wpQuiet_nil ?_
        intro pw
        go_wp2
        go_ret
        exact ⟨by rw [HF.out]; rfl, bel_trans E2 pw.bel⟩
      · have HRR := Lib.hid hR
        rcases k with _ | j
        · have hst2 := Lib.hid (show ∀ i, i < 0 + 1 → stepB (opnB s l c sh zs) os i = true from fun i hi => by
            obtain rfl : i = 0 := by omega
            unfold stepB; rw [HX.out, hR]; rfl)
          clear hR hcell
          refine wp_region_after (by kernel_rfl) (by kernel_rfl) ?_
          repeat (first | go_big_quiet_step ((go_at_call 191; exact after_of (isRightB_is HRR.out _ n cap _ HM.out (rowAfter hrow.out _)))) | quiet_step ((go_at_call 191; exact after_of (isRightB_is HRR.out _ n cap _ HM.out (rowAfter hrow.out _)))))
          refine wpQuiet_nil ?_
          intro pw
          have G3 := Lib.hid (G2.later pw.bel G2.lt)
          have E3 := Lib.hid (bel_trans E2 pw.bel)
          go_wp2
          go_roundw
          case rel => exact ⟨1, by omega, by go_num, hst2.out, G3.out, E3.out⟩
          case measure => simp [intOf]; omega
        · obtain ⟨p0, _, _, _⟩ := hcell j (by omega)
          have p0 := After.cell (w := w2) (a := ⟨b, o + j * 4, none⟩) (by show b < _; have := E2.size; omega) ((E2.cell (p := ⟨b, o + j * 4, none⟩) hbB).trans p0)
          have hxx : Hid (stepB (opnB s l c sh zs) os (j + 1) = decide ((oth os j).1 < x)) := Lib.hid (by unfold stepB; rw [HX.out, hR]; simp)
          generalize (oth os j).1 = z at p0 hxx
          have hj0 : (0 : Int) ≤ (j : Int) := by omega
          have hj1 : (j : Int) < (q : Int) := by omega
          have hjw : IntKind.i64.wrap ((j : Int) + 1 - 1) = (j : Int) := by rw [Int.add_sub_cancel]; exact IntWalk.i64_in _ (by omega)
          have hjw' : IntKind.i64.wrap (j : Int) = (j : Int) := IntWalk.i64_in _ (by omega)
          have hpos : (0 : Int) < (j : Int) + 1 := by omega
          clear hR hcell
          by_cases hz : z < x
          · have hst2 := Lib.hid (show ∀ i, i < j + 1 + 1 → stepB (opnB s l c sh zs) os i = true from fun i hi => by
              by_cases ei : i = j + 1
              · subst ei; rw [hxx.out]; exact decide_eq_true hz
              · exact hst.out i (by omega))
            have hz1 : decide (x ≤ z) = false := decide_eq_false (by omega)
            refine wp_region_after (by kernel_rfl) (by kernel_rfl) ?_
            repeat (first | go_big_quiet_step ((go_at_call 191; exact after_of (isRightB_is HRR.out _ n cap _ HM.out (rowAfter hrow.out _)))) | quiet_step ((go_at_call 191; exact after_of (isRightB_is HRR.out _ n cap _ HM.out (rowAfter hrow.out _)))))
            refine wpQuiet_nil ?_
            intro pw
            have G3 := Lib.hid (G2.later pw.bel G2.lt)
            have E3 := Lib.hid (bel_trans E2 pw.bel)
            clear hjw hjw' p0
            go_wp2
            go_roundw
            case rel => exact ⟨j + 1 + 1, by omega, by go_num, hst2.out, G3.out, E3.out⟩
            case measure => simp [intOf]; omega
          · have HF : Hid (opsB (opnB s l c sh zs) os = false) := Lib.hid (opsB_false (k := j + 1) (by rw [HL.out]; exact hlt) (by rw [hxx.out]; exact decide_eq_false hz))
            have hz1 : decide (x ≤ z) = true := decide_eq_true (by omega)
            refine wp_region_after (by kernel_rfl) (by kernel_rfl) ?_
            repeat (first | go_big_quiet_step ((go_at_call 191; exact after_of (isRightB_is HRR.out _ n cap _ HM.out (rowAfter hrow.out _)))) | quiet_step ((go_at_call 191; exact after_of (isRightB_is HRR.out _ n cap _ HM.out (rowAfter hrow.out _)))))
            refine wpQuiet_nil ?_
            intro pw
            clear hjw hjw' p0
            go_wp2
            go_ret
            exact ⟨by rw [HF.out]; rfl, bel_trans E2 pw.bel⟩
    · obtain rfl : k = q := by omega
      have HF : Hid (opsB (opnB s l c sh zs) os = true) := Lib.hid (opsB_true fun j hj => hst j (by rw [← HL.out]; exact hj))
      replace hst := Lib.hid hst
      go_wp2
      go_ret
      exact ⟨by rw [HF.out]; rfl, hb⟩

end Go.Proofs.YtjdepjpjjgkmbaaGreat

/- RegOk: seals compared, the seals that are left good, a shelf that is right: contracts of the program's functions. -/
namespace Go.Proofs.YtjdepjpjjgkmbaaGreat
open Go.RowKit

theorem pth_ext {ps qs : List (Int × Int)} (hl : ps.length = qs.length) (h : ∀ j, j < ps.length → pth ps j = pth qs j) : ps = qs := by
  refine List.ext_getElem hl fun i h1 h2 => ?_
  have := h i h1
  rwa [pth_lt h1, pth_lt h2] at this

set_option maxHeartbeats 2000000 in
theorem equal_is (A A' : Option Addr) (n cap n' cap' : Nat) (ps qs : List (Int × Int)) (w : World) (hm : n ≤ 4194304) (hm' : n' ≤ 4194304) (hr : Pairs w w.heap.size A n ps) (hr' : Pairs w w.heap.size A' n' qs) :
    Calls Tryz.prog 226 #[.slice A n cap, .slice A' n' cap'] w fun e w' => e = .returned (.bool (decide (ps = qs))) ∧ Below w.heap.size w w' := by
  by_cases hnn : n = n'
  · subst hnn
    have HL := Lib.hid hr.1
    have HL' := Lib.hid hr'.1
    have HR := Lib.hid hr
    have HR' := Lib.hid hr'
    clear hr hr'
    go_enter Tryz.func226, Tryz.ntmps226
    go_wp2_with fail
    go_loopw [13] (fun i wr => ∃ k : Nat, k ≤ n ∧ i = .int .i64 k ∧ (∀ j, j < k → pth ps j = pth qs j) ∧ Below w.heap.size w wr) (fun i _ => n - (intOf i).toNat)
    case atStart => exact ⟨0, Nat.zero_le _, rfl, fun j hj => absurd hj (by omega), Below.refl _ _⟩
    case round =>
      obtain ⟨k, hk, rfl, heq, hb⟩ := hrel
      by_cases hlt : k < n
      · obtain ⟨b, o, hA, hbB, hcell⟩ := HR.out.2 (by omega)
        obtain ⟨b', o', hA', hbB', hcell'⟩ := HR'.out.2 (by omega)
        subst hA hA'
        obtain ⟨g0, g1⟩ := hcell k hlt
        obtain ⟨h0, h1⟩ := hcell' k hlt
        have hz := hb.size
        have g0 := After.cell (w := wr) (a := ⟨b, o + k * 2, none⟩) (by simp; omega) ((hb.cell (p := ⟨b, o + k * 2, none⟩) hbB).trans g0)
        have g1 := After.cell (w := wr) (a := ⟨b, o + k * 2 + 1, none⟩) (by simp; omega) ((hb.cell (p := ⟨b, o + k * 2 + 1, none⟩) hbB).trans g1)
        have h0 := After.cell (w := wr) (a := ⟨b', o' + k * 2, none⟩) (by simp; omega) ((hb.cell (p := ⟨b', o' + k * 2, none⟩) hbB').trans h0)
        have h1 := After.cell (w := wr) (a := ⟨b', o' + k * 2 + 1, none⟩) (by simp; omega) ((hb.cell (p := ⟨b', o' + k * 2 + 1, none⟩) hbB').trans h1)
        generalize hx : pth ps k = x at g0 g1
        generalize hy : pth qs k = y at h0 h1
        obtain ⟨x, x'⟩ := x
        obtain ⟨y, y'⟩ := y
        have HX := Lib.hid hx
        have HY := Lib.hid hy
        replace heq := Lib.hid heq
        have hlt' : (k : Int) < (n : Int) := by omega
        clear hcell hcell' hx hy
        by_cases e1 : x = y
        · subst e1
          by_cases e2 : x' = y'
          · subst e2
            have hst := Lib.hid (show ∀ j, j < k + 1 → pth ps j = pth qs j from fun j hj => by
              by_cases ej : j = k
              · subst ej; rw [HX.out, HY.out]
              · exact heq.out j (by omega))
            go_wp2_with fail
            refine wp_region_after (by kernel_rfl) (by kernel_rfl) ?_
            repeat (first | go_big_quiet_step (fail) | quiet_step (fail))
            refine wpQuiet_nil ?_
            intro pw
            have E3 := bel_trans hb pw.bel
            go_wp2
            go_roundw
            case rel => exact ⟨k + 1, by omega, by go_num, hst.out, E3⟩
            case measure => simp [intOf]; omega
          · have e2' : (x' == y') = false := by simpa using e2
            have HF : Hid (decide (ps = qs) = false) := Lib.hid (decide_eq_false fun h => e2 (by have a := HX.out; rw [h, HY.out] at a; injection a with _ a; exact a.symm))
            go_wp2_with fail
            refine wp_region_after (by kernel_rfl) (by kernel_rfl) ?_
            repeat (first | go_big_quiet_step (fail) | quiet_step (fail))
            refine wpQuiet_nil ?_
            intro pw
            have E3 := bel_trans hb pw.bel
            go_wp2
            go_ret
            exact ⟨by rw [HF.out]; rfl, E3⟩
        · have e1' : (x == y) = false := by simpa using e1
          have HF : Hid (decide (ps = qs) = false) := Lib.hid (decide_eq_false fun h => e1 (by have a := HX.out; rw [h, HY.out] at a; injection a with a _; exact a.symm))
          go_wp2_with fail
          refine wp_region_after (by kernel_rfl) (by kernel_rfl) ?_
          repeat (first | go_big_quiet_step (fail) | quiet_step (fail))
          refine wpQuiet_nil ?_
          intro pw
          have E3 := bel_trans hb pw.bel
          go_wp2
          go_ret
          exact ⟨by rw [HF.out]; rfl, E3⟩
      · obtain rfl : k = n := by omega
        have HF : Hid (decide (ps = qs) = true) := Lib.hid (decide_eq_true (pth_ext (by rw [HL.out, HL'.out]) fun j hj => heq j (by rw [← HL.out]; exact hj)))
        replace heq := Lib.hid heq
        go_wp2
        go_ret
        exact ⟨by rw [HF.out]; rfl, hb⟩
  · have hne : ((n : Int) != (n' : Int)) = true := by simp; omega
    have HF : Hid (decide (ps = qs) = false) := Lib.hid (decide_eq_false fun h => hnn (by rw [← hr.1, ← hr'.1, h]))
    clear hr hr'
    go_enter Tryz.func226, Tryz.ntmps226
    go_wp2
    go_ret
    exact ⟨by rw [HF.out]; rfl, Below.refl _ _⟩

/-- The seals that are left good beside a stamp: none beside the zero one. -/
def lefS (s l c sh : Int) (zs : List Int) (x ct cq v : Int) (ps : List (Int × Int)) : List (Int × Int) := if ct = 0 ∧ cq = 0 then [] else goodP (rB s l c sh zs 1 x ct cq v) ps
theorem lefS_le (s l c sh : Int) (zs : List Int) (x ct cq v : Int) (ps : List (Int × Int)) : (lefS s l c sh zs x ct cq v ps).length ≤ ps.length := by
  unfold lefS
  split
  · simp
  · exact goodP_le _ _
theorem zero_cases (ct cq : Int) : (ct = 0 ∧ cq = 0) ∨ ((ct == 0) = false ∨ ((ct == 0) = true ∧ (cq == 0) = false)) ∧ ¬ (ct = 0 ∧ cq = 0) := by
  by_cases h1 : ct = 0
  · by_cases h2 : cq = 0
    · exact .inl ⟨h1, h2⟩
    · exact .inr ⟨.inr ⟨by simpa using h1, by simpa using h2⟩, fun h => h2 h.2⟩
  · exact .inr ⟨.inl (by simpa using h1), fun h => h1 h.1⟩

set_option maxRecDepth 100000 in
set_option maxHeartbeats 2000000 in
theorem leftSeals_is (s l c sh : Int) (A : Option Addr) (n cap : Nat) (zs : List Int) (x ct cq v : Int) (P : Option Addr) (m pcap : Nat) (ps : List (Int × Int)) (w : World) (hm : n ≤ maxLen) (hr : Row w w.heap.size A n zs) (hn : m ≤ 4194304) (h : Pairs w w.heap.size P m ps) :
    Calls Tryz.prog 227 #[.agg #[.int .i64 ct, .int .i64 cq, .int .i64 v, .slice P m pcap], .agg #[.int .i64 s, .int .i64 l, .int .i64 c, .int .i64 sh, .slice A n cap], .int .i64 x] w fun e w' => ∃ u, e = .returned u ∧ Own w u (lefS s l c sh zs x ct cq v ps) w' := by
  have D := (Box.new w 199 #[.int .i64 ct, .int .i64 cq, .int .i64 v, .slice P m pcap]).alloc (.cells #[.int .i64 s, .int .i64 l, .int .i64 c, .int .i64 sh, .slice A n cap] 26)
  have G := Box.new (w.alloc (.cells #[.int .i64 ct, .int .i64 cq, .int .i64 v, .slice P m pcap] 199)) 26 #[.int .i64 s, .int .i64 l, .int .i64 c, .int .i64 sh, .slice A n cap]
  have E := bel_trans (bel_alloc w (.cells #[.int .i64 ct, .int .i64 cq, .int .i64 v, .slice P m pcap] 199)) (bel_alloc _ (.cells #[.int .i64 s, .int .i64 l, .int .i64 c, .int .i64 sh, .slice A n cap] 26))
  simp only [World.size_alloc] at G
  have HR := Lib.hid ((hr.below E (Nat.le_refl _)).more E.size)
  have HP := Lib.hid (h.later E)
  have HM := Lib.hid hm
  clear hr hm h
  rcases zero_cases ct cq with ⟨rfl, rfl⟩ | ⟨hcase, hnz⟩
  · have HV : Hid (lefS s l c sh zs x 0 0 v ps = []) := Lib.hid (by simp [lefS])
    go_enter Tryz.func227, Tryz.ntmps227
    go_wp2
    go_ret
    exact ⟨_, rfl, .inl ⟨rfl, HV.out⟩, E⟩
  · have HV : Hid (lefS s l c sh zs x ct cq v ps = goodP (rB s l c sh zs 1 x ct cq v) ps) := Lib.hid (by unfold lefS; rw [if_neg hnz])
    clear hnz
    rcases hcase with h1 | ⟨h1, h2⟩
    all_goals
      go_enter Tryz.func227, Tryz.ntmps227
      go_wp2_with fail
      generalize ((w.alloc _).alloc _ : World) = w0 at D G E HR HP ⊢
      refine (good_is s l c sh A n cap zs 1 x ct cq v P m pcap ps w0 HM.out HR.out hn HP.out).mono ?_
      rintro e w1 ⟨u, rfl, hO⟩
      go_wp2
      go_ret
      rw [HV.out]
      exact ⟨_, rfl, by
        rcases hO.1 with hh | ⟨g, cap2, hg, hu, h1, h2, hh⟩
        · exact .inl hh
        · exact .inr ⟨g, cap2, Nat.le_trans E.size hg, hu, h1, h2, hh⟩, bel_trans E hO.2⟩

/-- Is what is newest as it is left? -/
def lefB (s l c sh : Int) (zs : List Int) (x ct cq v : Int) (ps : List (Int × Int)) : Bool := proB s l c sh zs x ct cq v ps && decide (ps = lefS s l c sh zs x ct cq v ps)
theorem provenR_is {s l c sh : Int} {zs : List Int} {x ct cq v : Int} {ps : List (Int × Int)} {b : Bool} (hb : proB s l c sh zs x ct cq v ps = b) (A : Option Addr) (n cap : Nat) (P : Option Addr) (m pcap : Nat) (w : World) (hm : n ≤ maxLen) (hr : Row w w.heap.size A n zs) (hn : m ≤ 4194304) (h : Pairs w w.heap.size P m ps) :
    Calls Tryz.prog 209 #[.agg #[.int .i64 s, .int .i64 l, .int .i64 c, .int .i64 sh, .slice A n cap], .int .i64 x, .agg #[.int .i64 ct, .int .i64 cq], .int .i64 v, .slice P m pcap] w fun e w' => e = .returned (.bool b) ∧ Below w.heap.size w w' := hb ▸ proven_is s l c sh A n cap zs x ct cq v P m pcap ps w hm hr hn h
theorem Own.prs {w w' : World} {u : Value} {ps : List (Int × Int)} (h : Own w u ps w') : ∃ (A : Option Addr) (n cap : Nat), u = .slice A n cap ∧ Pairs w' w'.heap.size A n ps := by
  rcases h.1 with ⟨rfl, rfl⟩ | ⟨g, cap, _, rfl, _, _, hh⟩
  · exact ⟨none, 0, 0, rfl, ⟨rfl, fun h => absurd h (by omega)⟩⟩
  · exact ⟨_, _, cap, rfl, hh.pairs⟩

theorem nineGD {w : World} {g g' : Nat} {t t' : TypeId} {v0 v1 v2 v3 v4 u0 u1 u2 u3 : Value} (h : Box w g t #[v0, v1, v2, v3, v4]) (h' : Box w g' t' #[u0, u1, u2, u3]) :
    w.cell? ⟨g, 0, none⟩ = some v0 ∧ w.cell? ⟨g, 1, none⟩ = some v1 ∧ w.cell? ⟨g, 2, none⟩ = some v2 ∧ w.cell? ⟨g, 3, none⟩ = some v3 ∧ w.cell? ⟨g, 4, none⟩ = some v4 ∧ w.cell? ⟨g', 0, none⟩ = some u0 ∧ w.cell? ⟨g', 1, none⟩ = some u1 ∧ w.cell? ⟨g', 2, none⟩ = some u2 ∧ w.cell? ⟨g', 3, none⟩ = some u3 :=
  ⟨h.cell 0, h.cell 1, h.cell 2, h.cell 3, h.cell 4, h'.cell 0, h'.cell 1, h'.cell 2, h'.cell 3⟩

set_option maxRecDepth 100000 in
set_option maxHeartbeats 2000000 in
theorem isLeft_is (s l c sh : Int) (A : Option Addr) (n cap : Nat) (zs : List Int) (x ct cq v : Int) (P : Option Addr) (m pcap : Nat) (ps : List (Int × Int)) (w : World) (hm : n ≤ maxLen) (hr : Row w w.heap.size A n zs) (hn : m ≤ 4194304) (h : Pairs w w.heap.size P m ps) :
    Calls Tryz.prog 193 #[.agg #[.int .i64 ct, .int .i64 cq, .int .i64 v, .slice P m pcap], .agg #[.int .i64 s, .int .i64 l, .int .i64 c, .int .i64 sh, .slice A n cap], .int .i64 x] w fun e w' => e = .returned (.bool (lefB s l c sh zs x ct cq v ps)) ∧ Below w.heap.size w w' := by
  have D := (Box.new w 199 #[.int .i64 ct, .int .i64 cq, .int .i64 v, .slice P m pcap]).alloc (.cells #[.int .i64 s, .int .i64 l, .int .i64 c, .int .i64 sh, .slice A n cap] 26)
  have G := Box.new (w.alloc (.cells #[.int .i64 ct, .int .i64 cq, .int .i64 v, .slice P m pcap] 199)) 26 #[.int .i64 s, .int .i64 l, .int .i64 c, .int .i64 sh, .slice A n cap]
  have E := bel_trans (bel_alloc w (.cells #[.int .i64 ct, .int .i64 cq, .int .i64 v, .slice P m pcap] 199)) (bel_alloc _ (.cells #[.int .i64 s, .int .i64 l, .int .i64 c, .int .i64 sh, .slice A n cap] 26))
  simp only [World.size_alloc] at G
  have R0 := (hr.below E (Nat.le_refl _)).more E.size
  have P0 := h.later E
  have hlen : (lefS s l c sh zs x ct cq v ps).length ≤ 4194304 := by have := lefS_le s l c sh zs x ct cq v ps; rw [h.1] at this; omega
  replace hlen := Lib.hid hlen
  have HM := Lib.hid hm
  clear hr hm h
  go_enter Tryz.func193, Tryz.ntmps193
  go_wp2_with fail
  generalize ((w.alloc _).alloc _ : World) = w0 at D G E R0 P0 ⊢
  rcases hpv : proB s l c sh zs x ct cq v ps with _ | _
  · have HV : Hid (lefB s l c sh zs x ct cq v ps = false) := Lib.hid (by simp [lefB, hpv])
    have HPV := Lib.hid hpv
    have HR := Lib.hid R0
    have HP := Lib.hid P0
    clear hpv R0 P0
    obtain ⟨f0, f1, f2, f3⟩ := quadA D
    obtain ⟨e0, e1, e2, e3, e4⟩ := fiveAfter G
    refine wp_region_after (by kernel_rfl) (by kernel_rfl) ?_
    repeat (first | go_big_quiet_step ((go_at_call 209; exact after_of (provenR_is HPV.out _ n cap _ m pcap _ HM.out (rowAfter HR.out _) hn (pairsAfter HP.out _)))) | quiet_step ((go_at_call 209; exact after_of (provenR_is HPV.out _ n cap _ m pcap _ HM.out (rowAfter HR.out _) hn (pairsAfter HP.out _)))))
    refine wpQuiet_nil ?_
    intro pw
    go_wp2
    go_ret
    exact ⟨by rw [HV.out]; rfl, bel_trans E pw.bel⟩
  · have HV : Hid (lefB s l c sh zs x ct cq v ps = decide (ps = lefS s l c sh zs x ct cq v ps)) := Lib.hid (by simp [lefB, hpv])
    have HPV := Lib.hid hpv
    clear hpv
    obtain ⟨d0, d1, d2, d3⟩ := D.four
    obtain ⟨e0, e1, e2, e3, e4⟩ := G.five
    go_region_held3 (fun w' => w'.cell? ⟨w.heap.size + 1, 0, none⟩ = some (.int .i64 s) ∧ w'.cell? ⟨w.heap.size + 1, 1, none⟩ = some (.int .i64 l) ∧ w'.cell? ⟨w.heap.size + 1, 2, none⟩ = some (.int .i64 c) ∧ w'.cell? ⟨w.heap.size + 1, 3, none⟩ = some (.int .i64 sh) ∧ w'.cell? ⟨w.heap.size + 1, 4, none⟩ = some (.slice A n cap) ∧ w'.cell? ⟨w.heap.size, 0, none⟩ = some (.int .i64 ct) ∧ w'.cell? ⟨w.heap.size, 1, none⟩ = some (.int .i64 cq) ∧ w'.cell? ⟨w.heap.size, 2, none⟩ = some (.int .i64 v) ∧ w'.cell? ⟨w.heap.size, 3, none⟩ = some (.slice P m pcap))
      (first | (with_reducible exact K3) | (with_reducible exact K2) | (with_reducible exact K1) | go_keep)
      (first
        | (go_at_call 209; refine (provenR_is HPV.out A n cap P m pcap _ HM.out ?_ hn ?_).mono ?_; exact R0; exact P0; rintro e w1 ⟨rfl, hb1⟩; have F1 := bel_drew' hb1; have R1 := (R0.below F1 (Nat.le_refl _)).more F1.size; have P1 := P0.later F1; have K1 := nineGD (G.later F1 G.lt) (D.later F1 D.lt))
        | (go_at_call 227; refine (leftSeals_is s l c sh A n cap zs x ct cq v P m pcap ps _ HM.out R1 hn P1).mono ?_; rintro e w2 ⟨u, rfl, hO2⟩; obtain ⟨A2, n2, c2, rfl, Q2⟩ := hO2.prs; have F2 := bel_trans F1 hO2.2; have P2 := P1.later hO2.2; have K2 := nineGD (G.later F2 G.lt) (D.later F2 D.lt); have hn2 : n2 ≤ 4194304 := (by rw [← Q2.1]; exact hlen.out))
        | (go_at_call 226; refine (equal_is P A2 m pcap n2 c2 ps _ _ hn hn2 P2 Q2).mono ?_; rintro e w3 ⟨rfl, hb3⟩; have F3 := bel_trans F2 hb3; have K3 := nineGD (G.later F3 G.lt) (D.later F3 D.lt)))
    have E3 := bel_trans E F3
    clear K1 K2 K3 d0 d1 d2 d3 e0 e1 e2 e3 e4
    go_wp2
    go_ret
    exact ⟨by rw [HV.out]; rfl, E3⟩

/-- What RegOk answers. -/
def regB (s l c sh : Int) (zs : List Int) (x ct cq v : Int) (ps : List (Int × Int)) (os : List Opn) : Bool := lefB s l c sh zs x ct cq v ps && opsB (opnB s l c sh zs) os

theorem isLeftB_is {s l c sh : Int} {zs : List Int} {x ct cq v : Int} {ps : List (Int × Int)} {b : Bool} (hb : lefB s l c sh zs x ct cq v ps = b) (A : Option Addr) (n cap : Nat) (P : Option Addr) (m pcap : Nat) (w : World) (hm : n ≤ maxLen) (hr : Row w w.heap.size A n zs) (hn : m ≤ 4194304) (h : Pairs w w.heap.size P m ps) :
    Calls Tryz.prog 193 #[.agg #[.int .i64 ct, .int .i64 cq, .int .i64 v, .slice P m pcap], .agg #[.int .i64 s, .int .i64 l, .int .i64 c, .int .i64 sh, .slice A n cap], .int .i64 x] w fun e w' => e = .returned (.bool b) ∧ Below w.heap.size w w' := hb ▸ isLeft_is s l c sh A n cap zs x ct cq v P m pcap ps w hm hr hn h

set_option maxRecDepth 100000 in
set_option maxHeartbeats 2000000 in
theorem regOk_is (s l c sh : Int) (A : Option Addr) (n cap : Nat) (zs : List Int) (x rt rq rv : Int) (P : Option Addr) (p pc : Nat) (Q : Option Addr) (q qc : Nat) (ps : List (Int × Int)) (os : List Opn) (w : World) (hm : n ≤ maxLen) (hr : Row w w.heap.size A n zs) (hp : p ≤ 4194304) (hq : q ≤ 4194304) (h1 : Pairs w w.heap.size P p ps) (h2 : Quads w w.heap.size Q q os) :
    Calls Tryz.prog 155 #[.agg #[.int .i64 s, .int .i64 l, .int .i64 c, .int .i64 sh, .slice A n cap], .int .i64 x, .agg #[.int .i64 rt, .int .i64 rq, .int .i64 rv, .slice P p pc, .slice Q q qc]] w fun e w' => e = .returned (.bool (regB s l c sh zs x rt rq rv ps os)) ∧ Below w.heap.size w w' := by
  have G := (Box.new w 26 #[.int .i64 s, .int .i64 l, .int .i64 c, .int .i64 sh, .slice A n cap]).alloc (.cells #[.int .i64 rt, .int .i64 rq, .int .i64 rv, .slice P p pc, .slice Q q qc] 80)
  have E := bel_trans (bel_alloc w (.cells #[.int .i64 s, .int .i64 l, .int .i64 c, .int .i64 sh, .slice A n cap] 26)) (bel_alloc _ (.cells #[.int .i64 rt, .int .i64 rq, .int .i64 rv, .slice P p pc, .slice Q q qc] 80))
  have HR := Lib.hid hr
  have HP := Lib.hid h1
  have HQ := Lib.hid h2
  have HM := Lib.hid hm
  clear hr hm h1 h2
  go_enter Tryz.func155, Tryz.ntmps155
  go_wp2_with fail
  generalize ((w.alloc _).alloc _ : World) = w0 at G E ⊢
  refine (boardOf_is rt rq rv P p pc Q q qc w0).mono ?_
  rintro e w1 ⟨rfl, hb1⟩
  have Y := Box.new w1 201 #[.int .i64 rt, .int .i64 rq, .int .i64 rv, .slice P p pc, .slice Q q qc]
  have hb2 := bel_trans hb1 (bel_alloc w1 (.cells #[.int .i64 rt, .int .i64 rq, .int .i64 rv, .slice P p pc, .slice Q q qc] 201))
  have G2 := G.later hb2 G.lt
  have E2 := bel_trans E hb2
  have hG1 := (G.later hb1 G.lt).lt
  obtain ⟨d0, d1, d2, d3, d4⟩ := (G.later hb1 G.lt).five
  clear hb1 hb2 G E
  rcases hlf : lefB s l c sh zs x rt rq rv ps with _ | _
  · have HV : Hid (regB s l c sh zs x rt rq rv ps os = false) := Lib.hid (by simp [regB, hlf])
    have HLF := Lib.hid hlf
    clear hlf
    go_wp2_with fail
    generalize (w1.alloc _ : World) = w2 at Y G2 E2 ⊢
    refine (isLeftB_is HLF.out A n cap P p pc w2 HM.out ((HR.out.below E2 (Nat.le_refl _)).more E2.size) hp (HP.out.later E2)).mono ?_
    rintro e w3 ⟨rfl, hb3⟩
    have E3 := bel_trans E2 hb3
    go_wp2
    go_ret
    exact ⟨by rw [HV.out]; rfl, E3⟩
  · have HV : Hid (regB s l c sh zs x rt rq rv ps os = opsB (opnB s l c sh zs) os) := Lib.hid (by simp [regB, hlf])
    have HLF := Lib.hid hlf
    clear hlf
    go_wp2_with fail
    generalize (w1.alloc _ : World) = w2 at Y G2 E2 ⊢
    refine (isLeftB_is HLF.out A n cap P p pc w2 HM.out ((HR.out.below E2 (Nat.le_refl _)).more E2.size) hp (HP.out.later E2)).mono ?_
    rintro e w3 ⟨rfl, hb3⟩
    have E3 := bel_trans E2 hb3
    have G3 := G2.later hb3 G2.lt
    have Y3 := Y.later hb3 Y.lt
    have y4 : w3.cell? ⟨w1.heap.size, 4, none⟩ = some (.slice Q q qc) := Y3.cell 4
    clear d0 d1 d2 d3 d4 Y G2 E2 hb3
    obtain ⟨d0, d1, d2, d3, d4⟩ := G3.five
    go_wp2_with fail
    refine (opensOk_is s l c sh A n cap zs Q q qc os w3 HM.out ((HR.out.below E3 (Nat.le_refl _)).more E3.size) hq (HQ.out.later E3)).mono ?_
    rintro e w4 ⟨rfl, hb4⟩
    have E4 := bel_trans E3 hb4
    go_wp2
    go_ret
    exact ⟨by rw [HV.out]; rfl, E4⟩

end Go.Proofs.YtjdepjpjjgkmbaaGreat
