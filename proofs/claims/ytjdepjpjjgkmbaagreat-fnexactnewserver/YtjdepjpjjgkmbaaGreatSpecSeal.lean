/- What the model's functions of spec/l03_claim.go answer at every claim: contracts of each of them. -/
import Derived.Test.YtjdepjpjjgkmbaaGreatSpecStamp
import Derived.Test.YtjdepjpjjgkmbaaGreatGroupMore
import Derived.Test.YtjdepjpjjgkmbaaGreatStampBase
namespace Go.Proofs.YtjdepjpjjgkmbaaGreat
open Go.RowKit

theorem l3M_any (w : World) : Calls Tryz.prog 206 #[] w fun e w' => e = .returned (.int .i64 2147483647) ∧ w = w' := by
  go_enter Tryz.func206, Tryz.ntmps206
  go_wp2
  go_ret
  exact ⟨rfl, rfl⟩

theorem l3Value_any (x : Int) (w : World) : Calls Tryz.prog 196 #[.int .i64 x] w fun e w' => e = .returned (.bool (inB x 0 9999)) ∧ w = w' := by
  go_enter Tryz.func196, Tryz.ntmps196
  go_wp2_with (go_at_call 174; refine (l1In_any _ _ _ _).mono ?_; rintro e w' ⟨rfl, rfl⟩)
  go_ret
  exact ⟨rfl, rfl⟩

set_option maxHeartbeats 400000 in
theorem specClaim_any (ck ch ct cq cv : Int) (w : World) :
    Calls Tryz.prog 221 #[.agg #[.int .i64 ck, .int .i64 ch, .int .i64 ct, .int .i64 cq, .int .i64 cv]] w fun e w' => e = .returned (.bool (clB ck ch ct cq cv)) ∧ Below w.heap.size w w' := by
  have D := Box.new w 180 #[.int .i64 ck, .int .i64 ch, .int .i64 ct, .int .i64 cq, .int .i64 cv]
  have hb0 := bel_alloc w (.cells #[.int .i64 ck, .int .i64 ch, .int .i64 ct, .int .i64 cq, .int .i64 cv] 180)
  rcases h1 : inB ck 1 2 with _ | _
  · have e := Lib.hid (clB_1 h1 ch ct cq cv)
    go_enter Tryz.func221, Tryz.ntmps221
    go_wp2_with (go_at_call 174; refine (l1In_any _ _ _ _).mono ?_; rintro e w' ⟨rfl, rfl⟩)
    go_ret
    exact ⟨by rw [e.out]; rfl, hb0⟩
  rcases h2 : inB ch 0 3 with _ | _
  · have e := Lib.hid (clB_2 h2 ck ct cq cv)
    go_enter Tryz.func221, Tryz.ntmps221
    go_wp2_with (go_at_call 174; refine (l1In_any _ _ _ _).mono ?_; rintro e w' ⟨rfl, rfl⟩)
    go_ret
    exact ⟨by rw [e.out]; rfl, hb0⟩
  rcases h3 : stB ct cq with _ | _
  · have e := Lib.hid (clB_3 h3 ck ch cv)
    go_enter Tryz.func221, Tryz.ntmps221
    go_wp2_with (first | (go_at_call 174; refine (l1In_any _ _ _ _).mono ?_; rintro e w' ⟨rfl, rfl⟩) | (go_at_call 195; refine (specStampOk_any ct cq _).mono ?_; rintro e w1 ⟨rfl, hb1⟩))
    go_ret
    exact ⟨by rw [e.out]; rfl, bel_trans hb0 hb1⟩
  · have e := Lib.hid (clB_4 h1 h2 h3 cv)
    go_enter Tryz.func221, Tryz.ntmps221
    go_wp2_with (first | (go_at_call 174; refine (l1In_any _ _ _ _).mono ?_; rintro e w' ⟨rfl, rfl⟩) | (go_at_call 196; refine (l3Value_any _ _).mono ?_; rintro e w' ⟨rfl, rfl⟩) | (go_at_call 195; refine (specStampOk_any ct cq _).mono ?_; rintro e w1 ⟨rfl, hb1⟩; obtain ⟨d0, d1, d2, d3, d4⟩ := (D.later hb1 D.lt).five))
    go_ret
    exact ⟨by rw [e.out]; rfl, bel_trans hb0 hb1⟩

set_option maxHeartbeats 400000 in
theorem l3Mix_any (b n : Nat) (zs : List Int) (w : World) (hz : mixable zs) (hl : zs.length = n) (hn : n ≤ 16) (hr : Box w b 2 (zs.map (Value.int .i64)).toArray) :
    Calls Tryz.prog 188 #[.slice (some ⟨b, 0, none⟩) n n] w fun e w' => e = .returned (.int .i64 (mixN 7 zs)) ∧ Below w.heap.size w w' := by
  have HZ := Lib.hid hz
  have HL := Lib.hid hl
  have HR := Lib.hid hr
  clear hz hl hr
  go_enter Tryz.func188, Tryz.ntmps188
  go_wp2_with fail
  go_loopw [3, 4] (fun a i wr => ∃ (k : Nat) (y : Int), k ≤ n ∧ i = .int .i64 k ∧ a = .int .i64 y ∧ Hid (mixN 7 (zs.take k) = y) ∧ Below w.heap.size w wr) (fun _ i _ => n - (intOf i).toNat)
  case atStart => exact ⟨0, 7, by omega, rfl, rfl, rfl, Below.refl _ _⟩
  case round =>
    obtain ⟨k, y, hk, rfl, rfl, hy, E⟩ := hrel
    by_cases hlt : k < n
    · have R := HR.out.later E HR.out.lt
      have hr := After.cell (a := ⟨b, k, none⟩) R.lt (R.ints (i := k) (by rw [HL.out]; exact hlt))
      have hzk := HZ.out k (by rw [HL.out]; exact hlt)
      have HS : Hid (mixN 7 (zs.take (k + 1)) = mix1 y (nth zs k)) := by show _ = _; rw [mixN_snoc (by rw [HL.out]; exact hlt), hy.out]
      obtain ⟨hy0, hy1⟩ : 0 ≤ y ∧ y ≤ 2147483646 := by rw [← hy.out]; exact mixN_bd _ _ (by omega) (by omega)
      generalize nth zs k = z at hr hzk HS
      obtain ⟨hz0, hz1⟩ := hzk
      have hlt' : (k : Int) < (n : Int) := by omega
      have i1 : IntKind.i64.wrap (48271 * y) = 48271 * y := IntWalk.i64_in _ (by omega)
      have i2 : IntKind.i64.wrap (48271 * y + z) = 48271 * y + z := IntWalk.i64_in _ (by omega)
      have i3 : IntKind.i64.wrap (48271 * y + z + 1) = 48271 * y + z + 1 := IntWalk.i64_in _ (by omega)
      have ht := mix1_tmod hy0 hz0
      have i4 : IntKind.i64.wrap (mix1 y z) = mix1 y z := IntWalk.i64_in _ (by have := mix1_bd y z; omega)
      clear R
      go_wp2_with fail
      refine wp_region_after (by kernel_rfl) (by kernel_rfl) ?_
      repeat (first | go_big_quiet_step ((go_at_call 206; exact after_same (l3M_any _))) | quiet_step ((go_at_call 206; exact after_same (l3M_any _))))
      refine wpQuiet_nil ?_
      intro p
      clear i1 i2 i3 i4 ht
      go_wp2
      go_roundw
      case rel => exact ⟨k + 1, mix1 y z, by omega, by go_num, rfl, HS.out, bel_trans E p.bel⟩
      case measure => simp [intOf]; omega
    · have hz := HL.out
      have HE : Hid (mixN 7 zs = y) := by show _ = _; rw [← hy.out, List.take_of_length_le (by omega)]
      clear hz
      go_wp2
      go_ret
      exact ⟨by rw [HE.out]; rfl, E⟩

set_option maxHeartbeats 400000 in
theorem specDigest_any (ck ch ct cq cv : Int) (w : World) :
    Calls Tryz.prog 222 #[.agg #[.int .i64 ck, .int .i64 ch, .int .i64 ct, .int .i64 cq, .int .i64 cv]] w fun e w' => e = .returned (.int .i64 (digN ck ch ct cq cv)) ∧ Below w.heap.size w w' := by
  have D := Box.new w 180 #[.int .i64 ck, .int .i64 ch, .int .i64 ct, .int .i64 cq, .int .i64 cv]
  have hb0 := bel_alloc w (.cells #[.int .i64 ck, .int .i64 ch, .int .i64 ct, .int .i64 cq, .int .i64 cv] 180)
  go_enter Tryz.func222, Tryz.ntmps222
  go_wp2_with fail
  generalize (w.alloc _ : World) = w0 at hb0 D ⊢
  refine (specClaim_any ck ch ct cq cv w0).mono ?_
  rintro e w1 ⟨rfl, hb1⟩
  have D1 := D.later hb1 D.lt
  have E1 := bel_trans hb0 hb1
  clear D hb0 hb1
  rcases h1 : clB ck ch ct cq cv with _ | _
  · have e := Lib.hid (digN_no h1)
    go_wp2
    go_ret
    exact ⟨by rw [e.out]; rfl, E1⟩
  have e := Lib.hid (digN_yes h1)
  have H1 := Lib.hid (mixable_claim h1)
  obtain ⟨d0, d1, d2, d3, d4⟩ := D1.five
  have R := Box.new w1 2 #[.int .i64 ck, .int .i64 ch, .int .i64 ct, .int .i64 cq, .int .i64 cv]
  have E3 := bel_trans E1 (bel_alloc w1 (.cells #[.int .i64 ck, .int .i64 ch, .int .i64 ct, .int .i64 cq, .int .i64 cv] 2))
  go_wp2_with fail
  generalize (w1.alloc _ : World) = w3 at R E3 ⊢
  refine (l3Mix_any w1.heap.size 5 [ck, ch, ct, cq, cv] w3 H1.out rfl (by omega) R).mono ?_
  rintro e w4 ⟨rfl, G⟩
  go_wp2
  go_ret
  exact ⟨by rw [e.out]; rfl, bel_trans E3 G⟩

end Go.Proofs.YtjdepjpjjgkmbaaGreat

/- What the functions of impl/l03_claim.go answer at every claim: contracts of each of them. -/
namespace Go.Proofs.YtjdepjpjjgkmbaaGreat
open Go.RowKit

set_option maxHeartbeats 400000 in
theorem claimOk_any (ck ch ct cq cv : Int) (w : World) :
    Calls Tryz.prog 253 #[.agg #[.int .i64 ck, .int .i64 ch, .int .i64 ct, .int .i64 cq, .int .i64 cv]] w fun e w' => e = .returned (.bool (clB ck ch ct cq cv)) ∧ Below w.heap.size w w' := by
  have D := Box.new w 180 #[.int .i64 ck, .int .i64 ch, .int .i64 ct, .int .i64 cq, .int .i64 cv]
  have hb0 := bel_alloc w (.cells #[.int .i64 ck, .int .i64 ch, .int .i64 ct, .int .i64 cq, .int .i64 cv] 180)
  rcases h1 : inB ck 1 2 with _ | _
  · have e := Lib.hid (clB_1 h1 ch ct cq cv)
    go_enter Tryz.func253, Tryz.ntmps253
    go_wp2_with (go_at_call 143; refine (within_any _ _ _ _).mono ?_; rintro e w' ⟨rfl, rfl⟩)
    go_ret
    exact ⟨by rw [e.out]; rfl, hb0⟩
  rcases h2 : inB ch 0 3 with _ | _
  · have e := Lib.hid (clB_2 h2 ck ct cq cv)
    go_enter Tryz.func253, Tryz.ntmps253
    go_wp2_with (go_at_call 143; refine (within_any _ _ _ _).mono ?_; rintro e w' ⟨rfl, rfl⟩)
    go_ret
    exact ⟨by rw [e.out]; rfl, hb0⟩
  rcases h3 : stB ct cq with _ | _
  · have e := Lib.hid (clB_3 h3 ck ch cv)
    go_enter Tryz.func253, Tryz.ntmps253
    go_wp2_with (first | (go_at_call 143; refine (within_any _ _ _ _).mono ?_; rintro e w' ⟨rfl, rfl⟩) | (go_at_call 114; refine (stampOk_any ct cq _).mono ?_; rintro e w1 ⟨rfl, hb1⟩))
    go_ret
    exact ⟨by rw [e.out]; rfl, bel_trans hb0 hb1⟩
  · have e := Lib.hid (clB_4 h1 h2 h3 cv)
    go_enter Tryz.func253, Tryz.ntmps253
    go_wp2_with (first | (go_at_call 143; refine (within_any _ _ _ _).mono ?_; rintro e w' ⟨rfl, rfl⟩) | (go_at_call 114; refine (stampOk_any ct cq _).mono ?_; rintro e w1 ⟨rfl, hb1⟩; obtain ⟨d0, d1, d2, d3, d4⟩ := (D.later hb1 D.lt).five))
    go_ret
    exact ⟨by rw [e.out]; rfl, bel_trans hb0 hb1⟩

/-- A mixer is made: a new variable that has 7. -/
theorem mixer_any (w : World) :
    Calls Tryz.prog 189 #[] w fun e w' => e = .returned (.func (.func 223) #[] #[.pointer (some ⟨w.heap.size, 0, none⟩)]) ∧ Box w' w.heap.size 2 #[.int .i64 7] ∧ Below w.heap.size w w' := by
  have D := Box.new w 2 #[.int .i64 7]
  go_enter Tryz.func189, Tryz.ntmps189
  go_wp2
  go_ret
  exact ⟨rfl, D, bel_alloc _ _⟩

set_option maxHeartbeats 400000 in
/-- Numbers are mixed into what a mixer has. -/
theorem mixIn_any (g b n : Nat) (zs : List Int) (x : Int) (w : World) (hx0 : 0 ≤ x) (hx1 : x ≤ 2147483646) (hz : mixable zs) (hl : zs.length = n) (hn : n ≤ 16)
    (hB : Box w g 2 #[.int .i64 x]) (hr : Box w b 2 (zs.map (Value.int .i64)).toArray) (hne : b ≠ g) :
    Calls Tryz.prog 223 #[.slice (some ⟨b, 0, none⟩) n n, .pointer (some ⟨g, 0, none⟩)] w fun e w' => e = .returned (.int .i64 (mixN x zs)) ∧ w.grownBy w' (some g) := by
  have HZ := Lib.hid hz
  have HL := Lib.hid hl
  have HX := Lib.hid (And.intro hx0 hx1)
  have HR := Lib.hid hr
  clear hz hl hr hx0 hx1
  go_enter Tryz.func223, Tryz.ntmps223
  go_wp2_with fail
  go_loopw [8] (fun i wr => ∃ (k : Nat) (y : Int), k ≤ n ∧ i = .int .i64 k ∧ Hid (mixN x (zs.take k) = y) ∧ Box wr g 2 #[.int .i64 y] ∧ w.grownBy wr (some g)) (fun i _ => n - (intOf i).toNat)
  case atStart => exact ⟨0, x, by omega, rfl, rfl, hB, grown_refl _ _⟩
  case round =>
    obtain ⟨k, y, hk, rfl, hy, Y, G⟩ := hrel
    have y0 := Y.cell 0
    have fy := Y.frozen
    by_cases hlt : k < n
    · have hr := (HR.out.kept G (by intro e; injection e with e; exact hne e.symm)).ints (i := k) (by rw [HL.out]; exact hlt)
      have hzk := HZ.out k (by rw [HL.out]; exact hlt)
      have HS : Hid (mixN x (zs.take (k + 1)) = mix1 y (nth zs k)) := by show _ = _; rw [mixN_snoc (by rw [HL.out]; exact hlt), hy.out]
      obtain ⟨hy0, hy1⟩ : 0 ≤ y ∧ y ≤ 2147483646 := by rw [← hy.out]; exact mixN_bd _ _ HX.out.1 HX.out.2
      generalize nth zs k = z at hr hzk HS
      obtain ⟨hz0, hz1⟩ := hzk
      go_wp2
      go_roundw
      case rel => exact ⟨k + 1, _, by omega, by go_num, HS.out, Y.set 0 (.int .i64 (mix1 y z)), grown_set G 0 _⟩
      case measure => simp [intOf]; omega
    · have hz := HL.out
      have HE : Hid (mixN x zs = y) := by show _ = _; rw [← hy.out, List.take_of_length_le (by omega)]
      clear hz
      go_wp2
      go_ret
      exact ⟨by rw [HE.out]; rfl, G⟩

set_option maxHeartbeats 400000 in
theorem digest_any (ck ch ct cq cv : Int) (w : World) :
    Calls Tryz.prog 254 #[.agg #[.int .i64 ck, .int .i64 ch, .int .i64 ct, .int .i64 cq, .int .i64 cv]] w fun e w' => e = .returned (.int .i64 (digN ck ch ct cq cv)) ∧ Below w.heap.size w w' := by
  have D := Box.new w 180 #[.int .i64 ck, .int .i64 ch, .int .i64 ct, .int .i64 cq, .int .i64 cv]
  have hb0 := bel_alloc w (.cells #[.int .i64 ck, .int .i64 ch, .int .i64 ct, .int .i64 cq, .int .i64 cv] 180)
  go_enter Tryz.func254, Tryz.ntmps254
  go_wp2_with fail
  generalize (w.alloc _ : World) = w0 at hb0 D ⊢
  refine (claimOk_any ck ch ct cq cv w0).mono ?_
  rintro e w1 ⟨rfl, hb1⟩
  have D1 := D.later hb1 D.lt
  have E1 := bel_trans hb0 hb1
  clear D hb0 hb1
  rcases h1 : clB ck ch ct cq cv with _ | _
  · have e := Lib.hid (digN_no h1)
    go_wp2
    go_ret
    exact ⟨by rw [e.out]; rfl, E1⟩
  have e := Lib.hid (digN_yes h1)
  have H1 := Lib.hid (mixable_claim h1)
  go_wp2_with fail
  refine (mixer_any w1).mono ?_
  rintro e w2 ⟨rfl, M, hb2⟩
  have D2 := D1.later hb2 D1.lt
  have E2 := bel_trans E1 hb2
  have hs := E1.size
  clear D1 hb2 E1
  obtain ⟨d0, d1, d2, d3, d4⟩ := D2.five
  have R := Box.new w2 2 #[.int .i64 ck, .int .i64 ch, .int .i64 ct, .int .i64 cq, .int .i64 cv]
  have M3 := M.alloc (.cells #[.int .i64 ck, .int .i64 ch, .int .i64 ct, .int .i64 cq, .int .i64 cv] 2)
  have E3 := bel_trans E2 (bel_alloc w2 (.cells #[.int .i64 ck, .int .i64 ch, .int .i64 ct, .int .i64 cq, .int .i64 cv] 2))
  have hne := Nat.ne_of_gt M.lt
  go_wp2_with fail
  generalize (w2.alloc _ : World) = w3 at R M3 E3 ⊢
  refine (mixIn_any w1.heap.size w2.heap.size 5 [ck, ch, ct, cq, cv] 7 w3 (by omega) (by omega) H1.out rfl (by omega) M3 R hne).mono ?_
  rintro e w4 ⟨rfl, G⟩
  go_wp2
  go_ret
  exact ⟨by rw [e.out]; rfl, bel_grown E3 G hs⟩

end Go.Proofs.YtjdepjpjjgkmbaaGreat

/- What SealOf and SealRight of impl/l03_claim.go answer at every group, claim and seal: contracts of each of them. -/
namespace Go.Proofs.YtjdepjpjjgkmbaaGreat
open Go.RowKit

/-- What a seal's making reads is as it was. -/
theorem sealKeep {w w' : World} {g gc b o : Nat} {tg tc : TypeId} {v0 v1 v2 v3 v4 u0 u1 u2 u3 u4 kv : Value} {r : Option Nat} (DG : Box w g tg #[v0, v1, v2, v3, v4]) (DC : Box w gc tc #[u0, u1, u2, u3, u4]) (hb : b < w.heap.size) (k : w.cell? ⟨b, o, none⟩ = some kv)
    (G : w.grownBy w' r) (h1 : r ≠ some g) (h2 : r ≠ some gc) (h3 : r ≠ some b) :
    w'.cell? ⟨g, 4, none⟩ = some v4 ∧ w'.cell? ⟨gc, 0, none⟩ = some u0 ∧ w'.cell? ⟨gc, 1, none⟩ = some u1 ∧ w'.cell? ⟨gc, 2, none⟩ = some u2 ∧ w'.cell? ⟨gc, 3, none⟩ = some u3 ∧ w'.cell? ⟨gc, 4, none⟩ = some u4 ∧ w'.cell? ⟨b, o, none⟩ = some kv :=
  ⟨(DG.kept G h1).cell 4, (DC.kept G h2).cell 0, (DC.kept G h2).cell 1, (DC.kept G h2).cell 2, (DC.kept G h2).cell 3, (DC.kept G h2).cell 4, (World.cell?_of_block (G.block b hb (fun e => h3 e.symm))).trans k⟩

/-- And so where two cells of another block are written. -/
theorem sealSet {w : World} {g gc b o q : Nat} {v4 u0 u1 u2 u3 u4 kv x y : Value}
    (K : w.cell? ⟨g, 4, none⟩ = some v4 ∧ w.cell? ⟨gc, 0, none⟩ = some u0 ∧ w.cell? ⟨gc, 1, none⟩ = some u1 ∧ w.cell? ⟨gc, 2, none⟩ = some u2 ∧ w.cell? ⟨gc, 3, none⟩ = some u3 ∧ w.cell? ⟨gc, 4, none⟩ = some u4 ∧ w.cell? ⟨b, o, none⟩ = some kv)
    (h1 : g ≠ q) (h2 : gc ≠ q) (h3 : b ≠ q) (w' : World) (hw : w' = (w.setCell ⟨q, 0, none⟩ x).setCell ⟨q, 1, none⟩ y) :
    w'.cell? ⟨g, 4, none⟩ = some v4 ∧ w'.cell? ⟨gc, 0, none⟩ = some u0 ∧ w'.cell? ⟨gc, 1, none⟩ = some u1 ∧ w'.cell? ⟨gc, 2, none⟩ = some u2 ∧ w'.cell? ⟨gc, 3, none⟩ = some u3 ∧ w'.cell? ⟨gc, 4, none⟩ = some u4 ∧ w'.cell? ⟨b, o, none⟩ = some kv := by
  have F : ∀ b o, b ≠ q → w'.cell? ⟨b, o, none⟩ = w.cell? ⟨b, o, none⟩ := fun b o h => by
    rw [hw, World.cell?_setCell_other _ _ _ _ (fun e => h (congrArg Addr.block e).symm), World.cell?_setCell_other _ _ _ _ (fun e => h (congrArg Addr.block e).symm)]
  simp only [F _ _ h1, F _ _ h2, F _ _ h3]
  exact K

set_option maxHeartbeats 1000000 in
theorem sealOf_any (s l c sh : Int) (A : Option Addr) (n cap : Nat) (zs : List Int) (ck ch ct cq cv x : Int) (w : World) (hm : n ≤ maxLen) (hr : Row w w.heap.size A n zs) :
    Calls Tryz.prog 247 #[.agg #[.int .i64 s, .int .i64 l, .int .i64 c, .int .i64 sh, .slice A n cap], .agg #[.int .i64 ck, .int .i64 ch, .int .i64 ct, .int .i64 cq, .int .i64 cv], .int .i64 x] w fun e w' => e = .returned (seV s l c sh zs ck ch ct cq cv x) ∧ Below w.heap.size w w' := by
  have HR := Lib.hid hr
  have HM := Lib.hid hm
  clear hr hm
  have DG := ((Box.new w 26 #[.int .i64 s, .int .i64 l, .int .i64 c, .int .i64 sh, .slice A n cap]).alloc (.cells #[.int .i64 ck, .int .i64 ch, .int .i64 ct, .int .i64 cq, .int .i64 cv] 180)).alloc (.cells #[.int .i64 0, .int .i64 0] 136)
  have DC := (Box.new (w.alloc (.cells #[.int .i64 s, .int .i64 l, .int .i64 c, .int .i64 sh, .slice A n cap] 26)) 180 #[.int .i64 ck, .int .i64 ch, .int .i64 ct, .int .i64 cq, .int .i64 cv]).alloc (.cells #[.int .i64 0, .int .i64 0] 136)
  have X := Box.new ((w.alloc (.cells #[.int .i64 s, .int .i64 l, .int .i64 c, .int .i64 sh, .slice A n cap] 26)).alloc (.cells #[.int .i64 ck, .int .i64 ch, .int .i64 ct, .int .i64 cq, .int .i64 cv] 180)) 136 #[.int .i64 0, .int .i64 0]
  have hb0 := bel_trans (bel_trans (bel_alloc w (.cells #[.int .i64 s, .int .i64 l, .int .i64 c, .int .i64 sh, .slice A n cap] 26)) (bel_alloc _ (.cells #[.int .i64 ck, .int .i64 ch, .int .i64 ct, .int .i64 cq, .int .i64 cv] 180))) (bel_alloc _ (.cells #[.int .i64 0, .int .i64 0] 136))
  simp only [World.size_alloc] at DC X
  go_enter Tryz.func247, Tryz.ntmps247
  go_wp2_with fail
  generalize (((w.alloc _).alloc _).alloc _ : World) = w0 at hb0 DG DC X ⊢
  refine (claimOk_any ck ch ct cq cv w0).mono ?_
  rintro e w1 ⟨rfl, hb1⟩
  have DG1 := DG.later hb1 DG.lt
  have DC1 := DC.later hb1 DC.lt
  have X1 := X.later hb1 X.lt
  have E1 := bel_trans hb0 hb1
  clear DG DC X hb0 hb1
  rcases h1 : clB ck ch ct cq cv with _ | _
  · have H := Lib.hid (seV_no (seB_1 h1 s l c sh zs x))
    obtain ⟨x0, x1⟩ := X1.two
    have fx := X1.frozen
    go_wp2
    exact bodyPost_ret (v := .tuple #[.agg #[.int .i64 0, .int .i64 0], .bool false]) (by simp [results, Tryz.results247, go_sem, x0, x1]) rfl ⟨by rw [H.out], (E1.setCell (by simp; omega) _).setCell (by simp; omega) _⟩
  obtain ⟨g0, g1, g2, g3, g4⟩ := DG1.five
  go_wp2_with fail
  refine (server_any s l c sh A n cap zs x w1 HM.out ((HR.out.below E1 (Nat.le_refl _)).more E1.size)).mono ?_
  rintro e w2 ⟨rfl, hb2⟩
  have DG2 := DG1.later hb2 DG1.lt
  have DC2 := DC1.later hb2 DC1.lt
  have X2 := X1.later hb2 X1.lt
  have E2 := bel_trans E1 hb2
  clear DG1 DC1 X1 E1 hb2 g0 g1 g2 g3 g4
  rcases h2 : srvB s l c sh zs x with _ | _
  · have H := Lib.hid (seV_no (seB_2 h2 ck ch ct cq cv))
    obtain ⟨x0, x1⟩ := X2.two
    have fx := X2.frozen
    go_wp2
    exact bodyPost_ret (v := .tuple #[.agg #[.int .i64 0, .int .i64 0], .bool false]) (by simp [results, Tryz.results247, go_sem, x0, x1]) rfl ⟨by rw [H.out], (E2.setCell (by simp; omega) _).setCell (by simp; omega) _⟩
  have H := Lib.hid (seV_yes (seB_3 h1 h2))
  have HX := Lib.hid (mixable_seal h1 h2)
  obtain ⟨hx0, hx9, hxn, hk1, hk2⟩ := srvB_key h2
  have hzn := HR.out.1
  rw [hzn] at hxn
  obtain ⟨b, o, hA, hbB, hcell⟩ := HR.out.2 (by omega)
  subst hA
  have hxk := hcell x.toNat hxn
  have hxi : x < (n : Int) := by omega
  go_wp2_with fail
  refine (mixer_any w2).mono ?_
  rintro e w3 ⟨rfl, M, hb3⟩
  have DG3 := DG2.later hb3 DG2.lt
  have DC3 := DC2.later hb3 DC2.lt
  have X3 := X2.later hb3 X2.lt
  have E3 := bel_trans E2 hb3
  have hs2 := E2.size
  have hxl := X2.lt
  clear DG2 DC2 X2 E2 hb3
  obtain ⟨g0, g1, g2, g3, g4⟩ := DG3.five
  obtain ⟨c0, c1, c2, c3, c4⟩ := DC3.five
  have k0 := (E3.cell (p := ⟨b, o + x.toNat, none⟩) hbB).trans hxk
  clear hcell hxk hzn
  have hbl : b < w3.heap.size := Nat.lt_of_lt_of_le hbB E3.size
  have hn1 : w.heap.size ≠ w.heap.size + 1 + 1 := by omega
  have hn2 : b ≠ w.heap.size + 1 + 1 := by omega
  have hn3 : w.heap.size + 1 ≠ w.heap.size + 1 + 1 := by omega
  go_wp2_with fail
  go_region_held3 (fun w' => w'.cell? ⟨w.heap.size, 4, none⟩ = some (.slice (some ⟨b, o, none⟩) n cap) ∧ w'.cell? ⟨w.heap.size + 1, 0, none⟩ = some (.int .i64 ck) ∧ w'.cell? ⟨w.heap.size + 1, 1, none⟩ = some (.int .i64 ch) ∧ w'.cell? ⟨w.heap.size + 1, 2, none⟩ = some (.int .i64 ct) ∧ w'.cell? ⟨w.heap.size + 1, 3, none⟩ = some (.int .i64 cq) ∧ w'.cell? ⟨w.heap.size + 1, 4, none⟩ = some (.int .i64 cv) ∧ w'.cell? ⟨b, o + x.toNat, none⟩ = some (.int .i64 (nth zs x.toNat))) (first | (with_reducible exact sealSet K6 hn1 hn3 hn2 _ rfl) | (with_reducible exact K6) | (with_reducible exact K5) | go_keep)
    (first
      | (go_at_call 254; refine (digest_any ck ch ct cq cv _).mono ?_; rintro e w5 ⟨rfl, hb5⟩; have F5 := bel_drew' hb5; have K5 := sealKeep DG3 DC3 hbl k0 (grown_bel F5 none) (by simp) (by simp) (by simp))
      | (go_at_call 223; refine (mixIn_any w2.heap.size w5.heap.size 3 [nth zs x.toNat, digN ck ch ct cq cv, x] 7 _ (by omega) (by omega) HX.out rfl (by omega) ?_ ?_ ?_).mono ?_; exact (M.later F5 M.lt).alloc _; exact Box.new w5 2 _; exact Nat.ne_of_gt (M.later F5 M.lt).lt; rintro e w6 ⟨rfl, G6⟩; have G7 := grown_trans (grown_alloc (grown_bel F5 (some w2.heap.size)) _) G6; have K6 := sealKeep DG3 DC3 hbl k0 G7 (by simp; omega) (by simp; omega) (by simp; omega); have X6 := X3.kept G7 (by simp; omega); have E6 := bel_grown E3 G7 hs2; clear G6; obtain ⟨x0, x1⟩ := X6.two; have fx := X6.frozen))
  go_wp2
  exact bodyPost_ret (v := .tuple #[.agg #[.int .i64 x, .int .i64 (tagN zs ck ch ct cq cv x)], .bool true]) (by simp [results, Tryz.results247, go_sem, x0, x1]; rfl) rfl ⟨by rw [H.out], (E6.setCell (by simp; omega) _).setCell (by simp; omega) _⟩

set_option maxHeartbeats 1000000 in
theorem sealRight_any (s l c sh : Int) (A : Option Addr) (n cap : Nat) (zs : List Int) (ck ch ct cq cv x t : Int) (w : World) (hm : n ≤ maxLen) (hr : Row w w.heap.size A n zs) :
    Calls Tryz.prog 244 #[.agg #[.int .i64 s, .int .i64 l, .int .i64 c, .int .i64 sh, .slice A n cap], .agg #[.int .i64 ck, .int .i64 ch, .int .i64 ct, .int .i64 cq, .int .i64 cv], .agg #[.int .i64 x, .int .i64 t]] w fun e w' => e = .returned (.bool (riB s l c sh zs ck ch ct cq cv x t)) ∧ Below w.heap.size w w' := by
  have HR := Lib.hid hr
  have HM := Lib.hid hm
  clear hr hm
  have X := Box.new ((w.alloc (.cells #[.int .i64 s, .int .i64 l, .int .i64 c, .int .i64 sh, .slice A n cap] 26)).alloc (.cells #[.int .i64 ck, .int .i64 ch, .int .i64 ct, .int .i64 cq, .int .i64 cv] 180)) 136 #[.int .i64 x, .int .i64 t]
  have hb0 := bel_trans (bel_trans (bel_alloc w (.cells #[.int .i64 s, .int .i64 l, .int .i64 c, .int .i64 sh, .slice A n cap] 26)) (bel_alloc _ (.cells #[.int .i64 ck, .int .i64 ch, .int .i64 ct, .int .i64 cq, .int .i64 cv] 180))) (bel_alloc _ (.cells #[.int .i64 x, .int .i64 t] 136))
  simp only [World.size_alloc] at X
  go_enter Tryz.func244, Tryz.ntmps244
  go_wp2_with fail
  generalize (((w.alloc _).alloc _).alloc _ : World) = w0 at hb0 X ⊢
  have C := sealOf_any s l c sh A n cap zs ck ch ct cq cv x w0 HM.out ((HR.out.below hb0 (Nat.le_refl _)).more hb0.size)
  rcases h : seB s l c sh zs ck ch ct cq cv x with _ | _
  · have e := Lib.hid (riB_no h t)
    rw [seV_no h] at C
    refine C.mono ?_
    rintro e w1 ⟨rfl, hb1⟩
    have E1 := bel_trans hb0 hb1
    go_wp2
    go_ret
    exact ⟨by rw [e.out]; rfl, bel_trans E1 (bel_alloc _ _)⟩
  · have e := Lib.hid (riB_yes h t)
    rw [seV_yes h] at C
    generalize tagN zs ck ch ct cq cv x = tg at C e
    refine C.mono ?_
    rintro e w1 ⟨rfl, hb1⟩
    have E1 := bel_trans hb0 hb1
    have X1 := X.later hb1 X.lt
    obtain ⟨x0, x1⟩ := X1.two
    have xl := X1.lt
    clear C X hb0 hb1
    by_cases ht : t = tg
    · subst ht
      go_wp2
      go_ret
      exact ⟨by rw [e.out]; simp, bel_trans E1 (bel_alloc _ _)⟩
    · have ht1 : (t == tg) = false := by simpa using ht
      have ht2 : (tg == t) = false := by simpa using fun e => ht e.symm
      have H := Lib.hid ht
      go_wp2
      go_ret
      exact ⟨by rw [e.out]; simp [H.out], bel_trans E1 (bel_alloc _ _)⟩

end Go.Proofs.YtjdepjpjjgkmbaaGreat

/- What SealOf and SealRight of spec/l03_claim.go answer at every group, claim and seal: contracts of each of them. -/
namespace Go.Proofs.YtjdepjpjjgkmbaaGreat
open Go.RowKit

set_option maxHeartbeats 1000000 in
theorem specSeal_any (s l c sh : Int) (A : Option Addr) (n cap : Nat) (zs : List Int) (ck ch ct cq cv x : Int) (w : World) (hm : n ≤ maxLen) (hr : Row w w.heap.size A n zs) :
    Calls Tryz.prog 184 #[.agg #[.int .i64 s, .int .i64 l, .int .i64 c, .int .i64 sh, .slice A n cap], .agg #[.int .i64 ck, .int .i64 ch, .int .i64 ct, .int .i64 cq, .int .i64 cv], .int .i64 x] w fun e w' => e = .returned (seV s l c sh zs ck ch ct cq cv x) ∧ Below w.heap.size w w' := by
  have HR := Lib.hid hr
  have HM := Lib.hid hm
  clear hr hm
  have DG := ((Box.new w 26 #[.int .i64 s, .int .i64 l, .int .i64 c, .int .i64 sh, .slice A n cap]).alloc (.cells #[.int .i64 ck, .int .i64 ch, .int .i64 ct, .int .i64 cq, .int .i64 cv] 180)).alloc (.cells #[.int .i64 0, .int .i64 0] 136)
  have DC := (Box.new (w.alloc (.cells #[.int .i64 s, .int .i64 l, .int .i64 c, .int .i64 sh, .slice A n cap] 26)) 180 #[.int .i64 ck, .int .i64 ch, .int .i64 ct, .int .i64 cq, .int .i64 cv]).alloc (.cells #[.int .i64 0, .int .i64 0] 136)
  have X := Box.new ((w.alloc (.cells #[.int .i64 s, .int .i64 l, .int .i64 c, .int .i64 sh, .slice A n cap] 26)).alloc (.cells #[.int .i64 ck, .int .i64 ch, .int .i64 ct, .int .i64 cq, .int .i64 cv] 180)) 136 #[.int .i64 0, .int .i64 0]
  have hb0 := bel_trans (bel_trans (bel_alloc w (.cells #[.int .i64 s, .int .i64 l, .int .i64 c, .int .i64 sh, .slice A n cap] 26)) (bel_alloc _ (.cells #[.int .i64 ck, .int .i64 ch, .int .i64 ct, .int .i64 cq, .int .i64 cv] 180))) (bel_alloc _ (.cells #[.int .i64 0, .int .i64 0] 136))
  simp only [World.size_alloc] at DC X
  go_enter Tryz.func184, Tryz.ntmps184
  go_wp2_with fail
  generalize (((w.alloc _).alloc _).alloc _ : World) = w0 at hb0 DG DC X ⊢
  refine (specClaim_any ck ch ct cq cv w0).mono ?_
  rintro e w1 ⟨rfl, hb1⟩
  have DG1 := DG.later hb1 DG.lt
  have DC1 := DC.later hb1 DC.lt
  have X1 := X.later hb1 X.lt
  have E1 := bel_trans hb0 hb1
  clear DG DC X hb0 hb1
  rcases h1 : clB ck ch ct cq cv with _ | _
  · have H := Lib.hid (seV_no (seB_1 h1 s l c sh zs x))
    obtain ⟨x0, x1⟩ := X1.two
    have fx := X1.frozen
    go_wp2
    exact bodyPost_ret (v := .tuple #[.agg #[.int .i64 0, .int .i64 0], .bool false]) (by simp [results, Tryz.results184, go_sem, x0, x1]) rfl ⟨by rw [H.out], (E1.setCell (by simp; omega) _).setCell (by simp; omega) _⟩
  obtain ⟨g0, g1, g2, g3, g4⟩ := DG1.five
  go_wp2_with fail
  refine (specServer_any s l c sh A n cap zs x w1 HM.out ((HR.out.below E1 (Nat.le_refl _)).more E1.size)).mono ?_
  rintro e w2 ⟨rfl, hb2⟩
  have DG2 := DG1.later hb2 DG1.lt
  have DC2 := DC1.later hb2 DC1.lt
  have X2 := X1.later hb2 X1.lt
  have E2 := bel_trans E1 hb2
  clear DG1 DC1 X1 E1 hb2 g0 g1 g2 g3 g4
  rcases h2 : srvB s l c sh zs x with _ | _
  · have H := Lib.hid (seV_no (seB_2 h2 ck ch ct cq cv))
    obtain ⟨x0, x1⟩ := X2.two
    have fx := X2.frozen
    go_wp2
    exact bodyPost_ret (v := .tuple #[.agg #[.int .i64 0, .int .i64 0], .bool false]) (by simp [results, Tryz.results184, go_sem, x0, x1]) rfl ⟨by rw [H.out], (E2.setCell (by simp; omega) _).setCell (by simp; omega) _⟩
  have H := Lib.hid (seV_yes (seB_3 h1 h2))
  have HX := Lib.hid (mixable_seal h1 h2)
  obtain ⟨hx0, hx9, hxn, hk1, hk2⟩ := srvB_key h2
  have hzn := HR.out.1
  rw [hzn] at hxn
  obtain ⟨b, o, hA, hbB, hcell⟩ := HR.out.2 (by omega)
  subst hA
  have hxk := hcell x.toNat hxn
  have hxi : x < (n : Int) := by omega
  have DG3 := DG2
  have DC3 := DC2
  have X3 := X2
  have E3 := E2
  have hs2 := E2.size
  have hxl := X2.lt
  clear DG2 DC2 X2 E2
  obtain ⟨g0, g1, g2, g3, g4⟩ := DG3.five
  obtain ⟨c0, c1, c2, c3, c4⟩ := DC3.five
  have k0 := (E3.cell (p := ⟨b, o + x.toNat, none⟩) hbB).trans hxk
  clear hcell hxk hzn
  have hbl : b < w2.heap.size := Nat.lt_of_lt_of_le hbB E3.size
  have hn1 : w.heap.size ≠ w.heap.size + 1 + 1 := by omega
  have hn2 : b ≠ w.heap.size + 1 + 1 := by omega
  have hn3 : w.heap.size + 1 ≠ w.heap.size + 1 + 1 := by omega
  go_wp2_with fail
  go_region_held3 (fun w' => w'.cell? ⟨w.heap.size, 4, none⟩ = some (.slice (some ⟨b, o, none⟩) n cap) ∧ w'.cell? ⟨w.heap.size + 1, 0, none⟩ = some (.int .i64 ck) ∧ w'.cell? ⟨w.heap.size + 1, 1, none⟩ = some (.int .i64 ch) ∧ w'.cell? ⟨w.heap.size + 1, 2, none⟩ = some (.int .i64 ct) ∧ w'.cell? ⟨w.heap.size + 1, 3, none⟩ = some (.int .i64 cq) ∧ w'.cell? ⟨w.heap.size + 1, 4, none⟩ = some (.int .i64 cv) ∧ w'.cell? ⟨b, o + x.toNat, none⟩ = some (.int .i64 (nth zs x.toNat))) (first | (with_reducible exact sealSet K6 hn1 hn3 hn2 _ rfl) | (with_reducible exact K6) | (with_reducible exact K5) | go_keep)
    (first
      | (go_at_call 222; refine (specDigest_any ck ch ct cq cv _).mono ?_; rintro e w5 ⟨rfl, hb5⟩; have F5 := bel_drew' hb5; have K5 := sealKeep DG3 DC3 hbl k0 (grown_bel F5 none) (by simp) (by simp) (by simp))
      | (go_at_call 188; refine (l3Mix_any w5.heap.size 3 [nth zs x.toNat, digN ck ch ct cq cv, x] _ HX.out rfl (by omega) ?_).mono ?_; exact Box.new w5 2 _; rintro e w6 ⟨rfl, hb6⟩; have F6 := bel_trans F5 (bel_trans (bel_alloc w5 _) hb6); have G7 := grown_bel F6 none; have K6 := sealKeep DG3 DC3 hbl k0 G7 (by simp) (by simp) (by simp); have X6 := X3.kept G7 (by simp); have E6 := bel_trans E3 F6; clear hb6; obtain ⟨x0, x1⟩ := X6.two; have fx := X6.frozen))
  go_wp2
  exact bodyPost_ret (v := .tuple #[.agg #[.int .i64 x, .int .i64 (tagN zs ck ch ct cq cv x)], .bool true]) (by simp [results, Tryz.results184, go_sem, x0, x1]; rfl) rfl ⟨by rw [H.out], (E6.setCell (by simp; omega) _).setCell (by simp; omega) _⟩

set_option maxHeartbeats 1000000 in
theorem specRight_any (s l c sh : Int) (A : Option Addr) (n cap : Nat) (zs : List Int) (ck ch ct cq cv x t : Int) (w : World) (hm : n ≤ maxLen) (hr : Row w w.heap.size A n zs) :
    Calls Tryz.prog 237 #[.agg #[.int .i64 s, .int .i64 l, .int .i64 c, .int .i64 sh, .slice A n cap], .agg #[.int .i64 ck, .int .i64 ch, .int .i64 ct, .int .i64 cq, .int .i64 cv], .agg #[.int .i64 x, .int .i64 t]] w fun e w' => e = .returned (.bool (riB s l c sh zs ck ch ct cq cv x t)) ∧ Below w.heap.size w w' := by
  have HR := Lib.hid hr
  have HM := Lib.hid hm
  clear hr hm
  have X := Box.new ((w.alloc (.cells #[.int .i64 s, .int .i64 l, .int .i64 c, .int .i64 sh, .slice A n cap] 26)).alloc (.cells #[.int .i64 ck, .int .i64 ch, .int .i64 ct, .int .i64 cq, .int .i64 cv] 180)) 136 #[.int .i64 x, .int .i64 t]
  have hb0 := bel_trans (bel_trans (bel_alloc w (.cells #[.int .i64 s, .int .i64 l, .int .i64 c, .int .i64 sh, .slice A n cap] 26)) (bel_alloc _ (.cells #[.int .i64 ck, .int .i64 ch, .int .i64 ct, .int .i64 cq, .int .i64 cv] 180))) (bel_alloc _ (.cells #[.int .i64 x, .int .i64 t] 136))
  simp only [World.size_alloc] at X
  go_enter Tryz.func237, Tryz.ntmps237
  go_wp2_with fail
  generalize (((w.alloc _).alloc _).alloc _ : World) = w0 at hb0 X ⊢
  have C := specSeal_any s l c sh A n cap zs ck ch ct cq cv x w0 HM.out ((HR.out.below hb0 (Nat.le_refl _)).more hb0.size)
  rcases h : seB s l c sh zs ck ch ct cq cv x with _ | _
  · have e := Lib.hid (riB_no h t)
    rw [seV_no h] at C
    refine C.mono ?_
    rintro e w1 ⟨rfl, hb1⟩
    have E1 := bel_trans hb0 hb1
    go_wp2
    go_ret
    exact ⟨by rw [e.out]; rfl, bel_trans E1 (bel_alloc _ _)⟩
  · have e := Lib.hid (riB_yes h t)
    rw [seV_yes h] at C
    generalize tagN zs ck ch ct cq cv x = tg at C e
    refine C.mono ?_
    rintro e w1 ⟨rfl, hb1⟩
    have E1 := bel_trans hb0 hb1
    have X1 := X.later hb1 X.lt
    obtain ⟨x0, x1⟩ := X1.two
    have xl := X1.lt
    clear C X hb0 hb1
    by_cases ht : t = tg
    · subst ht
      go_wp2
      go_ret
      exact ⟨by rw [e.out]; simp, bel_trans E1 (bel_alloc _ _)⟩
    · have ht1 : (t == tg) = false := by simpa using ht
      have ht2 : (tg == t) = false := by simpa using fun e => ht e.symm
      have H := Lib.hid ht
      go_wp2
      go_ret
      exact ⟨by rw [e.out]; simp [H.out], bel_trans E1 (bel_alloc _ _)⟩

/-- A seal and a flag, whatever they are. -/
theorem seV_form (s l c sh : Int) (zs : List Int) (ck ch ct cq cv x : Int) : ∃ (a t : Int) (f : Bool), seV s l c sh zs ck ch ct cq cv x = .tuple #[.agg #[.int .i64 a, .int .i64 t], .bool f] := by
  rcases h : seB s l c sh zs ck ch ct cq cv x with _ | _
  · exact ⟨_, _, _, seV_no h⟩
  · exact ⟨_, _, _, seV_yes h⟩
theorem sealOf_is {s l c sh : Int} {zs : List Int} {ck ch ct cq cv x a t : Int} {f : Bool} (h : seV s l c sh zs ck ch ct cq cv x = .tuple #[.agg #[.int .i64 a, .int .i64 t], .bool f]) (A : Option Addr) (n cap : Nat) (w : World) (hm : n ≤ maxLen) (hr : Row w w.heap.size A n zs) :
    Calls Tryz.prog 247 #[.agg #[.int .i64 s, .int .i64 l, .int .i64 c, .int .i64 sh, .slice A n cap], .agg #[.int .i64 ck, .int .i64 ch, .int .i64 ct, .int .i64 cq, .int .i64 cv], .int .i64 x] w fun e w' => e = .returned (.tuple #[.agg #[.int .i64 a, .int .i64 t], .bool f]) ∧ Below w.heap.size w w' := h ▸ sealOf_any s l c sh A n cap zs ck ch ct cq cv x w hm hr
theorem specSeal_is {s l c sh : Int} {zs : List Int} {ck ch ct cq cv x a t : Int} {f : Bool} (h : seV s l c sh zs ck ch ct cq cv x = .tuple #[.agg #[.int .i64 a, .int .i64 t], .bool f]) (A : Option Addr) (n cap : Nat) (w : World) (hm : n ≤ maxLen) (hr : Row w w.heap.size A n zs) :
    Calls Tryz.prog 184 #[.agg #[.int .i64 s, .int .i64 l, .int .i64 c, .int .i64 sh, .slice A n cap], .agg #[.int .i64 ck, .int .i64 ch, .int .i64 ct, .int .i64 cq, .int .i64 cv], .int .i64 x] w fun e w' => e = .returned (.tuple #[.agg #[.int .i64 a, .int .i64 t], .bool f]) ∧ Below w.heap.size w w' := h ▸ specSeal_any s l c sh A n cap zs ck ch ct cq cv x w hm hr

end Go.Proofs.YtjdepjpjjgkmbaaGreat
