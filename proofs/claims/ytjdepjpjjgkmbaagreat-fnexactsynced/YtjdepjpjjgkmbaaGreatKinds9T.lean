/- The laws' copy of a list of records; conditions: the sizes. -/
import Derived.Test.YtjdepjpjjgkmbaaGreatRecsBlk
namespace Go.Proofs.YtjdepjpjjgkmbaaGreat
open Go Go.RowKit

theorem Tryz.infoRec9 : (Tryz.prog.info? 46).map (fun i => (i.zero, i.size, i.bytes)) = some (some (.agg (zeroC.cells (.slice none 0 0))), 9, 88) := by kernel_rfl
theorem run_make_recs {P : Program} (t e : TypeId) (ht : P.underlying t = some (.slice e)) (hinfo : (P.info? e).map (fun i => (i.zero, i.size, i.bytes)) = some (some (.agg (zeroC.cells (.slice none 0 0))), 9, 88))
    (n : Nat) (hn : n ≤ 1048576) (w : World) :
    (Instr.makeSlice t (.int .i64 (n : Int)) (.int .i64 (n : Int))).run P w = .ok (.slice (some ⟨w.heap.size, 0, none⟩) n n) (w.alloc (.cells (madeCells (zeroC.cells (.slice none 0 0)) (n * 9)) e)) := by
  obtain ⟨i, hi, hzz⟩ := Option.map_eq_some_iff.1 hinfo
  simp only [Prod.mk.injEq] at hzz
  obtain ⟨hz, hs, hb⟩ := hzz
  have hr := run_make (P := P) w t e i _ ht hi hz .i64 .i64 n n (by omega) (Int.le_refl _) (by rw [hb]; omega) (by omega)
  simp only [Int.toNat_natCast, hs] at hr
  exact hr
/-- The first k of them, and nothing behind. -/
def recsK (ds : List RecD) (k : Nat) : Nat → RecD := fun j => if j < k then ds.getD j zeroC else zeroC
theorem recsK_zero (ds : List RecD) : recsK ds 0 = fun _ => zeroC := by
  funext j
  simp [recsK]
theorem recsK_step (ds : List RecD) {k : Nat} (h : k < ds.length) : upD (recsK ds k) k ds[k] = recsK ds (k + 1) := by
  funext j
  unfold upD recsK
  by_cases e : j = k
  · subst e
    rw [if_pos rfl, if_pos (by omega), List.getD_eq_getElem?_getD, List.getElem?_eq_getElem h]
    rfl
  · rw [if_neg e]
    by_cases e2 : j < k
    · rw [if_pos e2, if_pos (by omega)]
    · rw [if_neg e2, if_neg (by omega)]
theorem RecsOwn.there {w : World} {g lo n : Nat} {D : Nat → RecD} (h : RecsOwn w g lo n D) {i : Nat} (hi : i < n) : w.there g (i * 9) 9 := by
  obtain ⟨_, Fs, hR, _⟩ := h
  exact hR.there hi
theorem one_cells {d : RecD} {w : World} {F : Nat → Prop} {u : Value} (h : OwnP w F u d.ps) : (d.cells u).all (·.oneCell') = true := by
  rcases h with ⟨rfl, -⟩ | ⟨g, cap, -, rfl, -⟩ <;> simp [RecD.cells, Value.oneCell']
theorem grown_setCells9 {w w1 : World} (h : Below w.heap.size w w1) (g o : Nat) (vs : List Value) : w.grownBy (w1.setCells g o vs) (some g) := by
  have t := turns_setCells9 g vs o w1
  exact ⟨t.os.trans h.os, t.tape.trans h.tape, t.output.trans h.output, Nat.le_trans h.size t.size, fun i hi hne => (t.block i (Nat.lt_of_lt_of_le hi h.size) (fun e => hne (by rw [e]))).trans (h.block i hi)⟩

set_option maxRecDepth 100000 in
set_option maxHeartbeats 4000000 in
theorem to_CS {ds : List RecD} {w : World} {F : Nat → Prop} {A : Option Addr} {n cap : Nat} (h : RecsF ds w F A n) (hF : ∀ b, F b → b < w.heap.size) (hz : totC ds ≤ 1048576) :
    Calls Tryz.prog 86 #[.slice A n cap] w fun e w' => ∃ G, e = .returned (.slice (some ⟨G, 0, none⟩) n n) ∧ RecsOwn w' G w.heap.size n (recsK ds n) ∧ Below w.heap.size w w' := by
  have HL := Lib.hid h.1
  have hnn : n ≤ 1048576 := by have := totC_rest ds 0; rw [totC_zero] at this; have := h.1; omega
  have HZ := Lib.hid (fun k (hk : k < ds.length) => totC_mem ds hk)
  have HBW := Lib.hid hF
  have hmk := fun W => run_make_recs (P := Tryz.prog) 27 46 Tryz.underlying27 Tryz.infoRec9 n hnn W
  have K0 := recs_new w 46 n
  have hb1 := bel_alloc w (.cells (madeCells (zeroC.cells (.slice none 0 0)) (n * 9)) 46)
  have HH := Lib.hid (h.later hb1)
  clear h
  go_enter Tryz.func86, Tryz.ntmps86
  go_upto_region 2 with fail
  clear hmk
  generalize (w.alloc (.cells (madeCells (zeroC.cells (.slice none 0 0)) (n * 9)) 46)) = w2 at K0 hb1 HH ⊢
  have hGl : w.heap.size < w2.heap.size := by
    obtain ⟨_, Fs, hR, _⟩ := K0
    exact hR.lt
  go_wp2
  go_loopw [4] (fun i wr => ∃ k : Nat, k ≤ n ∧ i = .int .i64 k ∧ RecsOwn wr w.heap.size w.heap.size n (recsK ds k) ∧ w2.grownBy wr (some w.heap.size)) (fun i _ => n - (intOf i).toNat)
  case atStart => exact ⟨0, Nat.zero_le _, rfl, by rw [recsK_zero]; exact K0, grown_refl _ _⟩
  case round =>
    clear K0
    obtain ⟨k, hk, rfl, K, hgw⟩ := hrel
    by_cases hlt : k < n
    · have hkd : k < ds.length := by have := HL.out; omega
      have hD := HH.out
      obtain ⟨b, o, hA, hbF, hbl, -⟩ := hD.2 (by omega)
      subst hA
      have hbw : b < w.heap.size := HBW.out b hbF
      obtain ⟨L, m, mc, hrec, hat⟩ := hD.atC hkd (by omega)
      have hzz := HZ.out k hkd
      have hst := recsK_step ds hkd
      obtain ⟨d, hd⟩ : ∃ d : RecD, ds[k] = d := ⟨_, rfl⟩
      rw [hd] at hrec hat hzz hst
      have hsz : d.sz ≤ 1048576 := by unfold RecD.sz; omega
      have hT : ∀ j x, w2.cell? ⟨b, j, none⟩ = some x → wr.cell? ⟨b, j, none⟩ = some x := fun j x h => (hgw.cell_far ⟨b, j, none⟩ hbl (fun e => by injection e with e; have e2 : b = w.heap.size := e; omega)).trans h
      obtain ⟨c0, c1, c2, c3, c4, c5, c6, c7, c8⟩ := hrec
      replace c0 := hT _ _ c0
      replace c1 := hT _ _ c1
      replace c2 := hT _ _ c2
      replace c3 := hT _ _ c3
      replace c4 := hT _ _ c4
      replace c5 := hT _ _ c5
      replace c6 := hT _ _ c6
      replace c7 := hT _ _ c7
      replace c8 := hT _ _ c8
      have HAT := Lib.hid ((keepsC d).turn hat (Turns.of_grown hgw) (fun b hb e => by have := HBW.out b hb; have e2 : b = w.heap.size := e; omega))
      have HST := Lib.hid hst
      have hltI : (k : Int) < (n : Int) := by omega
      have hkw : IntKind.i64.wrap ((k : Int) + 1) = (k : Int) + 1 := IntWalk.i64_in _ (by omega)
      clear hd hD hat hzz hst hT
      go_wp2_with (first | (go_at_call 147; refine (to_C HAT.out hsz).mono ?_; rintro e w3 ⟨C, rfl, hL, hb3⟩; obtain ⟨u, hC, hO⟩ := hL; injection hC with hC; subst hC; have HTH := Lib.hid ((K.later hb3).there hlt); have HO := Lib.hid hO; clear hO) | (refine wpList_store_mid rfl 46 _ _ rfl w.heap.size (k * 9) (d.cells u) rfl rfl HTH.out (by kernel_rfl) (one_cells HO.out) ?_; have KN := Lib.hid (RecsOwn.put K hb3 hlt (d := d) (u := u) ⟨u, rfl, HO.out⟩); have GN := Lib.hid (grown_trans hgw (grown_setCells9 hb3 w.heap.size (k * 9) (d.cells u).toList)); rw [HST.out] at KN; generalize (World.setCells w3 _ _ _) = w4 at KN GN ⊢; try simp only [Act.put]))
      go_roundw
      case rel => exact ⟨k + 1, by omega, by go_num, KN.out, GN.out⟩
      case measure => simp [intOf]; omega
    · have hkn : k = n := by omega
      subst hkn
      go_wp2
      go_ret
      exact ⟨w.heap.size, rfl, K, bel_grown hb1 hgw (by omega)⟩
end Go.Proofs.YtjdepjpjjgkmbaaGreat
