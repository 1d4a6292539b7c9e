/- The model's SumOf at every record; conditions: how many seals it has. -/
import Derived.Test.YtjdepjpjjgkmbaaGreatSum9
import Derived.Deep.AppendLies
import Derived.Laws.Pointers
import Derived.Deep.RegionLaw
namespace Go.Proofs.YtjdepjpjjgkmbaaGreat
open Go Go.RowKit

theorem Tryz.infoI9 : (Tryz.prog.info? 2).map (fun i => (i.zero, i.size, i.bytes)) = some (some (.int .i64 0), 1, 8) := by kernel_rfl
theorem own_built (w : World) (t : TypeId) (zs : List Int) (n : Nat) (h : zs.length = n) (hn : n ≤ 1000) : (w.alloc (.cells (zs.map (Value.int .i64)).toArray t)).ownsRow w.heap.size t 1 (.slice (some ⟨w.heap.size, 0, none⟩) n n) n (zs.map (Value.int .i64)) :=
  ⟨by simp [h], .inr ⟨w.heap.size, n, _, rfl, Nat.le_refl _, heap_alloc_new w _, Nat.le_refl _, by unfold maxLen; omega, by simp [h], by rw [← h]; exact List.take_of_length_le (by simp)⟩⟩
theorem own_row9 {w : World} {base : Nat} {e : TypeId} {q n cap : Nat} {zs : List Int} (h : w.ownsRow base e 1 (.slice (some ⟨q, 0, none⟩) n cap) n (zs.map (Value.int .i64))) (hn : zs.length = n) : Row w w.heap.size (some ⟨q, 0, none⟩) n zs := by
  refine ⟨hn, fun _ => ⟨q, 0, rfl, (h.lt q rfl).2, fun i hi => ?_⟩⟩
  have := h.cellAt i (by simp; omega)
  rw [Nat.zero_add, this]
  simp [nth, show i < zs.length by omega]

/-- What the next round reads of the list of seals and of the record, behind a list that grew. -/
theorem sumKeep {wr w2 : World} {g q b o : Nat} {t : TypeId} {v0 v1 v2 v3 v4 v5 v6 v7 v8 a0 a1 : Value} {ob : Obj} (D : Box wr g t #[v0, v1, v2, v3, v4, v5, v6, v7, v8]) (hb : b < wr.heap.size) (h0 : wr.cell? ⟨b, o, none⟩ = some a0) (h1 : wr.cell? ⟨b, o + 1, none⟩ = some a1)
    (G : (wr.drew.alloc ob).grownBy w2 (some q)) (hg : g ≠ q) (hbq : b ≠ q) :
    (w2.cell? ⟨g, 7, none⟩ = some v7 ∧ w2.cell? ⟨b, o, none⟩ = some a0 ∧ w2.cell? ⟨b, o + 1, none⟩ = some a1) ∧ Box w2 g t #[v0, v1, v2, v3, v4, v5, v6, v7, v8] := by
  have hl := D.lt
  have hB : Below wr.heap.size wr (wr.drew.alloc ob) := ((Below.refl _ wr).drew).alloc (Nat.le_refl _) ob
  have F : ∀ c k u, c < wr.heap.size → c ≠ q → wr.cell? ⟨c, k, none⟩ = some u → w2.cell? ⟨c, k, none⟩ = some u := fun c k u hc hq h =>
    ((World.cell?_of_block (G.block c (Nat.lt_of_lt_of_le hc hB.size) (by intro e; injection e with e; exact hq e))).trans (hB.cell (p := ⟨c, k, none⟩) hc)).trans h
  exact ⟨⟨F g 7 _ hl hg (D.cell 7), F b o _ hb hbq h0, F b (o + 1) _ hb hbq h1⟩, (D.later hB hl).kept G (by intro e; injection e with e; exact hg e.symm)⟩

set_option maxRecDepth 100000 in
set_option maxHeartbeats 2000000 in
theorem specSumOf_is (r1 r2 r3 r4 r5 r6 r7 : Int) (L : Option Addr) (m mc : Nat) (r8 : Int) (ps : List (Int × Int)) (w : World) (hm : m ≤ 4194304) (hr : Pairs w w.heap.size L m ps) :
    Calls Tryz.prog 141 #[.agg #[.int .i64 r1, .int .i64 r2, .int .i64 r3, .int .i64 r4, .int .i64 r5, .int .i64 r6, .int .i64 r7, .slice L m mc, .int .i64 r8]] w fun e w' => e = .returned (.int .i64 (sumN r1 r2 r3 r4 r5 r6 r7 ps)) ∧ Below w.heap.size w w' := by
  obtain ⟨i0, hi0, hz0, hz1, hz2⟩ := info_parts Tryz.infoI9
  have D := Box.new w 46 #[.int .i64 r1, .int .i64 r2, .int .i64 r3, .int .i64 r4, .int .i64 r5, .int .i64 r6, .int .i64 r7, .slice L m mc, .int .i64 r8]
  have hb0 := bel_alloc w (.cells #[.int .i64 r1, .int .i64 r2, .int .i64 r3, .int .i64 r4, .int .i64 r5, .int .i64 r6, .int .i64 r7, .slice L m mc, .int .i64 r8] 46)
  have HR := Lib.hid hr
  have HL := Lib.hid hr.1
  clear hr
  go_enter Tryz.func141, Tryz.ntmps141
  have hDg := D.lt
  have O : ((w.alloc (.cells #[.int .i64 r1, .int .i64 r2, .int .i64 r3, .int .i64 r4, .int .i64 r5, .int .i64 r6, .int .i64 r7, .slice L m mc, .int .i64 r8] 46)).alloc (.cells #[.int .i64 r1, .int .i64 r2, .int .i64 r3, .int .i64 r4, .int .i64 r5, .int .i64 r6, .int .i64 r7] 2)).ownsRow (w.alloc (.cells #[.int .i64 r1, .int .i64 r2, .int .i64 r3, .int .i64 r4, .int .i64 r5, .int .i64 r6, .int .i64 r7, .slice L m mc, .int .i64 r8] 46)).heap.size 2 1 (.slice (some ⟨(w.alloc (.cells #[.int .i64 r1, .int .i64 r2, .int .i64 r3, .int .i64 r4, .int .i64 r5, .int .i64 r6, .int .i64 r7, .slice L m mc, .int .i64 r8] 46)).heap.size, 0, none⟩) 7 7) 7 ([r1, r2, r3, r4, r5, r6, r7].map (Value.int .i64)) := own_built (w.alloc (.cells #[.int .i64 r1, .int .i64 r2, .int .i64 r3, .int .i64 r4, .int .i64 r5, .int .i64 r6, .int .i64 r7, .slice L m mc, .int .i64 r8] 46)) 2 [r1, r2, r3, r4, r5, r6, r7] 7 rfl (by omega)
  have D1 := D.alloc (.cells #[.int .i64 r1, .int .i64 r2, .int .i64 r3, .int .i64 r4, .int .i64 r5, .int .i64 r6, .int .i64 r7] 2)
  have E1 := bel_trans hb0 (bel_alloc _ (.cells #[.int .i64 r1, .int .i64 r2, .int .i64 r3, .int .i64 r4, .int .i64 r5, .int .i64 r6, .int .i64 r7] 2))
  obtain ⟨d0, d1, d2, d3, d4, d5, d6, d7, d8⟩ := D.nine
  simp only [World.size_alloc] at O
  go_wp2_with fail
  clear d0 d1 d2 d3 d4 d5 d6 d7 d8 D hb0 hDg
  generalize ((w.alloc _).alloc _ : World) = w1 at O D1 E1 ⊢
  go_loopw [3, 4] (fun a i wr => ∃ (k q cap : Nat), k ≤ m ∧ i = .int .i64 k ∧ a = .slice (some ⟨q, 0, none⟩) (7 + 2 * k) cap ∧ wr.ownsRow (w.heap.size + 1) 2 1 (.slice (some ⟨q, 0, none⟩) (7 + 2 * k) cap) (7 + 2 * k) (([r1, r2, r3, r4, r5, r6, r7] ++ flatI (ps.take k)).map (Value.int .i64)) ∧ Box wr w.heap.size 46 #[.int .i64 r1, .int .i64 r2, .int .i64 r3, .int .i64 r4, .int .i64 r5, .int .i64 r6, .int .i64 r7, .slice L m mc, .int .i64 r8] ∧ Below w.heap.size w wr) (fun _ i _ => m - (intOf i).toNat)
  case atStart => exact ⟨0, _, 7, by omega, rfl, rfl, by simpa [flatI] using O, D1, E1⟩
  case round =>
    clear O D1 E1
    obtain ⟨k, q, cap, hk, rfl, rfl, O, D, E⟩ := hrel
    have d7 := D.cell 7
    have hq : w.heap.size + 1 ≤ q ∧ q < wr.heap.size := O.lt q rfl
    by_cases hlt : k < m
    · obtain ⟨b, o, hA, hb, hc⟩ := (HR.out.below E (Nat.le_refl _)).2 (by omega)
      subst hA
      obtain ⟨c0, c1⟩ := hc k hlt
      have hbl := Nat.lt_of_lt_of_le hb E.size
      have HS : Hid (([r1, r2, r3, r4, r5, r6, r7] ++ flatI (ps.take (k + 1))).map (Value.int .i64) = ([r1, r2, r3, r4, r5, r6, r7] ++ flatI (ps.take k)).map (Value.int .i64) ++ [.int .i64 (pth ps k).1, .int .i64 (pth ps k).2]) := by
        show _ = _
        rw [flatI_snoc (by rw [HL.out]; exact hlt)]
        simp
      clear hc
      generalize pth ps k = z at c0 c1 HS
      obtain ⟨z0, z1⟩ := z
      dsimp only at c0 c1 HS
      have hDl := D.lt
      have hkI : (k : Int) < (m : Int) := by omega
      go_wp2_with fail
      go_region_held3 (fun w' => w'.cell? ⟨w.heap.size, 7, none⟩ = some (.slice (some ⟨b, o, none⟩) m mc) ∧ w'.cell? ⟨b, o + k * 2, none⟩ = some (.int .i64 z0) ∧ w'.cell? ⟨b, o + k * 2 + 1, none⟩ = some (.int .i64 z1))
        (first | (with_reducible exact K2) | go_keep)
        (first | (refine step_append_lies _ (by rfl) _ _ _ (by rfl) (w.heap.size + 1) 2 i0 _ 1 8 Tryz.underlying24 hi0 hz0 hz1 hz2 rfl (by omega) (.slice (some ⟨q, 0, none⟩) (7 + 2 * k) cap) (7 + 2 * k) (([r1, r2, r3, r4, r5, r6, r7] ++ flatI (ps.take k)).map (Value.int .i64)) (by rfl) (O.drew.alloc _) ⟨wr.heap.size, 0, none⟩ 2 2 [.int .i64 z0, .int .i64 z1] (by rfl) (by rfl) (World.news_of_block (cs := #[.int .i64 z0, .int .i64 z1]) (t := 2) (fr := (0, 0)) (heap_alloc_new wr.drew _)) (by simp [Value.oneCell']) (by omega) (by unfold maxLen; omega) (by omega) (by simp; omega) (wr.heap.size + 1) (by simp) ?_; intro gg cap2 w2 hown2 hgrow2 hat hlt2; replace hgrow2 : World.grownBy _ w2 (some q) := hgrow2; obtain ⟨K2, D2⟩ := sumKeep D hbl c0 c1 hgrow2 (by omega) (by omega); clear hat))
      all_goals
        have O2 : w2.ownsRow (w.heap.size + 1) 2 1 (.slice (some ⟨gg, 0, none⟩) (7 + 2 * (k + 1)) cap2) (7 + 2 * (k + 1)) (([r1, r2, r3, r4, r5, r6, r7] ++ flatI (ps.take (k + 1))).map (Value.int .i64)) := by rw [HS.out]; exact hown2
        have E2 := bel_grown (((E.drew).alloc E.size (.cells #[.int .i64 z0, .int .i64 z1] 2))) hgrow2 (by omega)
        clear K2 hown2 hgrow2 c0 c1 d7 O
        go_wp2
        go_roundw
        case rel => exact ⟨k + 1, gg, cap2, by omega, by go_num, rfl, O2, D2, E2⟩
        case measure => simp [intOf]; omega
    · have hz := HL.out
      have HE : Hid (ps.take k = ps) := by
        show _ = _
        rw [List.take_of_length_le (by omega)]
      have hkm : k = m := by omega
      subst hkm
      rw [HE.out] at O
      have hR9 := own_row9 O (by simp [flatI_len]; omega)
      have E9 := E
      clear hz O
      go_wp2_with fail
      refine (l3MixW_any (some ⟨q, 0, none⟩) (7 + 2 * k) cap ([r1, r2, r3, r4, r5, r6, r7] ++ flatI ps) wr (by omega) hR9).mono ?_
      rintro e w3 ⟨rfl, hb3⟩
      have E3 := bel_trans E hb3
      go_wp2
      go_ret
      exact ⟨rfl, E3⟩
end Go.Proofs.YtjdepjpjjgkmbaaGreat
