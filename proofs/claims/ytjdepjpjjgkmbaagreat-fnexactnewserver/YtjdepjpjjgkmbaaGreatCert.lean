/- Words of chapter 4: what the functions of certificates compute; SealRight's contracts with the answer under a name; no conditions. -/
import Derived.Test.YtjdepjpjjgkmbaaGreatStampBase
import Derived.Test.YtjdepjpjjgkmbaaGreatSpecSeal
import Derived.ChangeKeysEq
import Derived.Test.YtjdepjpjjgkmbaaGreatJoin
import Derived.Deep.CutBlock
namespace Go.Proofs.YtjdepjpjjgkmbaaGreat
open Go.RowKit

/-- Is this seal right? -/
def rB (s l c sh : Int) (zs : List Int) (ck ch ct cq cv : Int) (p : Int × Int) : Bool := riB s l c sh zs ck ch ct cq cv p.1 p.2
/-- The right ones, one of each server, in order. -/
def goodP (R : Int × Int → Bool) (ps : List (Int × Int)) : List (Int × Int) := puts (ps.filter R)
theorem goodP_nil (R : Int × Int → Bool) : goodP R [] = [] := rfl
theorem goodP_yes {R : Int × Int → Bool} {ps : List (Int × Int)} {k : Nat} (h : k < ps.length) (hR : R (pth ps k) = true) : goodP R (ps.take (k + 1)) = put (goodP R (ps.take k)) (pth ps k) := by
  rw [List.take_succ_eq_append_getElem h, ← pth_lt h]
  unfold goodP
  rw [List.filter_append, show [pth ps k].filter R = [pth ps k] by simp [hR], puts_snoc]
theorem goodP_no {R : Int × Int → Bool} {ps : List (Int × Int)} {k : Nat} (h : k < ps.length) (hR : R (pth ps k) = false) : goodP R (ps.take (k + 1)) = goodP R (ps.take k) := by
  rw [List.take_succ_eq_append_getElem h, ← pth_lt h]
  unfold goodP
  rw [List.filter_append, show [pth ps k].filter R = [] by simp [hR], List.append_nil]
theorem goodP_le (R : Int × Int → Bool) (ps : List (Int × Int)) : (goodP R ps).length ≤ ps.length :=
  Nat.le_trans (puts_le _) (List.length_filter_le _ _)
/-- What CertCount answers. -/
def cntN (s l c sh : Int) (zs : List Int) (ck ch ct cq cv : Int) (ps : List (Int × Int)) : Int := ((goodP (rB s l c sh zs ck ch ct cq cv) ps).length : Int)
theorem cntN_le (s l c sh : Int) (zs : List Int) (ck ch ct cq cv : Int) (ps : List (Int × Int)) : 0 ≤ cntN s l c sh zs ck ch ct cq cv ps ∧ cntN s l c sh zs ck ch ct cq cv ps ≤ ps.length := by
  unfold cntN
  have := goodP_le (rB s l c sh zs ck ch ct cq cv) ps
  omega
/-- What CertOk answers. -/
def cerB (s l c sh : Int) (zs : List Int) (ck ch ct cq cv : Int) (ps : List (Int × Int)) : Bool := okB s l c sh zs && decide ((ps.length : Int) ≤ 20) && decide (quoN s l c sh zs ≤ cntN s l c sh zs ck ch ct cq cv ps)
/-- What ProvenOk answers. -/
def proB (s l c sh : Int) (zs : List Int) (x ct cq v : Int) (ps : List (Int × Int)) : Bool :=
  okB s l c sh zs && inB x 0 (sh - 1) && ((decide (ct = 0 ∧ cq = 0) && decide (v = 0)) || cerB s l c sh zs 1 x ct cq v ps)

theorem rightB_is {s l c sh : Int} {zs : List Int} {ck ch ct cq cv x t : Int} {b : Bool} (h : rB s l c sh zs ck ch ct cq cv (x, t) = b) (A : Option Addr) (n cap : Nat) (w : World) (hm : n ≤ maxLen) (hr : Row w w.heap.size A n zs) :
    Calls Tryz.prog 244 #[.agg #[.int .i64 s, .int .i64 l, .int .i64 c, .int .i64 sh, .slice A n cap], .agg #[.int .i64 ck, .int .i64 ch, .int .i64 ct, .int .i64 cq, .int .i64 cv], .agg #[.int .i64 x, .int .i64 t]] w fun e w' => e = .returned (.bool b) ∧ Below w.heap.size w w' := h ▸ sealRight_any s l c sh A n cap zs ck ch ct cq cv x t w hm hr
theorem specRightB_is {s l c sh : Int} {zs : List Int} {ck ch ct cq cv x t : Int} {b : Bool} (h : rB s l c sh zs ck ch ct cq cv (x, t) = b) (A : Option Addr) (n cap : Nat) (w : World) (hm : n ≤ maxLen) (hr : Row w w.heap.size A n zs) :
    Calls Tryz.prog 237 #[.agg #[.int .i64 s, .int .i64 l, .int .i64 c, .int .i64 sh, .slice A n cap], .agg #[.int .i64 ck, .int .i64 ch, .int .i64 ct, .int .i64 cq, .int .i64 cv], .agg #[.int .i64 x, .int .i64 t]] w fun e w' => e = .returned (.bool b) ∧ Below w.heap.size w w' := h ▸ specRight_any s l c sh A n cap zs ck ch ct cq cv x t w hm hr
/-- A right one is of a server. -/
theorem rB_who {s l c sh : Int} {zs : List Int} {ck ch ct cq cv : Int} {p : Int × Int} (h : rB s l c sh zs ck ch ct cq cv p = true) : 0 ≤ p.1 ∧ p.1 < s ∧ s ≤ 10 := by
  simp only [rB, riB, seB, srvB, Bool.and_eq_true] at h
  have h1 := okB_parts h.1.2.1
  have h2 := inB_true.1 h.1.2.2
  omega

end Go.Proofs.YtjdepjpjjgkmbaaGreat

/- The functions of certificates, first part: the flags of who sealed, CertCount, GoodSeals: contracts of each of them; up to some four million seals. -/
namespace Go.Proofs.YtjdepjpjjgkmbaaGreat
open Go.RowKit

/-- The flag of the server i: has it sealed? -/
def fl (J : List (Int × Int)) (i : Nat) : Bool := has J (i : Int)
theorem fl_put (J : List (Int × Int)) (x t : Int) (i : Nat) : fl (put J (x, t)) i = (fl J i || decide ((i : Int) = x)) := by
  rw [Bool.eq_iff_iff]
  simp only [fl, Bool.or_eq_true, decide_eq_true_eq, has_mem]
  unfold put
  split
  · rename_i h
    constructor
    · exact .inl
    · rintro (h' | h')
      · exact h'
      · rw [h']; exact has_mem.1 h
  · constructor
    · rintro ⟨p, hp, e⟩
      rcases ins_mem.1 hp with h | h
      · rw [h] at e; exact .inr e.symm
      · exact .inl ⟨p, h, e⟩
    · rintro (⟨p, hp, e⟩ | e)
      · exact ⟨p, ins_mem.2 (.inr hp), e⟩
      · exact ⟨(x, t), ins_mem.2 (.inl rfl), e.symm⟩

theorem Box.ten' {w : World} {g : Nat} {t : TypeId} {v0 v1 v2 v3 v4 v5 v6 v7 v8 v9 : Value} (h : Box w g t #[v0, v1, v2, v3, v4, v5, v6, v7, v8, v9]) :
    w.cell? ⟨g, 0, none⟩ = some v0 ∧ w.cell? ⟨g, 1, none⟩ = some v1 ∧ w.cell? ⟨g, 2, none⟩ = some v2 ∧ w.cell? ⟨g, 3, none⟩ = some v3 ∧ w.cell? ⟨g, 4, none⟩ = some v4 ∧ w.cell? ⟨g, 5, none⟩ = some v5 ∧ w.cell? ⟨g, 6, none⟩ = some v6 ∧ w.cell? ⟨g, 7, none⟩ = some v7 ∧ w.cell? ⟨g, 8, none⟩ = some v8 ∧ w.cell? ⟨g, 9, none⟩ = some v9 :=
  ⟨h.cell 0, h.cell 1, h.cell 2, h.cell 3, h.cell 4, h.cell 5, h.cell 6, h.cell 7, h.cell 8, h.cell 9⟩

theorem bel_ten {w w' : World} {B g : Nat} (h : Below B w w') (hg : B ≤ g) (u0 u1 u2 u3 u4 u5 u6 u7 u8 u9 : Value) :
    Below B w ((((((((((w'.setCell ⟨g, 0, none⟩ u0).setCell ⟨g, 1, none⟩ u1).setCell ⟨g, 2, none⟩ u2).setCell ⟨g, 3, none⟩ u3).setCell ⟨g, 4, none⟩ u4).setCell ⟨g, 5, none⟩ u5).setCell ⟨g, 6, none⟩ u6).setCell ⟨g, 7, none⟩ u7).setCell ⟨g, 8, none⟩ u8).setCell ⟨g, 9, none⟩ u9) :=
  (((((((((h.setCell hg u0).setCell hg u1).setCell hg u2).setCell hg u3).setCell hg u4).setCell hg u5).setCell hg u6).setCell hg u7).setCell hg u8).setCell hg u9
/-- The flag of x is set. -/
theorem Box.flag {w : World} {g : Nat} {ty : TypeId} {J : List (Int × Int)} (h : Box w g ty #[.bool (fl (J) 0), .bool (fl (J) 1), .bool (fl (J) 2), .bool (fl (J) 3), .bool (fl (J) 4), .bool (fl (J) 5), .bool (fl (J) 6), .bool (fl (J) 7), .bool (fl (J) 8), .bool (fl (J) 9)]) (x t : Int) (hx : 0 ≤ x ∧ x < 10) : Box (w.setCell ⟨g, x.toNat, none⟩ (.bool true)) g ty #[.bool (fl (put J (x, t)) 0), .bool (fl (put J (x, t)) 1), .bool (fl (put J (x, t)) 2), .bool (fl (put J (x, t)) 3), .bool (fl (put J (x, t)) 4), .bool (fl (put J (x, t)) 5), .bool (fl (put J (x, t)) 6), .bool (fl (put J (x, t)) 7), .bool (fl (put J (x, t)) 8), .bool (fl (put J (x, t)) 9)] := by
  have h' := h.set x.toNat (.bool true)
  have e : (#[.bool (fl (J) 0), .bool (fl (J) 1), .bool (fl (J) 2), .bool (fl (J) 3), .bool (fl (J) 4), .bool (fl (J) 5), .bool (fl (J) 6), .bool (fl (J) 7), .bool (fl (J) 8), .bool (fl (J) 9)] : Array Value).setIfInBounds x.toNat (.bool true) = #[.bool (fl (put J (x, t)) 0), .bool (fl (put J (x, t)) 1), .bool (fl (put J (x, t)) 2), .bool (fl (put J (x, t)) 3), .bool (fl (put J (x, t)) 4), .bool (fl (put J (x, t)) 5), .bool (fl (put J (x, t)) 6), .bool (fl (put J (x, t)) 7), .bool (fl (put J (x, t)) 8), .bool (fl (put J (x, t)) 9)] := by
    have hc : x = 0 ∨ x = 1 ∨ x = 2 ∨ x = 3 ∨ x = 4 ∨ x = 5 ∨ x = 6 ∨ x = 7 ∨ x = 8 ∨ x = 9 := by omega
    rcases hc with rfl | rfl | rfl | rfl | rfl | rfl | rfl | rfl | rfl | rfl <;> simp [fl_put] <;> rfl
  rw [e] at h'
  exact h'

set_option maxRecDepth 100000 in
set_option maxHeartbeats 1000000 in
theorem and_no (J : List (Int × Int)) (s l c sh : Int) (A : Option Addr) (n cap : Nat) (zs : List Int) (ck ch ct cq cv x t : Int) (w : World) (hR : rB s l c sh zs ck ch ct cq cv (x, t) = false) (hm : n ≤ maxLen) (hr : Row w w.heap.size A n zs) :
    Calls Tryz.prog 246 #[.agg #[.bool (fl (J) 0), .bool (fl (J) 1), .bool (fl (J) 2), .bool (fl (J) 3), .bool (fl (J) 4), .bool (fl (J) 5), .bool (fl (J) 6), .bool (fl (J) 7), .bool (fl (J) 8), .bool (fl (J) 9)], .agg #[.int .i64 s, .int .i64 l, .int .i64 c, .int .i64 sh, .slice A n cap], .agg #[.int .i64 ck, .int .i64 ch, .int .i64 ct, .int .i64 cq, .int .i64 cv], .agg #[.int .i64 x, .int .i64 t]] w fun e w' => e = .returned (.agg #[.bool (fl (J) 0), .bool (fl (J) 1), .bool (fl (J) 2), .bool (fl (J) 3), .bool (fl (J) 4), .bool (fl (J) 5), .bool (fl (J) 6), .bool (fl (J) 7), .bool (fl (J) 8), .bool (fl (J) 9)]) ∧ Below w.heap.size w w' := by
  have hz : Box ((((w.alloc (.cells #[.bool (fl (J) 0), .bool (fl (J) 1), .bool (fl (J) 2), .bool (fl (J) 3), .bool (fl (J) 4), .bool (fl (J) 5), .bool (fl (J) 6), .bool (fl (J) 7), .bool (fl (J) 8), .bool (fl (J) 9)] 255)).alloc (.cells #[.int .i64 s, .int .i64 l, .int .i64 c, .int .i64 sh, .slice A n cap] 26)).alloc (.cells #[.int .i64 ck, .int .i64 ch, .int .i64 ct, .int .i64 cq, .int .i64 cv] 180)).alloc (.cells #[.int .i64 x, .int .i64 t] 136)) w.heap.size 255 #[.bool (fl (J) 0), .bool (fl (J) 1), .bool (fl (J) 2), .bool (fl (J) 3), .bool (fl (J) 4), .bool (fl (J) 5), .bool (fl (J) 6), .bool (fl (J) 7), .bool (fl (J) 8), .bool (fl (J) 9)] := (((Box.new w _ _).alloc _).alloc _).alloc _
  have DG := ((Box.new (w.alloc (.cells #[.bool (fl (J) 0), .bool (fl (J) 1), .bool (fl (J) 2), .bool (fl (J) 3), .bool (fl (J) 4), .bool (fl (J) 5), .bool (fl (J) 6), .bool (fl (J) 7), .bool (fl (J) 8), .bool (fl (J) 9)] 255)) 26 #[.int .i64 s, .int .i64 l, .int .i64 c, .int .i64 sh, .slice A n cap]).alloc (.cells #[.int .i64 ck, .int .i64 ch, .int .i64 ct, .int .i64 cq, .int .i64 cv] 180)).alloc (.cells #[.int .i64 x, .int .i64 t] 136)
  have DC := (Box.new ((w.alloc (.cells #[.bool (fl (J) 0), .bool (fl (J) 1), .bool (fl (J) 2), .bool (fl (J) 3), .bool (fl (J) 4), .bool (fl (J) 5), .bool (fl (J) 6), .bool (fl (J) 7), .bool (fl (J) 8), .bool (fl (J) 9)] 255)).alloc (.cells #[.int .i64 s, .int .i64 l, .int .i64 c, .int .i64 sh, .slice A n cap] 26)) 180 #[.int .i64 ck, .int .i64 ch, .int .i64 ct, .int .i64 cq, .int .i64 cv]).alloc (.cells #[.int .i64 x, .int .i64 t] 136)
  have DS := Box.new (((w.alloc (.cells #[.bool (fl (J) 0), .bool (fl (J) 1), .bool (fl (J) 2), .bool (fl (J) 3), .bool (fl (J) 4), .bool (fl (J) 5), .bool (fl (J) 6), .bool (fl (J) 7), .bool (fl (J) 8), .bool (fl (J) 9)] 255)).alloc (.cells #[.int .i64 s, .int .i64 l, .int .i64 c, .int .i64 sh, .slice A n cap] 26)).alloc (.cells #[.int .i64 ck, .int .i64 ch, .int .i64 ct, .int .i64 cq, .int .i64 cv] 180)) 136 #[.int .i64 x, .int .i64 t]
  have E0 := bel_trans (bel_trans (bel_trans (bel_alloc w (.cells #[.bool (fl (J) 0), .bool (fl (J) 1), .bool (fl (J) 2), .bool (fl (J) 3), .bool (fl (J) 4), .bool (fl (J) 5), .bool (fl (J) 6), .bool (fl (J) 7), .bool (fl (J) 8), .bool (fl (J) 9)] 255)) (bel_alloc _ (.cells #[.int .i64 s, .int .i64 l, .int .i64 c, .int .i64 sh, .slice A n cap] 26))) (bel_alloc _ (.cells #[.int .i64 ck, .int .i64 ch, .int .i64 ct, .int .i64 cq, .int .i64 cv] 180))) (bel_alloc _ (.cells #[.int .i64 x, .int .i64 t] 136))
  simp only [World.size_alloc] at DG DC DS
  have HR := Lib.hid hr
  have HM := Lib.hid hm
  clear hr hm
  replace hz := hz.alloc (.cells #[.bool false, .bool false, .bool false, .bool false, .bool false, .bool false, .bool false, .bool false, .bool false, .bool false] 255)
  replace DG := DG.alloc (.cells #[.bool false, .bool false, .bool false, .bool false, .bool false, .bool false, .bool false, .bool false, .bool false, .bool false] 255)
  replace DC := DC.alloc (.cells #[.bool false, .bool false, .bool false, .bool false, .bool false, .bool false, .bool false, .bool false, .bool false, .bool false] 255)
  replace DS := DS.alloc (.cells #[.bool false, .bool false, .bool false, .bool false, .bool false, .bool false, .bool false, .bool false, .bool false, .bool false] 255)
  have DR := Box.new ((((w.alloc (.cells #[.bool (fl (J) 0), .bool (fl (J) 1), .bool (fl (J) 2), .bool (fl (J) 3), .bool (fl (J) 4), .bool (fl (J) 5), .bool (fl (J) 6), .bool (fl (J) 7), .bool (fl (J) 8), .bool (fl (J) 9)] 255)).alloc (.cells #[.int .i64 s, .int .i64 l, .int .i64 c, .int .i64 sh, .slice A n cap] 26)).alloc (.cells #[.int .i64 ck, .int .i64 ch, .int .i64 ct, .int .i64 cq, .int .i64 cv] 180)).alloc (.cells #[.int .i64 x, .int .i64 t] 136)) 255 #[.bool false, .bool false, .bool false, .bool false, .bool false, .bool false, .bool false, .bool false, .bool false, .bool false]
  replace E0 := bel_trans E0 (bel_alloc _ (.cells #[.bool false, .bool false, .bool false, .bool false, .bool false, .bool false, .bool false, .bool false, .bool false, .bool false] 255))
  simp only [World.size_alloc] at DR
  have HY := Lib.hid hR
  clear hR
  go_enter Tryz.func246, Tryz.ntmps246
  go_wp2_with fail
  generalize (((((w.alloc _).alloc _).alloc _).alloc _).alloc _ : World) = w1 at E0 hz DG DC DS DR ⊢
  refine (rightB_is HY.out A n cap w1 HM.out ((HR.out.below E0 (Nat.le_refl _)).more E0.size)).mono ?_
  rintro e w2 ⟨rfl, hb2⟩
  have E2 := bel_trans E0 hb2
  have hz2 := hz.later hb2 hz.lt
  have DR2 := DR.later hb2 DR.lt
  obtain ⟨d0, d1, d2, d3, d4, d5, d6, d7, d8, d9⟩ := hz2.ten'
  obtain ⟨r0, r1, r2, r3, r4, r5, r6, r7, r8, r9⟩ := DR2.ten'
  have fr := DR2.frozen
  clear hz DG DC DS DR E0 hb2
  go_wp2
  refine bodyPost_ret (v := .agg #[.bool (fl (J) 0), .bool (fl (J) 1), .bool (fl (J) 2), .bool (fl (J) 3), .bool (fl (J) 4), .bool (fl (J) 5), .bool (fl (J) 6), .bool (fl (J) 7), .bool (fl (J) 8), .bool (fl (J) 9)]) (by simp [results, Tryz.results246, go_sem, r0, r1, r2, r3, r4, r5, r6, r7, r8, r9]) rfl ⟨rfl, ?_⟩
  exact bel_ten E2 (by omega) _ _ _ _ _ _ _ _ _ _

set_option maxRecDepth 100000 in
set_option maxHeartbeats 1000000 in
theorem and_yes (J : List (Int × Int)) (s l c sh : Int) (A : Option Addr) (n cap : Nat) (zs : List Int) (ck ch ct cq cv x t : Int) (w : World) (hR : rB s l c sh zs ck ch ct cq cv (x, t) = true) (hm : n ≤ maxLen) (hr : Row w w.heap.size A n zs) :
    Calls Tryz.prog 246 #[.agg #[.bool (fl (J) 0), .bool (fl (J) 1), .bool (fl (J) 2), .bool (fl (J) 3), .bool (fl (J) 4), .bool (fl (J) 5), .bool (fl (J) 6), .bool (fl (J) 7), .bool (fl (J) 8), .bool (fl (J) 9)], .agg #[.int .i64 s, .int .i64 l, .int .i64 c, .int .i64 sh, .slice A n cap], .agg #[.int .i64 ck, .int .i64 ch, .int .i64 ct, .int .i64 cq, .int .i64 cv], .agg #[.int .i64 x, .int .i64 t]] w fun e w' => e = .returned (.agg #[.bool (fl (put J (x, t)) 0), .bool (fl (put J (x, t)) 1), .bool (fl (put J (x, t)) 2), .bool (fl (put J (x, t)) 3), .bool (fl (put J (x, t)) 4), .bool (fl (put J (x, t)) 5), .bool (fl (put J (x, t)) 6), .bool (fl (put J (x, t)) 7), .bool (fl (put J (x, t)) 8), .bool (fl (put J (x, t)) 9)]) ∧ Below w.heap.size w w' := by
  have hz : Box ((((w.alloc (.cells #[.bool (fl (J) 0), .bool (fl (J) 1), .bool (fl (J) 2), .bool (fl (J) 3), .bool (fl (J) 4), .bool (fl (J) 5), .bool (fl (J) 6), .bool (fl (J) 7), .bool (fl (J) 8), .bool (fl (J) 9)] 255)).alloc (.cells #[.int .i64 s, .int .i64 l, .int .i64 c, .int .i64 sh, .slice A n cap] 26)).alloc (.cells #[.int .i64 ck, .int .i64 ch, .int .i64 ct, .int .i64 cq, .int .i64 cv] 180)).alloc (.cells #[.int .i64 x, .int .i64 t] 136)) w.heap.size 255 #[.bool (fl (J) 0), .bool (fl (J) 1), .bool (fl (J) 2), .bool (fl (J) 3), .bool (fl (J) 4), .bool (fl (J) 5), .bool (fl (J) 6), .bool (fl (J) 7), .bool (fl (J) 8), .bool (fl (J) 9)] := (((Box.new w _ _).alloc _).alloc _).alloc _
  have DG := ((Box.new (w.alloc (.cells #[.bool (fl (J) 0), .bool (fl (J) 1), .bool (fl (J) 2), .bool (fl (J) 3), .bool (fl (J) 4), .bool (fl (J) 5), .bool (fl (J) 6), .bool (fl (J) 7), .bool (fl (J) 8), .bool (fl (J) 9)] 255)) 26 #[.int .i64 s, .int .i64 l, .int .i64 c, .int .i64 sh, .slice A n cap]).alloc (.cells #[.int .i64 ck, .int .i64 ch, .int .i64 ct, .int .i64 cq, .int .i64 cv] 180)).alloc (.cells #[.int .i64 x, .int .i64 t] 136)
  have DC := (Box.new ((w.alloc (.cells #[.bool (fl (J) 0), .bool (fl (J) 1), .bool (fl (J) 2), .bool (fl (J) 3), .bool (fl (J) 4), .bool (fl (J) 5), .bool (fl (J) 6), .bool (fl (J) 7), .bool (fl (J) 8), .bool (fl (J) 9)] 255)).alloc (.cells #[.int .i64 s, .int .i64 l, .int .i64 c, .int .i64 sh, .slice A n cap] 26)) 180 #[.int .i64 ck, .int .i64 ch, .int .i64 ct, .int .i64 cq, .int .i64 cv]).alloc (.cells #[.int .i64 x, .int .i64 t] 136)
  have DS := Box.new (((w.alloc (.cells #[.bool (fl (J) 0), .bool (fl (J) 1), .bool (fl (J) 2), .bool (fl (J) 3), .bool (fl (J) 4), .bool (fl (J) 5), .bool (fl (J) 6), .bool (fl (J) 7), .bool (fl (J) 8), .bool (fl (J) 9)] 255)).alloc (.cells #[.int .i64 s, .int .i64 l, .int .i64 c, .int .i64 sh, .slice A n cap] 26)).alloc (.cells #[.int .i64 ck, .int .i64 ch, .int .i64 ct, .int .i64 cq, .int .i64 cv] 180)) 136 #[.int .i64 x, .int .i64 t]
  have E0 := bel_trans (bel_trans (bel_trans (bel_alloc w (.cells #[.bool (fl (J) 0), .bool (fl (J) 1), .bool (fl (J) 2), .bool (fl (J) 3), .bool (fl (J) 4), .bool (fl (J) 5), .bool (fl (J) 6), .bool (fl (J) 7), .bool (fl (J) 8), .bool (fl (J) 9)] 255)) (bel_alloc _ (.cells #[.int .i64 s, .int .i64 l, .int .i64 c, .int .i64 sh, .slice A n cap] 26))) (bel_alloc _ (.cells #[.int .i64 ck, .int .i64 ch, .int .i64 ct, .int .i64 cq, .int .i64 cv] 180))) (bel_alloc _ (.cells #[.int .i64 x, .int .i64 t] 136))
  simp only [World.size_alloc] at DG DC DS
  have HR := Lib.hid hr
  have HM := Lib.hid hm
  clear hr hm
  replace hz := hz.alloc (.cells #[.bool false, .bool false, .bool false, .bool false, .bool false, .bool false, .bool false, .bool false, .bool false, .bool false] 255)
  replace DG := DG.alloc (.cells #[.bool false, .bool false, .bool false, .bool false, .bool false, .bool false, .bool false, .bool false, .bool false, .bool false] 255)
  replace DC := DC.alloc (.cells #[.bool false, .bool false, .bool false, .bool false, .bool false, .bool false, .bool false, .bool false, .bool false, .bool false] 255)
  replace DS := DS.alloc (.cells #[.bool false, .bool false, .bool false, .bool false, .bool false, .bool false, .bool false, .bool false, .bool false, .bool false] 255)
  have DR := Box.new ((((w.alloc (.cells #[.bool (fl (J) 0), .bool (fl (J) 1), .bool (fl (J) 2), .bool (fl (J) 3), .bool (fl (J) 4), .bool (fl (J) 5), .bool (fl (J) 6), .bool (fl (J) 7), .bool (fl (J) 8), .bool (fl (J) 9)] 255)).alloc (.cells #[.int .i64 s, .int .i64 l, .int .i64 c, .int .i64 sh, .slice A n cap] 26)).alloc (.cells #[.int .i64 ck, .int .i64 ch, .int .i64 ct, .int .i64 cq, .int .i64 cv] 180)).alloc (.cells #[.int .i64 x, .int .i64 t] 136)) 255 #[.bool false, .bool false, .bool false, .bool false, .bool false, .bool false, .bool false, .bool false, .bool false, .bool false]
  replace E0 := bel_trans E0 (bel_alloc _ (.cells #[.bool false, .bool false, .bool false, .bool false, .bool false, .bool false, .bool false, .bool false, .bool false, .bool false] 255))
  simp only [World.size_alloc] at DR
  have HY := Lib.hid hR
  have hx0 : 0 ≤ x := (rB_who hR).1
  have hx1 : x < 10 := Int.lt_of_lt_of_le (rB_who hR).2.1 (rB_who hR).2.2
  clear hR
  go_enter Tryz.func246, Tryz.ntmps246
  go_wp2_with fail
  generalize (((((w.alloc _).alloc _).alloc _).alloc _).alloc _ : World) = w1 at E0 hz DG DC DS DR ⊢
  refine (rightB_is HY.out A n cap w1 HM.out ((HR.out.below E0 (Nat.le_refl _)).more E0.size)).mono ?_
  rintro e w2 ⟨rfl, hb2⟩
  have E2 := bel_trans E0 hb2
  have hz2 := hz.later hb2 hz.lt
  have DR2 := DR.later hb2 DR.lt
  have DS2 := DS.later hb2 DS.lt
  obtain ⟨s0, s1⟩ := DS2.two
  have cx : w2.cell? ⟨w.heap.size, x.toNat, none⟩ = some (.bool (fl J x.toNat)) := by
    rw [hz2.cell]
    have hc : x = 0 ∨ x = 1 ∨ x = 2 ∨ x = 3 ∨ x = 4 ∨ x = 5 ∨ x = 6 ∨ x = 7 ∨ x = 8 ∨ x = 9 := by omega
    rcases hc with rfl | rfl | rfl | rfl | rfl | rfl | rfl | rfl | rfl | rfl <;> rfl
  have fz := hz2.frozen
  have HF := Lib.hid (hz2.flag x t ⟨hx0, hx1⟩)
  have HD := Lib.hid (DR2.far (p := ⟨w.heap.size, x.toNat, none⟩) (by simp; omega) (.bool true))
  have HE := Lib.hid (E2.setCell (p := ⟨w.heap.size, x.toNat, none⟩) (Nat.le_refl _) (.bool true))
  clear hz DG DC DS DR E0 hb2 hz2 DR2 E2
  go_upto_region 3 with fail
  generalize (w2.setCell _ _ : World) = w3 at HF HD HE ⊢
  have DR3 := HD.out
  obtain ⟨d0, d1, d2, d3, d4, d5, d6, d7, d8, d9⟩ := HF.out.ten'
  obtain ⟨r0, r1, r2, r3, r4, r5, r6, r7, r8, r9⟩ := HD.out.ten'
  have fr := DR3.frozen
  go_wp2
  refine bodyPost_ret (v := .agg #[.bool (fl (put J (x, t)) 0), .bool (fl (put J (x, t)) 1), .bool (fl (put J (x, t)) 2), .bool (fl (put J (x, t)) 3), .bool (fl (put J (x, t)) 4), .bool (fl (put J (x, t)) 5), .bool (fl (put J (x, t)) 6), .bool (fl (put J (x, t)) 7), .bool (fl (put J (x, t)) 8), .bool (fl (put J (x, t)) 9)]) (by simp [results, Tryz.results246, go_sem, r0, r1, r2, r3, r4, r5, r6, r7, r8, r9]) rfl ⟨rfl, ?_⟩
  exact bel_ten HE.out (by omega) _ _ _ _ _ _ _ _ _ _

end Go.Proofs.YtjdepjpjjgkmbaaGreat

/- The flags of who sealed are compared: a contract of the comparison; no conditions. -/
namespace Go.Proofs.YtjdepjpjjgkmbaaGreat
open Go.RowKit

theorem Tryz.infoBool : ∃ i, Tryz.prog.info? 4 = some i ∧ i.size = 1 := by
  obtain ⟨i, hi, hzz⟩ := Option.map_eq_some_iff.1 (show (Tryz.prog.info? 4).map (fun i => i.size) = some 1 by kernel_rfl)
  exact ⟨i, hi, hzz⟩

theorem eqItems_step (xs ys : Array Value) (i : Nat) (is : List Nat) (a b : Bool) (w : World) (hc : Tryz.prog.cellsOf 4 = 1) (ha : (part 4 xs i).run Tryz.prog w = .ok (.bool a) w) (hb : (part 4 ys i).run Tryz.prog w = .ok (.bool b) w) :
    (Op.eqItems 9999 4 (Tryz.prog.cellsOf 4) xs ys (i :: is)).run Tryz.prog w = if a = b then (Op.eqItems 9999 4 (Tryz.prog.cellsOf 4) xs ys is).run Tryz.prog w else .ok false w := by
  rw [hc]
  simp only [Op.eqItems, Nat.mul_one, Sem.run_bind, ha, hb, Result.andThen_ok, run_equalIn_bool w 9998 4 a b Tryz.underlying4]
  by_cases h : a = b
  · subst h; simp
  · have : (a == b) = false := by simpa using h
    simp [this, h]

theorem part_flag (cs : Array Value) (i : Nat) (v : Value) (w : World) (h : cs[i]? = some v) : (part 4 cs i).run Tryz.prog w = .ok v w := by
  obtain ⟨i0, hi, hs⟩ := Tryz.infoBool
  simp [part, typeInfo, sizeOf, hi, hs, h, isAgg, run_underlying Tryz.underlying4]

theorem Tryz.cellsBool : Tryz.prog.cellsOf 4 = 1 := by kernel_rfl

/-- All of these places, from k on. -/
theorem eqItems_all (J J' : List (Int × Int)) (w : World) : ∀ (is : List Nat), (∀ i ∈ is, i < 10) →
    (Op.eqItems 9999 4 (Tryz.prog.cellsOf 4) #[.bool (fl (J) 0), .bool (fl (J) 1), .bool (fl (J) 2), .bool (fl (J) 3), .bool (fl (J) 4), .bool (fl (J) 5), .bool (fl (J) 6), .bool (fl (J) 7), .bool (fl (J) 8), .bool (fl (J) 9)] #[.bool (fl (J') 0), .bool (fl (J') 1), .bool (fl (J') 2), .bool (fl (J') 3), .bool (fl (J') 4), .bool (fl (J') 5), .bool (fl (J') 6), .bool (fl (J') 7), .bool (fl (J') 8), .bool (fl (J') 9)] is).run Tryz.prog w = .ok (is.all fun i => fl J i == fl J' i) w
  | [], _ => by simp [Op.eqItems]
  | i :: is, h => by
    have hi : i < 10 := h i (by simp)
    have hat : ∀ K : List (Int × Int), (#[.bool (fl (K) 0), .bool (fl (K) 1), .bool (fl (K) 2), .bool (fl (K) 3), .bool (fl (K) 4), .bool (fl (K) 5), .bool (fl (K) 6), .bool (fl (K) 7), .bool (fl (K) 8), .bool (fl (K) 9)] : Array Value)[i]? = some (.bool (fl K i)) := fun K => by
      have hc : i = 0 ∨ i = 1 ∨ i = 2 ∨ i = 3 ∨ i = 4 ∨ i = 5 ∨ i = 6 ∨ i = 7 ∨ i = 8 ∨ i = 9 := by omega
      rcases hc with rfl | rfl | rfl | rfl | rfl | rfl | rfl | rfl | rfl | rfl <;> rfl
    rw [eqItems_step _ _ i is (fl J i) (fl J' i) w Tryz.cellsBool (part_flag _ _ _ _ (hat J)) (part_flag _ _ _ _ (hat J')), eqItems_all J J' w is (fun j hj => h j (by simp [hj]))]
    by_cases e : fl J i = fl J' i
    · simp [e]
    · have : (fl J i == fl J' i) = false := by simpa using e
      simp [e]

/-- The same flags. -/
theorem eqFlags_same (J : List (Int × Int)) (w : World) : (Op.equalIn 10000 255 (.agg #[.bool (fl (J) 0), .bool (fl (J) 1), .bool (fl (J) 2), .bool (fl (J) 3), .bool (fl (J) 4), .bool (fl (J) 5), .bool (fl (J) 6), .bool (fl (J) 7), .bool (fl (J) 8), .bool (fl (J) 9)]) (.agg #[.bool (fl (J) 0), .bool (fl (J) 1), .bool (fl (J) 2), .bool (fl (J) 3), .bool (fl (J) 4), .bool (fl (J) 5), .bool (fl (J) 6), .bool (fl (J) 7), .bool (fl (J) 8), .bool (fl (J) 9)])).run Tryz.prog w = .ok true w := by
  obtain ⟨i0, hi, _⟩ := Tryz.infoBool
  rw [run_equalIn_array w 9999 _ _ Tryz.underlying255 hi, eqItems_all J J w _ (fun i hi => by simpa using hi)]
  simp
/-- One more flag. -/
theorem eqFlags_more (J J' : List (Int × Int)) (k : Nat) (hk : k < 10) (h : fl J k = false) (h' : fl J' k = true) (w : World) : (Op.equalIn 10000 255 (.agg #[.bool (fl (J') 0), .bool (fl (J') 1), .bool (fl (J') 2), .bool (fl (J') 3), .bool (fl (J') 4), .bool (fl (J') 5), .bool (fl (J') 6), .bool (fl (J') 7), .bool (fl (J') 8), .bool (fl (J') 9)]) (.agg #[.bool (fl (J) 0), .bool (fl (J) 1), .bool (fl (J) 2), .bool (fl (J) 3), .bool (fl (J) 4), .bool (fl (J) 5), .bool (fl (J) 6), .bool (fl (J) 7), .bool (fl (J) 8), .bool (fl (J) 9)])).run Tryz.prog w = .ok false w := by
  obtain ⟨i0, hi, _⟩ := Tryz.infoBool
  rw [run_equalIn_array w 9999 _ _ Tryz.underlying255 hi, eqItems_all J' J w _ (fun i hi => by simpa using hi)]
  have : (List.range 10).all (fun i => fl J' i == fl J i) = false := by
    rw [List.all_eq_false]
    exact ⟨k, by simpa using hk, by rw [h, h']; simp⟩
  rw [this]

end Go.Proofs.YtjdepjpjjgkmbaaGreat
