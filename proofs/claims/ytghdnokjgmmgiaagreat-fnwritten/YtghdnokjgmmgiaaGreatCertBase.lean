/- Words of chapter 4: what the functions of certificates compute; SealRight's contracts with the answer under a name; no conditions. -/
import Derived.Test.YtghdnokjgmmgiaaGreatStampBase
import Derived.Test.YtghdnokjgmmgiaaGreatSpecSeal
namespace Go.Proofs.YtghdnokjgmmgiaaGreat
open Go.RowKit

/-- Is this seal right? -/
def rB (s l c sh : Int) (zs : List Int) (ck ch ct cq cv : Int) (p : Int × Int) : Bool := riB s l c sh zs ck ch ct cq cv p.1 p.2
/-- The right ones, one of each server, in order. -/
def goodP (R : Int × Int → Bool) (ps : List (Int × Int)) : List (Int × Int) := puts (ps.filter R)
theorem goodP_nil (R : Int × Int → Bool) : goodP R [] = [] := rfl
theorem goodP_yes {R : Int × Int → Bool} {ps : List (Int × Int)} {k : Nat} (h : k < ps.length) (hR : R (pth ps k) = true) : goodP R (ps.take (k + 1)) = put (goodP R (ps.take k)) (pth ps k) := by
  rw [List.take_succ_eq_append_getElem h, ← pth_lt h]
  unfold goodP
  rw [List.filter_append, show [pth ps k].filter R = [pth ps k] by simp [hR], puts_snoc]
theorem goodP_no {R : Int × Int → Bool} {ps : List (Int × Int)} {k : Nat} (h : k < ps.length) (hR : R (pth ps k) = false) : goodP R (ps.take (k + 1)) = goodP R (ps.take k) := by
  rw [List.take_succ_eq_append_getElem h, ← pth_lt h]
  unfold goodP
  rw [List.filter_append, show [pth ps k].filter R = [] by simp [hR], List.append_nil]
theorem goodP_le (R : Int × Int → Bool) (ps : List (Int × Int)) : (goodP R ps).length ≤ ps.length :=
  Nat.le_trans (puts_le _) (List.length_filter_le _ _)
/-- What CertCount answers. -/
def cntN (s l c sh : Int) (zs : List Int) (ck ch ct cq cv : Int) (ps : List (Int × Int)) : Int := ((goodP (rB s l c sh zs ck ch ct cq cv) ps).length : Int)
theorem cntN_le (s l c sh : Int) (zs : List Int) (ck ch ct cq cv : Int) (ps : List (Int × Int)) : 0 ≤ cntN s l c sh zs ck ch ct cq cv ps ∧ cntN s l c sh zs ck ch ct cq cv ps ≤ ps.length := by
  unfold cntN
  have := goodP_le (rB s l c sh zs ck ch ct cq cv) ps
  omega
/-- What CertOk answers. -/
def cerB (s l c sh : Int) (zs : List Int) (ck ch ct cq cv : Int) (ps : List (Int × Int)) : Bool := okB s l c sh zs && decide ((ps.length : Int) ≤ 20) && decide (quoN s l c sh zs ≤ cntN s l c sh zs ck ch ct cq cv ps)
/-- What ProvenOk answers. -/
def proB (s l c sh : Int) (zs : List Int) (x ct cq v : Int) (ps : List (Int × Int)) : Bool :=
  okB s l c sh zs && inB x 0 (sh - 1) && ((decide (ct = 0 ∧ cq = 0) && decide (v = 0)) || cerB s l c sh zs 1 x ct cq v ps)

theorem rightB_is {s l c sh : Int} {zs : List Int} {ck ch ct cq cv x t : Int} {b : Bool} (h : rB s l c sh zs ck ch ct cq cv (x, t) = b) (A : Option Addr) (n cap : Nat) (w : World) (hm : n ≤ maxLen) (hr : Row w w.heap.size A n zs) :
    Calls Tryz.prog 101 #[.agg #[.int .i64 s, .int .i64 l, .int .i64 c, .int .i64 sh, .slice A n cap], .agg #[.int .i64 ck, .int .i64 ch, .int .i64 ct, .int .i64 cq, .int .i64 cv], .agg #[.int .i64 x, .int .i64 t]] w fun e w' => e = .returned (.bool b) ∧ Below w.heap.size w w' := h ▸ sealRight_any s l c sh A n cap zs ck ch ct cq cv x t w hm hr
theorem specRightB_is {s l c sh : Int} {zs : List Int} {ck ch ct cq cv x t : Int} {b : Bool} (h : rB s l c sh zs ck ch ct cq cv (x, t) = b) (A : Option Addr) (n cap : Nat) (w : World) (hm : n ≤ maxLen) (hr : Row w w.heap.size A n zs) :
    Calls Tryz.prog 105 #[.agg #[.int .i64 s, .int .i64 l, .int .i64 c, .int .i64 sh, .slice A n cap], .agg #[.int .i64 ck, .int .i64 ch, .int .i64 ct, .int .i64 cq, .int .i64 cv], .agg #[.int .i64 x, .int .i64 t]] w fun e w' => e = .returned (.bool b) ∧ Below w.heap.size w w' := h ▸ specRight_any s l c sh A n cap zs ck ch ct cq cv x t w hm hr
/-- A right one is of a server. -/
theorem rB_who {s l c sh : Int} {zs : List Int} {ck ch ct cq cv : Int} {p : Int × Int} (h : rB s l c sh zs ck ch ct cq cv p = true) : 0 ≤ p.1 ∧ p.1 < s ∧ s ≤ 10 := by
  simp only [rB, riB, seB, srvB, Bool.and_eq_true] at h
  have h1 := okB_parts h.1.2.1
  have h2 := inB_true.1 h.1.2.2
  omega

end Go.Proofs.YtghdnokjgmmgiaaGreat
