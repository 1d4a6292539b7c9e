/- Words of chapter 3: what the functions of claims and seals compute; no conditions. -/
import Derived.Test.YthfakifgnaollaaStampBase
namespace Go.Proofs.Ythfakifgnaollaa
open Go.RowKit

/-- A claim that is right. -/
def clB (ck ch ct cq cv : Int) : Bool := inB ck 1 2 && inB ch 0 3 && stB ct cq && inB cv 0 9999
theorem clB_1 {ck : Int} (h : inB ck 1 2 = false) (ch ct cq cv : Int) : clB ck ch ct cq cv = false := by simp [clB, h]
theorem clB_2 {ch : Int} (h : inB ch 0 3 = false) (ck ct cq cv : Int) : clB ck ch ct cq cv = false := by simp [clB, h]
theorem clB_3 {ct cq : Int} (h : stB ct cq = false) (ck ch cv : Int) : clB ck ch ct cq cv = false := by simp [clB, h]
theorem clB_4 {ck ch ct cq : Int} (h1 : inB ck 1 2 = true) (h2 : inB ch 0 3 = true) (h3 : stB ct cq = true) (cv : Int) : clB ck ch ct cq cv = inB cv 0 9999 := by simp [clB, h1, h2, h3]
theorem clB_bd {ck ch ct cq cv : Int} (h : clB ck ch ct cq cv = true) : (1 ≤ ck ∧ ck ≤ 2) ∧ (0 ≤ ch ∧ ch ≤ 3) ∧ (0 ≤ ct ∧ ct ≤ 100000 ∧ 0 ≤ cq ∧ cq ≤ 15) ∧ 0 ≤ cv ∧ cv ≤ 9999 := by
  simp only [clB, Bool.and_eq_true] at h
  exact ⟨inB_true.1 h.1.1.1, inB_true.1 h.1.1.2, stB_bd h.1.2, inB_true.1 h.2⟩

/-- One number is mixed in. -/
def mix1 (x z : Int) : Int := (48271 * x + z + 1) % 2147483647
/-- Numbers are mixed in, in order. -/
def mixN (x : Int) (zs : List Int) : Int := zs.foldl mix1 x
theorem mix1_bd (x z : Int) : 0 ≤ mix1 x z ∧ mix1 x z ≤ 2147483646 := by unfold mix1; omega
theorem mix1_tmod {x z : Int} (hx : 0 ≤ x) (hz : 0 ≤ z) : Int.tmod (48271 * x + z + 1) 2147483647 = mix1 x z := Int.tmod_eq_emod_of_nonneg (by omega)
theorem mixN_bd : ∀ (zs : List Int) (x : Int), 0 ≤ x → x ≤ 2147483646 → 0 ≤ mixN x zs ∧ mixN x zs ≤ 2147483646
  | [], _, h0, h1 => ⟨h0, h1⟩
  | z :: zs, x, _, _ => mixN_bd zs (mix1 x z) (mix1_bd x z).1 (mix1_bd x z).2
theorem mixN_snoc {zs : List Int} {k : Nat} (h : k < zs.length) (x : Int) : mixN x (zs.take (k + 1)) = mix1 (mixN x (zs.take k)) (nth zs k) := by
  rw [List.take_succ_eq_append_getElem h, nth_lt h]
  unfold mixN
  rw [List.foldl_append]
  rfl
/-- Numbers that can be mixed. -/
def mixable (zs : List Int) : Prop := ∀ i, i < zs.length → 0 ≤ nth zs i ∧ nth zs i ≤ 2147483646
theorem mixable_3 {a b c : Int} (ha : 0 ≤ a ∧ a ≤ 2147483646) (hb : 0 ≤ b ∧ b ≤ 2147483646) (hc : 0 ≤ c ∧ c ≤ 2147483646) : mixable [a, b, c] := fun i hi => by
  have : i = 0 ∨ i = 1 ∨ i = 2 := by simp at hi; omega
  rcases this with rfl | rfl | rfl
  · exact ha
  · exact hb
  · exact hc
theorem mixable_5 {a b c d e : Int} (ha : 0 ≤ a ∧ a ≤ 2147483646) (hb : 0 ≤ b ∧ b ≤ 2147483646) (hc : 0 ≤ c ∧ c ≤ 2147483646) (hd : 0 ≤ d ∧ d ≤ 2147483646) (he : 0 ≤ e ∧ e ≤ 2147483646) : mixable [a, b, c, d, e] := fun i hi => by
  have : i = 0 ∨ i = 1 ∨ i = 2 ∨ i = 3 ∨ i = 4 := by simp at hi; omega
  rcases this with rfl | rfl | rfl | rfl | rfl
  · exact ha
  · exact hb
  · exact hc
  · exact hd
  · exact he

/-- What DigestOf answers. -/
def digN (ck ch ct cq cv : Int) : Int := if clB ck ch ct cq cv then mixN 7 [ck, ch, ct, cq, cv] else -1
theorem digN_no {ck ch ct cq cv : Int} (h : clB ck ch ct cq cv = false) : digN ck ch ct cq cv = -1 := by simp [digN, h]
theorem digN_yes {ck ch ct cq cv : Int} (h : clB ck ch ct cq cv = true) : digN ck ch ct cq cv = mixN 7 [ck, ch, ct, cq, cv] := by simp [digN, h]
theorem digN_bd {ck ch ct cq cv : Int} (h : clB ck ch ct cq cv = true) : 0 ≤ digN ck ch ct cq cv ∧ digN ck ch ct cq cv ≤ 2147483646 := by
  rw [digN_yes h]; exact mixN_bd _ _ (by omega) (by omega)
theorem mixable_claim {ck ch ct cq cv : Int} (h : clB ck ch ct cq cv = true) : mixable [ck, ch, ct, cq, cv] := by
  have := clB_bd h
  exact mixable_5 (by omega) (by omega) (by omega) (by omega) (by omega)

/-- Is there a seal? -/
def seB (s l c sh : Int) (zs : List Int) (ck ch ct cq cv x : Int) : Bool := clB ck ch ct cq cv && srvB s l c sh zs x
/-- A seal's tag. -/
def tagN (zs : List Int) (ck ch ct cq cv x : Int) : Int := mixN 7 [nth zs x.toNat, digN ck ch ct cq cv, x]
/-- A seal and a flag, as they are answered. -/
def seV (s l c sh : Int) (zs : List Int) (ck ch ct cq cv x : Int) : Value :=
  if seB s l c sh zs ck ch ct cq cv x then .tuple #[.agg #[.int .i64 x, .int .i64 (tagN zs ck ch ct cq cv x)], .bool true] else .tuple #[.agg #[.int .i64 0, .int .i64 0], .bool false]
theorem seB_1 {ck ch ct cq cv : Int} (h : clB ck ch ct cq cv = false) (s l c sh : Int) (zs : List Int) (x : Int) : seB s l c sh zs ck ch ct cq cv x = false := by simp [seB, h]
theorem seB_2 {s l c sh : Int} {zs : List Int} {x : Int} (h : srvB s l c sh zs x = false) (ck ch ct cq cv : Int) : seB s l c sh zs ck ch ct cq cv x = false := by simp [seB, h]
theorem seB_3 {s l c sh ck ch ct cq cv : Int} {zs : List Int} {x : Int} (h1 : clB ck ch ct cq cv = true) (h : srvB s l c sh zs x = true) : seB s l c sh zs ck ch ct cq cv x = true := by simp [seB, h, h1]
theorem seV_no {s l c sh ck ch ct cq cv : Int} {zs : List Int} {x : Int} (h : seB s l c sh zs ck ch ct cq cv x = false) : seV s l c sh zs ck ch ct cq cv x = .tuple #[.agg #[.int .i64 0, .int .i64 0], .bool false] := by simp [seV, h]
theorem seV_yes {s l c sh ck ch ct cq cv : Int} {zs : List Int} {x : Int} (h : seB s l c sh zs ck ch ct cq cv x = true) : seV s l c sh zs ck ch ct cq cv x = .tuple #[.agg #[.int .i64 x, .int .i64 (tagN zs ck ch ct cq cv x)], .bool true] := by simp [seV, h]
theorem seB_parts {s l c sh ck ch ct cq cv : Int} {zs : List Int} {x : Int} (h : seB s l c sh zs ck ch ct cq cv x = true) : clB ck ch ct cq cv = true ∧ srvB s l c sh zs x = true := by simpa [seB] using h

/-- What a server's number says of its key. -/
theorem srvB_key {s l c sh : Int} {zs : List Int} {x : Int} (h : srvB s l c sh zs x = true) : 0 ≤ x ∧ x ≤ 9 ∧ x.toNat < zs.length ∧ 1 ≤ nth zs x.toNat ∧ nth zs x.toNat ≤ 1000000 := by
  simp only [srvB, Bool.and_eq_true] at h
  have hb := okB_parts h.1
  have hx := inB_true.1 h.2
  have hk := h.1
  simp only [okB, Bool.and_eq_true, decide_eq_true_eq] at hk
  have hl := hk.1.2
  have hlt : x.toNat < zs.length := by omega
  have ha := hk.2
  unfold keysB at ha
  rw [List.all_eq_true] at ha
  have := inB_true.1 (ha _ (List.getElem_mem hlt))
  rw [nth_lt hlt]
  exact ⟨hx.1, by omega, hlt, this.1, this.2⟩
theorem mixable_seal {s l c sh ck ch ct cq cv : Int} {zs : List Int} {x : Int} (h1 : clB ck ch ct cq cv = true) (h2 : srvB s l c sh zs x = true) : mixable [nth zs x.toNat, digN ck ch ct cq cv, x] := by
  have a := srvB_key h2
  exact mixable_3 (by omega) (digN_bd h1) (by omega)
theorem tagN_bd (zs : List Int) (ck ch ct cq cv x : Int) : 0 ≤ tagN zs ck ch ct cq cv x ∧ tagN zs ck ch ct cq cv x ≤ 2147483646 := mixN_bd _ _ (by omega) (by omega)

/-- What SealRight answers. -/
def riB (s l c sh : Int) (zs : List Int) (ck ch ct cq cv x t : Int) : Bool := seB s l c sh zs ck ch ct cq cv x && decide (t = tagN zs ck ch ct cq cv x)
theorem riB_no {s l c sh ck ch ct cq cv : Int} {zs : List Int} {x : Int} (h : seB s l c sh zs ck ch ct cq cv x = false) (t : Int) : riB s l c sh zs ck ch ct cq cv x t = false := by simp [riB, h]
theorem riB_yes {s l c sh ck ch ct cq cv : Int} {zs : List Int} {x : Int} (h : seB s l c sh zs ck ch ct cq cv x = true) (t : Int) : riB s l c sh zs ck ch ct cq cv x t = decide (t = tagN zs ck ch ct cq cv x) := by simp [riB, h]

end Go.Proofs.Ythfakifgnaollaa
