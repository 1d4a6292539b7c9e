/- Words of chapter 6: how numbers are laid as bytes and read from them; no conditions. -/
import Derived.Test.YtgjbebfcbpfngaaDoorNoteBase
namespace Go.Proofs.YtgjbebfcbpfngaaDoor
open Go.RowKit

/-- The bytes of a number: 7 bits each, the lowest ones first, each but the last one with 128 more. -/
def layN (x : Nat) : List Int := if h : 128 ≤ x then ((x % 128 + 128 : Nat) : Int) :: layN (x / 128) else [(x : Int)]
termination_by x
decreasing_by omega
theorem layN_big {x : Nat} (h : 128 ≤ x) : layN x = ((x % 128 + 128 : Nat) : Int) :: layN (x / 128) := by rw [layN]; simp [h]
theorem layN_small {x : Nat} (h : x < 128) : layN x = [(x : Int)] := by rw [layN]; simp; omega
/-- The bytes of an int64. -/
def lay (x : Int) : List Int := layN x.toNat
theorem lay_big {x : Int} (h : 128 ≤ x) : lay x = (x % 128 + 128) :: lay (x / 128) := by
  unfold lay
  rw [layN_big (by omega)]
  have e1 : ((x.toNat % 128 + 128 : Nat) : Int) = x % 128 + 128 := by omega
  have e2 : x.toNat / 128 = (x / 128).toNat := by omega
  rw [e1, e2]
theorem lay_small {x : Int} (h0 : 0 ≤ x) (h : x < 128) : lay x = [x] := by
  unfold lay
  rw [layN_small (by omega)]
  have e1 : ((x.toNat : Nat) : Int) = x := by omega
  rw [e1]
/-- The bytes of numbers. -/
def layAll (zs : List Int) : List Int := zs.flatMap lay
theorem layAll_nil : layAll [] = [] := rfl
theorem layAll_cons (x : Int) (r : List Int) : layAll (x :: r) = lay x ++ layAll r := rfl
theorem layAll_app (a b : List Int) : layAll (a ++ b) = layAll a ++ layAll b := by simp [layAll, List.flatMap_append]
theorem layAll_one (x : Int) : layAll [x] = lay x := by simp [layAll]

/-- A number that can be laid in at most five bytes. -/
def Num (x : Int) : Prop := 0 ≤ x ∧ x < 34359738368

theorem layN_len (k : Nat) : ∀ x : Nat, x < 128 ^ (k + 1) → (layN x).length ≤ k + 1 := by
  induction k with
  | zero => intro x hx; rw [layN_small (by simpa using hx)]; simp
  | succ k ih =>
    intro x hx
    by_cases h : 128 ≤ x
    · rw [layN_big h]
      have hx2 : x < 128 ^ (k + 1) * 128 := by rw [← Nat.pow_succ]; exact hx
      have := ih (x / 128) (Nat.div_lt_of_lt_mul (by rw [Nat.mul_comm]; exact hx2))
      simp only [List.length_cons]
      omega
    · rw [layN_small (by omega)]; simp
theorem lay_len {x : Int} (h : Num x) : (lay x).length ≤ 5 := layN_len 4 x.toNat (by have := h.1; have := h.2; omega)
theorem layN_pos (x : Nat) : 0 < (layN x).length := by
  by_cases h : 128 ≤ x
  · rw [layN_big h]; simp
  · rw [layN_small (by omega)]; simp
theorem lay_pos (x : Int) : 0 < (lay x).length := layN_pos _
theorem layAll_len {zs : List Int} (h : ∀ z ∈ zs, Num z) : (layAll zs).length ≤ 5 * zs.length := by
  induction zs with
  | nil => simp [layAll]
  | cons x r ih =>
    rw [layAll_cons, List.length_append, List.length_cons]
    have h1 := lay_len (h x (by simp))
    have h2 := ih (fun z hz => h z (by simp [hz]))
    omega
theorem layN_bytes (x : Nat) : ∀ z ∈ layN x, 0 ≤ z ∧ z ≤ 255 := by
  induction x using layN.induct with
  | case1 x h ih =>
    rw [layN_big h]
    intro z hz
    rcases List.mem_cons.1 hz with rfl | hz
    · omega
    · exact ih z hz
  | case2 x h => rw [layN_small (by omega)]; intro z hz; simp at hz; omega
theorem lay_bytes (x : Int) : ∀ z ∈ lay x, 0 ≤ z ∧ z ≤ 255 := layN_bytes _
theorem layAll_bytes (zs : List Int) : ∀ z ∈ layAll zs, 0 ≤ z ∧ z ≤ 255 := by
  intro z hz
  simp only [layAll, List.mem_flatMap] at hz
  obtain ⟨x, _, hx⟩ := hz
  exact lay_bytes x z hx

/-- The numbers of seals. -/
def sealN (ps : List (Int × Int)) : List Int := (ps.length : Int) :: ps.flatMap fun p => [p.1, p.2]
/-- The numbers of a note that are no lists. -/
def numN (k1 k2 k3 k4 k5 t1 t2 v1 o1 o2 v2 l1 l2 v3 : Int) : List Int := [k1, k2, k3, k4, k5, t1, t2, v1, o1, o2, v2, l1, l2, v3]
/-- The bytes of a note: its fourteen numbers, then its lists. -/
def packN (ns : List Int) (ps qs : List (Int × Int)) : List Int := layAll ns ++ (layAll (sealN ps) ++ layAll (sealN qs))

/-- What is said of a note that is right: its numbers can be laid. -/
structure Fits (k1 k2 k3 k4 k5 t1 t2 v1 o1 o2 v2 l1 l2 v3 : Int) (ps qs : List (Int × Int)) : Prop where
  num : ∀ z ∈ numN k1 k2 k3 k4 k5 t1 t2 v1 o1 o2 v2 l1 l2 v3, Num z
  pl : ps.length ≤ 20
  ql : qs.length ≤ 20
  ps : ∀ p ∈ ps, Num p.1 ∧ Num p.2
  qs : ∀ p ∈ qs, Num p.1 ∧ Num p.2

theorem sealN_num {ps : List (Int × Int)} (hl : ps.length ≤ 20) (h : ∀ p ∈ ps, Num p.1 ∧ Num p.2) : ∀ z ∈ sealN ps, Num z := by
  intro z hz
  rcases List.mem_cons.1 hz with rfl | hz
  · exact ⟨by omega, by omega⟩
  · simp only [List.mem_flatMap] at hz
    obtain ⟨p, hp, hz⟩ := hz
    simp only [List.mem_cons, List.not_mem_nil, or_false] at hz
    rcases hz with rfl | rfl
    · exact (h p hp).1
    · exact (h p hp).2
theorem sealN_len (ps : List (Int × Int)) : (sealN ps).length = 2 * ps.length + 1 := by
  unfold sealN
  rw [List.length_cons]
  congr 1
  induction ps with
  | nil => rfl
  | cons p r ih => rw [List.flatMap_cons, List.length_append, ih]; simp; omega
theorem stB_num {a b : Int} (h : stB a b = true) : Num a ∧ Num b := by
  have := stB_bd h
  exact ⟨⟨this.1, by omega⟩, this.2.2.1, by omega⟩
theorem fit_num {ps : List (Int × Int)} (h : fitB ps = true) : ps.length ≤ 20 ∧ ∀ p ∈ ps, Num p.1 ∧ Num p.2 := by
  simp only [fitB, Bool.and_eq_true, decide_eq_true_eq, sealsB, List.all_eq_true, seal1B] at h
  refine ⟨h.1, fun p hp => ?_⟩
  have h1 := inB_true.1 (h.2 p hp).1
  have h2 := inB_true.1 (h.2 p hp).2
  exact ⟨⟨h1.1, by omega⟩, h2.1, by omega⟩
theorem srv_num {s l c sh : Int} {zs : List Int} {x : Int} (h : srvB s l c sh zs x = true) : Num x := by
  simp only [srvB, Bool.and_eq_true] at h
  have h1 := okB_parts h.1
  have h2 := inB_true.1 h.2
  exact ⟨h2.1, by omega⟩
theorem cli_num {s l c sh : Int} {zs : List Int} {x : Int} (h : cliB s l c sh zs x = true) : Num x := by
  simp only [cliB, Bool.and_eq_true] at h
  have h1 := okB_parts h.1
  have h2 := inB_true.1 h.2
  exact ⟨by omega, by omega⟩
theorem shf_num {s l c sh : Int} {zs : List Int} {x : Int} (h : shfB s l c sh zs x = true) : Num x := by
  simp only [shfB, Bool.and_eq_true] at h
  have h1 := okB_sh h.1
  have h2 := inB_true.1 h.2
  exact ⟨h2.1, by omega⟩
theorem val_num {x : Int} (h : valB x = true) : Num x := by
  have h2 := inB_true.1 h
  exact ⟨h2.1, by omega⟩
theorem kd_num {s l c sh : Int} {zs : List Int} {k1 k2 k3 : Int} {hv hp : Bool} (h : kdB s l c sh zs k1 k2 k3 hv hp = true) : Num k1 ∧ Num k2 ∧ Num k3 := by
  unfold kdB at h
  split at h
  · rename_i e; simp only [Bool.and_eq_true] at h; exact ⟨⟨by omega, by omega⟩, cli_num h.1.2, srv_num h.2⟩
  split at h
  · rename_i e; simp only [Bool.and_eq_true] at h; exact ⟨⟨by omega, by omega⟩, cli_num h.1.2, srv_num h.2⟩
  split at h
  · rename_i e; simp only [Bool.and_eq_true] at h; exact ⟨⟨by omega, by omega⟩, cli_num h.1, srv_num h.2⟩
  split at h
  · rename_i e; simp only [Bool.and_eq_true] at h; exact ⟨⟨by omega, by omega⟩, srv_num h.1.2, cli_num h.2⟩
  · cases h
/-- A note that is right can be laid. -/
theorem nt_fits {s l c sh : Int} {zs : List Int} {k1 k2 k3 k4 k5 t1 t2 v1 o1 o2 v2 : Int} {ps qs : List (Int × Int)} {l1 l2 v3 : Int} (h : ntB s l c sh zs k1 k2 k3 k4 k5 t1 t2 v1 o1 o2 v2 ps qs l1 l2 v3 = true) :
    Fits k1 k2 k3 k4 k5 t1 t2 v1 o1 o2 v2 l1 l2 v3 ps qs := by
  simp only [ntB, Bool.and_eq_true, stsB, valsB] at h
  obtain ⟨⟨⟨⟨⟨⟨h4, h5⟩, ⟨ht, ho⟩, hl⟩, ⟨hv1, hv2⟩, hv3⟩, hp⟩, hq⟩, hk⟩ := h
  have h4 := inB_true.1 h4
  obtain ⟨a1, a2, a3⟩ := kd_num hk
  obtain ⟨b1, b2⟩ := stB_num ht
  obtain ⟨b3, b4⟩ := stB_num ho
  obtain ⟨b5, b6⟩ := stB_num hl
  refine ⟨fun z hz => ?_, (fit_num hp).1, (fit_num hq).1, (fit_num hp).2, (fit_num hq).2⟩
  simp only [numN, List.mem_cons, List.not_mem_nil, or_false] at hz
  rcases hz with rfl | rfl | rfl | rfl | rfl | rfl | rfl | rfl | rfl | rfl | rfl | rfl | rfl | rfl
  · exact a1
  · exact a2
  · exact a3
  · exact ⟨h4.1, by omega⟩
  · exact shf_num h5
  · exact b1
  · exact b2
  · exact val_num hv1
  · exact b3
  · exact b4
  · exact val_num hv2
  · exact b5
  · exact b6
  · exact val_num hv3

end Go.Proofs.YtgjbebfcbpfngaaDoor
