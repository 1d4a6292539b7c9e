/- What fill of a cursor of impl/l06_wire.go leaves: its contract; the places lie all in one block. -/
import Derived.Test.YtgjbebfcbpfngaaDoorWire6
namespace Go.Proofs.YtgjbebfcbpfngaaDoor
open Go.RowKit Go.Deep

/-- Numbers put into places. -/
def putAll : Array Value → List Nat → List Int → Array Value
  | cs, o :: os, x :: xs => putAll (cs.setIfInBounds o (.int .i64 x)) os xs
  | cs, _, _ => cs
theorem putAll_size : ∀ (os : List Nat) (xs : List Int) (cs : Array Value), (putAll cs os xs).size = cs.size := by
  intro os
  induction os with
  | nil => intro xs cs; rfl
  | cons o os ih =>
    intro xs cs
    cases xs with
    | nil => rfl
    | cons x xs => rw [putAll, ih]; simp
theorem putAll_snoc : ∀ (os : List Nat) (xs : List Int) (cs : Array Value) (o : Nat) (x : Int), os.length = xs.length → putAll cs (os ++ [o]) (xs ++ [x]) = (putAll cs os xs).setIfInBounds o (.int .i64 x) := by
  intro os
  induction os with
  | nil =>
    intro xs cs o x h
    have : xs = [] := List.length_eq_zero_iff.1 h.symm
    subst this
    rfl
  | cons o' os ih =>
    intro xs cs o x h
    cases xs with
    | nil => simp at h
    | cons x' xs => simp only [List.cons_append, putAll]; exact ih xs _ o x (by simpa using h)

/-- All but two blocks are as they were. -/
structure Grown2 (w w' : World) (c N : Nat) : Prop where
  os : w'.os = w.os
  tape : w'.tape = w.tape
  output : w'.output = w.output
  size : w.heap.size ≤ w'.heap.size
  block : ∀ k, k < w.heap.size → k ≠ c → k ≠ N → w'.heap[k]? = w.heap[k]?
theorem Grown2.refl (w : World) (c N : Nat) : Grown2 w w c N := ⟨rfl, rfl, rfl, Nat.le_refl _, fun _ _ _ _ => rfl⟩
theorem Grown2.grown {w w1 w2 : World} {c N : Nat} (h : Grown2 w w1 c N) (k : w1.grownBy w2 (some c)) : Grown2 w w2 c N :=
  ⟨k.os.trans h.os, k.tape.trans h.tape, k.output.trans h.output, Nat.le_trans h.size k.size, fun i hi h1 h2 => (k.block i (Nat.lt_of_lt_of_le hi h.size) (by intro e; injection e with e; exact h1 e)).trans (h.block i hi h1 h2)⟩
theorem Grown2.set {w w1 : World} {c N : Nat} (h : Grown2 w w1 c N) (i : Nat) (v : Value) : Grown2 w (w1.setCell ⟨N, i, none⟩ v) c N :=
  ⟨h.os, h.tape, h.output, by rw [size_set]; exact h.size, fun k hk h1 h2 => (Below.heap_setCell w1 ⟨N, i, none⟩ v k h2).trans (h.block k hk h1 h2)⟩
theorem Grown2.errs {w w' : World} {c N B : Nat} {aE aM aS aL : Addr} (h : Grown2 w w' c N) (hE : Errs w B aE aM aS aL) (hB : B ≤ w.heap.size) (hc : B ≤ c) (hN : B ≤ N) : Errs w' B aE aM aS aL :=
  hE.keep fun k hk => h.block k (by omega) (by omega) (by omega)
theorem Grown2.box {w w' : World} {c N R : Nat} {t : TypeId} {cs : Array Value} (h : Grown2 w w' c N) (hb : Box w R t cs) (hc : R ≠ c) (hN : R ≠ N) : Box w' R t cs := (h.block R hb.lt hc hN).trans hb

/-- What fill leaves. -/
def Filled (w : World) (C c N : Nat) (t : TypeId) (cs : Array Value) (offs : List Nat) (aE aM aS aL : Addr) (k : Int) (s : Option (List Int)) (e : Ending) (w' : World) : Prop :=
  e = .returned (.tuple #[]) ∧ Cu w' C c aE aM aS aL (k + offs.length) (asks offs.length s).2 ∧ Box w' N t (putAll cs offs (asks offs.length s).1) ∧ Grown2 w w' c N

set_option maxHeartbeats 2000000 in
theorem fill_is (aE aM aS aL : Addr) (B C c R N n cap : Nat) (t tp : TypeId) (cs rs : Array Value) (offs : List Nat) (k : Int) (s : Option (List Int)) (w : World) (hk0 : 0 ≤ k) (hk1 : k ≤ 10000) (hE : Errs w B aE aM aS aL) (hBw : B ≤ w.heap.size) (hBc : B ≤ c) (hBN : B ≤ N) (hCc : C ≤ c) (hCN : C ≤ N) (hcN : c ≠ N) (hRc : R ≠ c) (hRN : R ≠ N)
    (h : Cu w C c aE aM aS aL k s) (hN : Box w N t cs) (hR : Box w R tp rs) (hl : offs.length = n) (hn : n ≤ 20) (hp : ∀ i, i < n → rs[i]? = some (.pointer (some ⟨N, offs.getD i 0, none⟩))) (ho : ∀ i, i < n → ∃ v, cs[offs.getD i 0]? = some v) :
    Calls Tryd.prog 76 #[.pointer (some ⟨c, 0, none⟩), .slice (some ⟨R, 0, none⟩) n cap] w (Filled w C c N t cs offs aE aM aS aL k s) := by
  have HE := Lib.hid hE
  have HL := Lib.hid hl
  have HP := Lib.hid hp
  have HO := Lib.hid ho
  have HC := Lib.hid h
  have HN := Lib.hid hN
  have HR := Lib.hid hR
  clear hE hl hp ho h hN hR
  go_enter Tryd.func76, Tryd.ntmps76
  go_wp2_with fail
  go_loopw [8] (fun iv wr => ∃ i : Nat, i ≤ n ∧ iv = .int .i64 i ∧ Cu wr C c aE aM aS aL (k + i) (asks i s).2 ∧ Box wr N t (putAll cs (offs.take i) (asks i s).1) ∧ Grown2 w wr c N) (fun i _ => n - (intOf i).toNat)
  case atStart => exact ⟨0, Nat.zero_le _, rfl, by simpa [asks] using HC.out, by simpa [asks, putAll] using HN.out, Grown2.refl _ _ _⟩
  case round =>
    obtain ⟨i, hi, rfl, hC, hN, hG⟩ := hrel
    by_cases hlt : i < n
    · have hlt' : (i : Int) < (n : Int) := by omega
      have hr := (hG.box HR.out hRc hRN).cell i
      rw [HP.out i hlt] at hr
      generalize ho : offs.getD i 0 = o at hr
      have hEr := hG.errs HE.out hBw hBc hBN
      have hk2 : k + i ≤ 100000 := by omega
      have hk3 : 0 ≤ k + i := by omega
      replace ho := Lib.hid ho
      replace hC := Lib.hid hC
      replace hEr := Lib.hid hEr
      go_wp2_with fail
      refine (number_is aE aM aS aL B C c (k + i) (asks i s).2 wr hk3 hk2 hEr.out hBc hCc hC.out).mono ?_
      rintro e w1 ⟨x, rfl, hx, hC1, hg⟩
      have hG1 := hG.grown hg
      have hN1 := hN.kept hg (by intro e; injection e with e; exact hcN e)
      obtain ⟨v, hv⟩ := HO.out i hlt
      rw [ho.out] at hv
      have hos : o < (putAll cs (offs.take i) (asks i s).1).size := by
        rw [putAll_size]
        obtain ⟨h1, _⟩ := Array.getElem?_eq_some_iff.1 hv
        exact h1
      have c1 := (hN1.cell o).trans (Array.getElem?_eq_getElem hos)
      have f1 := hN1.frozen o
      generalize (putAll cs (offs.take i) (asks i s).1)[o] = u at c1
      have HC2 := Lib.hid (hC1.set (p := ⟨N, o, none⟩) (fun e => hcN e.symm) hCN (.int .i64 x))
      have HG2 := Lib.hid (hG1.set o (.int .i64 x))
      have HN2 := Lib.hid (hN1.set o (.int .i64 x))
      have hst : Hid (asks (i + 1) s = ((asks i s).1 ++ [x], (ask (asks i s).2).2)) := Lib.hid (by rw [asks_add i 1 s, hx.out]; rfl)
      have htk : Hid (offs.take (i + 1) = offs.take i ++ [o]) := Lib.hid (by
        have hil : i < offs.length := by rw [HL.out]; exact hlt
        rw [List.take_succ_eq_append_getElem hil, ← ho.out]
        simp [List.getD, hil])
      have htl : Hid ((offs.take i).length = (asks i s).1.length) := Lib.hid (by rw [asks_len, List.length_take, HL.out]; omega)
      clear hC1 hg hG hG1 hN hN1 hos hv hx
      go_wp2
      go_roundw
      case rel =>
        refine ⟨i + 1, by omega, by go_num, ?_, ?_, HG2.out⟩
        · rw [hst.out]
          have e : k + ((i + 1 : Nat) : Int) = k + i + 1 := by omega
          rw [e]
          exact HC2.out
        · rw [hst.out, htk.out, putAll_snoc _ _ _ _ _ htl.out]
          exact HN2.out
      case measure => simp [intOf]; omega
    · obtain rfl : i = n := by omega
      have hlt' : ¬ (i : Int) < (i : Int) := by omega
      replace hC := Lib.hid hC
      replace hN := Lib.hid hN
      replace hG := Lib.hid hG
      go_wp2
      go_end0
      refine ⟨rfl, ?_, ?_, hG.out⟩
      · rw [HL.out]; exact hC.out
      · rw [HL.out]
        have := hN.out
        rw [List.take_of_length_le (by rw [HL.out]; exact Nat.le_refl _)] at this
        exact this

end Go.Proofs.YtgjbebfcbpfngaaDoor
