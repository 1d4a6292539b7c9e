/- What seals of a cursor of impl/l06_wire.go answers: its contract. -/
import Derived.Test.YtgjbebfcbpfngaaDoorWire7
import Derived.Test.YtgjbebfcbpfngaaDoorCopiesSeal
import Derived.Deep.RegionWith
namespace Go.Proofs.YtgjbebfcbpfngaaDoor
open Go.RowKit Go.Deep

theorem putAll_app : ∀ (os : List Nat) (xs : List Int) (cs : Array Value) (os' : List Nat) (xs' : List Int), os.length = xs.length → putAll cs (os ++ os') (xs ++ xs') = putAll (putAll cs os xs) os' xs' := by
  intro os
  induction os with
  | nil =>
    intro xs cs os' xs' h
    have : xs = [] := List.length_eq_zero_iff.1 h.symm
    subst this
    rfl
  | cons o os ih =>
    intro xs cs os' xs' h
    cases xs with
    | nil => simp at h
    | cons x xs => simp only [List.cons_append, putAll]; exact ih xs _ os' xs' (by simpa using h)
theorem putAll_far : ∀ (os : List Nat) (xs : List Int) (cs : Array Value) (j : Nat), j ∉ os → (putAll cs os xs)[j]? = cs[j]? := by
  intro os
  induction os with
  | nil => intro xs cs j _; rfl
  | cons o os ih =>
    intro xs cs j h
    cases xs with
    | nil => rfl
    | cons x xs =>
      simp only [List.mem_cons, not_or] at h
      rw [putAll, ih xs _ j h.2, Array.getElem?_setIfInBounds_ne (fun e => h.1 e.symm)]
/-- Numbers put into the first places. -/
theorem putAll_range (xs : List Int) : ∀ (cs : Array Value) (n : Nat), xs.length = n → n ≤ cs.size → ∀ j, j < n → (putAll cs (List.range n) xs)[j]? = some (.int .i64 (nth xs j)) := by
  intro cs n
  induction n generalizing xs with
  | zero => intro _ _ j hj; omega
  | succ n ih =>
    intro hl hs j hj
    obtain ⟨ys, y, rfl⟩ : ∃ ys y, xs = ys ++ [y] := ⟨xs.dropLast, xs.getLast (by intro e; subst e; simp at hl), (List.dropLast_concat_getLast _).symm⟩
    have hyl : ys.length = n := by simpa using hl
    rw [List.range_succ, putAll_snoc _ _ _ _ _ (by simp [hyl])]
    by_cases e : j = n
    · subst e
      rw [Array.getElem?_setIfInBounds]
      simp [putAll_size, show j < cs.size by omega, nth, hyl]
    · rw [Array.getElem?_setIfInBounds_ne (fun e' => e e'.symm), ih ys hyl (by omega) j (by omega)]
      simp [nth, hyl, show j < n by omega, List.getElem?_append]
theorem pairUp_nth : ∀ (m : Nat) (xs : List Int), xs.length = 2 * m → ∀ i, i < m → pth (pairUp xs) i = (nth xs (i * 2), nth xs (i * 2 + 1)) := by
  intro m
  induction m with
  | zero => intro xs _ i hi; omega
  | succ m ih =>
    intro xs h i hi
    match xs, h with
    | [], h => simp at h
    | [a], h => simp at h; omega
    | a :: b :: r, h =>
      cases i with
      | zero => rfl
      | succ i =>
        have := ih r (by simp at h; omega) i (by omega)
        simp only [pairUp]
        have e : pth ((a, b) :: pairUp r) (i + 1) = pth (pairUp r) i := by simp [pth]
        rw [e, this]
        have e1 : nth (a :: b :: r) ((i + 1) * 2) = nth r (i * 2) := by rw [show (i + 1) * 2 = i * 2 + 2 by omega]; simp [nth]
        have e2 : nth (a :: b :: r) ((i + 1) * 2 + 1) = nth r (i * 2 + 1) := by rw [show (i + 1) * 2 + 1 = i * 2 + 1 + 2 by omega]; simp [nth]
        rw [e1, e2]
theorem held_put {w : World} {g m : Nat} {t : TypeId} {cs : Array Value} {xs : List Int} (h : Box w g t (putAll cs (List.range (2 * m)) xs)) (hx : xs.length = 2 * m) (hs : cs.size = 2 * m) : Held w g (pairUp xs) := by
  have hl := (pairs_pairUp m xs hx).2
  refine ⟨h.lt, h.frozen, fun i hi => ?_, fun i hi => ?_⟩
  · rw [h.cell, putAll_range xs cs (2 * m) hx (by omega) (i * 2) (by omega), pairUp_nth m xs hx i (by omega)]
  · rw [h.cell, putAll_range xs cs (2 * m) hx (by omega) (i * 2 + 1) (by omega), pairUp_nth m xs hx i (by omega)]
theorem ask_zero {s : Option (List Int)} (h : (ask s).2 = none) : (ask s).1 = 0 := by
  cases s with
  | none => rfl
  | some r =>
    cases e : num r with
    | none => rw [ask_no e]
    | some p => rw [ask_yes (x := p.1) (k := p.2) e] at h; cases h

theorem Grown2.trans {w w1 w2 : World} {c N : Nat} (h : Grown2 w w1 c N) (k : Grown2 w1 w2 c N) : Grown2 w w2 c N :=
  ⟨k.os.trans h.os, k.tape.trans h.tape, k.output.trans h.output, Nat.le_trans h.size k.size, fun i hi h1 h2 => (k.block i (Nat.lt_of_lt_of_le hi h.size) h1 h2).trans (h.block i hi h1 h2)⟩
theorem Grown2.bel {w w' : World} {c N : Nat} (h : Below w.heap.size w w') : Grown2 w w' c N := ⟨h.os, h.tape, h.output, h.size, fun i hi _ _ => h.block i hi⟩

/-- What seals leaves. -/
def GotSeals (w : World) (C c : Nat) (aE aM aS aL : Addr) (k : Int) (s : Option (List Int)) (e : Ending) (w' : World) : Prop :=
  ∃ (k' : Int) (u : Value) (ps : List (Int × Int)), e = .returned u ∧ Hid (ps = (askSeals s).1) ∧ k ≤ k' ∧ k' ≤ k + 41 ∧ Cu w' C c aE aM aS aL k' (askSeals s).2 ∧ w.grownBy w' (some c) ∧
    ((u = .slice none 0 0 ∧ ps = [] ∧ (askSeals s).2 = none) ∨ ∃ g n, u = .slice (some ⟨g, 0, none⟩) n n ∧ ps.length = n ∧ w.heap.size ≤ g ∧ Held w' g ps)

set_option maxRecDepth 100000 in
set_option maxHeartbeats 4000000 in
theorem seals_many (aE aM aS aL : Addr) (B C c : Nat) (k : Int) (s : Option (List Int)) (w : World) (hk0 : 0 ≤ k) (hk1 : k ≤ 1000) (hE : Errs w B aE aM aS aL) (hBw : B ≤ w.heap.size) (hBc : B ≤ c) (hCc : C ≤ c) (h : Cu w C c aE aM aS aL k s) (hmany : 20 < (ask s).1) :
    Calls Tryd.prog 77 #[.pointer (some ⟨c, 0, none⟩)] w (GotSeals w C c aE aM aS aL k s) := by
  have HE := Lib.hid hE
  have HC := Lib.hid h
  have HM := Lib.hid hmany
  have hs : (askSeals s) = ([], none) := by unfold askSeals; rw [if_pos hmany]
  have HS := Lib.hid hs
  clear hE h hmany hs
  go_enter Tryd.func77, Tryd.ntmps77
  go_wp2_with fail
  refine (number_is aE aM aS aL B C c k s w hk0 (by omega) HE.out hBc hCc HC.out).mono ?_
  rintro e w1 ⟨x, rfl, hx, hC1, hg⟩
  have hx20 : 20 < x := by rw [hx.out]; exact HM.out
  have E1 := HE.out.kept hg (by omega) hBc
  have e1 := E1.e1
  cases hst : (ask s).2 with
  | none => have := ask_zero hst; have := HM.out; omega
  | some r =>
  rw [hst] at hC1
  obtain ⟨_, A, n, cap, hb, _⟩ := hC1
  replace hst := Lib.hid hst
  replace E1 := Lib.hid E1
  go_wp2_with fail
  refine (stop_is c A n cap (k + 1) .nilIface aM w1 hb).mono ?_
  rintro e w2 ⟨rfl, hb2, hg2⟩
  have HG := Lib.hid (grown_trans hg hg2)
  replace hb2 := Lib.hid hb2
  clear hb hg hg2 e1
  go_wp2
  go_ret
  refine ⟨k + 1, .slice none 0 0, [], rfl, Lib.hid (by rw [HS.out]), by omega, by omega, ?_, HG.out, .inl ⟨rfl, rfl, by rw [HS.out]⟩⟩
  rw [HS.out]
  exact ⟨A, n, cap, k + 1, aM, hb2.out, Int.le_refl _, .inr (.inl rfl)⟩

set_option maxRecDepth 100000 in
set_option maxHeartbeats 4000000 in
theorem seals_few (aE aM aS aL : Addr) (B C c m : Nat) (k : Int) (s : Option (List Int)) (w : World) (hk0 : 0 ≤ k) (hk1 : k ≤ 1000) (hE : Errs w B aE aM aS aL) (hBw : B ≤ w.heap.size) (hBc : B ≤ c) (hCc : C ≤ c) (h : Cu w C c aE aM aS aL k s) (hm : (ask s).1 = (m : Int)) (hm20 : m ≤ 20) :
    Calls Tryd.prog 77 #[.pointer (some ⟨c, 0, none⟩)] w (GotSeals w C c aE aM aS aL k s) := by
  have hmk := fun W => run_make_pairs (P := Tryd.prog) 29 94 Tryd.underlying29 Tryd.infoSeal m (by omega) W
  have HE := Lib.hid hE
  have HC := Lib.hid h
  have hcl := h.lt
  have hs : askSeals s = (pairUp (asks (2 * m) (ask s).2).1, (asks (2 * m) (ask s).2).2) := by
    unfold askSeals
    rw [hm, if_neg (by omega)]
    simp
  have HS := Lib.hid hs
  have HM := Lib.hid hm
  clear hE h hs hm
  go_enter Tryd.func77, Tryd.ntmps77
  go_wp2_with fail
  refine (number_is aE aM aS aL B C c k s w hk0 (by omega) HE.out hBc hCc HC.out).mono ?_
  rintro e w1 ⟨x, rfl, hx, hC1, hg⟩
  obtain rfl : x = (m : Int) := by rw [hx.out, HM.out]
  have E1 := HE.out.kept hg (by omega) hBc
  have hgs := hg.size
  replace E1 := Lib.hid E1
  replace hC1 := Lib.hid hC1
  generalize (ask s).2 = s1 at HS hC1
  have hm1 : ¬ (20 : Int) < (m : Int) := by omega
  go_wp2_with fail
  have hcs : (madeCells #[.int .i64 0, .int .i64 0] (m * 2)).size = 2 * m := by rw [size_madeCells]; omega
  have N1 := Box.new w1 94 (madeCells #[.int .i64 0, .int .i64 0] (m * 2))
  have F1 := bel_alloc w1 (.cells (madeCells #[.int .i64 0, .int .i64 0] (m * 2)) 94)
  have hC2 := Lib.hid (hC1.out.later F1 hCc)
  have E2 := Lib.hid (E1.out.later F1 (by omega))
  have G2 := grown_trans hg (grown_bel F1 (some c))
  have hcl1 := hC1.out.lt
  have hs2 : (w1.alloc (.cells (madeCells #[.int .i64 0, .int .i64 0] (m * 2)) 94)).heap.size = w1.heap.size + 1 := by simp
  replace hs2 := Lib.hid hs2
  replace hcs := Lib.hid hcs
  generalize (w1.alloc _ : World) = w2 at N1 F1 hC2 E2 G2 hs2 ⊢
  generalize (madeCells #[.int .i64 0, .int .i64 0] (m * 2)) = cs at N1 hcs
  generalize w1.heap.size = g at N1 hgs hcl1 hs2 ⊢
  clear hmk hC1 E1 hg F1
  have hgl := N1.lt
  go_loopw [17] (fun iv wr => ∃ i : Nat, i ≤ m ∧ iv = .int .i64 i ∧ Cu wr C c aE aM aS aL (k + 1 + 2 * i) (asks (2 * i) s1).2 ∧ Box wr g 94 (putAll cs (List.range (2 * i)) (asks (2 * i) s1).1) ∧ Grown2 w2 wr c g) (fun i _ => m - (intOf i).toNat)
  case atStart => exact ⟨0, Nat.zero_le _, rfl, by simpa [asks] using hC2.out, by simpa [asks, putAll] using N1, Grown2.refl _ _ _⟩
  case round =>
    obtain ⟨i, hi, rfl, hC, hN, hG⟩ := hrel
    by_cases hlt : i < m
    · have hlt' : (i : Int) < (m : Int) := by omega
      have hEr := hG.errs E2.out (by omega) hBc (by omega)
      have hgs2 := hG.size
      have hR := Box.new wr 57 #[.pointer (some ⟨g, i * 2, none⟩), .pointer (some ⟨g, i * 2 + 1, none⟩)]
      have F := bel_alloc wr (.cells #[.pointer (some ⟨g, i * 2, none⟩), .pointer (some ⟨g, i * 2 + 1, none⟩)] 57)
      have hCr := Lib.hid (hC.later F hCc)
      have hNr := Lib.hid (hN.later F hN.lt)
      have hEr := Lib.hid (hEr.later F (by omega))
      have hgr := hN.lt
      have hcr := hC.lt
      have hk2 : k + 1 + 2 * i ≤ 10000 := by omega
      have hk3 : 0 ≤ k + 1 + 2 * i := by omega
      have hsz : Hid ((putAll cs (List.range (2 * i)) (asks (2 * i) s1).1).size = 2 * m) := Lib.hid (by rw [putAll_size, hcs.out])
      replace hR := Lib.hid hR
      replace F := Lib.hid F
      generalize hst : (asks (2 * i) s1).2 = st at hCr
      replace hst := Lib.hid hst
      clear hN hC
      go_wp2_with fail
      have hcall := Lib.hid (fill_is aE aM aS aL B C c wr.heap.size g 2 2 94 57 (putAll cs (List.range (2 * i)) (asks (2 * i) s1).1) #[.pointer (some ⟨g, i * 2, none⟩), .pointer (some ⟨g, i * 2 + 1, none⟩)] [i * 2, i * 2 + 1] (k + 1 + 2 * i) st
        (wr.alloc (.cells #[.pointer (some ⟨g, i * 2, none⟩), .pointer (some ⟨g, i * 2 + 1, none⟩)] 57)).drew hk3 hk2 (hEr.out.keep fun _ _ => rfl) (by simp; omega) hBc (by omega) hCc (by omega) (by omega) (by omega) (by omega) (hCr.out.keep rfl fun _ _ => rfl) hNr.out hR.out rfl (by omega)
        (by intro j hj; rcases j with _ | _ | j; rfl; rfl; omega)
        (by
          intro j hj
          rcases j with _ | _ | j
          · exact ⟨_, Array.getElem?_eq_getElem (by rw [hsz.out]; simp; omega)⟩
          · exact ⟨_, Array.getElem?_eq_getElem (by rw [hsz.out]; simp; omega)⟩
          · omega))
      go_region_with (go_at_call 76; refine hcall.out.mono ?_; rintro e w3 ⟨rfl, hC3, hN3, hG3⟩)
      all_goals
        have ha : asks (2 * (i + 1)) s1 = ((asks (2 * i) s1).1 ++ (asks 2 st).1, (asks 2 st).2) := by rw [show 2 * (i + 1) = 2 * i + 2 by omega, asks_add, hst.out]
        have hrg : List.range (2 * (i + 1)) = List.range (2 * i) ++ [i * 2, i * 2 + 1] := by
          rw [show 2 * (i + 1) = 2 * i + 1 + 1 by omega, List.range_succ, List.range_succ, show i * 2 = 2 * i by omega, List.append_assoc]; rfl
        have HC4 : Hid (Cu w3 C c aE aM aS aL (k + 1 + 2 * ((i + 1 : Nat) : Int)) (asks (2 * (i + 1)) s1).2) := Lib.hid (by
          rw [ha]
          have e : k + 1 + 2 * ((i + 1 : Nat) : Int) = k + 1 + 2 * i + ([i * 2, i * 2 + 1].length : Nat) := by simp; omega
          rw [e]
          exact hC3)
        have HN4 : Hid (Box w3 g 94 (putAll cs (List.range (2 * (i + 1))) (asks (2 * (i + 1)) s1).1)) := Lib.hid (by
          rw [ha, hrg, putAll_app _ _ _ _ _ (by simp [asks_len])]
          exact hN3)
        have HG4 : Hid (Grown2 w2 w3 c g) := Lib.hid ((hG.trans (Grown2.bel F.out.drew)).trans hG3)
        clear ha hrg hC3 hN3 hG3 hG
        go_wp2
        go_roundw
        case rel => exact ⟨i + 1, by omega, by go_num, HC4.out, HN4.out, HG4.out⟩
        case measure => simp [intOf]; omega
    · obtain rfl : i = m := by omega
      have hlt' : ¬ (i : Int) < (i : Int) := by omega
      replace hC := Lib.hid hC
      have hH := Lib.hid (held_put hN (asks_len _ _) hcs.out)
      have hGG : Hid (w.grownBy wr (some c)) := Lib.hid ⟨hG.os.trans G2.os, hG.tape.trans G2.tape, hG.output.trans G2.output, Nat.le_trans G2.size hG.size, fun j hj hne => (hG.block j (Nat.lt_of_lt_of_le hj G2.size) (fun e => hne (by rw [e])) (by omega)).trans (G2.block j hj hne)⟩
      clear hN hG
      go_wp2
      go_ret
      refine ⟨k + 1 + 2 * i, _, pairUp (asks (2 * i) s1).1, rfl, Lib.hid (by rw [HS.out]), by omega, by omega, ?_, hGG.out, .inr ⟨g, i, rfl, (pairs_pairUp i _ (asks_len _ _)).2, by omega, hH.out⟩⟩
      rw [HS.out]
      exact hC.out

theorem seals_is (aE aM aS aL : Addr) (B C c : Nat) (k : Int) (s : Option (List Int)) (w : World) (hk0 : 0 ≤ k) (hk1 : k ≤ 1000) (hE : Errs w B aE aM aS aL) (hBw : B ≤ w.heap.size) (hBc : B ≤ c) (hCc : C ≤ c) (h : Cu w C c aE aM aS aL k s) (hb : SBys s) :
    Calls Tryd.prog 77 #[.pointer (some ⟨c, 0, none⟩)] w (GotSeals w C c aE aM aS aL k s) := by
  have h0 := (ask_bound hb).1
  by_cases hm : 20 < (ask s).1
  · exact seals_many aE aM aS aL B C c k s w hk0 hk1 hE hBw hBc hCc h hm
  · exact seals_few aE aM aS aL B C c (ask s).1.toNat k s w hk0 hk1 hE hBw hBc hCc h (by omega) (by omega)

end Go.Proofs.YtgjbebfcbpfngaaDoor
