/- What stop and number of a cursor of impl/l06_wire.go answer: contracts of each of them; the conditions are where the errors lie. -/
import Derived.Test.YtgjbebfcbpfngaaDoorWire5
namespace Go.Proofs.YtgjbebfcbpfngaaDoor
open Go.RowKit Go.Deep

theorem BRow.drop {w : World} {C b o n j : Nat} {r : List Int} (h : BRow w C (some ⟨b, o, none⟩) n r) (hj : j ≤ n) : BRow w C (some ⟨b, o + j, none⟩) (n - j) (r.drop j) := by
  refine ⟨by rw [List.length_drop, h.1], fun hn => ?_⟩
  obtain ⟨b', o', hA, hb, hc⟩ := h.2 (by omega)
  cases hA
  refine ⟨_, _, rfl, hb, fun i hi => ?_⟩
  have h1 := hc (j + i) (by omega)
  rw [Nat.add_assoc, h1]
  have : nth (r.drop j) i = nth r (j + i) := by simp [nth, List.getElem?_drop]
  rw [this]
theorem BRow.dropEnd {w : World} {C n j : Nat} {A A' : Option Addr} {r : List Int} (h : BRow w C A n r) (hj : n ≤ j) : BRow w C A' (n - j) (r.drop j) :=
  ⟨by rw [List.length_drop, h.1], fun hn => absurd hn (by omega)⟩
theorem stop_is (c : Nat) (A : Option Addr) (n cap : Nat) (k : Int) (err : Value) (a : Addr) (w : World) (h : Box w c 71 #[.slice A n cap, .int .i64 k, err]) :
    Calls Tryd.prog 98 #[.pointer (some ⟨c, 0, none⟩), .iface 154 (.pointer (some a))] w fun e w' => e = .returned (.tuple #[]) ∧ Box w' c 71 #[.slice A n cap, .int .i64 k, .iface 100 (.agg #[.int .i64 k, .iface 154 (.pointer (some a))])] ∧ w.grownBy w' (some c) := by
  obtain ⟨c0, c1, c2⟩ := h.three
  have fr := h.frozen
  have HB := Lib.hid (h.set 2 (.iface 100 (.agg #[.int .i64 k, .iface 154 (.pointer (some a))])))
  have HG := Lib.hid (grown_set (grown_refl w (some c)) 2 (.iface 100 (.agg #[.int .i64 k, .iface 154 (.pointer (some a))])))
  clear h
  go_enter Tryd.func98, Tryd.ntmps98
  go_wp2
  go_end0
  exact ⟨rfl, HB.out, HG.out⟩

theorem number_bad (c : Nat) (A : Option Addr) (n cap : Nat) (k j : Int) (a : Addr) (w : World) (hk0 : 0 ≤ k) (hk1 : k ≤ 100000) (h : Box w c 71 #[.slice A n cap, .int .i64 k, .iface 100 (.agg #[.int .i64 j, .iface 154 (.pointer (some a))])]) :
    Calls Tryd.prog 78 #[.pointer (some ⟨c, 0, none⟩)] w fun e w' => e = .returned (.int .i64 0) ∧ Box w' c 71 #[.slice A n cap, .int .i64 (k + 1), .iface 100 (.agg #[.int .i64 j, .iface 154 (.pointer (some a))])] ∧ w.grownBy w' (some c) := by
  obtain ⟨c0, c1, c2⟩ := h.three
  have fr := h.frozen
  have HB := Lib.hid (h.set 1 (.int .i64 (k + 1)))
  have HG := Lib.hid (grown_set (grown_refl w (some c)) 1 (.int .i64 (k + 1)))
  clear h
  go_enter Tryd.func78, Tryd.ntmps78
  go_wp2
  go_ret
  exact ⟨rfl, HB.out, HG.out⟩

/-- What number leaves where there is none. -/
def NoNum (w : World) (c : Nat) (A : Option Addr) (n cap : Nat) (k : Int) (aE aS aL : Addr) (r : List Int) (e : Ending) (w' : World) : Prop :=
  e = .returned (.int .i64 0) ∧ ∃ a, Box w' c 71 #[.slice A n cap, .int .i64 (k + 1), .iface 100 (.agg #[.int .i64 (k + 1), .iface 154 (.pointer (some a))])] ∧ ((r = [] ∧ a = aE) ∨ (r ≠ [] ∧ (a = aS ∨ a = aL))) ∧ w.grownBy w' (some c)
set_option maxHeartbeats 1000000 in
theorem number_no (aE aM aS aL : Addr) (B C c : Nat) (A : Option Addr) (n cap : Nat) (k : Int) (r : List Int) (w : World) (hk0 : 0 ≤ k) (hk1 : k ≤ 100000) (hE : Errs w B aE aM aS aL) (hBc : B ≤ c) (hr : BRow w C A n r) (hCc : C ≤ c) (hB : Bys r) (hx : n ≤ maxLen) (hcap : n ≤ cap) (h : Box w c 71 #[.slice A n cap, .int .i64 k, .nilIface]) (hno : num r = none) :
    Calls Tryd.prog 78 #[.pointer (some ⟨c, 0, none⟩)] w (NoNum w c A n cap k aE aS aL r) := by
  have hcl := h.lt
  obtain ⟨c0, c1, c2⟩ := h.three
  have fr := h.frozen
  have H1 := h.set 1 (.int .i64 (k + 1))
  have G1 := grown_set (grown_refl w (some c)) 1 (.int .i64 (k + 1))
  have HE := Lib.hid (hE.kept G1 (by omega) hBc)
  have HR := Lib.hid (hr.keep (w' := w.setCell ⟨c, 1, none⟩ (.int .i64 (k + 1))) (fun p hp => World.cell?_setCell_other _ _ _ _ (fun e => by rw [← e] at hp; exact absurd hp (by simp; omega))))
  have HBy := Lib.hid hB
  have HX := Lib.hid hx
  have HNO := Lib.hid hno
  clear h hE hr hB hx hno
  go_enter Tryd.func78, Tryd.ntmps78
  go_wp2_with fail
  generalize (w.setCell _ _ : World) = w1 at H1 G1 HE HR ⊢
  clear c0 c1 c2 fr
  refine (readNumber_is aE aM aS aL B C A n cap r w1 HE.out HR.out HBy.out HX.out hcap).mono ?_
  rintro e w2 ⟨hb, hpost⟩
  rcases hpost with ⟨x, j, hn, _⟩ | ⟨_, a, rfl, ha⟩
  · rw [HNO.out] at hn; cases hn
  have H2 := H1.later hb H1.lt
  have G2 := grown_trans G1 (grown_bel hb (some c))
  replace ha := Lib.hid ha
  clear H1 G1 hb
  go_wp2_with fail
  refine (stop_is c A n cap (k + 1) .nilIface a w2 H2).mono ?_
  rintro e w3 ⟨rfl, H3, G3⟩
  have HG := Lib.hid (grown_trans G2 G3)
  replace H3 := Lib.hid H3
  clear H2 G2 G3
  go_wp2
  go_ret
  exact ⟨rfl, a, H3.out, ha.out, HG.out⟩

/-- What number leaves where there is one. -/
def IsNum (w : World) (C c : Nat) (k : Int) (r : List Int) (x : Int) (j : Nat) (e : Ending) (w' : World) : Prop :=
  e = .returned (.int .i64 x) ∧ ∃ A n cap, Box w' c 71 #[.slice A n cap, .int .i64 (k + 1), .nilIface] ∧ BRow w' C A n (r.drop j) ∧ n ≤ cap ∧ n ≤ maxLen ∧ w.grownBy w' (some c)
set_option maxHeartbeats 1000000 in
theorem number_yes (aE aM aS aL : Addr) (B C c : Nat) (A : Option Addr) (n cap : Nat) (k : Int) (r : List Int) (w : World) (x : Int) (j : Nat) (hk0 : 0 ≤ k) (hk1 : k ≤ 100000) (hE : Errs w B aE aM aS aL) (hBc : B ≤ c) (hr : BRow w C A n r) (hCc : C ≤ c) (hB : Bys r) (hx : n ≤ maxLen) (hcap : n ≤ cap) (h : Box w c 71 #[.slice A n cap, .int .i64 k, .nilIface]) (hyes : num r = some (x, j)) :
    Calls Tryd.prog 78 #[.pointer (some ⟨c, 0, none⟩)] w (IsNum w C c k r x j) := by
  have hcl := h.lt
  obtain ⟨c0, c1, c2⟩ := h.three
  have fr := h.frozen
  have H1 := h.set 1 (.int .i64 (k + 1))
  have G1 := grown_set (grown_refl w (some c)) 1 (.int .i64 (k + 1))
  have HE := Lib.hid (hE.kept G1 (by omega) hBc)
  have HR := Lib.hid (hr.keep (w' := w.setCell ⟨c, 1, none⟩ (.int .i64 (k + 1))) (fun p hp => World.cell?_setCell_other _ _ _ _ (fun e => by rw [← e] at hp; exact absurd hp (by simp; omega))))
  obtain ⟨hx0, hj0, -, hjn, hjp⟩ := num_back hB hyes
  rw [hr.1] at hjn
  have HBy := Lib.hid hB
  have HX := Lib.hid hx
  have HY := Lib.hid hyes
  obtain ⟨b, o, hA, hbC, hcell⟩ := hr.2 (by omega)
  subst hA
  clear h hE hr hB hx hyes hj0 hcell
  go_enter Tryd.func78, Tryd.ntmps78
  go_wp2_with fail
  generalize (w.setCell _ _ : World) = w1 at H1 G1 HE HR ⊢
  clear c0 c1 c2 fr
  refine (readNumber_is aE aM aS aL B C _ n cap r w1 HE.out HR.out HBy.out HX.out hcap).mono ?_
  rintro e w2 ⟨hb, hpost⟩
  rcases hpost with ⟨x', j', hn, rfl⟩ | ⟨hn, _⟩
  rotate_left
  · rw [HY.out] at hn; cases hn
  obtain ⟨rfl, rfl⟩ : x' = x ∧ j' = j := by
    rw [HY.out] at hn
    simp only [Option.some.injEq, Prod.mk.injEq] at hn
    exact ⟨hn.1.symm, hn.2.symm⟩
  clear hn
  have H2 := H1.later hb H1.lt
  have G2 := grown_trans G1 (grown_bel hb (some c))
  obtain ⟨c0, c1, c2⟩ := H2.three
  have fr := H2.frozen
  have hcl2 := H2.lt
  have hC1 := H1.lt
  have HR2 := Lib.hid (HR.out.below hb (by omega))
  clear H1 G1 hb
  have hjc : (j' : Int) ≤ (n : Int) := by omega
  have hj0 : (0 : Int) ≤ (j' : Int) := by omega
  have HS1 := Lib.hid (fun v => H2.set 0 v)
  have HG2 := Lib.hid (fun v => grown_set G2 0 v)
  have HXX := HX
  clear H2 G2
  go_wp2
  · go_ret
    refine ⟨rfl, _, _, _, HS1.out _, (HR2.out.dropEnd ?_).keep (fun p hp => World.cell?_setCell_other _ _ _ _ (fun e => by rw [← e] at hp; exact absurd hp (by simp; omega))), ?_, ?_, HG2.out _⟩
    · omega
    · omega
    · have := HXX.out; unfold maxLen at this ⊢; omega
  · go_ret
    refine ⟨rfl, _, _, _, HS1.out _, (HR2.out.drop (by omega)).keep (fun p hp => World.cell?_setCell_other _ _ _ _ (fun e => by rw [← e] at hp; exact absurd hp (by simp; omega))), ?_, ?_, HG2.out _⟩
    · omega
    · have := HXX.out; unfold maxLen at this ⊢; omega

/-- A cursor: what is left to read, or none behind a fault; and how many numbers were asked for. -/
def Cu (w : World) (C c : Nat) (aE aM aS aL : Addr) (k : Int) : Option (List Int) → Prop
  | some r => Bys r ∧ ∃ A n cap, Box w c 71 #[.slice A n cap, .int .i64 k, .nilIface] ∧ BRow w C A n r ∧ n ≤ cap ∧ n ≤ maxLen
  | none => ∃ A n cap j a, Box w c 71 #[.slice A n cap, .int .i64 k, .iface 100 (.agg #[.int .i64 j, .iface 154 (.pointer (some a))])] ∧ j ≤ k ∧ (a = aE ∨ a = aM ∨ a = aS ∨ a = aL)
theorem Cu.lt {w : World} {C c : Nat} {aE aM aS aL : Addr} {k : Int} {s : Option (List Int)} (h : Cu w C c aE aM aS aL k s) : c < w.heap.size := by
  cases s with
  | none => obtain ⟨A, n, cap, j, a, hb, _⟩ := h; exact hb.lt
  | some r => obtain ⟨_, A, n, cap, hb, _⟩ := h; exact hb.lt
theorem Cu.keep {w w' : World} {C c : Nat} {aE aM aS aL : Addr} {k : Int} {s : Option (List Int)} (h : Cu w C c aE aM aS aL k s) (hc : w'.heap[c]? = w.heap[c]?) (hk : ∀ b, b < C → w'.heap[b]? = w.heap[b]?) : Cu w' C c aE aM aS aL k s := by
  cases s with
  | none => obtain ⟨A, n, cap, j, a, hb, hr⟩ := h; exact ⟨A, n, cap, j, a, hc.trans hb, hr⟩
  | some r => obtain ⟨h0, A, n, cap, hb, hr, h2⟩ := h; exact ⟨h0, A, n, cap, hc.trans hb, hr.keep (fun p hp => World.cell?_of_block (hk p.block hp)), h2⟩
theorem Cu.later {w w' : World} {C c : Nat} {aE aM aS aL : Addr} {k : Int} {s : Option (List Int)} (h : Cu w C c aE aM aS aL k s) (hb : Below w.heap.size w w') (hC : C ≤ c) : Cu w' C c aE aM aS aL k s :=
  h.keep (hb.block c h.lt) (fun b hb' => hb.block b (by have := h.lt; omega))
theorem Cu.set {w : World} {C c : Nat} {aE aM aS aL : Addr} {k : Int} {s : Option (List Int)} (h : Cu w C c aE aM aS aL k s) {p : Addr} (hp : p.block ≠ c) (hC : C ≤ p.block) (v : Value) : Cu (w.setCell p v) C c aE aM aS aL k s :=
  h.keep (Below.heap_setCell w p v c (fun e => hp e.symm)) (fun b hb => Below.heap_setCell w p v b (by omega))

/-- What a cursor that is asked for a number leaves. -/
def Asked (w : World) (C c : Nat) (aE aM aS aL : Addr) (k : Int) (s : Option (List Int)) (e : Ending) (w' : World) : Prop :=
  ∃ x, e = .returned (.int .i64 x) ∧ Hid (x = (ask s).1) ∧ Cu w' C c aE aM aS aL (k + 1) (ask s).2 ∧ w.grownBy w' (some c)
theorem number_is (aE aM aS aL : Addr) (B C c : Nat) (k : Int) (s : Option (List Int)) (w : World) (hk0 : 0 ≤ k) (hk1 : k ≤ 100000) (hE : Errs w B aE aM aS aL) (hBc : B ≤ c) (hCc : C ≤ c) (h : Cu w C c aE aM aS aL k s) :
    Calls Tryd.prog 78 #[.pointer (some ⟨c, 0, none⟩)] w (Asked w C c aE aM aS aL k s) := by
  cases s with
  | none =>
    obtain ⟨A, n, cap, j, a, hb, hj, ha⟩ := h
    refine (number_bad c A n cap k j a w hk0 hk1 hb).mono ?_
    rintro e w' ⟨rfl, hb', hg⟩
    exact ⟨0, rfl, Lib.hid rfl, ⟨A, n, cap, j, a, hb', by omega, ha⟩, hg⟩
  | some r =>
    obtain ⟨hB, A, n, cap, hb, hr, hcap, hx⟩ := h
    cases e : num r with
    | none =>
      refine (number_no aE aM aS aL B C c A n cap k r w hk0 hk1 hE hBc hr hCc hB hx hcap hb e).mono ?_
      rintro e' w' ⟨rfl, a, hb', ha, hg⟩
      refine ⟨0, rfl, Lib.hid (by rw [ask_no e]), ?_, hg⟩
      rw [ask_no e]
      refine ⟨A, n, cap, k + 1, a, hb', Int.le_refl _, ?_⟩
      rcases ha with ⟨_, rfl⟩ | ⟨_, rfl | rfl⟩
      · exact .inl rfl
      · exact .inr (.inr (.inl rfl))
      · exact .inr (.inr (.inr rfl))
    | some p =>
      obtain ⟨x, j⟩ := p
      refine (number_yes aE aM aS aL B C c A n cap k r w x j hk0 hk1 hE hBc hr hCc hB hx hcap hb e).mono ?_
      rintro e' w' ⟨rfl, A', n', cap', hb', hr', hc', hx', hg⟩
      refine ⟨x, rfl, Lib.hid (by rw [ask_yes e]), ?_, hg⟩
      rw [ask_yes e]
      exact ⟨hB.drop j, A', n', cap', hb', hr', hc', hx'⟩

end Go.Proofs.YtgjbebfcbpfngaaDoor
