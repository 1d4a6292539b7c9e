/- What laySeals and numbers of impl/l06_wire.go answer: contracts of each of them; the conditions are the sizes. -/
import Derived.Test.YtgjbebfcbpfngaaDoorWire1
import Derived.BigRegion
namespace Go.Proofs.YtgjbebfcbpfngaaDoor
open Go.RowKit Go.Deep

/-- The numbers of pairs, one behind the other. -/
def pairsN (ps : List (Int × Int)) : List Int := ps.flatMap fun p => [p.1, p.2]
theorem pairsN_len (ps : List (Int × Int)) : (pairsN ps).length = 2 * ps.length := by
  induction ps with
  | nil => rfl
  | cons p r ih => unfold pairsN at ih ⊢; rw [List.flatMap_cons, List.length_append, ih]; simp; omega
theorem sealN_is (ps : List (Int × Int)) : layAll (sealN ps) = lay ps.length ++ layAll (pairsN ps) := rfl
theorem pairsN_take {ps : List (Int × Int)} {k : Nat} {x y : Int} (hk : k < ps.length) (h : pth ps k = (x, y)) : layAll (pairsN (ps.take (k + 1))) = layAll (pairsN (ps.take k)) ++ lay x ++ lay y := by
  rw [pth_lt hk] at h
  rw [List.take_succ_eq_append_getElem hk, h]
  simp [pairsN, layAll, List.flatMap_append]
theorem pairsN_num {ps : List (Int × Int)} (h : ∀ p ∈ ps, Num p.1 ∧ Num p.2) : ∀ z ∈ pairsN ps, Num z := by
  intro z hz
  simp only [pairsN, List.mem_flatMap] at hz
  obtain ⟨p, hp, hz⟩ := hz
  simp only [List.mem_cons, List.not_mem_nil, or_false] at hz
  rcases hz with rfl | rfl
  · exact (h p hp).1
  · exact (h p hp).2
theorem seals_len {ps : List (Int × Int)} {k : Nat} (hl : ps.length ≤ 20) (h : ∀ p ∈ ps, Num p.1 ∧ Num p.2) (bs : List Int) (hb : bs.length ≤ 500) : (bs ++ lay ps.length ++ layAll (pairsN (ps.take k))).length ≤ 900 := by
  have h1 : (lay (ps.length : Int)).length ≤ 5 := lay_len ⟨by omega, by omega⟩
  have h2 := layAll_len (pairsN_num (ps := ps.take k) (fun p hp => h p (List.mem_of_mem_take hp)))
  rw [pairsN_len] at h2
  have h3 : (ps.take k).length ≤ ps.length := List.length_take_le' _ _
  simp only [List.length_append]
  omega
theorem Pairs.laid {w wr : World} {base g0 g cap : Nat} {bs : List Int} {A : Option Addr} {n : Nat} {ps : List (Int × Int)} (h : Pairs w base A n ps) (k : Laid w wr base g0 g cap bs) (hb : base ≤ w.heap.size) (hg : base ≤ g0) : Pairs wr base A n ps :=
  h.keep fun p hp => World.cell?_of_block (k.grw.block p.block (by omega) (by intro e; injection e with e; omega))
theorem Laid.alloc {w wr : World} {base g0 g cap : Nat} {bs : List Int} (h : Laid w wr base g0 g cap bs) (o : Obj) : Laid w (wr.alloc o) base g0 g cap bs :=
  ⟨World.ownsRow.alloc h.own o, grown_alloc h.grw o, h.pos⟩
theorem Laid.gpos {w wr : World} {base g0 g cap : Nat} {bs : List Int} (h : Laid w wr base g0 g cap bs) : base ≤ g ∧ g < wr.heap.size := h.own.lt g rfl
theorem Laid.row {w wr : World} {base g0 g cap : Nat} {bs : List Int} {j t : Nat} {cs : Array Value} (h : Laid w wr base g0 g cap bs) (k : Box w j t cs) (hj : j < base) (hg : base ≤ g0) : Box wr j t cs := k.kept h.grw (by intro e; injection e with e; omega)

set_option maxRecDepth 100000 in
set_option maxHeartbeats 2000000 in
theorem laySeals_is (base g cap n : Nat) (bs : List Int) (A : Option Addr) (p pc : Nat) (ps : List (Int × Int)) (w : World) (hp : Pairs w base A p ps) (hpl : p ≤ 20) (hps : ∀ p ∈ ps, Num p.1 ∧ Num p.2) (hl : bs.length = n) (hn : n ≤ 500) (hb : base ≤ w.heap.size) (h : BOwn w base g cap bs) :
    Calls Tryd.prog 29 #[.slice (some ⟨g, 0, none⟩) n cap, .slice A p pc] w (Lays w base g (bs ++ layAll (sealN ps))) := by
  have hg := (h.lt g rfl).1
  obtain ⟨q, hq⟩ : ∃ q : Int, q = (p : Int) := ⟨_, rfl⟩
  have HL := Lib.hid hp.1
  have HPS := Lib.hid hps
  have HP := Lib.hid hp
  have HN := Lib.hid (show bs.length ≤ 500 by omega)
  have HZ := Lib.hid hl
  have H := Lib.hid h
  clear h hp hps hl
  go_enter Tryd.func29, Tryd.ntmps29
  go_wp2_with fail
  refine (layNumber_is base g cap n bs p w ⟨by omega, by omega⟩ HZ.out (by omega) hb H.out).mono ?_
  rintro e w1 ⟨g1, c1, cs1, rfl, hc1, K1⟩
  have HE : Hid (cs1 = bs ++ lay ps.length ++ layAll (pairsN (ps.take 0))) := Lib.hid (by rw [hc1.out, HL.out]; simp [pairsN, layAll])
  clear hc1
  go_wp2_with fail
  go_loopw [0, 13] (fun bv iv wr => ∃ (k gr cr : Nat) (cs : List Int), k ≤ p ∧ iv = .int .i64 k ∧ bv = .slice (some ⟨gr, 0, none⟩) cs.length cr ∧ Hid (cs = bs ++ lay ps.length ++ layAll (pairsN (ps.take k))) ∧ Laid w wr base g gr cr cs) (fun _ i _ => p - (intOf i).toNat)
  case atStart => exact ⟨0, g1, c1, cs1, Nat.zero_le _, rfl, rfl, HE, K1⟩
  case round =>
    obtain ⟨k, gr, cr, cs, hk, rfl, rfl, hcs, hK⟩ := hrel
    have hcl : cs.length ≤ 900 := by rw [hcs.out]; exact seals_len (by rw [HL.out]; omega) HPS.out bs HN.out
    have hsz := hK.grw.size
    by_cases hlt : k < p
    · obtain ⟨b, o, hA, hbB, hcell⟩ := (HP.out.laid hK hb hg).2 (by omega)
      subst hA
      obtain ⟨g0, g1⟩ := hcell k hlt
      generalize hx : pth ps k = x at g0 g1
      obtain ⟨x, y⟩ := x
      have hmem : (x, y) ∈ ps := by rw [← hx, pth_lt (by rw [HL.out]; exact hlt)]; exact List.getElem_mem _
      have hnum := Lib.hid (HPS.out _ hmem)
      have hst := Lib.hid (pairsN_take (by rw [HL.out]; exact hlt) hx)
      clear hx hcell hmem
      have hlt' : (k : Int) < (p : Int) := by omega
      have V := Box.new wr 94 #[.int .i64 x, .int .i64 y]
      have KA := hK.alloc (.cells #[.int .i64 x, .int .i64 y] 94)
      have hV := hK.gpos
      have hVs : gr ≠ wr.heap.size := by omega
      obtain ⟨v0, v1⟩ := V.two
      go_wp2_with fail
      generalize (wr.alloc _ : World) = w2 at V KA v0 v1 ⊢
      generalize wr.heap.size = R at V hV hVs v0 v1 ⊢
      have hbs2 := KA.grw.size
      refine (layNumber_is base gr cr cs.length cs x w2 hnum.out.1 rfl (by omega) (by omega) KA.own).mono ?_
      rintro e w3 ⟨g3, c3, cs3, rfl, hc3, K3⟩
      have V3 := V.kept K3.grw (by intro e; injection e with e; omega)
      have KB := KA.trans K3
      have hcl3 : cs3.length ≤ 905 := by rw [hc3.out, List.length_append]; have := lay_len hnum.out.1; omega
      have hbs3 := KB.grw.size
      clear K3 KA V v0 v1 hK g0 g1
      obtain ⟨v0, v1⟩ := V3.two
      go_wp2_with fail
      refine (layNumber_is base g3 c3 cs3.length cs3 y w3 hnum.out.2 rfl (by omega) (by omega) KB.own).mono ?_
      rintro e w4 ⟨g4, c4, cs4, rfl, hc4, K4⟩
      have KC := Lib.hid (KB.trans K4)
      have HE4 : Hid (cs4 = bs ++ lay ps.length ++ layAll (pairsN (ps.take (k + 1)))) := Lib.hid (by rw [hc4.out, hc3.out, hcs.out, hst.out]; simp [List.append_assoc])
      clear K4 KB V3 v0 v1 hc3 hc4 hst
      go_wp2
      go_roundw
      case rel => exact ⟨k + 1, g4, c4, cs4, by omega, by go_num, rfl, HE4, KC.out⟩
      case measure => simp [intOf]; omega
    · have hkn : k = p := by omega
      subst hkn
      have HE2 : Hid (cs = bs ++ layAll (sealN ps)) := Lib.hid (by rw [hcs.out, sealN_is, List.take_of_length_le (by rw [HL.out]; exact Nat.le_refl _), List.append_assoc])
      go_wp2
      go_ret
      exact ⟨gr, cr, cs, rfl, HE2, hK⟩

end Go.Proofs.YtgjbebfcbpfngaaDoor
