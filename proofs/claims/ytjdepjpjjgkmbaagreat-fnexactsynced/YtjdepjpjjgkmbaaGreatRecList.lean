/- Lists of records as cells: a row of nine cells a record; a list somewhere, read; conditions: none. -/
import Derived.Test.YtjdepjpjjgkmbaaGreatJourKind
import Derived.Test.YtjdepjpjjgkmbaaGreatSpecReg1
import Derived.Deep.Slices
namespace Go.Proofs.YtjdepjpjjgkmbaaGreat
open Go Go.RowKit

/-- The cells of records, each with its list. -/
def flatC (ms : List (RecD × Value)) : List Value := ms.flatMap fun p => (p.1.cells p.2).toList
theorem flatC_len (ms : List (RecD × Value)) : (flatC ms).length = ms.length * 9 := by
  induction ms with
  | nil => rfl
  | cons p ms ih =>
    have e : flatC (p :: ms) = (p.1.cells p.2).toList ++ flatC ms := rfl
    rw [e, List.length_append, ih, List.length_cons, cells_len]
    omega
theorem flatC_app (a b : List (RecD × Value)) : flatC (a ++ b) = flatC a ++ flatC b := by simp [flatC]
theorem flatC_at {ms : List (RecD × Value)} {i : Nat} (h : i < ms.length) {j : Nat} (hj : j < 9) : (flatC ms)[i * 9 + j]? = ((ms[i]).1.cells (ms[i]).2).toList[j]? := by
  induction ms generalizing i with
  | nil => simp at h
  | cons p ms ih =>
    have e : flatC (p :: ms) = (p.1.cells p.2).toList ++ flatC ms := rfl
    rw [e]
    rcases i with _ | i
    · rw [List.getElem?_append_left (by rw [cells_len]; omega)]
      simp
    · rw [List.getElem?_append_right (by rw [cells_len]; omega), cells_len, show (i + 1) * 9 + j - 9 = i * 9 + j by omega]
      exact ih (by simpa using h)
theorem flatC_one {ms : List (RecD × Value)} (h : ∀ p ∈ ms, p.2.oneCell' = true) : ∀ u ∈ flatC ms, u.oneCell' = true := by
  intro u hu
  unfold flatC at hu
  rw [List.mem_flatMap] at hu
  obtain ⟨p, hp, hu⟩ := hu
  have h2 := h p hp
  simp only [RecD.cells, List.mem_cons, List.mem_nil_iff, or_false] at hu
  rcases hu with rfl | rfl | rfl | rfl | rfl | rfl | rfl | rfl | rfl
  all_goals first | rfl | exact h2
/-- A list of pairs somewhere: nil, or at an address, in a block of F. -/
def SlcF (w : World) (F : Nat → Prop) (v : Value) (ps : List (Int × Int)) : Prop :=
  (v = .slice none 0 0 ∧ ps = []) ∨ ∃ b o n cap, v = .slice (some ⟨b, o, none⟩) n cap ∧ n ≤ maxLen ∧ PairsF w F (some ⟨b, o, none⟩) n ps
theorem SlcF.turn {T : Nat → Prop} {w w' : World} {F : Nat → Prop} {v : Value} {ps : List (Int × Int)} (h : SlcF w F v ps) (ht : Turns T w w') (hd : ∀ b, F b → ¬ T b) : SlcF w' F v ps := by
  rcases h with h | ⟨b, o, n, cap, e, hm, hp⟩
  · exact .inl h
  · exact .inr ⟨b, o, n, cap, e, hm, hp.turn ht hd⟩
theorem SlcF.sub {w : World} {F F' : Nat → Prop} {v : Value} {ps : List (Int × Int)} (h : SlcF w F v ps) (hs : ∀ b, F b → F' b) : SlcF w F' v ps := by
  rcases h with h | ⟨b, o, n, cap, e, hm, hp⟩
  · exact .inl h
  · exact .inr ⟨b, o, n, cap, e, hm, hp.1, fun hn b o e => hs b (hp.2 hn b o e)⟩
theorem SlcF.lt {w : World} {F : Nat → Prop} {v : Value} {ps : List (Int × Int)} (h : SlcF w F v ps) : SlcF w (fun b => F b ∧ b < w.heap.size) v ps := by
  rcases h with h | ⟨b, o, n, cap, e, hm, hp⟩
  · exact .inl h
  · refine .inr ⟨b, o, n, cap, e, hm, hp.1, fun hn b' o' e' => ⟨hp.2 hn b' o' e', ?_⟩⟩
    obtain ⟨b2, o2, e2, hb2, _⟩ := hp.1.2 hn
    rw [e'] at e2
    injection e2 with e2
    injection e2 with e2
    subst e2
    exact hb2
theorem SlcF.slc {w : World} {F : Nat → Prop} {v : Value} {ps : List (Int × Int)} (h : SlcF w F v ps) : Slc w v ps := by
  rcases h with h | ⟨b, o, n, cap, e, hm, hp⟩
  · exact .inl h
  · exact .inr ⟨b, o, n, cap, e, hp.1⟩
theorem SlcF.at {w : World} {F : Nat → Prop} {v : Value} {ps : List (Int × Int)} (h : SlcF w F v ps) : ∃ L m mc, v = .slice L m mc ∧ m ≤ maxLen ∧ PairsF w F L m ps := by
  rcases h with ⟨rfl, rfl⟩ | ⟨b, o, n, cap, e, hm, hp⟩
  · exact ⟨none, 0, 0, rfl, Nat.zero_le _, ⟨rfl, fun hn => absurd hn (by omega)⟩, fun hn => absurd hn (by omega)⟩
  · exact ⟨_, n, cap, e, hm, hp⟩
theorem OwnP.somewhere {w : World} {F : Nat → Prop} {v : Value} {ps : List (Int × Int)} (h : OwnP w F v ps) : SlcF w F v ps := by
  have h' := h
  rcases h with h | ⟨g, cap, hg, e, h0, h1, hh⟩
  · exact .inl h
  · obtain ⟨A, c, e', hm, hp, _⟩ := h'.at
    rw [e] at e'
    injection e' with e1 e2 e3
    subst e1
    exact .inr ⟨g, 0, _, cap, e, hm, hp⟩
/-- The records' lists can be read, through blocks of F. -/
def CertsF (w : World) (F : Nat → Prop) (ms : List (RecD × Value)) : Prop := ∀ p ∈ ms, SlcF w F p.2 p.1.ps
theorem CertsF.one {w : World} {F : Nat → Prop} {ms : List (RecD × Value)} (h : CertsF w F ms) : ∀ p ∈ ms, p.2.oneCell' = true := fun p hp => by
  obtain ⟨L, m, mc, e, -⟩ := (h p hp).at
  rw [e]
  rfl
theorem CertsF.turn {T : Nat → Prop} {w w' : World} {F : Nat → Prop} {ms : List (RecD × Value)} (h : CertsF w F ms) (ht : Turns T w w') (hd : ∀ b, F b → ¬ T b) : CertsF w' F ms := fun p hp => (h p hp).turn ht hd
theorem CertsF.later {w w' : World} {F : Nat → Prop} {ms : List (RecD × Value)} (h : CertsF w F ms) (hb : Below w.heap.size w w') : CertsF w' F ms := h.turn (T := fun _ => False) (Turns.of_below hb) (fun _ _ h => h)
theorem CertsF.sub {w : World} {F F' : Nat → Prop} {ms : List (RecD × Value)} (h : CertsF w F ms) (hs : ∀ b, F b → F' b) : CertsF w F' ms := fun p hp => (h p hp).sub hs
theorem CertsF.app {w : World} {F : Nat → Prop} {a b : List (RecD × Value)} (h : CertsF w F a) (h' : CertsF w F b) : CertsF w F (a ++ b) := fun p hp => by
  rcases List.mem_append.1 hp with hp | hp
  · exact h p hp
  · exact h' p hp
/-- Records' cells in a block, from a place on. -/
def CellsAt (w : World) (b o : Nat) (ms : List (RecD × Value)) : Prop := ∀ j x, (flatC ms)[j]? = some x → w.cell? ⟨b, o + j, none⟩ = some x
/-- A list of records somewhere: nil, or at an address. -/
def ListS (ds : List RecD) (w : World) (F : Nat → Prop) (v : Value) : Prop :=
  (v = .slice none 0 0 ∧ ds = []) ∨ ∃ b o c, v = .slice (some ⟨b, o, none⟩) ds.length c ∧ ds.length ≤ c ∧ c ≤ maxLen ∧ (0 < ds.length → F b ∧ b < w.heap.size) ∧ ∃ ms : List (RecD × Value), ms.map (·.1) = ds ∧ CertsF w F ms ∧ CellsAt w b o ms
theorem flatC_lt {ms : List (RecD × Value)} {j : Nat} {x : Value} (h : (flatC ms)[j]? = some x) : j < ms.length * 9 := by
  have := (List.getElem?_eq_some_iff.1 h).1
  rwa [flatC_len] at this
theorem ListS.turn {T : Nat → Prop} {ds : List RecD} {w w' : World} {F : Nat → Prop} {v : Value} (h : ListS ds w F v) (ht : Turns T w w') (hd : ∀ b, F b → ¬ T b) : ListS ds w' F v := by
  rcases h with h | ⟨b, o, c, e, h1, h2, h3, ms, hm, hc, hx⟩
  · exact .inl h
  · refine .inr ⟨b, o, c, e, h1, h2, fun hn => ⟨(h3 hn).1, Nat.lt_of_lt_of_le (h3 hn).2 ht.size⟩, ms, hm, hc.turn ht hd, fun j x hj => ?_⟩
    have hn : 0 < ds.length := by have := flatC_lt hj; rw [← hm, List.length_map]; omega
    exact (ht.cell (h3 hn).2 (hd b (h3 hn).1) _).trans (hx j x hj)
theorem ListS.later {ds : List RecD} {w w' : World} {F : Nat → Prop} {v : Value} (h : ListS ds w F v) (hb : Below w.heap.size w w') : ListS ds w' F v := h.turn (T := fun _ => False) (Turns.of_below hb) (fun _ _ h => h)
theorem ListS.sub {ds : List RecD} {w : World} {F F' : Nat → Prop} {v : Value} (h : ListS ds w F v) (hs : ∀ b, F b → F' b) : ListS ds w F' v := by
  rcases h with h | ⟨b, o, c, e, h1, h2, h3, ms, hm, hc, hx⟩
  · exact .inl h
  · exact .inr ⟨b, o, c, e, h1, h2, fun hn => ⟨hs b (h3 hn).1, (h3 hn).2⟩, ms, hm, hc.sub hs, hx⟩
theorem ListS.lt {ds : List RecD} {w : World} {F : Nat → Prop} {v : Value} (h : ListS ds w F v) : ListS ds w (fun b => F b ∧ b < w.heap.size) v := by
  rcases h with h | ⟨b, o, c, e, h1, h2, h3, ms, hm, hc, hx⟩
  · exact .inl h
  · exact .inr ⟨b, o, c, e, h1, h2, fun hn => ⟨h3 hn, (h3 hn).2⟩, ms, hm, fun p hp => (hc p hp).lt, hx⟩
theorem flatC_row {w : World} {b o : Nat} {ms : List (RecD × Value)} (hx : CellsAt w b o ms) {i : Nat} (hi : i < ms.length) : RecAt w b (o + i * 9) (ms[i]).1 (ms[i]).2 := by
  have C : ∀ j x, j < 9 → ((ms[i]).1.cells (ms[i]).2).toList[j]? = some x → w.cell? ⟨b, o + i * 9 + j, none⟩ = some x := fun j x hj h => by
    have h2 := hx (i * 9 + j) x (by rw [flatC_at hi hj]; exact h)
    rwa [← Nat.add_assoc] at h2
  exact ⟨C 0 _ (by omega) rfl, C 1 _ (by omega) rfl, C 2 _ (by omega) rfl, C 3 _ (by omega) rfl, C 4 _ (by omega) rfl, C 5 _ (by omega) rfl, C 6 _ (by omega) rfl, C 7 _ (by omega) rfl, C 8 _ (by omega) rfl⟩
theorem map_at {ms : List (RecD × Value)} {ds : List RecD} (hm : ms.map (·.1) = ds) {i : Nat} (h : i < ds.length) : ∃ h' : i < ms.length, (ms[i]).1 = ds[i] := by
  subst hm
  have h' : i < ms.length := by rwa [List.length_map] at h
  exact ⟨h', by simp⟩
theorem ListS.at {ds : List RecD} {w : World} {F : Nat → Prop} {v : Value} (h : ListS ds w F v) : ∃ A c, v = .slice A ds.length c ∧ ds.length ≤ maxLen ∧ RecsF ds w F A ds.length := by
  rcases h with ⟨rfl, rfl⟩ | ⟨b, o, c, e, h1, h2, h3, ms, hm, hc, hx⟩
  · exact ⟨none, 0, rfl, Nat.zero_le _, rfl, fun hn => absurd hn (Nat.lt_irrefl _)⟩
  · refine ⟨_, c, e, Nat.le_trans h1 h2, rfl, fun hn => ⟨b, o, rfl, (h3 hn).1, (h3 hn).2, fun i hi => ?_⟩⟩
    obtain ⟨hi', ed⟩ := map_at hm hi
    obtain ⟨L, m, mc, e1, h4, h5⟩ := (hc ms[i] (List.getElem_mem hi')).at
    have hr := flatC_row hx hi'
    rw [ed, e1] at hr
    rw [ed] at h5
    exact ⟨L, m, mc, hr, h4, h5⟩
theorem OwnCS.list {ds : List RecD} {w : World} {F : Nat → Prop} {v : Value} (h : OwnCS ds w F v) : ListS ds w F v := by
  rcases h with h | ⟨G, c, Fs, hG, e, h1, h2, hR, hF⟩
  · exact .inl h
  · have each : ∀ i, i < ds.length → ∃ u : Value, ∀ hi : i < ds.length, w.rangeAt G (i * 9) ((ds[i]).cells u).toList ∧ SlcF w F u (ds[i]).ps := by
      intro i hi
      obtain ⟨u, g1, g2⟩ := hR.row i hi
      rw [recsK_at rfl hi] at g1 g2
      obtain ⟨u', e', ho⟩ := g2
      injection e' with e'
      have hu : u = u' := by simpa [RecD.cells] using e'
      subst hu
      exact ⟨u, fun _ => ⟨g1, (ho.sub (fun b hb => (hF i hi b hb).1)).somewhere⟩⟩
    haveI : Inhabited Value := ⟨.slice none 0 0⟩
    obtain ⟨q, hq⟩ := Go.Deep.choose_lt each
    have hlen : (ds.mapIdx fun i d => (d, q i)).length = ds.length := by simp
    refine .inr ⟨G, 0, c, e, h1, h2, fun _ => ⟨hG, hR.lt⟩, ds.mapIdx fun i d => (d, q i), ?_, fun p hp => ?_, fun j x hj => ?_⟩
    · apply List.ext_getElem
      · simp
      · intro i h1 h2
        simp
    · obtain ⟨i, hi, rfl⟩ := List.mem_iff_getElem.1 hp
      rw [hlen] at hi
      simp only [List.getElem_mapIdx]
      exact (hq i hi hi).2
    · have hjl := flatC_lt hj
      rw [hlen] at hjl
      have hi : j / 9 < ds.length := by omega
      have hjm : j % 9 < 9 := by omega
      have e := flatC_at (ms := ds.mapIdx fun i d => (d, q i)) (i := j / 9) (by rw [hlen]; exact hi) hjm
      rw [show j / 9 * 9 + j % 9 = j by omega, hj] at e
      simp only [List.getElem_mapIdx] at e
      have h3 := (hq (j / 9) hi hi).1 (j % 9) x e.symm
      rwa [show j / 9 * 9 + j % 9 = 0 + j by omega] at h3
theorem ListS.src {ds : List RecD} {w : World} {F : Nat → Prop} {v : Value} (h : ListS ds w F v) : ∃ ms : List (RecD × Value), ms.map (·.1) = ds ∧ CertsF w F ms ∧ Src w v ds.length 9 (flatC ms) := by
  rcases h with ⟨rfl, rfl⟩ | ⟨b, o, c, e, h1, h2, h3, ms, hm, hc, hx⟩
  · exact ⟨[], rfl, fun p hp => absurd hp (List.not_mem_nil), .inl ⟨rfl, rfl, rfl⟩⟩
  · refine ⟨ms, hm, hc, .inr ⟨⟨b, o, none⟩, c, e, ?_, fun j x hj => ?_, flatC_one hc.one⟩⟩
    · rw [flatC_len, ← hm, List.length_map]
    · rw [show (⟨b, o, none⟩ : Addr).add j = ⟨b, o + j, none⟩ by unfold Addr.add; split <;> simp_all]
      exact hx j x hj
/-- A row of one's own, whose records' lists can be read, is a list. -/
theorem row_list {w : World} {base n : Nat} {t : TypeId} {v : Value} {ms : List (RecD × Value)} {F : Nat → Prop} (h : w.ownsRow base t 9 v n (flatC ms)) (hn : ms.length = n) (hc : CertsF w F ms) (hF : ∀ b, base ≤ b → b < w.heap.size → F b) : ListS (ms.map (·.1)) w F v := by
  have hlen : (ms.map (·.1)).length = n := by rw [List.length_map, hn]
  rcases h.2 with ⟨e, h0⟩ | ⟨g, cap, cur, e, hb, hg, h1, h2, -, -⟩
  · refine .inl ⟨e, List.eq_nil_of_length_eq_zero (by rw [hlen, h0])⟩
  · have hgl : g < w.heap.size := (h.lt g (by rw [e]; rfl)).2
    subst e
    refine .inr ⟨g, 0, cap, by rw [hlen], by rw [hlen]; exact h1, h2, fun _ => ⟨hF g hb hgl, hgl⟩, ms, rfl, hc, fun j x hj => ?_⟩
    have := flatC_lt hj
    rw [Nat.zero_add, h.cellAt j (by omega)]
    exact hj
theorem Src.later {w w' : World} {u : Value} {m size : Nat} {news : List Value} (h : Src w u m size news) (hb : Below w.heap.size w w') : Src w' u m size news := by
  rcases h with h | ⟨ad, c, e, h1, h2, h3⟩
  · exact .inl h
  · exact .inr ⟨ad, c, e, h1, fun j x hx => by
      have h4 := h2 j x hx
      exact (hb.cell (p := ad.add j) (block_lt_of_cell h4)).trans h4, h3⟩
end Go.Proofs.YtjdepjpjjgkmbaaGreat
