/- Lists of records as cells: a row of nine cells a record; a list somewhere, read; conditions: none. -/
import Derived.Test.YtmooajppfjglaaaGreatJourKind
import Derived.Test.YtmooajppfjglaaaGreatSpecReg1
import Derived.Deep.Slices
namespace Go.Proofs.YtmooajppfjglaaaGreat
open Go Go.RowKit

/-- The cells of records, each with its list. -/
def flatC (ms : List (RecD × Value)) : List Value := ms.flatMap fun p => (p.1.cells p.2).toList
theorem flatC_len (ms : List (RecD × Value)) : (flatC ms).length = ms.length * 9 := by
  induction ms with
  | nil => rfl
  | cons p ms ih =>
    have e : flatC (p :: ms) = (p.1.cells p.2).toList ++ flatC ms := rfl
    rw [e, List.length_append, ih, List.length_cons, cells_len]
    omega
theorem flatC_app (a b : List (RecD × Value)) : flatC (a ++ b) = flatC a ++ flatC b := by simp [flatC]
theorem flatC_at {ms : List (RecD × Value)} {i : Nat} (h : i < ms.length) {j : Nat} (hj : j < 9) : (flatC ms)[i * 9 + j]? = ((ms[i]).1.cells (ms[i]).2).toList[j]? := by
  induction ms generalizing i with
  | nil => simp at h
  | cons p ms ih =>
    have e : flatC (p :: ms) = (p.1.cells p.2).toList ++ flatC ms := rfl
    rw [e]
    rcases i with _ | i
    · rw [List.getElem?_append_left (by rw [cells_len]; omega)]
      simp
    · rw [List.getElem?_append_right (by rw [cells_len]; omega), cells_len, show (i + 1) * 9 + j - 9 = i * 9 + j by omega]
      exact ih (by simpa using h)
theorem flatC_one {ms : List (RecD × Value)} (h : ∀ p ∈ ms, p.2.oneCell' = true) : ∀ u ∈ flatC ms, u.oneCell' = true := by
  intro u hu
  unfold flatC at hu
  rw [List.mem_flatMap] at hu
  obtain ⟨p, hp, hu⟩ := hu
  have h2 := h p hp
  simp only [RecD.cells, List.mem_cons, List.mem_nil_iff, or_false] at hu
  rcases hu with rfl | rfl | rfl | rfl | rfl | rfl | rfl | rfl | rfl
  all_goals first | rfl | exact h2
/-- The records' lists can be read, through blocks of F. -/
def CertsF (w : World) (F : Nat → Prop) (ms : List (RecD × Value)) : Prop := ∀ p ∈ ms, ∃ L m mc, p.2 = .slice L m mc ∧ m ≤ maxLen ∧ PairsF w F L m p.1.ps
theorem CertsF.one {w : World} {F : Nat → Prop} {ms : List (RecD × Value)} (h : CertsF w F ms) : ∀ p ∈ ms, p.2.oneCell' = true := fun p hp => by
  obtain ⟨L, m, mc, e, -⟩ := h p hp
  rw [e]
  rfl
theorem CertsF.turn {T : Nat → Prop} {w w' : World} {F : Nat → Prop} {ms : List (RecD × Value)} (h : CertsF w F ms) (ht : Turns T w w') (hd : ∀ b, F b → ¬ T b) : CertsF w' F ms := fun p hp => by
  obtain ⟨L, m, mc, e, h1, h2⟩ := h p hp
  exact ⟨L, m, mc, e, h1, h2.turn ht hd⟩
theorem CertsF.later {w w' : World} {F : Nat → Prop} {ms : List (RecD × Value)} (h : CertsF w F ms) (hb : Below w.heap.size w w') : CertsF w' F ms := h.turn (T := fun _ => False) (Turns.of_below hb) (fun _ _ h => h)
theorem CertsF.sub {w : World} {F F' : Nat → Prop} {ms : List (RecD × Value)} (h : CertsF w F ms) (hs : ∀ b, F b → F' b) : CertsF w F' ms := fun p hp => by
  obtain ⟨L, m, mc, e, h1, h2⟩ := h p hp
  exact ⟨L, m, mc, e, h1, h2.1, fun hm b o e => hs b (h2.2 hm b o e)⟩
theorem CertsF.app {w : World} {F : Nat → Prop} {a b : List (RecD × Value)} (h : CertsF w F a) (h' : CertsF w F b) : CertsF w F (a ++ b) := fun p hp => by
  rcases List.mem_append.1 hp with hp | hp
  · exact h p hp
  · exact h' p hp
/-- A list of records somewhere: nil, or at an address. -/
def ListS (ds : List RecD) (w : World) (F : Nat → Prop) (v : Value) : Prop :=
  (v = .slice none 0 0 ∧ ds = []) ∨ ∃ b o c, v = .slice (some ⟨b, o, none⟩) ds.length c ∧ ds.length ≤ c ∧ c ≤ maxLen ∧ RecsF ds w F (some ⟨b, o, none⟩) ds.length
theorem ListS.turn {T : Nat → Prop} {ds : List RecD} {w w' : World} {F : Nat → Prop} {v : Value} (h : ListS ds w F v) (ht : Turns T w w') (hd : ∀ b, F b → ¬ T b) : ListS ds w' F v := by
  rcases h with h | ⟨b, o, c, e, h1, h2, h3⟩
  · exact .inl h
  · exact .inr ⟨b, o, c, e, h1, h2, h3.turn ht hd⟩
theorem ListS.later {ds : List RecD} {w w' : World} {F : Nat → Prop} {v : Value} (h : ListS ds w F v) (hb : Below w.heap.size w w') : ListS ds w' F v := h.turn (T := fun _ => False) (Turns.of_below hb) (fun _ _ h => h)
theorem ListS.sub {ds : List RecD} {w : World} {F F' : Nat → Prop} {v : Value} (h : ListS ds w F v) (hs : ∀ b, F b → F' b) : ListS ds w F' v := by
  rcases h with h | ⟨b, o, c, e, h1, h2, h3⟩
  · exact .inl h
  · exact .inr ⟨b, o, c, e, h1, h2, h3.sub hs⟩
theorem ListS.lt {ds : List RecD} {w : World} {F : Nat → Prop} {v : Value} (h : ListS ds w F v) : ListS ds w (fun b => F b ∧ b < w.heap.size) v := by
  rcases h with h | ⟨b, o, c, e, h1, h2, h3⟩
  · exact .inl h
  · exact .inr ⟨b, o, c, e, h1, h2, h3.lt⟩
theorem ListS.at {ds : List RecD} {w : World} {F : Nat → Prop} {v : Value} (h : ListS ds w F v) : ∃ A c, v = .slice A ds.length c ∧ ds.length ≤ maxLen ∧ RecsF ds w F A ds.length := by
  rcases h with ⟨rfl, rfl⟩ | ⟨b, o, c, e, h1, h2, h3⟩
  · exact ⟨none, 0, rfl, Nat.zero_le _, rfl, fun hn => absurd hn (Nat.lt_irrefl _)⟩
  · exact ⟨_, c, e, Nat.le_trans h1 h2, h3⟩
theorem OwnCS.list {ds : List RecD} {w : World} {F : Nat → Prop} {v : Value} (h : OwnCS ds w F v) : ListS ds w F v := by
  have h' := h
  rcases h with h | ⟨G, c, Fs, hG, e, h1, h2, hR, hF⟩
  · exact .inl h
  · obtain ⟨A, c', e', hr⟩ := h'.reads
    rw [e] at e'
    injection e' with e1 e2 e3
    subst e1
    exact .inr ⟨G, 0, c, e, h1, h2, hr⟩
/-- Its cells, each record with its list. -/
theorem RecsF.cells {ds : List RecD} {w : World} {F : Nat → Prop} {b o : Nat} (h : RecsF ds w F (some ⟨b, o, none⟩) ds.length) : ∃ ms : List (RecD × Value), ms.map (·.1) = ds ∧ CertsF w F ms ∧ ∀ j x, (flatC ms)[j]? = some x → w.cell? ((⟨b, o, none⟩ : Addr).add j) = some x := by
  have each : ∀ i, i < ds.length → ∃ q : Option Addr × Nat × Nat, ∀ hi : i < ds.length, RecAt w b (o + i * 9) ds[i] (.slice q.1 q.2.1 q.2.2) ∧ q.2.1 ≤ maxLen ∧ PairsF w F q.1 q.2.1 (ds[i]).ps := by
    intro i hi
    obtain ⟨b', o', e, hF, hb, hc⟩ := h.2 (by omega)
    injection e with e
    injection e with e1 e2
    subst e1 e2
    obtain ⟨L, m, mc, h1, h2, h3⟩ := hc i hi
    exact ⟨(L, m, mc), fun _ => ⟨h1, h2, h3⟩⟩
  haveI : Inhabited (Option Addr × Nat × Nat) := ⟨(none, 0, 0)⟩
  obtain ⟨q, hq⟩ := Go.Deep.choose_lt each
  have hlen : (ds.mapIdx fun i d => (d, Value.slice (q i).1 (q i).2.1 (q i).2.2)).length = ds.length := by simp
  refine ⟨ds.mapIdx fun i d => (d, Value.slice (q i).1 (q i).2.1 (q i).2.2), ?_, fun p hp => ?_, fun j x hj => ?_⟩
  · apply List.ext_getElem
    · simp
    · intro i h1 h2
      simp
  · obtain ⟨i, hi, rfl⟩ := List.mem_iff_getElem.1 hp
    rw [hlen] at hi
    obtain ⟨h1, h2, h3⟩ := hq i hi hi
    simp only [List.getElem_mapIdx]
    exact ⟨_, _, _, rfl, h2, h3⟩
  · have hjl : j < ds.length * 9 := by
      have := (List.getElem?_eq_some_iff.1 hj).1
      rwa [flatC_len, hlen] at this
    have hi : j / 9 < ds.length := by omega
    have hjm : j % 9 < 9 := by omega
    have e := flatC_at (ms := ds.mapIdx fun i d => (d, Value.slice (q i).1 (q i).2.1 (q i).2.2)) (i := j / 9) (by rw [hlen]; exact hi) hjm
    rw [show j / 9 * 9 + j % 9 = j by omega, hj] at e
    obtain ⟨⟨c0, c1, c2, c3, c4, c5, c6, c7, c8⟩, -, -⟩ := hq (j / 9) hi hi
    rw [show (⟨b, o, none⟩ : Addr).add j = ⟨b, o + j / 9 * 9 + j % 9, none⟩ by
      unfold Addr.add
      split
      · simp_all
      · simp only [Addr.mk.injEq, true_and, and_true]; omega]
    rw [e]
    simp only [List.getElem_mapIdx, RecD.cells]
    generalize j / 9 = i at *
    generalize j % 9 = k at *
    match k, hjm with
    | 0, _ => exact c0
    | 1, _ => exact c1
    | 2, _ => exact c2
    | 3, _ => exact c3
    | 4, _ => exact c4
    | 5, _ => exact c5
    | 6, _ => exact c6
    | 7, _ => exact c7
    | 8, _ => exact c8
    | k + 9, hk => omega
theorem ListS.src {ds : List RecD} {w : World} {F : Nat → Prop} {v : Value} (h : ListS ds w F v) : ∃ ms : List (RecD × Value), ms.map (·.1) = ds ∧ CertsF w F ms ∧ Src w v ds.length 9 (flatC ms) := by
  rcases h with ⟨rfl, rfl⟩ | ⟨b, o, c, e, h1, h2, h3⟩
  · exact ⟨[], rfl, fun p hp => absurd hp (List.not_mem_nil), .inl ⟨rfl, rfl, rfl⟩⟩
  · obtain ⟨ms, hm, hc, hx⟩ := h3.cells
    refine ⟨ms, hm, hc, .inr ⟨⟨b, o, none⟩, c, e, ?_, hx, flatC_one hc.one⟩⟩
    rw [flatC_len, ← hm, List.length_map]
/-- A row of one's own, whose records' lists can be read, is a list. -/
theorem row_list {w : World} {base n : Nat} {t : TypeId} {v : Value} {ms : List (RecD × Value)} {F : Nat → Prop} (h : w.ownsRow base t 9 v n (flatC ms)) (hn : ms.length = n) (hc : CertsF w F ms) (hF : ∀ b, base ≤ b → b < w.heap.size → F b) : ListS (ms.map (·.1)) w F v := by
  have hlen : (ms.map (·.1)).length = n := by rw [List.length_map, hn]
  rcases h.2 with ⟨e, h0⟩ | ⟨g, cap, cur, e, hb, hg, h1, h2, -, -⟩
  · refine .inl ⟨e, List.eq_nil_of_length_eq_zero (by rw [hlen, h0])⟩
  · have hgl : g < w.heap.size := (h.lt g (by rw [e]; rfl)).2
    refine .inr ⟨g, 0, cap, by rw [hlen]; exact e, by rw [hlen]; exact h1, h2, rfl, fun hp => ⟨g, 0, rfl, hF g hb hgl, hgl, fun i hi => ?_⟩⟩
    have hi' : i < ms.length := by rw [List.length_map] at hi; exact hi
    obtain ⟨L, m, mc, e1, h3, h4⟩ := hc ms[i] (List.getElem_mem hi')
    have ed : (ms.map (·.1))[i] = (ms[i]).1 := by simp
    rw [ed]
    subst e
    have C : ∀ j x, j < 9 → ((ms[i]).1.cells (ms[i]).2).toList[j]? = some x → w.cell? ⟨g, 0 + i * 9 + j, none⟩ = some x := fun j x hj hx => by
      rw [Nat.zero_add, h.cellAt (i * 9 + j) (by omega), flatC_at hi' hj]
      exact hx
    refine ⟨L, m, mc, ?_, h3, h4⟩
    rw [← e1]
    exact ⟨C 0 _ (by omega) rfl, C 1 _ (by omega) rfl, C 2 _ (by omega) rfl, C 3 _ (by omega) rfl, C 4 _ (by omega) rfl, C 5 _ (by omega) rfl, C 6 _ (by omega) rfl, C 7 _ (by omega) rfl, C 8 _ (by omega) rfl⟩
theorem Src.later {w w' : World} {u : Value} {m size : Nat} {news : List Value} (h : Src w u m size news) (hb : Below w.heap.size w w') : Src w' u m size news := by
  rcases h with h | ⟨ad, c, e, h1, h2, h3⟩
  · exact .inl h
  · exact .inr ⟨ad, c, e, h1, fun j x hx => by
      have h4 := h2 j x hx
      exact (hb.cell (p := ad.add j) (block_lt_of_cell h4)).trans h4, h3⟩
end Go.Proofs.YtmooajppfjglaaaGreat
