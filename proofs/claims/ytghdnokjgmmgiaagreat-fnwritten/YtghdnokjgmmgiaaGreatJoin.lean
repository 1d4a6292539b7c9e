/- JoinSeals: what it answers is what its model puts together, in memory of its own; up to some four million seals. -/
import Derived.Test.YtghdnokjgmmgiaaGreatSortStable
import Derived.Test.YtghdnokjgmmgiaaGreatSortCompact
import Derived.Test.YtghdnokjgmmgiaaGreatSortConcat
import Derived.Test.YtghdnokjgmmgiaaGreatSpecStamp
namespace Go.Proofs.YtghdnokjgmmgiaaGreat
open Go.RowKit

set_option maxRecDepth 100000 in
theorem insSort_nil (w : World) : Calls Tryz.prog 133 #[.slice none 0 0, .int .i64 0, .int .i64 0, (.func (Fn.func 115) #[] #[])] w fun e w' => e = .returned (.tuple #[]) ∧ w = w' := by
  go_enter Tryz.func133, Tryz.ntmps133
  go_wp2_with fail
  go_loopw [8] (fun i wr => i = .int .i64 1 ∧ w = wr) (fun i _ => 0)
  case atStart => exact ⟨rfl, rfl⟩
  case round =>
    obtain ⟨rfl, rfl⟩ := hrel
    go_wp2
    go_end0
    exact ⟨rfl, rfl⟩
set_option maxRecDepth 100000 in
theorem stable_nil (w : World) : Calls Tryz.prog 131 #[.slice none 0 0, .int .i64 0, (.func (Fn.func 115) #[] #[])] w fun e w' => e = .returned (.tuple #[]) ∧ w = w' := by
  go_enter Tryz.func131, Tryz.ntmps131
  go_wp2_with fail
  go_loopw [7, 8] (fun a b wr => a = .int .i64 0 ∧ b = .int .i64 20 ∧ w = wr) (fun _ _ _ => 0)
  case atStart => exact ⟨rfl, rfl, rfl⟩
  case round =>
    obtain ⟨rfl, rfl, rfl⟩ := hrel
    go_wp2_with fail
    refine (insSort_nil w).mono ?_
    rintro e w1 ⟨rfl, rfl⟩
    go_wp2_with fail
    go_loopw [6] (fun k wr => k = .int .i64 20 ∧ w = wr) (fun _ _ => 0)
    case atStart => exact ⟨rfl, rfl⟩
    case round =>
      obtain ⟨rfl, rfl⟩ := hrel
      go_wp2
      go_end0
      exact ⟨rfl, rfl⟩
theorem sortStable_nil (w : World) : Calls Tryz.prog 114 #[.slice none 0 0, (.func (Fn.func 115) #[] #[])] w fun e w' => e = .returned (.tuple #[]) ∧ w = w' := by
  go_enter Tryz.func114, Tryz.ntmps114
  go_wp2_with fail
  refine (stable_nil w).mono ?_
  rintro e w1 ⟨rfl, rfl⟩
  go_wp2
  go_end0
  exact ⟨rfl, rfl⟩
theorem compact_nil (w : World) : Calls Tryz.prog 116 #[.slice none 0 0, (.func (Fn.func 117) #[] #[])] w fun e w' => e = .returned (.slice none 0 0) ∧ w = w' := by
  go_enter Tryz.func116, Tryz.ntmps116
  go_wp2
  go_ret
  exact ⟨rfl, rfl⟩
theorem sortStable_is (g n cap : Nat) (L : List (Int × Int)) (w : World) (hn : n ≤ 4194304) (hl : L.length = n) (H : Held w g L) :
    Calls Tryz.prog 114 #[.slice (some ⟨g, 0, none⟩) n cap, (.func (Fn.func 115) #[] #[])] w (Stable w g L) := by
  go_enter Tryz.func114, Tryz.ntmps114
  go_wp2_with fail
  refine (stable_is g n cap L w hn hl H).mono ?_
  rintro e w1 ⟨S, h1, h2, h3, rfl, h4, h5⟩
  go_wp2
  go_end0
  exact ⟨S, h1, h2, h3, rfl, h4, h5⟩

theorem own_held {w : World} {base : Nat} {e : TypeId} {q cap : Nat} {ps : List (Int × Int)} (h : w.ownsRow base e 2 (.slice (some ⟨q, 0, none⟩) ps.length cap) ps.length (flatP ps)) : Held w q ps := by
  refine ⟨(h.lt q rfl).2, fun o => ?_, fun i hi => ?_, fun i hi => ?_⟩
  · rcases h.2 with ⟨h', _⟩ | ⟨g', cap', cur, h', _, hg, _⟩
    · simp at h'
    · simp only [Value.slice.injEq, Option.some.injEq, Addr.mk.injEq, and_true, true_and] at h'
      obtain ⟨rfl, rfl⟩ := h'
      simp [World.frozen?, hg]
  · rw [h.cellAt (i * 2) (by omega)]; exact (flatP_at hi).1
  · rw [h.cellAt (i * 2 + 1) (by omega)]; exact (flatP_at hi).2

/-- A list of pairs of the call's own: nil, or a new block from its beginning. -/
def Own (w : World) (v : Value) (ps : List (Int × Int)) (w' : World) : Prop :=
  ((v = .slice none 0 0 ∧ ps = []) ∨ ∃ g cap, w.heap.size ≤ g ∧ v = .slice (some ⟨g, 0, none⟩) ps.length cap ∧ ps.length ≤ cap ∧ cap ≤ maxLen ∧ Held w' g ps) ∧ Below w.heap.size w w'
theorem Own.slc {w w' : World} {v : Value} {ps : List (Int × Int)} (h : Own w v ps w') : Slc w' v ps := by
  rcases h.1 with h | ⟨g, cap, _, rfl, _, _, hh⟩
  · exact .inl h
  · exact .inr ⟨g, 0, _, cap, rfl, hh.pairs⟩
theorem Own.later {w w1 w' : World} {v : Value} {ps : List (Int × Int)} (h : Own w v ps w1) (hb : Below w1.heap.size w1 w') : Own w v ps w' := by
  refine ⟨?_, bel_trans h.2 hb⟩
  rcases h.1 with h | ⟨g, cap, hg, rfl, h1, h2, hh⟩
  · exact .inl h
  · exact .inr ⟨g, cap, hg, rfl, h1, h2, hh.later hb⟩

set_option maxRecDepth 100000 in
set_option maxHeartbeats 1000000 in
theorem join_is (v v' : Value) (ps ps' : List (Int × Int)) (w : World) (hn : ps.length + ps'.length ≤ 4194304) (h : Slc w v ps) (h' : Slc w v' ps') :
    Calls Tryz.prog 102 #[v, v'] w fun e w' => ∃ u, e = .returned u ∧ Own w u (puts (ps ++ ps')) w' := by
  have hb := bel_alloc w (.cells #[v, v'] 29)
  have Q := Box.new w 29 #[v, v']
  have H := Lib.hid (h.later hb)
  have H' := Lib.hid (h'.later hb)
  have hall : ∃ L, L = ps ++ ps' := ⟨_, rfl⟩
  obtain ⟨L, hL⟩ := hall
  rw [← hL]
  have hLl : ps.length + ps'.length = L.length := by rw [hL, List.length_append]
  have hL := Lib.hid hL
  have hLl := Lib.hid hLl
  obtain ⟨A, n, cap, rfl⟩ : ∃ A n cap, v = .slice A n cap := by
    rcases h with ⟨rfl, _⟩ | ⟨b, o, n, cap, rfl, _⟩ <;> exact ⟨_, _, _, rfl⟩
  obtain ⟨A', n', cap', rfl⟩ : ∃ A n cap, v' = .slice A n cap := by
    rcases h' with ⟨rfl, _⟩ | ⟨b, o, n, cap, rfl, _⟩ <;> exact ⟨_, _, _, rfl⟩
  rename_i q1 q2
  clear h h' q1 q2
  go_enter Tryz.func102, Tryz.ntmps102
  go_wp2_with fail
  generalize (w.alloc _ : World) = w0 at hb Q H H' ⊢
  refine (concat_is _ _ _ ps ps' w0 hn Q H.out H'.out).mono ?_
  rintro e w1 ⟨u, rfl, hown, hb1⟩
  rw [hLl.out, ← hL.out] at hown
  have E1 := bel_trans hb hb1
  have hw0 := hb.size
  rcases hown.2 with ⟨rfl, hz⟩ | ⟨g, cap, cur, rfl, hbg, hg, hnc, hcm, _, _⟩
  · have hLn : L = [] := List.length_eq_zero_iff.1 hz
    have hLn := Lib.hid hLn
    rename_i q1
    clear q1 hz hown Q
    go_wp2_with fail
    refine (sortStable_nil w1).mono ?_
    rintro e w2 ⟨rfl, rfl⟩
    go_wp2_with fail
    refine (compact_nil w1).mono ?_
    rintro e w2 ⟨rfl, rfl⟩
    go_wp2
    go_ret
    exact ⟨_, rfl, .inl ⟨rfl, by rw [hLn.out]; rfl⟩, E1⟩
  · have hh := own_held hown
    have hcm := Lib.hid hcm
    have hn' : L.length ≤ 4194304 := by rw [← hLl.out]; exact hn
    have hgg : w.heap.size ≤ g := Nat.le_trans hw0 hbg
    rename_i q1
    clear q1 hg hown Q
    go_wp2_with fail
    refine (sortStable_is g L.length cap L w1 hn' rfl hh).mono ?_
    rintro e w2 ⟨S, hs1, hs2, hs3, rfl, hh2, hg2⟩
    have hs1 := Lib.hid hs1
    have hcp := Lib.hid (cmpct_puts hs2 hs3)
    have hle := cmpct_len_le S
    rename_i q1
    clear q1
    go_wp2_with fail
    refine (compact_is g L.length cap S w2 hn' hnc hcm.out hs1.out hh2).mono ?_
    rintro e w3 ⟨rfl, hh3, hg3⟩
    go_wp2
    go_ret
    refine ⟨_, rfl, .inr ⟨g, cap, hgg, ?_, ?_, hcm.out, ?_⟩, bel_grown (bel_grown E1 hg2 hgg) hg3 hgg⟩
    · rw [← hcp.out]; rfl
    · rw [← hcp.out]; have := hs1.out; omega
    · rw [← hcp.out]; exact hh3

end Go.Proofs.YtghdnokjgmmgiaaGreat
