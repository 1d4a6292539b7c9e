/- Drawn groups, shelves and notes as what can be read of them: kept where none of their blocks turned, written cell by cell; no conditions. -/
import Derived.Test.YtjdepjpjjgkmbaaGreatKinds8a
import Derived.Test.YtjdepjpjjgkmbaaGreatDrawReg5
import Derived.Test.YtjdepjpjjgkmbaaGreatDrawNote1
namespace Go.Proofs.YtjdepjpjjgkmbaaGreat
open Go Go.RowKit

theorem turns_grown {k : Nat} {a b : World} (h : Turns (· = k) a b) : a.grownBy b (some k) := ⟨h.os, h.tape, h.output, h.size, fun i hi hne => h.block i hi (fun e => hne (by rw [e]))⟩
theorem rowF_lt {w : World} {F : Nat → Prop} {A : Option Addr} {n : Nat} {zs : List Int} (h : RowF w F A n zs) : RowF w (fun b => F b ∧ b < w.heap.size) A n zs :=
  ⟨h.1, fun hn b o e => ⟨h.2 hn b o e, h.1.all.2 hn b o e⟩⟩
theorem pairsF_lt {w : World} {F : Nat → Prop} {A : Option Addr} {n : Nat} {ps : List (Int × Int)} (h : PairsF w F A n ps) : PairsF w (fun b => F b ∧ b < w.heap.size) A n ps :=
  ⟨h.1, fun hn b o e => ⟨h.2 hn b o e, h.1.all.2 hn b o e⟩⟩
theorem quadsF_lt {w : World} {F : Nat → Prop} {A : Option Addr} {n : Nat} {os : List Opn} (h : QuadsF w F A n os) : QuadsF w (fun b => F b ∧ b < w.heap.size) A n os :=
  ⟨h.1, fun hn b o e => ⟨h.2 hn b o e, h.1.all.2 hn b o e⟩⟩
theorem own_blk {w : World} {base : Nat} {t : TypeId} {k : Nat} {b o n c : Nat} {xs : List Value} (h : w.ownsRow base t k (.slice (some ⟨b, o, none⟩) n c) n xs) : base ≤ b := by
  rcases h.2 with ⟨e, _⟩ | ⟨g, cap, cur, e, hb, _⟩
  · cases e
  · injection e with e
    injection e with e
    injection e with e
    omega
theorem own_pairsF {w : World} {base : Nat} {t : TypeId} {v : Value} {ps : List (Int × Int)} (h : w.ownsRow base t 2 v ps.length (flatP ps)) : ∃ A c, v = .slice A ps.length c ∧ Slc w v ps ∧ PairsF w (fun b => base ≤ b ∧ b < w.heap.size) A ps.length ps := by
  obtain ⟨A, c, rfl⟩ := own_form h
  have hs := own_slcP h
  have hp : Pairs w w.heap.size A ps.length ps := by
    rcases hs with ⟨_, rfl⟩ | ⟨b, o, n, cap, e, hp⟩
    · exact ⟨rfl, fun h => absurd h (by simp)⟩
    · injection e with e1 e2 e3
      subst e1
      rw [e2]
      exact hp
  exact ⟨A, c, rfl, hs, hp, fun hn b o e => ⟨own_blk (e ▸ h), hp.all.2 hn b o e⟩⟩
theorem own_quadsF {w : World} {base : Nat} {t : TypeId} {v : Value} {os : List Opn} (h : w.ownsRow base t 4 v os.length (flatO os)) : ∃ A c, v = .slice A os.length c ∧ SlcQ w v os ∧ QuadsF w (fun b => base ≤ b ∧ b < w.heap.size) A os.length os := by
  obtain ⟨A, c, rfl⟩ := own_form h
  have hs := own_slcQ h
  have hp : Quads w w.heap.size A os.length os := by
    rcases hs with ⟨_, rfl⟩ | ⟨b, o, n, cap, e, h1, h2, hp⟩
    · exact quads_nil _ _ _
    · injection e with e1 e2 e3
      subst e1
      rw [e2]
      exact hp
  exact ⟨A, c, rfl, hs, hp, fun hn b o e => ⟨own_blk (e ▸ h), hp.all.2 hn b o e⟩⟩

/-- A value reads as a shelf, whose lists the program can take parts of. -/
def AtS (d : RegD) (w : World) (F : Nat → Prop) (v : Value) : Prop :=
  ∃ (A : Option Addr) (n cap : Nat) (A' : Option Addr) (n' cap' : Nat), v = .agg #[.int .i64 d.t, .int .i64 d.q, .int .i64 d.v, .slice A n cap, .slice A' n' cap'] ∧ n ≤ maxLen ∧ n' ≤ maxLen ∧ PairsF w F A n d.ps ∧ QuadsF w F A' n' d.os ∧
    ((∃ b o, A = some ⟨b, o, none⟩) ∨ (A = none ∧ n = 0 ∧ cap = 0)) ∧ ((∃ b o, A' = some ⟨b, o, none⟩ ∧ n' ≤ cap' ∧ cap' ≤ maxLen) ∨ (A' = none ∧ n' = 0 ∧ cap' = 0))
theorem AtS.at {d : RegD} {w : World} {F : Nat → Prop} {v : Value} (h : AtS d w F v) : AtR d w F v := by
  obtain ⟨A, n, cap, A', n', cap', e, h1, h2, h3, h4, -⟩ := h
  exact ⟨A, n, cap, A', n', cap', e, h1, h2, h3, h4⟩
theorem keepsS (d : RegD) : Keeps (AtS d) :=
  ⟨fun ⟨A, n, c, A', n', c', e, h1, h2, h3, h4, h5⟩ ht hd => ⟨A, n, c, A', n', c', e, h1, h2, h3.turn ht hd, h4.turn ht hd, h5⟩, fun ⟨A, n, c, A', n', c', e, h1, h2, h3, h4, h5⟩ hs => ⟨A, n, c, A', n', c', e, h1, h2, ⟨h3.1, fun hn b o e => hs b (h3.2 hn b o e)⟩, ⟨h4.1, fun hn b o e => hs b (h4.2 hn b o e)⟩, h5⟩⟩
theorem AtS.slc {d : RegD} {w : World} {F : Nat → Prop} {v : Value} (h : AtS d w F v) : ∃ (A : Option Addr) (n c : Nat) (A' : Option Addr) (n' c' : Nat), v = .agg #[.int .i64 d.t, .int .i64 d.q, .int .i64 d.v, .slice A n c, .slice A' n' c'] ∧ Slc w (.slice A n c) d.ps ∧ SlcQ w (.slice A' n' c') d.os ∧ d.ps.length = n ∧ d.os.length = n' := by
  obtain ⟨A, n, c, A', n', c', e, h1, h2, h3, h4, h5, h6⟩ := h
  have l1 : d.ps.length = n := h3.1.1
  have l2 : d.os.length = n' := h4.1.1
  refine ⟨A, n, c, A', n', c', e, ?_, ?_, l1, l2⟩
  · rcases h5 with ⟨b, o, rfl⟩ | ⟨rfl, rfl, rfl⟩
    · exact .inr ⟨b, o, n, c, rfl, h3.1⟩
    · exact .inl ⟨rfl, List.eq_nil_of_length_eq_zero l1⟩
  · rcases h6 with ⟨b, o, rfl, c1, c2⟩ | ⟨rfl, rfl, rfl⟩
    · exact .inr ⟨b, o, n', c', rfl, c1, c2, h4.1⟩
    · exact .inl ⟨rfl, List.eq_nil_of_length_eq_zero l2⟩
theorem atS_of {d : RegD} {w : World} {F : Nat → Prop} {A : Option Addr} {n c : Nat} {A' : Option Addr} {n' c' : Nat} (h1 : Slc w (.slice A n c) d.ps) (h2 : SlcQ w (.slice A' n' c') d.os) (hn : n ≤ maxLen) (hn' : n' ≤ maxLen) (h3 : PairsF w F A n d.ps) (h4 : QuadsF w F A' n' d.os) :
    AtS d w F (.agg #[.int .i64 d.t, .int .i64 d.q, .int .i64 d.v, .slice A n c, .slice A' n' c']) := by
  refine ⟨A, n, c, A', n', c', rfl, hn, hn', h3, h4, ?_, ?_⟩
  · rcases h1 with ⟨e, _⟩ | ⟨b, o, n1, c1, e, _⟩
    · cases e; exact .inr ⟨rfl, rfl, rfl⟩
    · cases e; exact .inl ⟨b, o, rfl⟩
  · rcases h2 with ⟨e, _⟩ | ⟨b, o, n1, c1, e, k1, k2, _⟩
    · cases e; exact .inr ⟨rfl, rfl, rfl⟩
    · cases e; exact .inl ⟨b, o, rfl, k1, k2⟩
theorem LieR.ats {d : RegD} {w : World} {F : Nat → Prop} {v : Value} (h : LieR d w F v) : AtS d w F v := by
  obtain ⟨A, n, c, A', n', c', e, s1, s2, l1, l2⟩ := h.slc
  obtain ⟨B, m, k, B', m', k', e', m1, m2, p1, p2⟩ := h.at
  rw [e] at e'
  simp only [Value.agg.injEq, Array.mk.injEq, List.cons.injEq, Value.slice.injEq, and_true, true_and] at e'
  obtain ⟨⟨rfl, rfl, rfl⟩, rfl, rfl, rfl⟩ := e'
  rw [e]
  exact atS_of s1 s2 m1 m2 p1 p2

/-- A list of at most k seals. -/
def Seals (w : World) (F : Nat → Prop) (k : Nat) (v : Value) : Prop := ∃ (A : Option Addr) (n c : Nat) (ps : List (Int × Int)), v = .slice A n c ∧ n ≤ k ∧ PairsF w F A n ps
theorem Seals.turn {T : Nat → Prop} {w w' : World} {F : Nat → Prop} {k : Nat} {v : Value} (h : Seals w F k v) (ht : Turns T w w') (hd : ∀ b, F b → ¬ T b) : Seals w' F k v := by
  obtain ⟨A, n, c, ps, e, hn, hp⟩ := h
  exact ⟨A, n, c, ps, e, hn, hp.turn ht hd⟩
theorem Seals.sub {w : World} {F F' : Nat → Prop} {k : Nat} {v : Value} (h : Seals w F k v) (hs : ∀ b, F b → F' b) : Seals w F' k v := by
  obtain ⟨A, n, c, ps, e, hn, hp⟩ := h
  exact ⟨A, n, c, ps, e, hn, hp.1, fun h b o e => hs b (hp.2 h b o e)⟩
theorem Seals.lt {w : World} {F : Nat → Prop} {k : Nat} {v : Value} (h : Seals w F k v) : Seals w (fun b => F b ∧ b < w.heap.size) k v := by
  obtain ⟨A, n, c, ps, e, hn, hp⟩ := h
  exact ⟨A, n, c, ps, e, hn, pairsF_lt hp⟩
theorem Lst.seals {w : World} {B k : Nat} {v : Value} (h : Lst w B k v) : Seals w (fun b => B ≤ b ∧ b < w.heap.size) k v := by
  obtain ⟨ps, hl, ho⟩ := h
  obtain ⟨A, c, rfl, _, hp⟩ := own_pairsF ho
  exact ⟨A, _, c, ps, rfl, hl, hp⟩
/-- A note's cells, whatever their numbers. -/
def NoteS (w : World) (F : Nat → Prop) (v : Value) : Prop := ∃ (N : Array Value) (cv mv : Value), v = .agg N ∧ Shape N cv mv ∧ Seals w F 21 cv ∧ Seals w F 20 mv
theorem keepsNS : Keeps NoteS := ⟨fun ⟨N, cv, mv, e, hs, h1, h2⟩ ht hd => ⟨N, cv, mv, e, hs, h1.turn ht hd, h2.turn ht hd⟩, fun ⟨N, cv, mv, e, hs, h1, h2⟩ h => ⟨N, cv, mv, e, hs, h1.sub h, h2.sub h⟩⟩
section
variable {w : World} {F : Nat → Prop} {N : Array Value}
theorem NoteS.lt (h : NoteS w F (.agg N)) : NoteS w (fun b => F b ∧ b < w.heap.size) (.agg N) := by
  obtain ⟨N', cv, mv, e, hs, h1, h2⟩ := h
  exact ⟨N', cv, mv, e, hs, h1.lt, h2.lt⟩
theorem NoteS.num (h : NoteS w F (.agg N)) {i : Nat} (hi : isNum i) : ∃ z : Int, N[i]? = some (.int .i64 z) := by
  obtain ⟨N', cv, mv, e, hs, h1, h2⟩ := h
  injection e with e
  subst e
  exact hs.num hi
theorem NoteS.put (h : NoteS w F (.agg N)) {i : Nat} (hi : isNum i) (z : Int) : NoteS w F (.agg (N.setIfInBounds i (.int .i64 z))) := by
  obtain ⟨N', cv, mv, e, hs, h1, h2⟩ := h
  injection e with e
  subst e
  exact ⟨_, cv, mv, rfl, hs.put hi z, h1, h2⟩
theorem NoteS.cert (h : NoteS w F (.agg N)) {v : Value} (hv : Seals w F 20 v) : NoteS w F (.agg (N.setIfInBounds 11 v)) := by
  obtain ⟨N', cv, mv, e, hs, h1, h2⟩ := h
  injection e with e
  subst e
  obtain ⟨A, n, c, ps, e, hn, hp⟩ := hv
  exact ⟨_, v, mv, rfl, hs.cert v, ⟨A, n, c, ps, e, by omega, hp⟩, h2⟩
theorem NoteS.more (h : NoteS w F (.agg N)) {v : Value} (hv : Seals w F 20 v) : NoteS w F (.agg (N.setIfInBounds 12 v)) := by
  obtain ⟨N', cv, mv, e, hs, h1, h2⟩ := h
  injection e with e
  subst e
  exact ⟨_, cv, v, rfl, hs.more v, h1, hv⟩
theorem NoteS.size (h : NoteS w F (.agg N)) : N.size = 16 ∧ (Tryz.prog.info? 85).map (·.size) = some N.size ∧ N.all (·.oneCell') = true := by
  obtain ⟨N', cv, mv, e, hs, h1, h2⟩ := h
  injection e with e
  subst e
  obtain ⟨A, n, c, ps, rfl, _⟩ := h1
  obtain ⟨A', n', c', ps', rfl, _⟩ := h2
  exact ⟨hs.size, hs.info, hs.one rfl rfl⟩
theorem NoteS.at (h : NoteS w F (.agg N)) : ∃ d, AtN d w F (.agg N) ∧ d.cs.length ≤ 21 ∧ d.ms.length ≤ 20 := by
  obtain ⟨N', cv, mv, e, hs, ⟨A, n, c, ps, rfl, hn, hp⟩, ⟨A', n', c', ps', rfl, hn', hp'⟩⟩ := h
  injection e with e
  subst e
  obtain ⟨k1, k2, k3, k4, k5, t1, t2, v1, o1, o2, v2, l1, l2, v3, rfl⟩ := hs
  have e1 := hp.1.1
  have e2 := hp'.1.1
  exact ⟨⟨k1, k2, k3, k4, k5, t1, t2, v1, o1, o2, v2, l1, l2, v3, ps, ps'⟩, ⟨A, n, c, A', n', c', rfl, by unfold maxLen; omega, by unfold maxLen; omega, hp, hp'⟩, by show ps.length ≤ 21; omega, by show ps'.length ≤ 20; omega⟩
end
/-- A group's cells; a shelf's. -/
def GrpS (w : World) (F : Nat → Prop) (v : Value) : Prop := ∃ d, AtG d w F v ∧ d.zs.length ≤ 100
def RegS (w : World) (F : Nat → Prop) (v : Value) : Prop := ∃ d, AtS d w F v ∧ d.ps.length ≤ 21 ∧ d.os.length ≤ 7
theorem keepsGS : Keeps GrpS := ⟨fun ⟨d, h, l⟩ ht hd => ⟨d, (keepsG d).turn h ht hd, l⟩, fun ⟨d, h, l⟩ hs => ⟨d, (keepsG d).sub h hs, l⟩⟩
theorem keepsRS : Keeps RegS := ⟨fun ⟨d, h, l⟩ ht hd => ⟨d, (keepsS d).turn h ht hd, l⟩, fun ⟨d, h, l⟩ hs => ⟨d, (keepsS d).sub h hs, l⟩⟩
theorem GrpS.lt {w : World} {F : Nat → Prop} {v : Value} (h : GrpS w F v) : GrpS w (fun b => F b ∧ b < w.heap.size) v := by
  obtain ⟨d, ⟨A, n, c, e, hn, hr⟩, l⟩ := h
  exact ⟨d, ⟨A, n, c, e, hn, rowF_lt hr⟩, l⟩
theorem GrpS.one {w : World} {F : Nat → Prop} {C : Array Value} (h : GrpS w F (.agg C)) : (C.size = 5 ∧ C.all (·.oneCell') = true) ∧ (Tryz.prog.info? 26).map (·.size) = some C.size := by
  obtain ⟨d, h, -⟩ := h
  exact ⟨oneG h, (sizeG h).2⟩
theorem RegS.one {w : World} {F : Nat → Prop} {C : Array Value} (h : RegS w F (.agg C)) : (C.size = 5 ∧ C.all (·.oneCell') = true) ∧ (Tryz.prog.info? 80).map (·.size) = some C.size := by
  obtain ⟨d, h, -⟩ := h
  exact ⟨oneR h.at, (sizeR h.at).2⟩
theorem regS_own {w : World} {base : Nat} {t t' : TypeId} {a b d : Int} {u v : Value} {ps : List (Int × Int)} {os : List Opn} (h1 : w.ownsRow base t 2 u ps.length (flatP ps)) (h2 : w.ownsRow base t' 4 v os.length (flatO os)) (hl : ps.length ≤ 21) (hl' : os.length ≤ 7) :
    RegS w (fun x => base ≤ x ∧ x < w.heap.size) (.agg #[.int .i64 a, .int .i64 b, .int .i64 d, u, v]) := by
  obtain ⟨A, c, rfl, s1, p1⟩ := own_pairsF h1
  obtain ⟨A', c', rfl, s2, p2⟩ := own_quadsF h2
  exact ⟨⟨a, b, d, ps, os⟩, atS_of (d := ⟨a, b, d, ps, os⟩) s1 s2 (by unfold maxLen; omega) (by unfold maxLen; omega) p1 p2, hl, hl'⟩

end Go.Proofs.YtjdepjpjjgkmbaaGreat
