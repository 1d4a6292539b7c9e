/- FnReady: whatever bytes it is given, the law answers true and leaves them alone; no condition beyond the given row's own. -/
import Derived.Test.YtdkmbcmenomecaaGreatKinds8a
import Derived.Test.YtdkmbcmenomecaaGreatDrawReg5
import Derived.Test.YtdkmbcmenomecaaGreatDrawNote1
import Derived.Test.YtdkmbcmenomecaaGreatDrawNote4
import Derived.Test.YtdkmbcmenomecaaGreatCode8
import Derived.Test.YtdkmbcmenomecaaGreatSpecReg1
import Derived.Test.YtdkmbcmenomecaaGreatBoxWalk
import Derived.Test.YtdkmbcmenomecaaGreatReg1
import Derived.Test.YtdkmbcmenomecaaGreatLikeReg
import Derived.Test.YtdkmbcmenomecaaGreatRows
import Derived.Test.YtdkmbcmenomecaaGreatReadsBytes
import Derived.WalkKit
import Derived.ProofKit
import Derived.OpenShut
import Derived.ShutString
import Derived.ChangeOld
import Derived.Below
import Derived.Carry
import Derived.Laws.Rows

/- Drawn groups, shelves and notes as what can be read of them: kept where none of their blocks turned, written cell by cell; no conditions. -/
namespace Go.Proofs.YtdkmbcmenomecaaGreat
open Go Go.RowKit

theorem turns_grown {k : Nat} {a b : World} (h : Turns (· = k) a b) : a.grownBy b (some k) := ⟨h.os, h.tape, h.output, h.size, fun i hi hne => h.block i hi (fun e => hne (by rw [e]))⟩
theorem rowF_lt {w : World} {F : Nat → Prop} {A : Option Addr} {n : Nat} {zs : List Int} (h : RowF w F A n zs) : RowF w (fun b => F b ∧ b < w.heap.size) A n zs :=
  ⟨h.1, fun hn b o e => ⟨h.2 hn b o e, h.1.all.2 hn b o e⟩⟩
theorem pairsF_lt {w : World} {F : Nat → Prop} {A : Option Addr} {n : Nat} {ps : List (Int × Int)} (h : PairsF w F A n ps) : PairsF w (fun b => F b ∧ b < w.heap.size) A n ps :=
  ⟨h.1, fun hn b o e => ⟨h.2 hn b o e, h.1.all.2 hn b o e⟩⟩
theorem quadsF_lt {w : World} {F : Nat → Prop} {A : Option Addr} {n : Nat} {os : List Opn} (h : QuadsF w F A n os) : QuadsF w (fun b => F b ∧ b < w.heap.size) A n os :=
  ⟨h.1, fun hn b o e => ⟨h.2 hn b o e, h.1.all.2 hn b o e⟩⟩
theorem own_blk {w : World} {base : Nat} {t : TypeId} {k : Nat} {b o n c : Nat} {xs : List Value} (h : w.ownsRow base t k (.slice (some ⟨b, o, none⟩) n c) n xs) : base ≤ b := by
  rcases h.2 with ⟨e, _⟩ | ⟨g, cap, cur, e, hb, _⟩
  · cases e
  · injection e with e
    injection e with e
    injection e with e
    omega
theorem own_pairsF {w : World} {base : Nat} {t : TypeId} {v : Value} {ps : List (Int × Int)} (h : w.ownsRow base t 2 v ps.length (flatP ps)) : ∃ A c, v = .slice A ps.length c ∧ Slc w v ps ∧ PairsF w (fun b => base ≤ b ∧ b < w.heap.size) A ps.length ps := by
  obtain ⟨A, c, rfl⟩ := own_form h
  have hs := own_slcP h
  have hp : Pairs w w.heap.size A ps.length ps := by
    rcases hs with ⟨_, rfl⟩ | ⟨b, o, n, cap, e, hp⟩
    · exact ⟨rfl, fun h => absurd h (by simp)⟩
    · injection e with e1 e2 e3
      subst e1
      rw [e2]
      exact hp
  exact ⟨A, c, rfl, hs, hp, fun hn b o e => ⟨own_blk (e ▸ h), hp.all.2 hn b o e⟩⟩
theorem own_quadsF {w : World} {base : Nat} {t : TypeId} {v : Value} {os : List Opn} (h : w.ownsRow base t 4 v os.length (flatO os)) : ∃ A c, v = .slice A os.length c ∧ SlcQ w v os ∧ QuadsF w (fun b => base ≤ b ∧ b < w.heap.size) A os.length os := by
  obtain ⟨A, c, rfl⟩ := own_form h
  have hs := own_slcQ h
  have hp : Quads w w.heap.size A os.length os := by
    rcases hs with ⟨_, rfl⟩ | ⟨b, o, n, cap, e, h1, h2, hp⟩
    · exact quads_nil _ _ _
    · injection e with e1 e2 e3
      subst e1
      rw [e2]
      exact hp
  exact ⟨A, c, rfl, hs, hp, fun hn b o e => ⟨own_blk (e ▸ h), hp.all.2 hn b o e⟩⟩

/-- A value reads as a shelf, whose lists the program can take parts of. -/
def AtS (d : RegD) (w : World) (F : Nat → Prop) (v : Value) : Prop :=
  ∃ (A : Option Addr) (n cap : Nat) (A' : Option Addr) (n' cap' : Nat), v = .agg #[.int .i64 d.t, .int .i64 d.q, .int .i64 d.v, .slice A n cap, .slice A' n' cap'] ∧ n ≤ maxLen ∧ n' ≤ maxLen ∧ PairsF w F A n d.ps ∧ QuadsF w F A' n' d.os ∧
    ((∃ b o, A = some ⟨b, o, none⟩) ∨ (A = none ∧ n = 0 ∧ cap = 0)) ∧ ((∃ b o, A' = some ⟨b, o, none⟩ ∧ n' ≤ cap' ∧ cap' ≤ maxLen) ∨ (A' = none ∧ n' = 0 ∧ cap' = 0))
theorem AtS.at {d : RegD} {w : World} {F : Nat → Prop} {v : Value} (h : AtS d w F v) : AtR d w F v := by
  obtain ⟨A, n, cap, A', n', cap', e, h1, h2, h3, h4, -⟩ := h
  exact ⟨A, n, cap, A', n', cap', e, h1, h2, h3, h4⟩
theorem keepsS (d : RegD) : Keeps (AtS d) :=
  ⟨fun ⟨A, n, c, A', n', c', e, h1, h2, h3, h4, h5⟩ ht hd => ⟨A, n, c, A', n', c', e, h1, h2, h3.turn ht hd, h4.turn ht hd, h5⟩, fun ⟨A, n, c, A', n', c', e, h1, h2, h3, h4, h5⟩ hs => ⟨A, n, c, A', n', c', e, h1, h2, ⟨h3.1, fun hn b o e => hs b (h3.2 hn b o e)⟩, ⟨h4.1, fun hn b o e => hs b (h4.2 hn b o e)⟩, h5⟩⟩
theorem AtS.slc {d : RegD} {w : World} {F : Nat → Prop} {v : Value} (h : AtS d w F v) : ∃ (A : Option Addr) (n c : Nat) (A' : Option Addr) (n' c' : Nat), v = .agg #[.int .i64 d.t, .int .i64 d.q, .int .i64 d.v, .slice A n c, .slice A' n' c'] ∧ Slc w (.slice A n c) d.ps ∧ SlcQ w (.slice A' n' c') d.os ∧ d.ps.length = n ∧ d.os.length = n' := by
  obtain ⟨A, n, c, A', n', c', e, h1, h2, h3, h4, h5, h6⟩ := h
  have l1 : d.ps.length = n := h3.1.1
  have l2 : d.os.length = n' := h4.1.1
  refine ⟨A, n, c, A', n', c', e, ?_, ?_, l1, l2⟩
  · rcases h5 with ⟨b, o, rfl⟩ | ⟨rfl, rfl, rfl⟩
    · exact .inr ⟨b, o, n, c, rfl, h3.1⟩
    · exact .inl ⟨rfl, List.eq_nil_of_length_eq_zero l1⟩
  · rcases h6 with ⟨b, o, rfl, c1, c2⟩ | ⟨rfl, rfl, rfl⟩
    · exact .inr ⟨b, o, n', c', rfl, c1, c2, h4.1⟩
    · exact .inl ⟨rfl, List.eq_nil_of_length_eq_zero l2⟩
theorem atS_of {d : RegD} {w : World} {F : Nat → Prop} {A : Option Addr} {n c : Nat} {A' : Option Addr} {n' c' : Nat} (h1 : Slc w (.slice A n c) d.ps) (h2 : SlcQ w (.slice A' n' c') d.os) (hn : n ≤ maxLen) (hn' : n' ≤ maxLen) (h3 : PairsF w F A n d.ps) (h4 : QuadsF w F A' n' d.os) :
    AtS d w F (.agg #[.int .i64 d.t, .int .i64 d.q, .int .i64 d.v, .slice A n c, .slice A' n' c']) := by
  refine ⟨A, n, c, A', n', c', rfl, hn, hn', h3, h4, ?_, ?_⟩
  · rcases h1 with ⟨e, _⟩ | ⟨b, o, n1, c1, e, _⟩
    · cases e; exact .inr ⟨rfl, rfl, rfl⟩
    · cases e; exact .inl ⟨b, o, rfl⟩
  · rcases h2 with ⟨e, _⟩ | ⟨b, o, n1, c1, e, k1, k2, _⟩
    · cases e; exact .inr ⟨rfl, rfl, rfl⟩
    · cases e; exact .inl ⟨b, o, rfl, k1, k2⟩
theorem LieR.ats {d : RegD} {w : World} {F : Nat → Prop} {v : Value} (h : LieR d w F v) : AtS d w F v := by
  obtain ⟨A, n, c, A', n', c', e, s1, s2, l1, l2⟩ := h.slc
  obtain ⟨B, m, k, B', m', k', e', m1, m2, p1, p2⟩ := h.at
  rw [e] at e'
  simp only [Value.agg.injEq, Array.mk.injEq, List.cons.injEq, Value.slice.injEq, and_true, true_and] at e'
  obtain ⟨⟨rfl, rfl, rfl⟩, rfl, rfl, rfl⟩ := e'
  rw [e]
  exact atS_of s1 s2 m1 m2 p1 p2

/-- A list of at most k seals. -/
def Seals (w : World) (F : Nat → Prop) (k : Nat) (v : Value) : Prop := ∃ (A : Option Addr) (n c : Nat) (ps : List (Int × Int)), v = .slice A n c ∧ n ≤ k ∧ PairsF w F A n ps
theorem Seals.turn {T : Nat → Prop} {w w' : World} {F : Nat → Prop} {k : Nat} {v : Value} (h : Seals w F k v) (ht : Turns T w w') (hd : ∀ b, F b → ¬ T b) : Seals w' F k v := by
  obtain ⟨A, n, c, ps, e, hn, hp⟩ := h
  exact ⟨A, n, c, ps, e, hn, hp.turn ht hd⟩
theorem Seals.sub {w : World} {F F' : Nat → Prop} {k : Nat} {v : Value} (h : Seals w F k v) (hs : ∀ b, F b → F' b) : Seals w F' k v := by
  obtain ⟨A, n, c, ps, e, hn, hp⟩ := h
  exact ⟨A, n, c, ps, e, hn, hp.1, fun h b o e => hs b (hp.2 h b o e)⟩
theorem Seals.lt {w : World} {F : Nat → Prop} {k : Nat} {v : Value} (h : Seals w F k v) : Seals w (fun b => F b ∧ b < w.heap.size) k v := by
  obtain ⟨A, n, c, ps, e, hn, hp⟩ := h
  exact ⟨A, n, c, ps, e, hn, pairsF_lt hp⟩
theorem Lst.seals {w : World} {B k : Nat} {v : Value} (h : Lst w B k v) : Seals w (fun b => B ≤ b ∧ b < w.heap.size) k v := by
  obtain ⟨ps, hl, ho⟩ := h
  obtain ⟨A, c, rfl, _, hp⟩ := own_pairsF ho
  exact ⟨A, _, c, ps, rfl, hl, hp⟩
/-- A note's cells, whatever their numbers. -/
def NoteS (w : World) (F : Nat → Prop) (v : Value) : Prop := ∃ (N : Array Value) (cv mv : Value), v = .agg N ∧ Shape N cv mv ∧ Seals w F 21 cv ∧ Seals w F 20 mv
theorem keepsNS : Keeps NoteS := ⟨fun ⟨N, cv, mv, e, hs, h1, h2⟩ ht hd => ⟨N, cv, mv, e, hs, h1.turn ht hd, h2.turn ht hd⟩, fun ⟨N, cv, mv, e, hs, h1, h2⟩ h => ⟨N, cv, mv, e, hs, h1.sub h, h2.sub h⟩⟩
section
variable {w : World} {F : Nat → Prop} {N : Array Value}
theorem NoteS.lt (h : NoteS w F (.agg N)) : NoteS w (fun b => F b ∧ b < w.heap.size) (.agg N) := by
  obtain ⟨N', cv, mv, e, hs, h1, h2⟩ := h
  exact ⟨N', cv, mv, e, hs, h1.lt, h2.lt⟩
theorem NoteS.num (h : NoteS w F (.agg N)) {i : Nat} (hi : isNum i) : ∃ z : Int, N[i]? = some (.int .i64 z) := by
  obtain ⟨N', cv, mv, e, hs, h1, h2⟩ := h
  injection e with e
  subst e
  exact hs.num hi
theorem NoteS.put (h : NoteS w F (.agg N)) {i : Nat} (hi : isNum i) (z : Int) : NoteS w F (.agg (N.setIfInBounds i (.int .i64 z))) := by
  obtain ⟨N', cv, mv, e, hs, h1, h2⟩ := h
  injection e with e
  subst e
  exact ⟨_, cv, mv, rfl, hs.put hi z, h1, h2⟩
theorem NoteS.cert (h : NoteS w F (.agg N)) {v : Value} (hv : Seals w F 20 v) : NoteS w F (.agg (N.setIfInBounds 11 v)) := by
  obtain ⟨N', cv, mv, e, hs, h1, h2⟩ := h
  injection e with e
  subst e
  obtain ⟨A, n, c, ps, e, hn, hp⟩ := hv
  exact ⟨_, v, mv, rfl, hs.cert v, ⟨A, n, c, ps, e, by omega, hp⟩, h2⟩
theorem NoteS.more (h : NoteS w F (.agg N)) {v : Value} (hv : Seals w F 20 v) : NoteS w F (.agg (N.setIfInBounds 12 v)) := by
  obtain ⟨N', cv, mv, e, hs, h1, h2⟩ := h
  injection e with e
  subst e
  exact ⟨_, cv, v, rfl, hs.more v, h1, hv⟩
theorem NoteS.size (h : NoteS w F (.agg N)) : N.size = 16 ∧ (Tryz.prog.info? 34).map (·.size) = some N.size ∧ N.all (·.oneCell') = true := by
  obtain ⟨N', cv, mv, e, hs, h1, h2⟩ := h
  injection e with e
  subst e
  obtain ⟨A, n, c, ps, rfl, _⟩ := h1
  obtain ⟨A', n', c', ps', rfl, _⟩ := h2
  exact ⟨hs.size, hs.info, hs.one rfl rfl⟩
theorem NoteS.at (h : NoteS w F (.agg N)) : ∃ d, AtN d w F (.agg N) ∧ d.cs.length ≤ 21 ∧ d.ms.length ≤ 20 := by
  obtain ⟨N', cv, mv, e, hs, ⟨A, n, c, ps, rfl, hn, hp⟩, ⟨A', n', c', ps', rfl, hn', hp'⟩⟩ := h
  injection e with e
  subst e
  obtain ⟨k1, k2, k3, k4, k5, t1, t2, v1, o1, o2, v2, l1, l2, v3, rfl⟩ := hs
  have e1 := hp.1.1
  have e2 := hp'.1.1
  exact ⟨⟨k1, k2, k3, k4, k5, t1, t2, v1, o1, o2, v2, l1, l2, v3, ps, ps'⟩, ⟨A, n, c, A', n', c', rfl, by unfold maxLen; omega, by unfold maxLen; omega, hp, hp'⟩, by show ps.length ≤ 21; omega, by show ps'.length ≤ 20; omega⟩
end
/-- A group's cells; a shelf's. -/
def GrpS (w : World) (F : Nat → Prop) (v : Value) : Prop := ∃ d, AtG d w F v ∧ d.zs.length ≤ 100
def RegS (w : World) (F : Nat → Prop) (v : Value) : Prop := ∃ d, AtS d w F v ∧ d.ps.length ≤ 21 ∧ d.os.length ≤ 7
theorem keepsGS : Keeps GrpS := ⟨fun ⟨d, h, l⟩ ht hd => ⟨d, (keepsG d).turn h ht hd, l⟩, fun ⟨d, h, l⟩ hs => ⟨d, (keepsG d).sub h hs, l⟩⟩
theorem keepsRS : Keeps RegS := ⟨fun ⟨d, h, l⟩ ht hd => ⟨d, (keepsS d).turn h ht hd, l⟩, fun ⟨d, h, l⟩ hs => ⟨d, (keepsS d).sub h hs, l⟩⟩
theorem GrpS.lt {w : World} {F : Nat → Prop} {v : Value} (h : GrpS w F v) : GrpS w (fun b => F b ∧ b < w.heap.size) v := by
  obtain ⟨d, ⟨A, n, c, e, hn, hr⟩, l⟩ := h
  exact ⟨d, ⟨A, n, c, e, hn, rowF_lt hr⟩, l⟩
theorem GrpS.one {w : World} {F : Nat → Prop} {C : Array Value} (h : GrpS w F (.agg C)) : (C.size = 5 ∧ C.all (·.oneCell') = true) ∧ (Tryz.prog.info? 26).map (·.size) = some C.size := by
  obtain ⟨d, h, -⟩ := h
  exact ⟨oneG h, (sizeG h).2⟩
theorem RegS.one {w : World} {F : Nat → Prop} {C : Array Value} (h : RegS w F (.agg C)) : (C.size = 5 ∧ C.all (·.oneCell') = true) ∧ (Tryz.prog.info? 32).map (·.size) = some C.size := by
  obtain ⟨d, h, -⟩ := h
  exact ⟨oneR h.at, (sizeR h.at).2⟩
theorem regS_own {w : World} {base : Nat} {t t' : TypeId} {a b d : Int} {u v : Value} {ps : List (Int × Int)} {os : List Opn} (h1 : w.ownsRow base t 2 u ps.length (flatP ps)) (h2 : w.ownsRow base t' 4 v os.length (flatO os)) (hl : ps.length ≤ 21) (hl' : os.length ≤ 7) :
    RegS w (fun x => base ≤ x ∧ x < w.heap.size) (.agg #[.int .i64 a, .int .i64 b, .int .i64 d, u, v]) := by
  obtain ⟨A, c, rfl, s1, p1⟩ := own_pairsF h1
  obtain ⟨A', c', rfl, s2, p2⟩ := own_quadsF h2
  exact ⟨⟨a, b, d, ps, os⟩, atS_of (d := ⟨a, b, d, ps, os⟩) s1 s2 (by unfold maxLen; omega) (by unfold maxLen; omega) p1 p2, hl, hl'⟩

end Go.Proofs.YtdkmbcmenomecaaGreat

/- The model's l8Draw and DrawReadied: a group, a shelf and a note, drawn (written by draw_ready.py); conditions: the bytes can be read. -/
namespace Go.Proofs.YtdkmbcmenomecaaGreat
open Go Go.RowKit

/-- The blocks behind the results, none of the three variables. -/
def Aw (S a b c : Nat) : Nat → Prop := fun x => S + 2 < x ∧ x ≠ a ∧ x ≠ b ∧ x ≠ c
theorem Seals.wide {w : World} {F : Nat → Prop} {k k' : Nat} {v : Value} (h : Seals w F k v) (hk : k ≤ k') : Seals w F k' v := by
  obtain ⟨A, n, c, ps, e, hn, hp⟩ := h
  exact ⟨A, n, c, ps, e, Nat.le_trans hn hk, hp⟩
theorem set_else {N : Array Value} {i j : Nat} {v : Value} (h : j ≠ i) : (N.setIfInBounds i v)[j]? = N[j]? := by simp [h.symm]
theorem okB_len8 {s l c sh : Int} {zs : List Int} (h : okB s l c sh zs = true) : (zs.length : Int) = s + c := by
  unfold okB at h
  simp only [Bool.and_eq_true, decide_eq_true_eq] at h
  exact h.1.2
theorem results_three {P : Program} {fn : Func} {x y z : Tmp} {ty ty' ty'' : TypeId} (h : fn.results = #[.cell x ty, .cell y ty', .cell z ty'']) (tmps : Array Value) (w : World) (g g' g'' : Nat) (t t' t'' : TypeId) (cs cs' cs'' : Array Value) (d d' d'' : TypeDesc)
    (hx : tmps.getD x undef = .pointer (some ⟨g, 0, none⟩)) (hy : tmps.getD y undef = .pointer (some ⟨g', 0, none⟩)) (hz : tmps.getD z undef = .pointer (some ⟨g'', 0, none⟩)) (hg : Box w g t cs) (hg' : Box w g' t' cs') (hg'' : Box w g'' t'' cs'')
    (hu : P.underlying ty = some d) (hd : (match d with | .struct _ | .array _ _ => true | _ => false) = true) (hi : (P.info? ty).map (·.size) = some cs.size)
    (hu' : P.underlying ty' = some d') (hd' : (match d' with | .struct _ | .array _ _ => true | _ => false) = true) (hi' : (P.info? ty').map (·.size) = some cs'.size)
    (hu'' : P.underlying ty'' = some d'') (hd'' : (match d'' with | .struct _ | .array _ _ => true | _ => false) = true) (hi'' : (P.info? ty'').map (·.size) = some cs''.size) :
    (results fn tmps).run P w = .ok (.tuple #[.agg cs, .agg cs', .agg cs'']) w := by
  have ex : tmps[x]?.getD undef = .pointer (some ⟨g, 0, none⟩) := by simpa using hx
  have ey : tmps[y]?.getD undef = .pointer (some ⟨g', 0, none⟩) := by simpa using hy
  have ez : tmps[z]?.getD undef = .pointer (some ⟨g'', 0, none⟩) := by simpa using hz
  simp [results, h, ex, ey, ez, asAddr, run_loadVar_row w g t ty cs (0, 0) d hg hu hd hi, run_loadVar_row w g' t' ty' cs' (0, 0) d' hg' hu' hd' hi', run_loadVar_row w g'' t'' ty'' cs'' (0, 0) d'' hg'' hu'' hd'' hi'']
/-- What l8Draw keeps while it has the group that it drew first. -/
structure DS (w wr : World) (g : Nat) (A : Option Addr) (n cap : Nat) (V5 V6 : Nat) (G N : Array Value) (q m : Nat) (zs : List Int) : Prop where
  cur : Cur wr 109 .i64 g A n cap
  grw : w.grownBy wr (some g)
  r2 : Box wr w.heap.size 26 #[.int .i64 0, .int .i64 0, .int .i64 0, .int .i64 0, .slice none 0 0]
  r3 : Box wr (w.heap.size + 1) 32 #[.int .i64 0, .int .i64 0, .int .i64 0, .slice none 0 0, .slice none 0 0]
  r4 : Box wr (w.heap.size + 1 + 1) 34 #[.int .i64 0, .int .i64 0, .int .i64 0, .int .i64 0, .int .i64 0, .int .i64 0, .int .i64 0, .int .i64 0, .int .i64 0, .int .i64 0, .int .i64 0, .slice none 0 0, .slice none 0 0, .int .i64 0, .int .i64 0, .int .i64 0]
  gb : Box wr V5 26 G
  row : RowF wr (Aw w.heap.size V5 V6 V6) (some ⟨q, 0, none⟩) m zs
  nb : Box wr V6 34 N
  note : NoteS wr (Aw w.heap.size V5 V6 V6) (.agg N)
  hg : g < w.heap.size
  o5 : w.heap.size + 2 < V5
  o6 : V5 < V6
/-- What it keeps when it has the shelf, too. -/
structure DT (w wr : World) (g : Nat) (A : Option Addr) (n cap : Nat) (V5 V6 V7 : Nat) (G N R : Array Value) : Prop where
  cur : Cur wr 109 .i64 g A n cap
  grw : w.grownBy wr (some g)
  r2 : Box wr w.heap.size 26 #[.int .i64 0, .int .i64 0, .int .i64 0, .int .i64 0, .slice none 0 0]
  r3 : Box wr (w.heap.size + 1) 32 #[.int .i64 0, .int .i64 0, .int .i64 0, .slice none 0 0, .slice none 0 0]
  r4 : Box wr (w.heap.size + 1 + 1) 34 #[.int .i64 0, .int .i64 0, .int .i64 0, .int .i64 0, .int .i64 0, .int .i64 0, .int .i64 0, .int .i64 0, .int .i64 0, .int .i64 0, .int .i64 0, .slice none 0 0, .slice none 0 0, .int .i64 0, .int .i64 0, .int .i64 0]
  gb : Box wr V5 26 G
  grp : GrpS wr (Aw w.heap.size V5 V6 V7) (.agg G)
  nb : Box wr V6 34 N
  note : NoteS wr (Aw w.heap.size V5 V6 V7) (.agg N)
  rb : Box wr V7 32 R
  reg : RegS wr (Aw w.heap.size V5 V6 V7) (.agg R)
  hg : g < w.heap.size
  o5 : w.heap.size + 2 < V5
  o6 : V5 < V6
  o7 : V6 < V7
section
variable {w wr w' : World} {g : Nat} {A : Option Addr} {n cap : Nat} {V5 V6 V7 : Nat} {G N R N' G' R' : Array Value} {q m : Nat} {zs : List Int} {s l c sh : Int} {cap' : Nat}
theorem DS.draw (h : DS w wr g A n cap V5 V6 G N q m zs) (hg : wr.grownBy w' (some g)) (hc : Cur w' 109 .i64 g A n cap) : DS w w' g A n cap V5 V6 G N q m zs := by
  have ht := Turns.of_grown hg
  have h1 := h.hg
  have h5 := h.o5
  have h6 := h.o6
  have hF : ∀ b, Aw w.heap.size V5 V6 V6 b → ¬ b = g := fun b hb e => by have := hb.1; omega
  exact ⟨hc, grown_trans h.grw hg, h.r2.turn ht (by omega), h.r3.turn ht (by omega), h.r4.turn ht (by omega), h.gb.turn ht (by omega), h.row.turn ht hF, h.nb.turn ht (by omega), keepsNS.turn h.note ht hF, h1, h5, h6⟩
theorem DS.later (h : DS w wr g A n cap V5 V6 G N q m zs) (hb : Below wr.heap.size wr w') : DS w w' g A n cap V5 V6 G N q m zs :=
  ⟨h.cur.kept (grown_bel hb none) (fun q hq => by cases hq), grown_trans h.grw (grown_bel hb _), h.r2.later hb h.r2.lt, h.r3.later hb h.r3.lt, h.r4.later hb h.r4.lt, h.gb.later hb h.gb.lt, h.row.turn (T := fun _ => False) (Turns.of_below hb) (fun _ _ h => h), h.nb.later hb h.nb.lt, keepsNS.later h.note hb, h.hg, h.o5, h.o6⟩
/-- The note's variable is written. -/
theorem DS.put (h : DS w wr g A n cap V5 V6 G N q m zs) (ht : Turns (· = V6) wr w') (hB : Box w' V6 34 N') (hN : NoteS w' (Aw w.heap.size V5 V6 V6) (.agg N')) : DS w w' g A n cap V5 V6 G N' q m zs := by
  have h1 := h.hg
  have h5 := h.o5
  have h6 := h.o6
  exact ⟨h.cur.kept (turns_grown ht) (fun r hr => by injection hr with hr; omega), grown_far h.grw (turns_grown ht) (fun r hr => by injection hr with hr; omega), h.r2.turn ht (by omega), h.r3.turn ht (by omega), h.r4.turn ht (by omega), h.gb.turn ht (by omega), h.row.turn ht (fun _ hb e => hb.2.2.1 e), hB, hN, h1, h5, h6⟩
theorem turns_cell (w : World) (V i : Nat) (u : Value) : Turns (· = V) w (w.setCell ⟨V, i, none⟩ u) := Turns.of_grown (grown_set (grown_refl w (some V)) i u)
/-- A number of the note is written. -/
theorem DS.num (h : DS w wr g A n cap V5 V6 G N q m zs) {i : Nat} (hi : isNum i) (z : Int) : DS w (wr.setCell ⟨V6, i, none⟩ (.int .i64 z)) g A n cap V5 V6 G (N.setIfInBounds i (.int .i64 z)) q m zs :=
  h.put (turns_cell wr V6 i _) (h.nb.set i _) (keepsNS.turn (h.note.put hi z) (turns_cell wr V6 i _) (fun _ hb e => hb.2.2.1 e))
theorem DS.cert (h : DS w wr g A n cap V5 V6 G N q m zs) {v : Value} (hv : Seals wr (Aw w.heap.size V5 V6 V6) 20 v) : DS w (wr.setCell ⟨V6, 11, none⟩ v) g A n cap V5 V6 G (N.setIfInBounds 11 v) q m zs :=
  h.put (turns_cell wr V6 11 _) (h.nb.set 11 _) (keepsNS.turn (h.note.cert hv) (turns_cell wr V6 11 _) (fun _ hb e => hb.2.2.1 e))
theorem DS.more (h : DS w wr g A n cap V5 V6 G N q m zs) {v : Value} (hv : Seals wr (Aw w.heap.size V5 V6 V6) 20 v) : DS w (wr.setCell ⟨V6, 12, none⟩ v) g A n cap V5 V6 G (N.setIfInBounds 12 v) q m zs :=
  h.put (turns_cell wr V6 12 _) (h.nb.set 12 _) (keepsNS.turn (h.note.more hv) (turns_cell wr V6 12 _) (fun _ hb e => hb.2.2.1 e))
theorem DT.draw (h : DT w wr g A n cap V5 V6 V7 G N R) (hg : wr.grownBy w' (some g)) (hc : Cur w' 109 .i64 g A n cap) : DT w w' g A n cap V5 V6 V7 G N R := by
  have ht := Turns.of_grown hg
  have h1 := h.hg
  have h5 := h.o5
  have h6 := h.o6
  have h7 := h.o7
  have hF : ∀ b, Aw w.heap.size V5 V6 V7 b → ¬ b = g := fun b hb e => by have := hb.1; omega
  exact ⟨hc, grown_trans h.grw hg, h.r2.turn ht (by omega), h.r3.turn ht (by omega), h.r4.turn ht (by omega), h.gb.turn ht (by omega), keepsGS.turn h.grp ht hF, h.nb.turn ht (by omega), keepsNS.turn h.note ht hF, h.rb.turn ht (by omega), keepsRS.turn h.reg ht hF, h1, h5, h6, h7⟩
theorem DT.later (h : DT w wr g A n cap V5 V6 V7 G N R) (hb : Below wr.heap.size wr w') : DT w w' g A n cap V5 V6 V7 G N R :=
  ⟨h.cur.kept (grown_bel hb none) (fun q hq => by cases hq), grown_trans h.grw (grown_bel hb _), h.r2.later hb h.r2.lt, h.r3.later hb h.r3.lt, h.r4.later hb h.r4.lt, h.gb.later hb h.gb.lt, keepsGS.later h.grp hb, h.nb.later hb h.nb.lt, keepsNS.later h.note hb, h.rb.later hb h.rb.lt, keepsRS.later h.reg hb, h.hg, h.o5, h.o6, h.o7⟩
/-- A variable of the three is written whole. -/
theorem DT.putG (h : DT w wr g A n cap V5 V6 V7 G N R) (hN : GrpS wr (Aw w.heap.size V5 V6 V7) (.agg G')) : DT w (wr.setRow V5 G') g A n cap V5 V6 V7 G' N R := by
  have ht := turns_setRow wr V5 G'
  have h1 := h.hg
  have h5 := h.o5
  have h6 := h.o6
  have h7 := h.o7
  have hF : ∀ b, Aw w.heap.size V5 V6 V7 b → ¬ b = V5 := fun b hb e => hb.2.1 e
  exact ⟨h.cur.kept (turns_grown ht) (fun r hr => by injection hr with hr; omega), grown_far h.grw (turns_grown ht) (fun r hr => by injection hr with hr; omega), h.r2.turn ht (by omega), h.r3.turn ht (by omega), h.r4.turn ht (by omega), h.gb.setRow G', keepsGS.turn hN ht hF, h.nb.turn ht (by omega), keepsNS.turn h.note ht hF, h.rb.turn ht (by omega), keepsRS.turn h.reg ht hF, h1, h5, h6, h7⟩
theorem DT.putN (h : DT w wr g A n cap V5 V6 V7 G N R) (hN : NoteS wr (Aw w.heap.size V5 V6 V7) (.agg N')) : DT w (wr.setRow V6 N') g A n cap V5 V6 V7 G N' R := by
  have ht := turns_setRow wr V6 N'
  have h1 := h.hg
  have h5 := h.o5
  have h6 := h.o6
  have h7 := h.o7
  have hF : ∀ b, Aw w.heap.size V5 V6 V7 b → ¬ b = V6 := fun b hb e => hb.2.2.1 e
  exact ⟨h.cur.kept (turns_grown ht) (fun r hr => by injection hr with hr; omega), grown_far h.grw (turns_grown ht) (fun r hr => by injection hr with hr; omega), h.r2.turn ht (by omega), h.r3.turn ht (by omega), h.r4.turn ht (by omega), h.gb.turn ht (by omega), keepsGS.turn h.grp ht hF, h.nb.setRow N', keepsNS.turn hN ht hF, h.rb.turn ht (by omega), keepsRS.turn h.reg ht hF, h1, h5, h6, h7⟩
theorem DT.putR (h : DT w wr g A n cap V5 V6 V7 G N R) (hN : RegS wr (Aw w.heap.size V5 V6 V7) (.agg R')) : DT w (wr.setRow V7 R') g A n cap V5 V6 V7 G N R' := by
  have ht := turns_setRow wr V7 R'
  have h1 := h.hg
  have h5 := h.o5
  have h6 := h.o6
  have h7 := h.o7
  have hF : ∀ b, Aw w.heap.size V5 V6 V7 b → ¬ b = V7 := fun b hb e => hb.2.2.2 e
  exact ⟨h.cur.kept (turns_grown ht) (fun r hr => by injection hr with hr; omega), grown_far h.grw (turns_grown ht) (fun r hr => by injection hr with hr; omega), h.r2.turn ht (by omega), h.r3.turn ht (by omega), h.r4.turn ht (by omega), h.gb.turn ht (by omega), keepsGS.turn h.grp ht hF, h.nb.turn ht (by omega), keepsNS.turn h.note ht hF, h.rb.setRow R', keepsRS.turn hN ht hF, h1, h5, h6, h7⟩
/-- The shelf's variable is new. -/
theorem DS.shelf (h : DS w wr g A n cap V5 V6 #[.int .i64 s, .int .i64 l, .int .i64 c, .int .i64 sh, .slice (some ⟨q, 0, none⟩) m cap'] N q m zs) (hm : m ≤ 100) (hR : RegS wr (Aw w.heap.size V5 V6 wr.heap.size) (.agg R)) : DT w (wr.alloc (.cells R 32)) g A n cap V5 V6 wr.heap.size #[.int .i64 s, .int .i64 l, .int .i64 c, .int .i64 sh, .slice (some ⟨q, 0, none⟩) m cap'] N R := by
  have hb := bel_alloc wr (.cells R 32)
  have K := h.later hb
  have hl := h.nb.lt
  have hr := rowF_lt h.row
  have hn := h.note.lt
  refine ⟨K.cur, K.grw, K.r2, K.r3, K.r4, K.gb, ?_, K.nb, ?_, Box.new wr _ _, keepsRS.later hR hb, h.hg, h.o5, h.o6, hl⟩
  · refine keepsGS.later ?_ hb
    have hz : zs.length = m := hr.1.1
    refine ⟨⟨s, l, c, sh, zs⟩, ⟨_, m, _, rfl, by unfold maxLen; omega, hr.1, fun h0 b o e => ?_⟩, by show zs.length ≤ 100; omega⟩
    obtain ⟨h1, h2⟩ := hr.2 h0 b o e
    exact ⟨h1.1, h1.2.1, h1.2.2.1, by omega⟩
  · exact keepsNS.later (keepsNS.sub hn fun b ⟨h1, h2⟩ => ⟨h1.1, h1.2.1, h1.2.2.1, by omega⟩) hb
end
/-- What l8Draw leaves: a group, a shelf and a note, behind all that was there. -/
def DrawnRdy (g : Nat) (A : Option Addr) (n cap : Nat) (w : World) (e : Ending) (w' : World) : Prop :=
  ∃ (G R N : Array Value), e = .returned (.tuple #[.agg G, .agg R, .agg N]) ∧ GrpS w' (w.heap.size + 2 < ·) (.agg G) ∧ RegS w' (w.heap.size + 2 < ·) (.agg R) ∧ NoteS w' (w.heap.size + 2 < ·) (.agg N) ∧ Cur w' 109 .i64 g A n cap ∧ w.grownBy w' (some g)

set_option maxRecDepth 100000 in
set_option maxHeartbeats 16000000 in
theorem l8Draw_any (g : Nat) (A : Option Addr) (n cap : Nat) (w : World) (hc : Cur w 109 .i64 g A n cap) :
    Calls Tryz.prog 31 #[.pointer (some ⟨g, 0, none⟩)] w (DrawnRdy g A n cap w) := by
  have hgl := hc.lt
  have E0 := bel_trans (bel_trans (bel_alloc w (.cells #[.int .i64 0, .int .i64 0, .int .i64 0, .int .i64 0, .slice none 0 0] 26)) (bel_alloc _ (.cells #[.int .i64 0, .int .i64 0, .int .i64 0, .slice none 0 0, .slice none 0 0] 32))) (bel_alloc _ (.cells #[.int .i64 0, .int .i64 0, .int .i64 0, .int .i64 0, .int .i64 0, .int .i64 0, .int .i64 0, .int .i64 0, .int .i64 0, .int .i64 0, .int .i64 0, .slice none 0 0, .slice none 0 0, .int .i64 0, .int .i64 0, .int .i64 0] 34))
  have R2 := ((Box.new w 26 #[.int .i64 0, .int .i64 0, .int .i64 0, .int .i64 0, .slice none 0 0]).alloc (.cells #[.int .i64 0, .int .i64 0, .int .i64 0, .slice none 0 0, .slice none 0 0] 32)).alloc (.cells #[.int .i64 0, .int .i64 0, .int .i64 0, .int .i64 0, .int .i64 0, .int .i64 0, .int .i64 0, .int .i64 0, .int .i64 0, .int .i64 0, .int .i64 0, .slice none 0 0, .slice none 0 0, .int .i64 0, .int .i64 0, .int .i64 0] 34)
  have R3 := (Box.new (w.alloc (.cells #[.int .i64 0, .int .i64 0, .int .i64 0, .int .i64 0, .slice none 0 0] 26)) 32 #[.int .i64 0, .int .i64 0, .int .i64 0, .slice none 0 0, .slice none 0 0]).alloc (.cells #[.int .i64 0, .int .i64 0, .int .i64 0, .int .i64 0, .int .i64 0, .int .i64 0, .int .i64 0, .int .i64 0, .int .i64 0, .int .i64 0, .int .i64 0, .slice none 0 0, .slice none 0 0, .int .i64 0, .int .i64 0, .int .i64 0] 34)
  have R4 := Box.new ((w.alloc (.cells #[.int .i64 0, .int .i64 0, .int .i64 0, .int .i64 0, .slice none 0 0] 26)).alloc (.cells #[.int .i64 0, .int .i64 0, .int .i64 0, .slice none 0 0, .slice none 0 0] 32)) 34 #[.int .i64 0, .int .i64 0, .int .i64 0, .int .i64 0, .int .i64 0, .int .i64 0, .int .i64 0, .int .i64 0, .int .i64 0, .int .i64 0, .int .i64 0, .slice none 0 0, .slice none 0 0, .int .i64 0, .int .i64 0, .int .i64 0]
  simp only [World.size_alloc] at R3 R4
  have hc0 := hc.kept (grown_bel E0 none) (fun q hq => by cases hq)
  clear hc
  go_enter Tryz.func31, Tryz.ntmps31
  go_wp2_with fail
  generalize (((w.alloc _).alloc _).alloc _ : World) = w0 at E0 R2 R3 R4 hc0 ⊢
  refine (l1DrawGroup_any g A n cap w0 hc0).mono ?_
  rintro e w1 ⟨s, l, c, sh, q, cap', zs, rfl, ho, hok, hs6, hc3, hcN, hgN⟩
  obtain ⟨ok1, _, ok2, _, _, _⟩ := okB_parts hok
  have hq0 := (ho.lt q rfl).1
  have hq1 := (ho.lt q rfl).2
  have hsz := hgN.size
  have h4 := R4.lt
  have hrow := own_row ho
  have hml : zs.length ≤ 100 := by have := okB_len8 hok; omega
  obtain ⟨m, hm⟩ : ∃ m, zs.length = m := ⟨_, rfl⟩
  rw [hm] at hrow hml ⊢
  clear ho hm
  have hb := bel_alloc w1 (.cells #[.int .i64 s, .int .i64 l, .int .i64 c, .int .i64 sh, .slice (some ⟨q, 0, none⟩) m cap'] 26)
  have B5 := Box.new w1 26 #[.int .i64 s, .int .i64 l, .int .i64 c, .int .i64 sh, .slice (some ⟨q, 0, none⟩) m cap']
  have H2 := (R2.kept hgN (by intro e; injection e with e; omega)).later hb (R2.kept hgN (by intro e; injection e with e; omega)).lt
  have H3 := (R3.kept hgN (by intro e; injection e with e; omega)).later hb (R3.kept hgN (by intro e; injection e with e; omega)).lt
  have H4 := (R4.kept hgN (by intro e; injection e with e; omega)).later hb (R4.kept hgN (by intro e; injection e with e; omega)).lt
  have hcM := hcN.kept (grown_bel hb none) (fun q hq => by cases hq)
  have hgM := grown_trans (grown_trans (grown_bel E0 (some g)) hgN) (grown_bel hb _)
  have hrM := (hrow.below hb (Nat.le_refl _)).more hb.size
  have hV : w.heap.size + 2 < w1.heap.size := by omega
  have hqV : q < w1.heap.size := hq1
  have hqL : w.heap.size + 2 < q := by omega
  clear E0 R2 R3 R4 hc0 hcN hgN hrow hb hq0 hq1 hsz h4
  go_upto_region 2 with fail
  generalize (w1.alloc _ : World) = w2 at B5 H2 H3 H4 hcM hgM hrM ⊢
  generalize w1.heap.size = V5 at B5 hV hqV ⊢
  -- the note
  go_wp2_with (refine wpList_load_box 26 _ rfl V5 rfl 26 _ B5 _ Tryz.underlying26 rfl (by kernel_rfl) (by first | rfl | simp [Region.wanted, yielded] | (simp [Region.wanted, yielded, Act.put] <;> omega)) ?_)
  refine (l5Draw_any g A n cap s l c sh q 0 m cap' zs 3 w2 (by omega) (by omega) (by unfold maxLen; omega) hok hcM hrM (by omega)).mono ?_
  rintro e w3 ⟨N, cv, mv, rfl, hsh, hl1, hl2, -, hcN, hgN⟩
  have hsz := hgN.size
  have b5 := B5.lt
  have hb := bel_new_row w3 #[.int .i64 0, .int .i64 0, .int .i64 0, .int .i64 0, .int .i64 0, .int .i64 0, .int .i64 0, .int .i64 0, .int .i64 0, .int .i64 0, .int .i64 0, .slice none 0 0, .slice none 0 0, .int .i64 0, .int .i64 0, .int .i64 0] 34 N
  have B5' := B5.kept hgN (by intro e; injection e with e; omega)
  have H2' := H2.kept hgN (by intro e; injection e with e; omega)
  have H3' := H3.kept hgN (by intro e; injection e with e; omega)
  have H4' := H4.kept hgN (by intro e; injection e with e; omega)
  have hrN := hrM.keptB (Nat.le_refl _) hgN (fun k hk => by injection hk with hk; exact .inr (by intro e; omega))
  have hns : NoteS w3 (Aw w.heap.size V5 w3.heap.size w3.heap.size) (.agg N) := ⟨N, cv, mv, rfl, hsh, (hl1.seals.sub fun b hb => ⟨by omega, by omega, by omega, by omega⟩) |>.wide (by omega), hl2.seals.sub fun b hb => ⟨by omega, by omega, by omega, by omega⟩⟩
  have hrF : RowF w3 (Aw w.heap.size V5 w3.heap.size w3.heap.size) (some ⟨q, 0, none⟩) m zs := ⟨hrN.more (by omega), fun _ b o e => by injection e with e; injection e with e; subst e; exact ⟨by omega, by omega, by omega, by omega⟩⟩
  have K : DS w ((w3.alloc (.cells #[.int .i64 0, .int .i64 0, .int .i64 0, .int .i64 0, .int .i64 0, .int .i64 0, .int .i64 0, .int .i64 0, .int .i64 0, .int .i64 0, .int .i64 0, .slice none 0 0, .slice none 0 0, .int .i64 0, .int .i64 0, .int .i64 0] 34)).setRow w3.heap.size N) g A n cap V5 w3.heap.size #[.int .i64 s, .int .i64 l, .int .i64 c, .int .i64 sh, .slice (some ⟨q, 0, none⟩) m cap'] N q m zs := ⟨hcN.kept (grown_bel hb none) (fun q hq => by cases hq), grown_trans (grown_trans hgM hgN) (grown_bel hb _), H2'.later hb H2'.lt, H3'.later hb H3'.lt, H4'.later hb H4'.lt, B5'.later hb B5'.lt, hrF.turn (T := fun _ => False) (Turns.of_below hb) (fun _ _ h => h), (Box.new w3 34 #[.int .i64 0, .int .i64 0, .int .i64 0, .int .i64 0, .int .i64 0, .int .i64 0, .int .i64 0, .int .i64 0, .int .i64 0, .int .i64 0, .int .i64 0, .slice none 0 0, .slice none 0 0, .int .i64 0, .int .i64 0, .int .i64 0]).setRow N, keepsNS.later hns hb, by omega, hV, by omega⟩
  have ZB := Box.new w3 34 #[.int .i64 0, .int .i64 0, .int .i64 0, .int .i64 0, .int .i64 0, .int .i64 0, .int .i64 0, .int .i64 0, .int .i64 0, .int .i64 0, .int .i64 0, .slice none 0 0, .slice none 0 0, .int .i64 0, .int .i64 0, .int .i64 0]
  have O := Lib.hid hns.size
  clear hsh hl1 hl2 hcN hgN hb B5' H2' H3' H4' hrN hns hrF B5 H2 H3 H4 hcM hgM hrM hsz b5
  go_upto_region 3 with (refine wpList_store_row rfl 34 _ _ rfl w3.heap.size _ rfl rfl 34 #[.int .i64 0, .int .i64 0, .int .i64 0, .int .i64 0, .int .i64 0, .int .i64 0, .int .i64 0, .int .i64 0, .int .i64 0, .int .i64 0, .int .i64 0, .slice none 0 0, .slice none 0 0, .int .i64 0, .int .i64 0, .int .i64 0] ZB O.out.2.1 O.out.1.symm O.out.2.2 ?_)
  clear ZB O
  try simp only [Act.put]
  generalize ((w3.alloc _).setRow _ _ : World) = w4 at K ⊢
  generalize w3.heap.size = V6 at K ⊢
  have gi := Lib.hid (show (Tryz.prog.info? 26).map (·.size) = some (#[.int .i64 s, .int .i64 l, .int .i64 c, .int .i64 sh, .slice (some ⟨q, 0, none⟩) m cap'] : Array Value).size by kernel_rfl)
  obtain ⟨w1, rfl⟩ : ∃ x, x = w4 := ⟨_, rfl⟩
  -- a certificate
  go_cut [21] (fun v wr => ∃ b, v = .bool b ∧ DS w wr g A n cap V5 V6 #[.int .i64 s, .int .i64 l, .int .i64 c, .int .i64 sh, .slice (some ⟨q, 0, none⟩) m cap'] N q m zs)
  case first =>
    go_wp2_with fail
    refine (l1Once_any g A n cap 4 w1 (by omega) K.cur).mono ?_
    rintro e w2 ⟨b, rfl, hcN, hgN⟩
    replace K := K.draw hgN hcN
    clear hcN hgN
    obtain ⟨w1, rfl⟩ : ∃ x, x = w2 := ⟨_, rfl⟩
    rcases b with _ | _
    · obtain ⟨x8, n8⟩ := K.note.num (i := 8) (by simp [isNum])
      obtain ⟨x9, n9⟩ := K.note.num (i := 9) (by simp [isNum])
      have cN := K.nb.cell
      go_wp2_with fail
      refine (zero_is x8 x9 w1).mono ?_
      rintro e w2 ⟨rfl, hb⟩
      replace K := K.later hb
      clear hb cN n8 n9
      go_wp2_with fail
      go_meet
      exact ⟨_, rfl, K⟩
    · go_wp2_with fail
      go_meet
      exact ⟨_, rfl, K⟩
  case rest =>
  clear K
  obtain ⟨b, rfl, K⟩ := hcut
  obtain ⟨w1, rfl⟩ : ∃ x, x = wc := ⟨_, rfl⟩
  go_upto_if 21 with fail
  go_cut [] (fun wr => ∃ N, DS w wr g A n cap V5 V6 #[.int .i64 s, .int .i64 l, .int .i64 c, .int .i64 sh, .slice (some ⟨q, 0, none⟩) m cap'] N q m zs)
  case first =>
    rcases b with _ | _
    · go_wp2_with fail
      go_meet
      exact ⟨_, K⟩
    · go_wp2_with fail
      obtain ⟨x4, n4⟩ := K.note.num (i := 4) (by simp [isNum])
      obtain ⟨x8, n8⟩ := K.note.num (i := 8) (by simp [isNum])
      obtain ⟨x9, n9⟩ := K.note.num (i := 9) (by simp [isNum])
      obtain ⟨x10, n10⟩ := K.note.num (i := 10) (by simp [isNum])
      refine wp_region_sink 11 (fun w' => Box w' V5 26 #[.int .i64 s, .int .i64 l, .int .i64 c, .int .i64 sh, .slice (some ⟨q, 0, none⟩) m cap'] ∧ w'.cell? ⟨V6, 4, none⟩ = some (.int .i64 x4) ∧ w'.cell? ⟨V6, 8, none⟩ = some (.int .i64 x8) ∧ w'.cell? ⟨V6, 9, none⟩ = some (.int .i64 x9) ∧ w'.cell? ⟨V6, 10, none⟩ = some (.int .i64 x10)) (by kernel_rfl) ⟨K.gb, (K.nb.cell 4).trans n4, (K.nb.cell 8).trans n8, (K.nb.cell 9).trans n9, (K.nb.cell 10).trans n10⟩ (fun hH => ?_)
      replace K := K.later ((Below.refl w1.heap.size w1).drew)
      generalize w1.drew = w2 at K hH ⊢
      refine wpAnyE_takeS (i := 0) (v := .agg #[.int .i64 s, .int .i64 l, .int .i64 c, .int .i64 sh, .slice (some ⟨q, 0, none⟩) m cap']) (by simp only [List.getElem?_toArray, List.getElem?_cons_zero]; rfl) (by kernel_rfl) (by kernel_rfl) (by kernel_rfl) (by exact fun _ _ _ h => h) (by kernel_rfl) ?ya0 hH ?_
      case ya0 => exact yields_box 26 _ rfl V5 rfl 26 #[.int .i64 s, .int .i64 l, .int .i64 c, .int .i64 sh, .slice (some ⟨q, 0, none⟩) m cap'] (fun _ h => h.1) _ Tryz.underlying26 rfl gi.out (by first | rfl | simp [Region.wanted, yielded] | (simp [Region.wanted, yielded, Act.put] <;> omega))
      try simp only [Act.put, List.setIfInBounds_toArray, List.set_cons_zero, List.set_cons_succ]
      refine wpAnyE_pure (i := 1) (v := ?va1) (by simp only [List.getElem?_toArray, List.getElem?_cons_succ, List.getElem?_cons_zero]; rfl) (by kernel_rfl) (by kernel_rfl) (by kernel_rfl) (by exact fun _ _ _ h => h) (by kernel_rfl) (Or.inl ⟨by rfl, ?ya1⟩) hH ?ra1
      case ya1 => (intro w' hSw; (try dsimp only at hSw); go_simp; try with_reducible rfl)
      try simp only [Act.put, List.setIfInBounds_toArray, List.set_cons_zero, List.set_cons_succ]
      refine wpAnyE_takeS (i := 2) (v := ?va2) (by simp only [List.getElem?_toArray, List.getElem?_cons_succ, List.getElem?_cons_zero]; rfl) (by kernel_rfl) (by kernel_rfl) (by kernel_rfl) (by exact fun _ _ _ h => h) (by kernel_rfl) (Or.inl ⟨by rfl, ?ya2⟩) hH ?ra2
      case ya2 => (intro w' hSw; (try dsimp only at hSw); obtain ⟨hbx, s1, s2, s3, s4⟩ := hSw; go_simp; try with_reducible rfl)
      try simp only [Act.put, List.setIfInBounds_toArray, List.set_cons_zero, List.set_cons_succ]
      refine wpAnyE_pure (i := 3) (v := ?va3) (by simp only [List.getElem?_toArray, List.getElem?_cons_succ, List.getElem?_cons_zero]; rfl) (by kernel_rfl) (by kernel_rfl) (by kernel_rfl) (by exact fun _ _ _ h => h) (by kernel_rfl) (Or.inl ⟨by rfl, ?ya3⟩) hH ?ra3
      case ya3 => (intro w' hSw; (try dsimp only at hSw); go_simp; try with_reducible rfl)
      try simp only [Act.put, List.setIfInBounds_toArray, List.set_cons_zero, List.set_cons_succ]
      refine wpAnyE_takeS (i := 4) (v := ?va4) (by simp only [List.getElem?_toArray, List.getElem?_cons_succ, List.getElem?_cons_zero]; rfl) (by kernel_rfl) (by kernel_rfl) (by kernel_rfl) (by exact fun _ _ _ h => h) (by kernel_rfl) (Or.inl ⟨by rfl, ?ya4⟩) hH ?ra4
      case ya4 => (intro w' hSw; (try dsimp only at hSw); obtain ⟨hbx, s1, s2, s3, s4⟩ := hSw; go_simp; try with_reducible rfl)
      try simp only [Act.put, List.setIfInBounds_toArray, List.set_cons_zero, List.set_cons_succ]
      refine wpAnyE_pure (i := 5) (v := ?va5) (by simp only [List.getElem?_toArray, List.getElem?_cons_succ, List.getElem?_cons_zero]; rfl) (by kernel_rfl) (by kernel_rfl) (by kernel_rfl) (by exact fun _ _ _ h => h) (by kernel_rfl) (Or.inl ⟨by rfl, ?ya5⟩) hH ?ra5
      case ya5 => (intro w' hSw; (try dsimp only at hSw); go_simp; try with_reducible rfl)
      try simp only [Act.put, List.setIfInBounds_toArray, List.set_cons_zero, List.set_cons_succ]
      refine wpAnyE_takeS (i := 6) (v := ?va6) (by simp only [List.getElem?_toArray, List.getElem?_cons_succ, List.getElem?_cons_zero]; rfl) (by kernel_rfl) (by kernel_rfl) (by kernel_rfl) (by exact fun _ _ _ h => h) (by kernel_rfl) (Or.inl ⟨by rfl, ?ya6⟩) hH ?ra6
      case ya6 => (intro w' hSw; (try dsimp only at hSw); obtain ⟨hbx, s1, s2, s3, s4⟩ := hSw; go_simp; try with_reducible rfl)
      try simp only [Act.put, List.setIfInBounds_toArray, List.set_cons_zero, List.set_cons_succ]
      refine wpAnyE_one (i := 7) (by kernel_rfl) (by simp only [List.getElem?_toArray, List.getElem?_cons_succ, List.getElem?_cons_zero]; rfl) (fun K' hK => ?_)
      go_simp
      refine (l4Ready_is x4 x8 x9 x10 _).mono ?_
      rintro e w3 ⟨rfl, hb⟩
      replace K := K.later hb
      clear hb
      clear hH
      refine hK.out _ _ ⟨K.gb, (K.nb.cell 4).trans n4, (K.nb.cell 8).trans n8, (K.nb.cell 9).trans n9, (K.nb.cell 10).trans n10⟩ (fun hH => ?_)
      clear hK K'
      try simp only [Act.put, List.setIfInBounds_toArray, List.set_cons_zero, List.set_cons_succ]
      refine wpAnyE_one (i := 8) (by kernel_rfl) (by simp only [List.getElem?_toArray, List.getElem?_cons_succ, List.getElem?_cons_zero]; rfl) (fun K' hK => ?_)
      go_simp
      refine (l4Cert_any s l c sh _ m cap' zs 1 x4 x8 x9 x10 w3 (by unfold maxLen; omega) K.row.1).mono ?_
      rintro e w4 ⟨p, pc, ps, rfl, how, hpl, hb⟩
      have hsv : Seals w4 (Aw w.heap.size V5 V6 V6) 20 (.slice (some ⟨p, 0, none⟩) ps.length pc) := ⟨_, _, _, ps, rfl, hpl, own_pairs how, fun _ b o e => by
          injection e with e
          injection e with e
          subst e
          have h1 := (how.lt p rfl).1
          have h2 := K.nb.lt
          have h3 := K.o5
          have h4 := K.o6
          exact ⟨by omega, by omega, by omega, by omega⟩⟩
      replace K := K.later hb
      clear hb how
      have K9 := K.cert hsv
      have f := K.nb.frozen
      obtain ⟨cv9, c9⟩ : ∃ u, w4.cell? ⟨V6, 11, none⟩ = some u := by rw [K.nb.cell]; exact ⟨_, Array.getElem?_eq_getElem (by rw [K.note.size.1]; omega)⟩
      clear hH
      refine hK.out _ _ ⟨K.gb, (K.nb.cell 4).trans n4, (K.nb.cell 8).trans n8, (K.nb.cell 9).trans n9, (K.nb.cell 10).trans n10⟩ (fun hH => ?_)
      clear hK K'
      try simp only [Act.put, List.setIfInBounds_toArray, List.set_cons_zero, List.set_cons_succ]
      refine wpAnyE_pure (i := 9) (v := ?va9) (by simp only [List.getElem?_toArray, List.getElem?_cons_succ, List.getElem?_cons_zero]; rfl) (by kernel_rfl) (by kernel_rfl) (by kernel_rfl) (by exact fun _ _ _ h => h) (by kernel_rfl) (Or.inl ⟨by rfl, ?ya9⟩) hH ?ra9
      case ya9 => (intro w' hSw; (try dsimp only at hSw); go_simp; try with_reducible rfl)
      try simp only [Act.put, List.setIfInBounds_toArray, List.set_cons_zero, List.set_cons_succ]
      refine wpAnyE_end (i := 10) (by kernel_rfl) (by simp only [List.getElem?_toArray, List.getElem?_cons_succ, List.getElem?_cons_zero]; rfl) (by kernel_rfl) (fun K' hK => ?_)
      go_simp
      refine hK.out _ _ ⟨K9.gb, (K9.nb.cell 4).trans ((set_else (by omega)).trans n4), (K9.nb.cell 8).trans ((set_else (by omega)).trans n8), (K9.nb.cell 9).trans ((set_else (by omega)).trans n9), (K9.nb.cell 10).trans ((set_else (by omega)).trans n10)⟩ ?_
      clear hK K'
      try simp only [Act.put, List.setIfInBounds_toArray, List.set_cons_zero, List.set_cons_succ]
      clear K hH hsv f c9 n4 n8 n9 n10
      go_wp2_with fail
      go_meet
      exact ⟨_, K9⟩
  case rest =>
  clear K N
  obtain ⟨N, K⟩ := hcut
  obtain ⟨w1, rfl⟩ : ∃ x, x = wc := ⟨_, rfl⟩
  go_wp2_with fail
  refine (l1Once_any g A n cap 4 w1 (by omega) K.cur).mono ?_
  rintro e w2 ⟨b, rfl, hcN, hgN⟩
  replace K := K.draw hgN hcN
  clear hcN hgN
  obtain ⟨w1, rfl⟩ : ∃ x, x = w2 := ⟨_, rfl⟩
  go_upto_if 34 with fail
  go_cut [] (fun wr => ∃ N, DS w wr g A n cap V5 V6 #[.int .i64 s, .int .i64 l, .int .i64 c, .int .i64 sh, .slice (some ⟨q, 0, none⟩) m cap'] N q m zs)
  case first =>
    rcases b with _ | _
    · obtain ⟨x8, n8⟩ := K.note.num (i := 8) (by simp [isNum])
      obtain ⟨x9, n9⟩ := K.note.num (i := 9) (by simp [isNum])
      obtain ⟨x1, n1⟩ := K.note.num (i := 1) (by simp [isNum])
      have cN := K.nb.cell
      go_wp2_with fail
      refine (specNext_any x8 x9 x1 w1).mono ?_
      rintro e w2 ⟨rfl, hb⟩
      unfold nxV
      replace K := K.later hb
      clear hb cN n8 n9 n1
      obtain ⟨x5, n5⟩ := K.note.num (i := 5) (by simp [isNum])
      obtain ⟨x6, n6⟩ := K.note.num (i := 6) (by simp [isNum])
      have cN := K.nb.cell
      have fr := K.nb.frozen
      have K9 := (K.num (i := 5) (by simp [isNum]) (nxC x8 x9 x1)).num (i := 6) (by simp [isNum]) (nxK x8 x9 x1)
      clear K
      go_wp2_with fail
      go_meet
      exact ⟨_, K9⟩
    · go_wp2_with fail
      go_meet
      exact ⟨_, K⟩
  case rest =>
  clear K N
  obtain ⟨N, K⟩ := hcut
  obtain ⟨w1, rfl⟩ : ∃ x, x = wc := ⟨_, rfl⟩
  go_wp2_with fail
  refine (l1Once_any g A n cap 2 w1 (by omega) K.cur).mono ?_
  rintro e w2 ⟨b, rfl, hcN, hgN⟩
  replace K := K.draw hgN hcN
  clear hcN hgN
  obtain ⟨w1, rfl⟩ : ∃ x, x = w2 := ⟨_, rfl⟩
  go_upto_if 45 with fail
  go_cut [] (fun wr => ∃ N, DS w wr g A n cap V5 V6 #[.int .i64 s, .int .i64 l, .int .i64 c, .int .i64 sh, .slice (some ⟨q, 0, none⟩) m cap'] N q m zs)
  case first =>
    rcases b with _ | _
    · go_wp2_with fail
      go_meet
      exact ⟨_, K⟩
    · go_wp2_with fail
      obtain ⟨x4, n4⟩ := K.note.num (i := 4) (by simp [isNum])
      obtain ⟨x13, n13⟩ := K.note.num (i := 13) (by simp [isNum])
      obtain ⟨x14, n14⟩ := K.note.num (i := 14) (by simp [isNum])
      obtain ⟨x15, n15⟩ := K.note.num (i := 15) (by simp [isNum])
      refine wp_region_sink 11 (fun w' => Box w' V5 26 #[.int .i64 s, .int .i64 l, .int .i64 c, .int .i64 sh, .slice (some ⟨q, 0, none⟩) m cap'] ∧ w'.cell? ⟨V6, 4, none⟩ = some (.int .i64 x4) ∧ w'.cell? ⟨V6, 13, none⟩ = some (.int .i64 x13) ∧ w'.cell? ⟨V6, 14, none⟩ = some (.int .i64 x14) ∧ w'.cell? ⟨V6, 15, none⟩ = some (.int .i64 x15)) (by kernel_rfl) ⟨K.gb, (K.nb.cell 4).trans n4, (K.nb.cell 13).trans n13, (K.nb.cell 14).trans n14, (K.nb.cell 15).trans n15⟩ (fun hH => ?_)
      replace K := K.later ((Below.refl w1.heap.size w1).drew)
      generalize w1.drew = w2 at K hH ⊢
      refine wpAnyE_takeS (i := 0) (v := .agg #[.int .i64 s, .int .i64 l, .int .i64 c, .int .i64 sh, .slice (some ⟨q, 0, none⟩) m cap']) (by simp only [List.getElem?_toArray, List.getElem?_cons_zero]; rfl) (by kernel_rfl) (by kernel_rfl) (by kernel_rfl) (by exact fun _ _ _ h => h) (by kernel_rfl) ?yb0 hH ?_
      case yb0 => exact yields_box 26 _ rfl V5 rfl 26 #[.int .i64 s, .int .i64 l, .int .i64 c, .int .i64 sh, .slice (some ⟨q, 0, none⟩) m cap'] (fun _ h => h.1) _ Tryz.underlying26 rfl gi.out (by first | rfl | simp [Region.wanted, yielded] | (simp [Region.wanted, yielded, Act.put] <;> omega))
      try simp only [Act.put, List.setIfInBounds_toArray, List.set_cons_zero, List.set_cons_succ]
      refine wpAnyE_pure (i := 1) (v := ?vb1) (by simp only [List.getElem?_toArray, List.getElem?_cons_succ, List.getElem?_cons_zero]; rfl) (by kernel_rfl) (by kernel_rfl) (by kernel_rfl) (by exact fun _ _ _ h => h) (by kernel_rfl) (Or.inl ⟨by rfl, ?yb1⟩) hH ?rb1
      case yb1 => (intro w' hSw; (try dsimp only at hSw); go_simp; try with_reducible rfl)
      try simp only [Act.put, List.setIfInBounds_toArray, List.set_cons_zero, List.set_cons_succ]
      refine wpAnyE_takeS (i := 2) (v := ?vb2) (by simp only [List.getElem?_toArray, List.getElem?_cons_succ, List.getElem?_cons_zero]; rfl) (by kernel_rfl) (by kernel_rfl) (by kernel_rfl) (by exact fun _ _ _ h => h) (by kernel_rfl) (Or.inl ⟨by rfl, ?yb2⟩) hH ?rb2
      case yb2 => (intro w' hSw; (try dsimp only at hSw); obtain ⟨hbx, s1, s2, s3, s4⟩ := hSw; go_simp; try with_reducible rfl)
      try simp only [Act.put, List.setIfInBounds_toArray, List.set_cons_zero, List.set_cons_succ]
      refine wpAnyE_pure (i := 3) (v := ?vb3) (by simp only [List.getElem?_toArray, List.getElem?_cons_succ, List.getElem?_cons_zero]; rfl) (by kernel_rfl) (by kernel_rfl) (by kernel_rfl) (by exact fun _ _ _ h => h) (by kernel_rfl) (Or.inl ⟨by rfl, ?yb3⟩) hH ?rb3
      case yb3 => (intro w' hSw; (try dsimp only at hSw); go_simp; try with_reducible rfl)
      try simp only [Act.put, List.setIfInBounds_toArray, List.set_cons_zero, List.set_cons_succ]
      refine wpAnyE_takeS (i := 4) (v := ?vb4) (by simp only [List.getElem?_toArray, List.getElem?_cons_succ, List.getElem?_cons_zero]; rfl) (by kernel_rfl) (by kernel_rfl) (by kernel_rfl) (by exact fun _ _ _ h => h) (by kernel_rfl) (Or.inl ⟨by rfl, ?yb4⟩) hH ?rb4
      case yb4 => (intro w' hSw; (try dsimp only at hSw); obtain ⟨hbx, s1, s2, s3, s4⟩ := hSw; go_simp; try with_reducible rfl)
      try simp only [Act.put, List.setIfInBounds_toArray, List.set_cons_zero, List.set_cons_succ]
      refine wpAnyE_pure (i := 5) (v := ?vb5) (by simp only [List.getElem?_toArray, List.getElem?_cons_succ, List.getElem?_cons_zero]; rfl) (by kernel_rfl) (by kernel_rfl) (by kernel_rfl) (by exact fun _ _ _ h => h) (by kernel_rfl) (Or.inl ⟨by rfl, ?yb5⟩) hH ?rb5
      case yb5 => (intro w' hSw; (try dsimp only at hSw); go_simp; try with_reducible rfl)
      try simp only [Act.put, List.setIfInBounds_toArray, List.set_cons_zero, List.set_cons_succ]
      refine wpAnyE_takeS (i := 6) (v := ?vb6) (by simp only [List.getElem?_toArray, List.getElem?_cons_succ, List.getElem?_cons_zero]; rfl) (by kernel_rfl) (by kernel_rfl) (by kernel_rfl) (by exact fun _ _ _ h => h) (by kernel_rfl) (Or.inl ⟨by rfl, ?yb6⟩) hH ?rb6
      case yb6 => (intro w' hSw; (try dsimp only at hSw); obtain ⟨hbx, s1, s2, s3, s4⟩ := hSw; go_simp; try with_reducible rfl)
      try simp only [Act.put, List.setIfInBounds_toArray, List.set_cons_zero, List.set_cons_succ]
      refine wpAnyE_one (i := 7) (by kernel_rfl) (by simp only [List.getElem?_toArray, List.getElem?_cons_succ, List.getElem?_cons_zero]; rfl) (fun K' hK => ?_)
      go_simp
      refine (l4Wrote_is x4 x13 x14 x15 _).mono ?_
      rintro e w3 ⟨rfl, hb⟩
      replace K := K.later hb
      clear hb
      clear hH
      refine hK.out _ _ ⟨K.gb, (K.nb.cell 4).trans n4, (K.nb.cell 13).trans n13, (K.nb.cell 14).trans n14, (K.nb.cell 15).trans n15⟩ (fun hH => ?_)
      clear hK K'
      try simp only [Act.put, List.setIfInBounds_toArray, List.set_cons_zero, List.set_cons_succ]
      refine wpAnyE_one (i := 8) (by kernel_rfl) (by simp only [List.getElem?_toArray, List.getElem?_cons_succ, List.getElem?_cons_zero]; rfl) (fun K' hK => ?_)
      go_simp
      refine (l4Cert_any s l c sh _ m cap' zs 2 x4 x13 x14 x15 w3 (by unfold maxLen; omega) K.row.1).mono ?_
      rintro e w4 ⟨p, pc, ps, rfl, how, hpl, hb⟩
      have hsv : Seals w4 (Aw w.heap.size V5 V6 V6) 20 (.slice (some ⟨p, 0, none⟩) ps.length pc) := ⟨_, _, _, ps, rfl, hpl, own_pairs how, fun _ b o e => by
          injection e with e
          injection e with e
          subst e
          have h1 := (how.lt p rfl).1
          have h2 := K.nb.lt
          have h3 := K.o5
          have h4 := K.o6
          exact ⟨by omega, by omega, by omega, by omega⟩⟩
      replace K := K.later hb
      clear hb how
      have K9 := K.more hsv
      have f := K.nb.frozen
      obtain ⟨cv9, c9⟩ : ∃ u, w4.cell? ⟨V6, 12, none⟩ = some u := by rw [K.nb.cell]; exact ⟨_, Array.getElem?_eq_getElem (by rw [K.note.size.1]; omega)⟩
      clear hH
      refine hK.out _ _ ⟨K.gb, (K.nb.cell 4).trans n4, (K.nb.cell 13).trans n13, (K.nb.cell 14).trans n14, (K.nb.cell 15).trans n15⟩ (fun hH => ?_)
      clear hK K'
      try simp only [Act.put, List.setIfInBounds_toArray, List.set_cons_zero, List.set_cons_succ]
      refine wpAnyE_pure (i := 9) (v := ?vb9) (by simp only [List.getElem?_toArray, List.getElem?_cons_succ, List.getElem?_cons_zero]; rfl) (by kernel_rfl) (by kernel_rfl) (by kernel_rfl) (by exact fun _ _ _ h => h) (by kernel_rfl) (Or.inl ⟨by rfl, ?yb9⟩) hH ?rb9
      case yb9 => (intro w' hSw; (try dsimp only at hSw); go_simp; try with_reducible rfl)
      try simp only [Act.put, List.setIfInBounds_toArray, List.set_cons_zero, List.set_cons_succ]
      refine wpAnyE_end (i := 10) (by kernel_rfl) (by simp only [List.getElem?_toArray, List.getElem?_cons_succ, List.getElem?_cons_zero]; rfl) (by kernel_rfl) (fun K' hK => ?_)
      go_simp
      refine hK.out _ _ ⟨K9.gb, (K9.nb.cell 4).trans ((set_else (by omega)).trans n4), (K9.nb.cell 13).trans ((set_else (by omega)).trans n13), (K9.nb.cell 14).trans ((set_else (by omega)).trans n14), (K9.nb.cell 15).trans ((set_else (by omega)).trans n15)⟩ ?_
      clear hK K'
      try simp only [Act.put, List.setIfInBounds_toArray, List.set_cons_zero, List.set_cons_succ]
      clear K hH hsv f c9 n4 n13 n14 n15
      go_wp2_with fail
      go_meet
      exact ⟨_, K9⟩
  case rest =>
  clear K N
  obtain ⟨N, K⟩ := hcut
  obtain ⟨w1, rfl⟩ : ∃ x, x = wc := ⟨_, rfl⟩
  -- the shelf
  obtain ⟨x4, n4⟩ := K.note.num (i := 4) (by simp [isNum])
  have cN := K.nb.cell
  go_wp2_with (refine wpList_load_box 26 _ rfl V5 rfl 26 _ K.gb _ Tryz.underlying26 rfl gi.out (by first | rfl | simp [Region.wanted, yielded] | (simp [Region.wanted, yielded, Act.put] <;> omega)) ?_)
  refine (l7Draw_any g A n cap s l c sh q 0 m cap' zs x4 w1 (by unfold maxLen; omega) (by omega) (by omega) (by omega) (by omega) K.cur K.row.1 (by have := K.hg; omega)).mono ?_
  rintro e w2 ⟨a, b, d, u, v, ps, os, rfl, hps, hos, ou, ov, -, hcN, hgN⟩
  have hrs := regS_own (a := a) (b := b) (d := d) ou ov (by omega) (by omega)
  obtain ⟨A3, c3, rfl⟩ := own_form ou
  obtain ⟨A4, c4, rfl⟩ := own_form ov
  have hsz := K.nb.lt
  have h5 := K.o5
  have h6 := K.o6
  replace K := K.draw hgN hcN
  have L := K.shelf hml (keepsRS.sub hrs fun x hx => ⟨by omega, by omega, by omega, by omega⟩)
  clear K cN n4 hrs ou ov hcN hgN hsz h5 h6
  go_upto_region 10 with fail
  generalize (w2.alloc _ : World) = w3 at L ⊢
  generalize w2.heap.size = V7 at L ⊢
  generalize (#[.int .i64 s, .int .i64 l, .int .i64 c, .int .i64 sh, .slice (some ⟨q, 0, none⟩) m cap'] : Array Value) = G at L
  generalize (#[.int .i64 a, .int .i64 b, .int .i64 d, .slice A3 ps.length c3, .slice A4 os.length c4] : Array Value) = R at L
  obtain ⟨w1, rfl⟩ : ∃ x, x = w3 := ⟨_, rfl⟩
  have K := L
  clear L gi hml hps hos hok hs6 hc3 ok1 ok2
  go_wp2_with fail
  refine (l1Once_any g A n cap 12 w1 (by omega) K.cur).mono ?_
  rintro e w2 ⟨b, rfl, hcN, hgN⟩
  replace K := K.draw hgN hcN
  clear hcN hgN
  obtain ⟨w1, rfl⟩ : ∃ x, x = w2 := ⟨_, rfl⟩
  go_upto_if 62 with fail
  go_cut [] (fun wr => ∃ G N, DT w wr g A n cap V5 V6 V7 G N R)
  case first =>
    rcases b with _ | _
    · go_wp2_with fail
      go_meet
      exact ⟨_, _, K⟩
    · go_wp2_with fail
      refine (l5DrawAny_any g A n cap w1 K.cur).mono ?_
      rintro e w2 ⟨s, l, c, sh, q, o, m, cap', zs, N', cv, mv, rfl, hrow, hm, hql, hsh, hl1, hl2, hcN, hgN⟩
      have hsz := K.rb.lt
      have h5 := K.o5
      have h6 := K.o6
      have h7 := K.o7
      replace K := K.draw hgN hcN
      have hns : NoteS w2 (Aw w.heap.size V5 V6 V7) (.agg N') := ⟨N', cv, mv, rfl, hsh, hl1.seals.sub fun b hb => ⟨by omega, by omega, by omega, by omega⟩, hl2.seals.sub fun b hb => ⟨by omega, by omega, by omega, by omega⟩⟩
      have hgs : GrpS w2 (Aw w.heap.size V5 V6 V7) (.agg #[.int .i64 s, .int .i64 l, .int .i64 c, .int .i64 sh, .slice (some ⟨q, o, none⟩) m cap']) := ⟨⟨s, l, c, sh, zs⟩, ⟨_, m, _, rfl, by unfold maxLen; omega, hrow, fun _ b o e => by injection e with e; injection e with e; subst e; exact ⟨by omega, by omega, by omega, by omega⟩⟩, by show zs.length ≤ 100; rw [hrow.1]; exact hm⟩
      have K2 := K.putG hgs
      have K3 := K2.putN (keepsNS.turn hns (turns_setRow w2 V5 _) (fun b hb e => hb.2.1 e))
      have O1 := Lib.hid hgs.one
      have O2 := Lib.hid hns.size
      have P1 := Lib.hid K.grp.one
      have P2 := Lib.hid K.note.size
      clear hns hgs hrow hsh hl1 hl2 hcN hgN
      go_wp2_with (first | (refine wpList_store_row rfl 26 _ _ rfl V5 _ rfl rfl 26 _ K.gb O1.out.2 (P1.out.1.1.trans O1.out.1.1.symm) O1.out.1.2 ?_) | (refine wpList_store_row rfl 34 _ _ rfl V6 _ rfl rfl 34 _ K2.nb O2.out.2.1 (P2.out.1.trans O2.out.1.symm) O2.out.2.2 ?_))
      go_meet
      exact ⟨_, _, K3⟩
  case rest =>
  clear K G N
  obtain ⟨G, N, K⟩ := hcut
  obtain ⟨w1, rfl⟩ : ∃ x, x = wc := ⟨_, rfl⟩
  go_wp2_with fail
  refine (l1Once_any g A n cap 20 w1 (by omega) K.cur).mono ?_
  rintro e w2 ⟨b, rfl, hcN, hgN⟩
  replace K := K.draw hgN hcN
  clear hcN hgN
  obtain ⟨w1, rfl⟩ : ∃ x, x = w2 := ⟨_, rfl⟩
  go_upto_if 69 with fail
  go_cut [] (fun wr => ∃ G R, DT w wr g A n cap V5 V6 V7 G N R)
  case first =>
    rcases b with _ | _
    · go_wp2_with fail
      go_meet
      exact ⟨_, _, K⟩
    · go_wp2_with fail
      refine (l7DrawAny_any g A n cap w1 K.cur).mono ?_
      rintro e w2 ⟨s, l, c, sh, q, m, cap', zs, x, a, b, d, u, v, ps, os, rfl, hok, hs6, hc3, hm, hql, hrow, hps, hos, ou, ov, hcN, hgN⟩
      have hsz := K.rb.lt
      have h5 := K.o5
      have h6 := K.o6
      have h7 := K.o7
      replace K := K.draw hgN hcN
      have hrs : RegS w2 (Aw w.heap.size V5 V6 V7) (.agg #[.int .i64 a, .int .i64 b, .int .i64 d, u, v]) := keepsRS.sub (regS_own ou ov hps hos) fun b hb => ⟨by omega, by omega, by omega, by omega⟩
      obtain ⟨A3, c3, rfl⟩ := own_form ou
      obtain ⟨A4, c4, rfl⟩ := own_form ov
      have hgs : GrpS w2 (Aw w.heap.size V5 V6 V7) (.agg #[.int .i64 s, .int .i64 l, .int .i64 c, .int .i64 sh, .slice (some ⟨q, 0, none⟩) m cap']) := ⟨⟨s, l, c, sh, zs⟩, ⟨_, m, _, rfl, by unfold maxLen; omega, hrow, fun _ b o e => by injection e with e; injection e with e; subst e; exact ⟨by omega, by omega, by omega, by omega⟩⟩, by show zs.length ≤ 100; rw [hrow.1]; exact hm⟩
      have K2 := K.putG hgs
      have K3 := K2.putR (keepsRS.turn hrs (turns_setRow w2 V5 _) (fun b hb e => hb.2.1 e))
      have O1 := Lib.hid hgs.one
      have O2 := Lib.hid hrs.one
      have P1 := Lib.hid K.grp.one
      have P2 := Lib.hid K.reg.one
      clear hrs hgs hrow ou ov hcN hgN hok
      go_wp2_with (first | (refine wpList_store_row rfl 26 _ _ rfl V5 _ rfl rfl 26 _ K.gb O1.out.2 (P1.out.1.1.trans O1.out.1.1.symm) O1.out.1.2 ?_) | (refine wpList_store_row rfl 32 _ _ rfl V7 _ rfl rfl 32 _ K2.rb O2.out.2 (P2.out.1.1.trans O2.out.1.1.symm) O2.out.1.2 ?_))
      go_meet
      exact ⟨_, _, K3⟩
  case rest =>
  clear K G R
  obtain ⟨G, R, K⟩ := hcut
  obtain ⟨w1, rfl⟩ : ∃ x, x = wc := ⟨_, rfl⟩
  go_upto_region 14 with fail
  have h5 := K.o5
  have h6 := K.o6
  have h7 := K.o7
  have IG := Lib.hid K.grp.one
  have IN := Lib.hid K.note.size
  have IR := Lib.hid K.reg.one
  refine wp_region_sink 6 (fun w' => Box w' V5 26 G ∧ Box w' V7 32 R ∧ Box w' V6 34 N) (by kernel_rfl) ⟨K.gb, K.rb, K.nb⟩ (fun hH => ?_)
  replace K : DT w w1.drew g A n cap V5 V6 V7 G N R := K.later ((Below.refl w1.heap.size w1).drew)
  generalize w1.drew = w2 at K hH ⊢
  refine wpAnyE_takeS (i := 0) (v := .agg G) (by simp only [List.getElem?_toArray, List.getElem?_cons_zero]; rfl) (by kernel_rfl) (by kernel_rfl) (by kernel_rfl) (by exact fun _ _ _ h => h) (by kernel_rfl) ?yz0 hH ?_
  case yz0 => exact yields_box 26 _ rfl (V5) rfl 26 G (fun _ h => h.1) _ Tryz.underlying26 rfl IG.out.2 (by first | rfl | simp [Region.wanted, yielded] | (simp [Region.wanted, yielded, Act.put] <;> omega))
  try simp only [Act.put, List.setIfInBounds_toArray, List.set_cons_zero, List.set_cons_succ]
  refine wpAnyE_takeS (i := 1) (v := .agg R) (by simp only [List.getElem?_toArray, List.getElem?_cons_succ, List.getElem?_cons_zero]; rfl) (by kernel_rfl) (by kernel_rfl) (by kernel_rfl) (by exact fun _ _ _ h => h) (by kernel_rfl) ?yz1 hH ?_
  case yz1 => exact yields_box 32 _ rfl (V7) rfl 32 R (fun _ h => h.2.1) _ Tryz.underlying32 rfl IR.out.2 (by first | rfl | simp [Region.wanted, yielded] | (simp [Region.wanted, yielded, Act.put] <;> omega))
  try simp only [Act.put, List.setIfInBounds_toArray, List.set_cons_zero, List.set_cons_succ]
  refine wpAnyE_takeS (i := 2) (v := .agg N) (by simp only [List.getElem?_toArray, List.getElem?_cons_succ, List.getElem?_cons_zero]; rfl) (by kernel_rfl) (by kernel_rfl) (by kernel_rfl) (by exact fun _ _ _ h => h) (by kernel_rfl) ?yz2 hH ?_
  case yz2 => exact yields_box 34 _ rfl (V6) rfl 34 N (fun _ h => h.2.2) _ Tryz.underlying34 rfl IN.out.2.1 (by first | rfl | simp [Region.wanted, yielded] | (simp [Region.wanted, yielded, Act.put] <;> omega))
  try simp only [Act.put, List.setIfInBounds_toArray, List.set_cons_zero, List.set_cons_succ]
  have t1 := turns_setRow w2 w.heap.size G
  have t2 := turns_setRow (w2.setRow w.heap.size G) (w.heap.size + 1) R
  have t3 := turns_setRow ((w2.setRow w.heap.size G).setRow (w.heap.size + 1) R) (w.heap.size + 1 + 1) N
  have a1 := K.gb.turn t1 (by omega)
  have a2 := K.rb.turn t1 (by omega)
  have a3 := K.nb.turn t1 (by omega)
  have b1 := a1.turn t2 (by omega)
  have b2 := a2.turn t2 (by omega)
  have b3 := a3.turn t2 (by omega)
  have c1 := b1.turn t3 (by omega)
  have c2 := b2.turn t3 (by omega)
  have c3 := b3.turn t3 (by omega)
  have x2 := K.r2
  have x3 := K.r3.turn t1 (by omega)
  have x4 := (K.r4.turn t1 (by omega)).turn t2 (by omega)
  have y2 := ((K.r2.setRow G).turn t2 (by omega)).turn t3 (by omega)
  have y3 := (x3.setRow R).turn t3 (by omega)
  have y4 := x4.setRow N
  refine wpAnyE_one (i := 3) (by kernel_rfl) (by simp only [List.getElem?_toArray, List.getElem?_cons_succ, List.getElem?_cons_zero]; rfl) (fun K' hK => ?_)
  rw [if_pos (by first | rfl | kernel_rfl | simp [Region.wanted, yielded])]
  refine wp_store_row 26 _ _ rfl (w.heap.size) _ rfl rfl 26 _ x2 IG.out.2 IG.out.1.1.symm IG.out.1.2 ?_
  clear hH
  refine hK.out _ _ ⟨a1, a2, a3⟩ (fun hH => ?_)
  clear hK K'
  try simp only [Act.put]
  refine wpAnyE_one (i := 4) (by kernel_rfl) (by simp only [List.getElem?_toArray, List.getElem?_cons_succ, List.getElem?_cons_zero]; rfl) (fun K' hK => ?_)
  rw [if_pos (by first | rfl | kernel_rfl | simp [Region.wanted, yielded])]
  refine wp_store_row 32 _ _ rfl (w.heap.size + 1) _ rfl rfl 32 _ x3 IR.out.2 IR.out.1.1.symm IR.out.1.2 ?_
  clear hH
  refine hK.out _ _ ⟨b1, b2, b3⟩ (fun hH => ?_)
  clear hK K'
  try simp only [Act.put]
  refine wpAnyE_end (i := 5) (by kernel_rfl) (by simp only [List.getElem?_toArray, List.getElem?_cons_succ, List.getElem?_cons_zero]; rfl) (by kernel_rfl) (fun K' hK => ?_)
  rw [if_pos (by first | rfl | kernel_rfl | simp [Region.wanted, yielded])]
  refine wp_store_row 34 _ _ rfl (w.heap.size + 1 + 1) _ rfl rfl 34 _ x4 IN.out.2.1 IN.out.1.symm IN.out.2.2 ?_
  refine hK.out _ _ ⟨c1, c2, c3⟩ ?_
  clear hK K'
  try simp only [Act.put]
  have g0 : ∀ b, Aw w.heap.size V5 V6 V7 b → ¬ b = w.heap.size := fun b hb e => by have := hb.1; omega
  have g1 : ∀ b, Aw w.heap.size V5 V6 V7 b → ¬ b = w.heap.size + 1 := fun b hb e => by have := hb.1; omega
  have g2 : ∀ b, Aw w.heap.size V5 V6 V7 b → ¬ b = w.heap.size + 1 + 1 := fun b hb e => by have := hb.1; omega
  have z1 := keepsGS.sub (keepsGS.turn (keepsGS.turn (keepsGS.turn K.grp t1 g0) t2 g1) t3 g2) (F' := (w.heap.size + 2 < ·)) (fun b hb => hb.1)
  have z2 := keepsRS.sub (keepsRS.turn (keepsRS.turn (keepsRS.turn K.reg t1 g0) t2 g1) t3 g2) (F' := (w.heap.size + 2 < ·)) (fun b hb => hb.1)
  have z3 := keepsNS.sub (keepsNS.turn (keepsNS.turn (keepsNS.turn K.note t1 g0) t2 g1) t3 g2) (F' := (w.heap.size + 2 < ·)) (fun b hb => hb.1)
  have hgg := K.hg
  have zc := ((K.cur.kept (turns_grown t1) (fun r hr => by injection hr with hr; omega)).kept (turns_grown t2) (fun r hr => by injection hr with hr; omega)).kept (turns_grown t3) (fun r hr => by injection hr with hr; omega)
  have zg := grown_far (grown_far (grown_far K.grw (turns_grown t1) (fun r hr => by injection hr with hr; omega)) (turns_grown t2) (fun r hr => by injection hr with hr; omega)) (turns_grown t3) (fun r hr => by injection hr with hr; omega)
  clear a1 a2 a3 b1 b2 b3 c1 c2 c3 x2 x3 x4 t1 t2 t3 g0 g1 g2 K hH
  generalize ((((w2.setRow w.heap.size G).setRow (w.heap.size + 1) R).setRow (w.heap.size + 1 + 1) N) : World) = w5 at y2 y3 y4 z1 z2 z3 zc zg ⊢
  go_wp2
  exact bodyPost_ret (v := .tuple #[.agg G, .agg R, .agg N]) (results_three (Tryz.results31) _ w5 w.heap.size (w.heap.size + 1) (w.heap.size + 1 + 1) 26 32 34 G R N _ _ _ rfl rfl rfl y2 y3 y4 Tryz.underlying26 rfl IG.out.2 Tryz.underlying32 rfl IR.out.2 Tryz.underlying34 rfl IN.out.2.1) rfl ⟨G, R, N, rfl, z1, z2, z3, zc, zg⟩

end Go.Proofs.YtdkmbcmenomecaaGreat

/- Whether a shelf is right for some shelf of the group, as the program and the model ask it; what Readied answers; conditions: the sizes. -/
namespace Go.Proofs.YtdkmbcmenomecaaGreat
open Go Go.RowKit

/-- Is it a right one for some shelf? -/
def someB (s l c sh : Int) (zs : List Int) (rt rq rv : Int) (ps : List (Int × Int)) (os : List Opn) : Bool := (List.range 4).any fun i => regB s l c sh zs (i : Int) rt rq rv ps os
/-- What Readied answers. -/
def readN (s l c sh : Int) (zs : List Int) (rt rq rv : Int) (ps : List (Int × Int)) (os : List Opn) (k1 k2 k3 k4 k5 t1 t2 v1 o1 o2 v2 l1 l2 v3 : Int) (cs ms : List (Int × Int)) : RegD × Int :=
  if someB s l c sh zs rt rq rv ps os = false then (⟨0, 0, 0, [], []⟩, 1)
  else if codeN s l c sh zs rt rq rv ps os k1 k2 k3 k4 k5 t1 t2 v1 o1 o2 v2 l1 l2 v3 cs ms = 0 then (⟨rt, rq, rv, ps, withO os (k2, t1, t2, v1)⟩, 0)
  else (⟨rt, rq, rv, ps, os⟩, codeN s l c sh zs rt rq rv ps os k1 k2 k3 k4 k5 t1 t2 v1 o1 o2 v2 l1 l2 v3 cs ms)

section
variable {s l c sh : Int} {A : Option Addr} {n cap : Nat} {zs : List Int} {rt rq rv : Int} {X : Option Addr} {x xc : Nat} {ps : List (Int × Int)} {Y : Option Addr} {y yc : Nat} {os : List Opn} {N : Array Value} {k1 k2 k3 k4 k5 t1 t2 v1 o1 o2 v2 : Int} {P : Option Addr} {p pc : Nat} {Q : Option Addr} {q qc : Nat} {l1 l2 v3 : Int} {cs ms : List (Int × Int)} {w : World}
theorem some_true {k : Nat} (hk : k < 4) (h : regB s l c sh zs (k : Int) rt rq rv ps os = true) : someB s l c sh zs rt rq rv ps os = true := by
  unfold someB
  rw [List.any_eq_true]
  exact ⟨k, List.mem_range.2 hk, h⟩
theorem some_false (h : ∀ j : Nat, j < 4 → regB s l c sh zs (j : Int) rt rq rv ps os = false) : someB s l c sh zs rt rq rv ps os = false := by
  unfold someB
  rw [List.any_eq_false]
  intro j hj
  rw [h j (List.mem_range.1 hj)]
  simp
theorem reg_shelf {z : Int} (h : regB s l c sh zs z rt rq rv ps os = true) : 0 ≤ z ∧ z ≤ sh - 1 ∧ z ≤ 3 := by
  unfold regB lefB at h
  rw [Bool.and_eq_true, Bool.and_eq_true, proB_eq, Bool.and_eq_true] at h
  have hs := h.1.1.1
  unfold shfB at hs
  rw [Bool.and_eq_true] at hs
  have h1 := okB_sh hs.1
  have h2 := inB_true.1 hs.2
  omega
theorem some_of_reg {z : Int} (h : regB s l c sh zs z rt rq rv ps os = true) : someB s l c sh zs rt rq rv ps os = true := by
  obtain ⟨h0, -, h3⟩ := reg_shelf h
  obtain ⟨k, rfl⟩ := Int.eq_ofNat_of_zero_le h0
  exact some_true (by omega) h
theorem code_not_some (h : someB s l c sh zs rt rq rv ps os = false) : codeN s l c sh zs rt rq rv ps os k1 k2 k3 k4 k5 t1 t2 v1 o1 o2 v2 l1 l2 v3 cs ms = 1 := by
  rcases h0 : obB s l c sh zs rt rq rv ps os k1 k2 k3 k4 k5 t1 t2 v1 o1 o2 v2 l1 l2 v3 cs ms 0 with _ | _
  · rcases h1 : obB s l c sh zs rt rq rv ps os k1 k2 k3 k4 k5 t1 t2 v1 o1 o2 v2 l1 l2 v3 cs ms 1 with _ | _
    · exact absurd (some_of_reg (ob_1 h1)) (by rw [h]; simp)
    · exact code_1 h0 h1
  · exact code_0 h0
theorem read_no (h : someB s l c sh zs rt rq rv ps os = false) : readN s l c sh zs rt rq rv ps os k1 k2 k3 k4 k5 t1 t2 v1 o1 o2 v2 l1 l2 v3 cs ms = (⟨0, 0, 0, [], []⟩, 1) := by unfold readN; rw [if_pos h]
theorem read_0 (h : someB s l c sh zs rt rq rv ps os = true) (hc : codeN s l c sh zs rt rq rv ps os k1 k2 k3 k4 k5 t1 t2 v1 o1 o2 v2 l1 l2 v3 cs ms = 0) : readN s l c sh zs rt rq rv ps os k1 k2 k3 k4 k5 t1 t2 v1 o1 o2 v2 l1 l2 v3 cs ms = (⟨rt, rq, rv, ps, withO os (k2, t1, t2, v1)⟩, 0) := by unfold readN; rw [if_neg (by rw [h]; simp), if_pos hc]
theorem read_z {z : Int} (h : someB s l c sh zs rt rq rv ps os = true) (hc : codeN s l c sh zs rt rq rv ps os k1 k2 k3 k4 k5 t1 t2 v1 o1 o2 v2 l1 l2 v3 cs ms = z) (hz : z ≠ 0) : readN s l c sh zs rt rq rv ps os k1 k2 k3 k4 k5 t1 t2 v1 o1 o2 v2 l1 l2 v3 cs ms = (⟨rt, rq, rv, ps, os⟩, z) := by unfold readN; rw [if_neg (by rw [h]; simp), if_neg (by rw [hc]; exact hz), hc]
end

/-- What a walk over a group and a shelf keeps. -/
structure KS (w wr : World) (s l c sh : Int) (A : Option Addr) (n cap : Nat) (zs : List Int) (rt rq rv : Int) (X : Option Addr) (x xc : Nat) (ps : List (Int × Int)) (Y : Option Addr) (y yc : Nat) (os : List Opn) : Prop where
  gb : Box wr w.heap.size 26 #[.int .i64 s, .int .i64 l, .int .i64 c, .int .i64 sh, .slice A n cap]
  rb : Box wr (w.heap.size + 1) 32 #[.int .i64 rt, .int .i64 rq, .int .i64 rv, .slice X x xc, .slice Y y yc]
  row : Row wr wr.heap.size A n zs
  prs : Pairs wr wr.heap.size X x ps
  ops : Quads wr wr.heap.size Y y os
  bel : Below w.heap.size w wr
section
variable {s l c sh : Int} {A : Option Addr} {n cap : Nat} {zs : List Int} {rt rq rv : Int} {X : Option Addr} {x xc : Nat} {ps : List (Int × Int)} {Y : Option Addr} {y yc : Nat} {os : List Opn} {N : Array Value} {k1 k2 k3 k4 k5 t1 t2 v1 o1 o2 v2 : Int} {P : Option Addr} {p pc : Nat} {Q : Option Addr} {q qc : Nat} {l1 l2 v3 : Int} {cs ms : List (Int × Int)} {w : World}
theorem KS.later {wr w' : World} (h : KS w wr s l c sh A n cap zs rt rq rv X x xc ps Y y yc os) (hb : Below wr.heap.size wr w') : KS w w' s l c sh A n cap zs rt rq rv X x xc ps Y y yc os :=
  ⟨h.gb.later hb h.gb.lt, h.rb.later hb h.rb.lt, (h.row.below hb (Nat.le_refl _)).more hb.size, h.prs.later hb, h.ops.later hb, bel_trans h.bel hb⟩
theorem KS.start (w : World) (s l c sh : Int) (cap : Nat) (rt rq rv : Int) (xc yc : Nat) (h1 : Row w w.heap.size A n zs) (h2 : Pairs w w.heap.size X x ps) (h3 : Quads w w.heap.size Y y os) :
    KS w ((w.alloc (.cells #[.int .i64 s, .int .i64 l, .int .i64 c, .int .i64 sh, .slice A n cap] 26)).alloc (.cells #[.int .i64 rt, .int .i64 rq, .int .i64 rv, .slice X x xc, .slice Y y yc] 32)) s l c sh A n cap zs rt rq rv X x xc ps Y y yc os := by
  have E := bel_trans (bel_alloc w (.cells #[.int .i64 s, .int .i64 l, .int .i64 c, .int .i64 sh, .slice A n cap] 26)) (bel_alloc _ (.cells #[.int .i64 rt, .int .i64 rq, .int .i64 rv, .slice X x xc, .slice Y y yc] 32))
  have D := Box.new (w.alloc (.cells #[.int .i64 s, .int .i64 l, .int .i64 c, .int .i64 sh, .slice A n cap] 26)) 32 #[.int .i64 rt, .int .i64 rq, .int .i64 rv, .slice X x xc, .slice Y y yc]
  simp only [World.size_alloc] at D
  exact ⟨(Box.new w _ _).alloc _, D, (h1.below E (Nat.le_refl _)).more E.size, h2.later E, h3.later E, E⟩

set_option maxHeartbeats 2000000 in
theorem some_is (hn : n ≤ maxLen) (hx : x ≤ 4194304) (hy : y ≤ 4194304) (h1 : Row w w.heap.size A n zs) (h2 : Pairs w w.heap.size X x ps) (h3 : Quads w w.heap.size Y y os) {b : Bool} (hb : someB s l c sh zs rt rq rv ps os = b) :
    Calls Tryz.prog 32 #[.agg #[.int .i64 s, .int .i64 l, .int .i64 c, .int .i64 sh, .slice A n cap], .agg #[.int .i64 rt, .int .i64 rq, .int .i64 rv, .slice X x xc, .slice Y y yc]] w fun e w' => e = .returned (.bool b) ∧ Below w.heap.size w w' := by
  have K0 := KS.start w s l c sh cap rt rq rv xc yc h1 h2 h3
  have HB := Lib.hid hb
  have HN := Lib.hid hn
  clear h1 h2 h3 hb hn
  go_enter Tryz.func32, Tryz.ntmps32
  go_wp2_with fail
  generalize ((w.alloc _).alloc _ : World) = w0 at K0 ⊢
  go_loopw [6] (fun i wr => ∃ k : Nat, k ≤ 4 ∧ i = .int .i64 k ∧ Hid (∀ j : Nat, j < k → regB s l c sh zs (j : Int) rt rq rv ps os = false) ∧ KS w wr s l c sh A n cap zs rt rq rv X x xc ps Y y yc os) (fun i _ => 4 - (intOf i).toNat)
  case atStart => exact ⟨0, by omega, rfl, fun j hj => absurd hj (by omega), K0⟩
  case round =>
    clear K0
    obtain ⟨k, hk, rfl, hall, K⟩ := hrel
    by_cases hlt : k < 4
    · have hlt' : (k : Int) < 4 := by omega
      obtain ⟨g0, g1, g2, g3, g4⟩ := K.gb.five
      obtain ⟨r0, r1, r2, r3, r4⟩ := K.rb.five
      rcases hv : regB s l c sh zs (k : Int) rt rq rv ps os with _ | _
      · have HS : Hid (∀ j : Nat, j < k + 1 → regB s l c sh zs (j : Int) rt rq rv ps os = false) := fun j hj => by
          by_cases e : j = k
          · subst e; exact hv
          · exact hall.out j (by omega)
        have HV := Lib.hid hv
        clear hv
        go_wp2_with fail
        refine (shelfB8_is HV.out A n cap X x xc Y y yc wr HN.out K.row hx hy K.prs K.ops).mono ?_
        rintro e w1 ⟨rfl, hb⟩
        have K1 := K.later hb
        clear K hb g0 g1 g2 g3 g4 r0 r1 r2 r3 r4
        go_wp2
        go_roundw
        case rel => exact ⟨k + 1, by omega, by go_num, HS, K1⟩
        case measure => simp [intOf]; omega
      · have HC : Hid (b = true) := Lib.hid (by rw [← HB.out]; exact some_true hlt hv)
        have HV := Lib.hid hv
        clear hv
        go_wp2_with fail
        refine (shelfB8_is HV.out A n cap X x xc Y y yc wr HN.out K.row hx hy K.prs K.ops).mono ?_
        rintro e w1 ⟨rfl, hb⟩
        have E := bel_trans K.bel hb
        clear K hb g0 g1 g2 g3 g4 r0 r1 r2 r3 r4
        go_wp2
        go_ret
        exact ⟨by rw [HC.out]; rfl, E⟩
    · obtain rfl : k = 4 := by omega
      have HC : Hid (b = false) := Lib.hid (by rw [← HB.out]; exact some_false hall.out)
      have E := K.bel
      clear K
      go_wp2
      go_ret
      exact ⟨by rw [HC.out]; rfl, E⟩

set_option maxHeartbeats 2000000 in
theorem specSome_is (hn : n ≤ maxLen) (hx : x ≤ 4194304) (hy : y ≤ 4194304) (h1 : Row w w.heap.size A n zs) (h2 : Pairs w w.heap.size X x ps) (h3 : Quads w w.heap.size Y y os) {b : Bool} (hb : someB s l c sh zs rt rq rv ps os = b) :
    Calls Tryz.prog 38 #[.agg #[.int .i64 s, .int .i64 l, .int .i64 c, .int .i64 sh, .slice A n cap], .agg #[.int .i64 rt, .int .i64 rq, .int .i64 rv, .slice X x xc, .slice Y y yc]] w fun e w' => e = .returned (.bool b) ∧ Below w.heap.size w w' := by
  have K0 := KS.start w s l c sh cap rt rq rv xc yc h1 h2 h3
  have HB := Lib.hid hb
  have HN := Lib.hid hn
  clear h1 h2 h3 hb hn
  go_enter Tryz.func38, Tryz.ntmps38
  go_wp2_with fail
  generalize ((w.alloc _).alloc _ : World) = w0 at K0 ⊢
  go_loopw [5] (fun i wr => ∃ k : Nat, k ≤ 4 ∧ i = .int .i64 k ∧ Hid (∀ j : Nat, j < k → regB s l c sh zs (j : Int) rt rq rv ps os = false) ∧ KS w wr s l c sh A n cap zs rt rq rv X x xc ps Y y yc os) (fun i _ => 4 - (intOf i).toNat)
  case atStart => exact ⟨0, by omega, rfl, fun j hj => absurd hj (by omega), K0⟩
  case round =>
    clear K0
    obtain ⟨k, hk, rfl, hall, K⟩ := hrel
    obtain ⟨g0, g1, g2, g3, g4⟩ := K.gb.five
    obtain ⟨r0, r1, r2, r3, r4⟩ := K.rb.five
    by_cases hsh : (k : Int) < sh
    · by_cases hlt : k < 4
      · have hlt' : (k : Int) < 4 := by omega
        rcases hv : regB s l c sh zs (k : Int) rt rq rv ps os with _ | _
        · have HS : Hid (∀ j : Nat, j < k + 1 → regB s l c sh zs (j : Int) rt rq rv ps os = false) := fun j hj => by
            by_cases e : j = k
            · subst e; exact hv
            · exact hall.out j (by omega)
          have HV := Lib.hid hv
          clear hv
          go_wp2_with fail
          refine (specShelfB8_is HV.out A n cap X x xc Y y yc wr HN.out K.row hx hy K.prs K.ops).mono ?_
          rintro e w1 ⟨rfl, hb⟩
          have K1 := K.later hb
          clear K hb g0 g1 g2 g3 g4 r0 r1 r2 r3 r4
          go_wp2
          go_roundw
          case rel => exact ⟨k + 1, by omega, by go_num, HS, K1⟩
          case measure => simp [intOf]; omega
        · have HC : Hid (b = true) := Lib.hid (by rw [← HB.out]; exact some_true hlt hv)
          have HV := Lib.hid hv
          clear hv
          go_wp2_with fail
          refine (specShelfB8_is HV.out A n cap X x xc Y y yc wr HN.out K.row hx hy K.prs K.ops).mono ?_
          rintro e w1 ⟨rfl, hb⟩
          have E := bel_trans K.bel hb
          clear K hb g0 g1 g2 g3 g4 r0 r1 r2 r3 r4
          go_wp2
          go_ret
          exact ⟨by rw [HC.out]; rfl, E⟩
      · obtain rfl : k = 4 := by omega
        have HC : Hid (b = false) := Lib.hid (by rw [← HB.out]; exact some_false hall.out)
        have E := K.bel
        clear K
        go_wp2
        go_ret
        exact ⟨by rw [HC.out]; rfl, E⟩
    · have HC : Hid (b = false) := Lib.hid (by
        rw [← HB.out]
        refine some_false fun j hj => ?_
        by_cases e : j < k
        · exact hall.out j e
        · rcases h : regB s l c sh zs (j : Int) rt rq rv ps os with _ | _
          · rfl
          · have := reg_shelf h
            omega)
      have E := K.bel
      clear K
      go_wp2
      go_ret
      exact ⟨by rw [HC.out]; rfl, E⟩
end

end Go.Proofs.YtdkmbcmenomecaaGreat

/- Readied of the program and of the model: contracts of both (written by readied8.py); conditions: the sizes. -/
namespace Go.Proofs.YtdkmbcmenomecaaGreat
open Go Go.RowKit

/-- A shelf and a code are answered; the shelf is one's own. -/
def RdR (w : World) (r : RegD) (z : Int) (e : Ending) (w' : World) : Prop := ∃ C, e = .returned (.tuple #[.agg C, .int .i64 z]) ∧ LieR r w' (Iv w.heap.size w'.heap.size) (.agg C) ∧ Below w.heap.size w w'
theorem regr_lie {w w' : World} {rt rq rv : Int} {ps : List (Int × Int)} {os : List Opn} {e : Ending} (h : RegR w rt rq rv ps os e w') : ∃ (A : Option Addr) (n c : Nat) (A' : Option Addr) (n' c' : Nat), e = .returned (.agg #[.int .i64 rt, .int .i64 rq, .int .i64 rv, .slice A n c, .slice A' n' c']) ∧ LieR ⟨rt, rq, rv, ps, os⟩ w' (Iv w.heap.size w'.heap.size) (.agg #[.int .i64 rt, .int .i64 rq, .int .i64 rv, .slice A n c, .slice A' n' c']) ∧ Below w.heap.size w w' := by
  obtain ⟨B, u, v, hB, hB', rfl, hR, hO, hb⟩ := h
  obtain ⟨A, c, rfl, -⟩ := hR.form
  obtain ⟨A', c', rfl, -⟩ := hO.form
  exact ⟨A, _, c, A', _, c', rfl, ⟨A, _, c, A', _, c', w.heap.size, B, w'.heap.size, rfl, hR, hO.resQ, hB, hB', Nat.le_refl _, fun b hb => hb⟩, hb⟩
theorem lie_nil (w : World) (F : Nat → Prop) : LieR ⟨0, 0, 0, [], []⟩ w F (.agg #[.int .i64 0, .int .i64 0, .int .i64 0, .slice none 0 0, .slice none 0 0]) :=
  ⟨none, 0, 0, none, 0, 0, 0, 0, 0, rfl, .inl ⟨rfl, rfl⟩, .inl ⟨rfl, rfl⟩, Nat.le_refl _, Nat.le_refl _, Nat.zero_le _, fun b hb => by have := hb.1; have := hb.2; omega⟩
theorem turns_five (w : World) (R : Nat) (x0 x1 x2 x3 x4 : Value) : Turns (· = R) w (((((w.setCell ⟨R, 0, none⟩ x0).setCell ⟨R, 1, none⟩ x1).setCell ⟨R, 2, none⟩ x2).setCell ⟨R, 3, none⟩ x3).setCell ⟨R, 4, none⟩ x4) := Turns.of_grown (grown5 w R x0 x1 x2 x3 x4)
/-- A shelf that was answered is laid into the variable of the answer. -/
theorem rdr_put {w wc w' : World} {r : RegD} {z : Int} {C : Array Value} {R : Nat} (E : Below w.heap.size w wc) (hR0 : w.heap.size ≤ R) (hR : R < wc.heap.size) (h : LieR r w' (Iv wc.heap.size w'.heap.size) (.agg C)) (hb : Below wc.heap.size wc w') (x0 x1 x2 x3 x4 : Value) :
    RdR w r z (.returned (.tuple #[.agg C, .int .i64 z])) (((((w'.setCell ⟨R, 0, none⟩ x0).setCell ⟨R, 1, none⟩ x1).setCell ⟨R, 2, none⟩ x2).setCell ⟨R, 3, none⟩ x3).setCell ⟨R, 4, none⟩ x4) :=
  ⟨C, rfl, (keepsLR r).sub ((keepsLR r).turn h (turns_five w' R x0 x1 x2 x3 x4) (iv_one (.inl hR))) (iv_sub E.size (by simp only [size_set]; exact Nat.le_refl _)), bel_five (bel_trans E hb) hR0 x0 x1 x2 x3 x4⟩
theorem rdr_row {w wc w' : World} {r : RegD} {z : Int} {C : Array Value} {R : Nat} (E : Below w.heap.size w wc) (hR0 : w.heap.size ≤ R) (hR : R < wc.heap.size) (h : LieR r w' (Iv wc.heap.size w'.heap.size) (.agg C)) (hb : Below wc.heap.size wc w') (x : Array Value) :
    RdR w r z (.returned (.tuple #[.agg C, .int .i64 z])) (w'.setRow R x) :=
  ⟨C, rfl, (keepsLR r).sub ((keepsLR r).turn h (turns_setRow w' R x) (iv_one (.inl hR))) (iv_sub E.size (by rw [size_setRow]; exact Nat.le_refl _)), (turns_setRow w' R x).below (bel_trans E hb) (fun i hi => by omega)⟩

section
variable {s l c sh : Int} {A : Option Addr} {n cap : Nat} {zs : List Int} {rt rq rv : Int} {X : Option Addr} {x xc : Nat} {ps : List (Int × Int)} {Y : Option Addr} {y yc : Nat} {os : List Opn} {N : Array Value} {k1 k2 k3 k4 k5 t1 t2 v1 o1 o2 v2 : Int} {P : Option Addr} {p pc : Nat} {Q : Option Addr} {q qc : Nat} {l1 l2 v3 : Int} {cs ms : List (Int × Int)} {w : World}

set_option maxRecDepth 100000 in
set_option maxHeartbeats 4000000 in
theorem readied_is (hN : N = #[.int .i64 k1, .int .i64 k2, .int .i64 k3, .int .i64 k4, .int .i64 k5, .int .i64 t1, .int .i64 t2, .int .i64 v1, .int .i64 o1, .int .i64 o2, .int .i64 v2, .slice P p pc, .slice Q q qc, .int .i64 l1, .int .i64 l2, .int .i64 v3]) (I : In8 w A n zs X x xc ps Y y yc os P p cs Q q ms) {r : RegD} {z : Int} (hz : readN s l c sh zs rt rq rv ps os k1 k2 k3 k4 k5 t1 t2 v1 o1 o2 v2 l1 l2 v3 cs ms = (r, z)) :
    Calls Tryz.prog 8 #[.agg #[.int .i64 s, .int .i64 l, .int .i64 c, .int .i64 sh, .slice A n cap], .agg #[.int .i64 rt, .int .i64 rq, .int .i64 rv, .slice X x xc, .slice Y y yc], .agg N] w (RdR w r z) := by
  have hlx := I.lx
  have hly := I.ly
  have hxx := I.hx
  have hyy := I.hy
  have K00 := K8.start w N s l c sh cap rt rq rv I
  have X0 := Box.new (((w.alloc (.cells #[.int .i64 s, .int .i64 l, .int .i64 c, .int .i64 sh, .slice A n cap] 26)).alloc (.cells #[.int .i64 rt, .int .i64 rq, .int .i64 rv, .slice X x xc, .slice Y y yc] 32)).alloc (.cells N 34)) 32 #[.int .i64 0, .int .i64 0, .int .i64 0, .slice none 0 0, .slice none 0 0]
  have K0 := K00.later (bel_alloc _ (.cells #[.int .i64 0, .int .i64 0, .int .i64 0, .slice none 0 0, .slice none 0 0] 32))
  simp only [World.size_alloc] at X0
  have HZ := Lib.hid (sizeN hN)
  have HN := Lib.hid hN
  obtain ⟨cd, hcd⟩ : ∃ cd, codeN s l c sh zs rt rq rv ps os k1 k2 k3 k4 k5 t1 t2 v1 o1 o2 v2 l1 l2 v3 cs ms = cd := ⟨_, rfl⟩
  have HC := Lib.hid hcd
  clear hN I K00
  go_enter Tryz.func8, Tryz.ntmps8
  obtain ⟨g0, g1, g2, g3, g4⟩ := K0.gb.five
  obtain ⟨r0, r1, r2, r3, r4⟩ := K0.rb.five
  go_wp2_with fail
  generalize ((((w.alloc _).alloc _).alloc _).alloc _ : World) = w0 at K0 X0 g0 g1 g2 g3 g4 r0 r1 r2 r3 r4 ⊢
  rcases hsm : someB s l c sh zs rt rq rv ps os with _ | _
  · have hr := read_no (k1 := k1) (k2 := k2) (k3 := k3) (k4 := k4) (k5 := k5) (t1 := t1) (t2 := t2) (v1 := v1) (o1 := o1) (o2 := o2) (v2 := v2) (l1 := l1) (l2 := l2) (v3 := v3) (cs := cs) (ms := ms) hsm
    rw [hr] at hz
    obtain ⟨rfl, rfl⟩ := Prod.mk.inj hz
    have HS := Lib.hid hsm
    clear hsm hr hz hcd HC
    refine (some_is K0.inp.hn (by omega) (by omega) K0.inp.row K0.inp.prs K0.inp.ops HS.out).mono ?_
    rintro e w1 ⟨rfl, hb⟩
    have E1 := bel_trans K0.bel hb
    have X1 := X0.later hb X0.lt
    have hX := X0.lt
    have HP : Hid (∀ y0 y1 y2 y3 y4 : Value, RdR w ⟨0, 0, 0, [], []⟩ 1 (.returned (.tuple #[.agg #[.int .i64 0, .int .i64 0, .int .i64 0, .slice none 0 0, .slice none 0 0], .int .i64 1])) (((((w1.setCell ⟨w.heap.size + 1 + 1 + 1, 0, none⟩ y0).setCell ⟨w.heap.size + 1 + 1 + 1, 1, none⟩ y1).setCell ⟨w.heap.size + 1 + 1 + 1, 2, none⟩ y2).setCell ⟨w.heap.size + 1 + 1 + 1, 3, none⟩ y3).setCell ⟨w.heap.size + 1 + 1 + 1, 4, none⟩ y4)) := Lib.hid fun y0 y1 y2 y3 y4 =>
      ⟨_, rfl, lie_nil _ _, bel_five E1 (by omega) y0 y1 y2 y3 y4⟩
    obtain ⟨x0, x1, x2, x3, x4⟩ := X1.five
    have fx := X1.frozen
    clear K0 X0 X1 E1 hb g0 g1 g2 g3 g4 r0 r1 r2 r3 r4
    go_wp2
    exact bodyPost_ret (v := .tuple #[.agg #[.int .i64 0, .int .i64 0, .int .i64 0, .slice none 0 0, .slice none 0 0], .int .i64 1]) (by simp [results, Tryz.results8, go_sem, x0, x1, x2, x3, x4]) rfl (HP.out _ _ _ _ _)
  have HS := Lib.hid hsm
  refine (some_is K0.inp.hn (by omega) (by omega) K0.inp.row K0.inp.prs K0.inp.ops HS.out).mono ?_
  rintro e w1 ⟨rfl, hb⟩
  replace K0 := K0.later hb
  replace X0 := X0.later hb X0.lt
  clear hb g0 g1 g2 g3 g4 r0 r1 r2 r3 r4
  obtain ⟨g0, g1, g2, g3, g4⟩ := K0.gb.five
  obtain ⟨r0, r1, r2, r3, r4⟩ := K0.rb.five
  go_wp2_with (refine wpList_load_box 34 _ rfl (w.heap.size + 1 + 1) rfl 34 N K0.nb _ Tryz.underlying34 rfl HZ.out (by first | rfl | simp [Region.wanted, yielded] | (simp [Region.wanted, yielded, Act.put] <;> omega)) ?_)
  refine (codeReady_is HN.out K0.inp HC.out).mono ?_
  rintro e w2 ⟨rfl, hb⟩
  replace K0 := K0.later hb
  replace X0 := X0.later hb X0.lt
  clear hb g0 g1 g2 g3 g4 r0 r1 r2 r3 r4
  by_cases hc0 : cd = 0
  rotate_left
  · have hc1 : (cd != 0) = true := by simpa using hc0
    rw [read_z hsm hcd hc0] at hz
    obtain ⟨rfl, rfl⟩ := Prod.mk.inj hz
    obtain ⟨r0, r1, r2, r3, r4⟩ := K0.rb.five
    clear hsm hcd HC hz hc0
    go_wp2_with fail
    refine (boardOf_is rt rq rv X x xc Y y yc w2).mono ?_
    rintro e w3 ⟨rfl, hb⟩
    replace K0 := K0.later hb
    replace X0 := X0.later hb X0.lt
    have hX := X0.lt
    clear hb r0 r1 r2 r3 r4
    go_wp2_with fail
    refine (reg_is rt rq rv X x xc Y y yc ps os w3 (by omega) (by omega) K0.inp.slc K0.inp.slq).mono ?_
    intro e w4 hr
    obtain ⟨A5, n5, c5, A6, n6, c6, rfl, hl, hb⟩ := regr_lie hr
    have X4 := X0.later hb X0.lt
    obtain ⟨x0, x1, x2, x3, x4⟩ := X4.five
    have fx := X4.frozen
    have HP := Lib.hid (rdr_put (z := cd) (R := w.heap.size + 1 + 1 + 1) K0.bel (by omega) hX hl hb)
    clear hr hl hb K0 X0 X4
    go_wp2
    exact bodyPost_ret (v := .tuple #[.agg #[.int .i64 rt, .int .i64 rq, .int .i64 rv, .slice A5 n5 c5, .slice A6 n6 c6], .int .i64 cd]) (by simp [results, Tryz.results8, go_sem, x0, x1, x2, x3, x4]) rfl (HP.out _ _ _ _ _)
  subst hc0
  rw [read_0 hsm hcd] at hz
  obtain ⟨rfl, rfl⟩ := Prod.mk.inj hz
  have IR : Hid ((Tryz.prog.info? 32).map (·.size) = some (#[.int .i64 rt, .int .i64 rq, .int .i64 rv, .slice X x xc, .slice Y y yc] : Array Value).size) := Lib.hid (by kernel_rfl)
  clear hsm hcd HC hz
  go_upto_region 6 with fail
  refine wp_region_sink 6 (fun w' => Box w' (w.heap.size + 1) 32 #[.int .i64 rt, .int .i64 rq, .int .i64 rv, .slice X x xc, .slice Y y yc] ∧ Box w' (w.heap.size + 1 + 1) 34 N) (by kernel_rfl) ⟨K0.rb, K0.nb⟩ (fun hH => ?_)
  replace K0 := K0.later ((Below.refl w2.heap.size w2).drew)
  replace X0 := X0.later ((Below.refl w2.heap.size w2).drew) X0.lt
  generalize w2.drew = w3 at K0 X0 hH ⊢
  refine wpAnyE_takeS (i := 0) (v := .agg #[.int .i64 rt, .int .i64 rq, .int .i64 rv, .slice X x xc, .slice Y y yc]) (by simp only [List.getElem?_toArray, List.getElem?_cons_zero]; rfl) (by kernel_rfl) (by kernel_rfl) (by kernel_rfl) (by exact fun _ _ _ h => h) (by kernel_rfl) ?ya hH ?_
  case ya => exact yields_box 32 _ rfl (w.heap.size + 1) rfl 32 #[.int .i64 rt, .int .i64 rq, .int .i64 rv, .slice X x xc, .slice Y y yc] (fun _ h => h.1) _ Tryz.underlying32 rfl IR.out (by first | rfl | simp [Region.wanted, yielded] | (simp [Region.wanted, yielded, Act.put] <;> omega))
  try simp only [Act.put, List.setIfInBounds_toArray, List.set_cons_zero, List.set_cons_succ]
  refine wpAnyE_takeS (i := 1) (v := .agg N) (by simp only [List.getElem?_toArray, List.getElem?_cons_succ, List.getElem?_cons_zero]; rfl) (by kernel_rfl) (by kernel_rfl) (by kernel_rfl) (by exact fun _ _ _ h => h) (by kernel_rfl) ?yb hH ?_
  case yb => exact yields_box 34 _ rfl (w.heap.size + 1 + 1) rfl 34 N (fun _ h => h.2) _ Tryz.underlying34 rfl HZ.out (by first | rfl | simp [Region.wanted, yielded] | (simp [Region.wanted, yielded, Act.put] <;> omega))
  try simp only [Act.put, List.setIfInBounds_toArray, List.set_cons_zero, List.set_cons_succ]
  refine wpAnyE_one (i := 2) (by kernel_rfl) (by simp only [List.getElem?_toArray, List.getElem?_cons_succ, List.getElem?_cons_zero]; rfl) (fun K hK => ?_)
  go_simp
  refine (openFor_is HN.out _).mono ?_
  rintro e w4 ⟨rfl, hb⟩
  replace K0 := K0.later hb
  replace X0 := X0.later hb X0.lt
  clear hb
  clear hH
  refine hK.out _ _ ⟨K0.rb, K0.nb⟩ (fun hH => ?_)
  clear hK K
  try simp only [Act.put, List.setIfInBounds_toArray, List.set_cons_zero, List.set_cons_succ]
  refine wpAnyE_one (i := 3) (by kernel_rfl) (by simp only [List.getElem?_toArray, List.getElem?_cons_succ, List.getElem?_cons_zero]; rfl) (fun K hK => ?_)
  go_simp
  refine (withOpen_is rt rq rv X x xc Y y yc k2 t1 t2 v1 ps os w4 (by omega) (by omega) K0.inp.slc K0.inp.slq).mono ?_
  intro e w5 hr
  obtain ⟨A5, n5, c5, A6, n6, c6, rfl, hl, hb⟩ := regr_lie hr
  have hX := X0.lt
  have HP := Lib.hid (rdr_row (z := 0) (R := w.heap.size + 1 + 1 + 1) K0.bel (by omega) hX hl hb #[.int .i64 rt, .int .i64 rq, .int .i64 rv, .slice A5 n5 c5, .slice A6 n6 c6])
  replace K0 := K0.later hb
  replace X0 := X0.later hb X0.lt
  clear hr hl hb
  clear hH
  refine hK.out _ _ ⟨K0.rb, K0.nb⟩ (fun hH => ?_)
  clear hK K
  try simp only [Act.put, List.setIfInBounds_toArray, List.set_cons_zero, List.set_cons_succ]
  refine wpAnyE_one (i := 4) (by kernel_rfl) (by simp only [List.getElem?_toArray, List.getElem?_cons_succ, List.getElem?_cons_zero]; rfl) (fun K hK => ?_)
  rw [if_pos (by first | rfl | kernel_rfl | simp [Region.wanted, yielded])]
  have ht := turns_setRow w5 (w.heap.size + 1 + 1 + 1) #[.int .i64 rt, .int .i64 rq, .int .i64 rv, .slice A5 n5 c5, .slice A6 n6 c6]
  have X6 := X0.setRow #[.int .i64 rt, .int .i64 rq, .int .i64 rv, .slice A5 n5 c5, .slice A6 n6 c6]
  have B1 := K0.rb.turn ht (by omega)
  have B2 := K0.nb.turn ht (by omega)
  refine wp_store_row 32 _ _ rfl (w.heap.size + 1 + 1 + 1) _ rfl rfl 32 _ X0 (by kernel_rfl) rfl (by simp [Value.oneCell']) ?_
  refine hK.out _ _ ⟨B1, B2⟩ (fun hH => ?_)
  clear hK K
  try simp only [Act.put]
  refine wpAnyE_end (i := 5) (by kernel_rfl) (by simp only [List.getElem?_toArray, List.getElem?_cons_succ, List.getElem?_cons_zero]; rfl) (by kernel_rfl) (fun K hK => ?_)
  go_simp
  refine hK.out _ _ ⟨B1, B2⟩ ?_
  clear hK K
  try simp only [Act.put, List.setIfInBounds_toArray, List.set_cons_zero, List.set_cons_succ]
  obtain ⟨x0, x1, x2, x3, x4⟩ := X6.five
  clear K0 X0 B1 B2 hH ht
  go_wp2
  exact bodyPost_ret (v := .tuple #[.agg #[.int .i64 rt, .int .i64 rq, .int .i64 rv, .slice A5 n5 c5, .slice A6 n6 c6], .int .i64 0]) (by simp [results, Tryz.results8, go_sem, x0, x1, x2, x3, x4]) rfl HP.out

theorem specCodeS_is (hN : N = #[.int .i64 k1, .int .i64 k2, .int .i64 k3, .int .i64 k4, .int .i64 k5, .int .i64 t1, .int .i64 t2, .int .i64 v1, .int .i64 o1, .int .i64 o2, .int .i64 v2, .slice P p pc, .slice Q q qc, .int .i64 l1, .int .i64 l2, .int .i64 v3]) (I : In8 w A n zs X x xc ps Y y yc os P p cs Q q ms) {z : Int} (h : codeN s l c sh zs rt rq rv ps os k1 k2 k3 k4 k5 t1 t2 v1 o1 o2 v2 l1 l2 v3 cs ms = z) :
    Calls Tryz.prog 19 #[.agg #[.int .i64 s, .int .i64 l, .int .i64 c, .int .i64 sh, .slice A n cap], .agg #[.int .i64 rt, .int .i64 rq, .int .i64 rv, .slice X x xc, .slice Y y yc], .agg N] w fun e w' => e = .returned (.int .i64 z) ∧ Below w.heap.size w w' := specCode_is hN I h
set_option maxRecDepth 100000 in
set_option maxHeartbeats 4000000 in
theorem specReadied_is (hN : N = #[.int .i64 k1, .int .i64 k2, .int .i64 k3, .int .i64 k4, .int .i64 k5, .int .i64 t1, .int .i64 t2, .int .i64 v1, .int .i64 o1, .int .i64 o2, .int .i64 v2, .slice P p pc, .slice Q q qc, .int .i64 l1, .int .i64 l2, .int .i64 v3]) (I : In8 w A n zs X x xc ps Y y yc os P p cs Q q ms) {r : RegD} {z : Int} (hz : readN s l c sh zs rt rq rv ps os k1 k2 k3 k4 k5 t1 t2 v1 o1 o2 v2 l1 l2 v3 cs ms = (r, z)) :
    Calls Tryz.prog 9 #[.agg #[.int .i64 s, .int .i64 l, .int .i64 c, .int .i64 sh, .slice A n cap], .agg #[.int .i64 rt, .int .i64 rq, .int .i64 rv, .slice X x xc, .slice Y y yc], .agg N] w (RdR w r z) := by
  have hlx := I.lx
  have hly := I.ly
  have hxx := I.hx
  have hyy := I.hy
  have K00 := K8.start w N s l c sh cap rt rq rv I
  have X0 := Box.new (((w.alloc (.cells #[.int .i64 s, .int .i64 l, .int .i64 c, .int .i64 sh, .slice A n cap] 26)).alloc (.cells #[.int .i64 rt, .int .i64 rq, .int .i64 rv, .slice X x xc, .slice Y y yc] 32)).alloc (.cells N 34)) 32 #[.int .i64 0, .int .i64 0, .int .i64 0, .slice none 0 0, .slice none 0 0]
  have K0 := K00.later (bel_alloc _ (.cells #[.int .i64 0, .int .i64 0, .int .i64 0, .slice none 0 0, .slice none 0 0] 32))
  simp only [World.size_alloc] at X0
  have HZ := Lib.hid (sizeN hN)
  have HN := Lib.hid hN
  obtain ⟨cd, hcd⟩ : ∃ cd, codeN s l c sh zs rt rq rv ps os k1 k2 k3 k4 k5 t1 t2 v1 o1 o2 v2 l1 l2 v3 cs ms = cd := ⟨_, rfl⟩
  have HC := Lib.hid hcd
  clear hN I K00
  go_enter Tryz.func9, Tryz.ntmps9
  obtain ⟨g0, g1, g2, g3, g4⟩ := K0.gb.five
  obtain ⟨r0, r1, r2, r3, r4⟩ := K0.rb.five
  go_wp2_with (refine wpList_load_box 34 _ rfl (w.heap.size + 1 + 1) rfl 34 N K0.nb _ Tryz.underlying34 rfl HZ.out (by first | rfl | simp [Region.wanted, yielded] | (simp [Region.wanted, yielded, Act.put] <;> omega)) ?_)
  generalize ((((w.alloc _).alloc _).alloc _).alloc _ : World) = w0 at K0 X0 g0 g1 g2 g3 g4 r0 r1 r2 r3 r4 ⊢
  refine (specCode_is HN.out K0.inp HC.out).mono ?_
  rintro e w1 ⟨rfl, hb⟩
  replace K0 := K0.later hb
  replace X0 := X0.later hb X0.lt
  clear hb g0 g1 g2 g3 g4 r0 r1 r2 r3 r4
  have hX := X0.lt
  by_cases hc0 : cd = 0
  · subst hc0
    have hsm : someB s l c sh zs rt rq rv ps os = true := by
      rcases h : someB s l c sh zs rt rq rv ps os with _ | _
      · have := code_not_some (k1 := k1) (k2 := k2) (k3 := k3) (k4 := k4) (k5 := k5) (t1 := t1) (t2 := t2) (v1 := v1) (o1 := o1) (o2 := o2) (v2 := v2) (l1 := l1) (l2 := l2) (v3 := v3) (cs := cs) (ms := ms) h
        rw [hcd] at this
        omega
      · rfl
    rw [read_0 hsm hcd] at hz
    obtain ⟨rfl, rfl⟩ := Prod.mk.inj hz
    obtain ⟨n0, n1, n2, n3, n4, n5, n6, n7, n8, n9, n10, n11, n12, n13, n14, n15⟩ := cellsN HN.out
    have cN := K0.nb.cell
    obtain ⟨r0, r1, r2, r3, r4⟩ := K0.rb.five
    clear hsm hcd HC hz n0 n2 n3 n4 n8 n9 n10 n11 n12 n13 n14 n15
    go_wp2_with fail
    refine (specWith_is rt rq rv X x xc Y y yc k2 t1 t2 v1 ps os w1 (by omega) (by omega) K0.inp.slc K0.inp.slq).mono ?_
    intro e w4 hr
    obtain ⟨A5, q5, c5, A6, q6, c6, rfl, hl, hb⟩ := regr_lie hr
    have X4 := X0.later hb X0.lt
    obtain ⟨x0, x1, x2, x3, x4⟩ := X4.five
    have fx := X4.frozen
    have HP := Lib.hid (rdr_put (z := 0) (R := w.heap.size + 1 + 1 + 1) K0.bel (by omega) hX hl hb)
    clear hr hl hb K0 X0 X4 cN r0 r1 r2 r3 r4
    go_wp2
    exact bodyPost_ret (v := .tuple #[.agg #[.int .i64 rt, .int .i64 rq, .int .i64 rv, .slice A5 q5 c5, .slice A6 q6 c6], .int .i64 0]) (by simp [results, Tryz.results9, go_sem, x0, x1, x2, x3, x4]) rfl (HP.out _ _ _ _ _)
  have hc1 : (cd == 0) = false := by simpa using hc0
  by_cases hc2 : cd = 1
  · subst hc2
    have hc3 : ((1 : Int) == 1) = true := by rfl
    obtain ⟨g0, g1, g2, g3, g4⟩ := K0.gb.five
    obtain ⟨r0, r1, r2, r3, r4⟩ := K0.rb.five
    go_wp2_with fail
    rcases hsm : someB s l c sh zs rt rq rv ps os with _ | _
    · rw [read_no hsm] at hz
      obtain ⟨rfl, rfl⟩ := Prod.mk.inj hz
      have HS := Lib.hid hsm
      clear hsm hz hcd HC hc0
      refine (specSome_is K0.inp.hn (by omega) (by omega) K0.inp.row K0.inp.prs K0.inp.ops HS.out).mono ?_
      rintro e w2 ⟨rfl, hb⟩
      have E1 := bel_trans K0.bel hb
      have X1 := X0.later hb X0.lt
      have HP : Hid (∀ y0 y1 y2 y3 y4 : Value, RdR w ⟨0, 0, 0, [], []⟩ 1 (.returned (.tuple #[.agg #[.int .i64 0, .int .i64 0, .int .i64 0, .slice none 0 0, .slice none 0 0], .int .i64 1])) (((((w2.setCell ⟨w.heap.size + 1 + 1 + 1, 0, none⟩ y0).setCell ⟨w.heap.size + 1 + 1 + 1, 1, none⟩ y1).setCell ⟨w.heap.size + 1 + 1 + 1, 2, none⟩ y2).setCell ⟨w.heap.size + 1 + 1 + 1, 3, none⟩ y3).setCell ⟨w.heap.size + 1 + 1 + 1, 4, none⟩ y4)) := Lib.hid fun y0 y1 y2 y3 y4 =>
        ⟨_, rfl, lie_nil _ _, bel_five E1 (by omega) y0 y1 y2 y3 y4⟩
      obtain ⟨x0, x1, x2, x3, x4⟩ := X1.five
      have fx := X1.frozen
      clear K0 X0 X1 E1 hb g0 g1 g2 g3 g4 r0 r1 r2 r3 r4
      go_wp2
      exact bodyPost_ret (v := .tuple #[.agg #[.int .i64 0, .int .i64 0, .int .i64 0, .slice none 0 0, .slice none 0 0], .int .i64 1]) (by simp [results, Tryz.results9, go_sem, x0, x1, x2, x3, x4]) rfl (HP.out _ _ _ _ _)
    · rw [read_z hsm hcd hc0] at hz
      obtain ⟨rfl, rfl⟩ := Prod.mk.inj hz
      have HS := Lib.hid hsm
      clear hsm hz hcd HC hc0
      refine (specSome_is K0.inp.hn (by omega) (by omega) K0.inp.row K0.inp.prs K0.inp.ops HS.out).mono ?_
      rintro e w2 ⟨rfl, hb⟩
      replace K0 := K0.later hb
      replace X0 := X0.later hb X0.lt
      have hX2 := X0.lt
      clear hb g0 g1 g2 g3 g4 r0 r1 r2 r3 r4
      obtain ⟨r0, r1, r2, r3, r4⟩ := K0.rb.five
      go_wp2_with fail
      refine (l7Copy_is rt rq rv X x xc Y y yc ps os w2 (by omega) (by omega) K0.inp.slc K0.inp.slq).mono ?_
      intro e w4 hr
      obtain ⟨A5, n5, c5, A6, n6, c6, rfl, hl, hb⟩ := regr_lie hr
      have X4 := X0.later hb X0.lt
      obtain ⟨x0, x1, x2, x3, x4⟩ := X4.five
      have fx := X4.frozen
      have HP := Lib.hid (rdr_put (z := 1) (R := w.heap.size + 1 + 1 + 1) K0.bel (by omega) hX2 hl hb)
      clear hr hl hb K0 X0 X4 r0 r1 r2 r3 r4
      go_wp2
      exact bodyPost_ret (v := .tuple #[.agg #[.int .i64 rt, .int .i64 rq, .int .i64 rv, .slice A5 n5 c5, .slice A6 n6 c6], .int .i64 1]) (by simp [results, Tryz.results9, go_sem, x0, x1, x2, x3, x4]) rfl (HP.out _ _ _ _ _)
  · have hc3 : (cd == 1) = false := by simpa using hc2
    have hsm : someB s l c sh zs rt rq rv ps os = true := by
      rcases h : someB s l c sh zs rt rq rv ps os with _ | _
      · have := code_not_some (k1 := k1) (k2 := k2) (k3 := k3) (k4 := k4) (k5 := k5) (t1 := t1) (t2 := t2) (v1 := v1) (o1 := o1) (o2 := o2) (v2 := v2) (l1 := l1) (l2 := l2) (v3 := v3) (cs := cs) (ms := ms) h
        rw [hcd] at this
        omega
      · rfl
    rw [read_z hsm hcd hc0] at hz
    obtain ⟨rfl, rfl⟩ := Prod.mk.inj hz
    obtain ⟨r0, r1, r2, r3, r4⟩ := K0.rb.five
    clear hsm hz hcd HC hc0 hc2
    go_wp2_with fail
    refine (l7Copy_is rt rq rv X x xc Y y yc ps os w1 (by omega) (by omega) K0.inp.slc K0.inp.slq).mono ?_
    intro e w4 hr
    obtain ⟨A5, n5, c5, A6, n6, c6, rfl, hl, hb⟩ := regr_lie hr
    have X4 := X0.later hb X0.lt
    obtain ⟨x0, x1, x2, x3, x4⟩ := X4.five
    have fx := X4.frozen
    have HP := Lib.hid (rdr_put (z := cd) (R := w.heap.size + 1 + 1 + 1) K0.bel (by omega) hX hl hb)
    clear hr hl hb K0 X0 X4 r0 r1 r2 r3 r4
    go_wp2
    exact bodyPost_ret (v := .tuple #[.agg #[.int .i64 rt, .int .i64 rq, .int .i64 rv, .slice A5 n5 c5, .slice A6 n6 c6], .int .i64 cd]) (by simp [results, Tryz.results9, go_sem, x0, x1, x2, x3, x4]) rfl (HP.out _ _ _ _ _)

end
end Go.Proofs.YtdkmbcmenomecaaGreat

/- Readied and its model over groups, shelves and notes of one's own; how many marks there are; conditions: the sizes. -/
namespace Go.Proofs.YtdkmbcmenomecaaGreat
open Go.RowKit

def readD (g : GrpD) (r : RegD) (d : NoteD) : RegD × Int := readN g.s g.l g.c g.sh g.zs r.t r.q r.v r.ps r.os d.k1 d.k2 d.k3 d.k4 d.k5 d.t1 d.t2 d.v1 d.o1 d.o2 d.v2 d.l1 d.l2 d.v3 d.cs d.ms
theorem readD_len {g : GrpD} {r rr : RegD} {d : NoteD} {z : Int} (h : readD g r d = (rr, z)) : rr.ps.length ≤ r.ps.length ∧ rr.os.length ≤ r.os.length + 1 := by
  unfold readD readN at h
  split at h
  · obtain ⟨rfl, -⟩ := Prod.mk.inj h
    exact ⟨Nat.zero_le _, Nat.zero_le _⟩
  · split at h
    · obtain ⟨rfl, -⟩ := Prod.mk.inj h
      exact ⟨Nat.le_refl _, (withO_len _ _).1⟩
    · obtain ⟨rfl, -⟩ := Prod.mk.inj h
      exact ⟨Nat.le_refl _, Nat.le_succ _⟩
theorem readied8_is {g : GrpD} {r rr : RegD} {d : NoteD} {w : World} {F0 F1 F2 : Nat → Prop} {C0 C1 C2 : Array Value} {z : Int} (h0 : LieG g w F0 (.agg C0)) (h1 : LieR r w F1 (.agg C1)) (h2 : LieN d w F2 (.agg C2)) (_z0 : g.sz ≤ 1048576) (z1 : r.sz ≤ 1048576) (z2 : d.sz ≤ 1048576) (hz : readD g r d = (rr, z)) :
    Calls Tryz.prog 8 #[.agg C0, .agg C1, .agg C2] w (RdR w rr z) := by
  obtain ⟨A, n, cap, X, x, xc, Y, y, yc, P, p, pc, Q, q, qc, rfl, rfl, e2, I⟩ := in8_of h0 h1 h2 z1 z2
  exact readied_is e2 I hz
theorem specReadied8_is {g : GrpD} {r rr : RegD} {d : NoteD} {w : World} {F0 F1 F2 : Nat → Prop} {C0 C1 C2 : Array Value} {z : Int} (h0 : LieG g w F0 (.agg C0)) (h1 : LieR r w F1 (.agg C1)) (h2 : LieN d w F2 (.agg C2)) (_z0 : g.sz ≤ 1048576) (z1 : r.sz ≤ 1048576) (z2 : d.sz ≤ 1048576) (hz : readD g r d = (rr, z)) :
    Calls Tryz.prog 9 #[.agg C0, .agg C1, .agg C2] w (RdR w rr z) := by
  obtain ⟨A, n, cap, X, x, xc, Y, y, yc, P, p, pc, Q, q, qc, rfl, rfl, e2, I⟩ := in8_of h0 h1 h2 z1 z2
  exact specReadied_is e2 I hz
theorem mkb_G {d : GrpD} (h : d.sz ≤ 1048576) : 0 ≤ d.mk8 ∧ d.mk8 ≤ 1048576 := by unfold GrpD.sz at h; unfold GrpD.mk8; omega
theorem mkb_R {d : RegD} (h : d.sz ≤ 1048576) : 0 ≤ d.mk8 ∧ d.mk8 ≤ 4194304 := by unfold RegD.sz at h; unfold RegD.mk8; omega
theorem mkb_N {d : NoteD} (h : d.sz ≤ 1048576) : 0 ≤ d.mk8 ∧ d.mk8 ≤ 2097152 := by unfold NoteD.sz at h; unfold NoteD.mk8; omega
theorem mkb2_R {d : RegD} (h : d.ps.length ≤ 1048577) (h' : d.os.length ≤ 1048577) : 0 ≤ d.mk8 ∧ d.mk8 ≤ 8388616 := by unfold RegD.mk8; omega

end Go.Proofs.YtdkmbcmenomecaaGreat

/- SameOpen and its model: contracts of both; conditions: the sizes. -/
namespace Go.Proofs.YtdkmbcmenomecaaGreat
open Go Go.RowKit

/-- What SameOpen answers. -/
def sameB (os : List Opn) (k t q v : Int) : Bool := match getO os k with
  | none => false
  | some o => decide (o.2.1 = t ∧ o.2.2.1 = q) && decide (o.2.2.2 = v)
theorem same_none {os : List Opn} {k : Int} (h : getO os k = none) (t q v : Int) : sameB os k t q v = false := by simp [sameB, h]
theorem same_some {os : List Opn} {k : Int} {o : Opn} (h : getO os k = some o) (t q v : Int) : sameB os k t q v = (decide (o.2.1 = t ∧ o.2.2.1 = q) && decide (o.2.2.2 = v)) := by simp [sameB, h]
theorem getO_is {os : List Opn} {o : Opn} {k : Int} (h : getO os k = some o) : o.1 = k := by
  unfold getO at h
  simpa using List.find?_some h

section
variable {rt rq rv : Int} {X : Option Addr} {x xc : Nat} {Y : Option Addr} {y yc : Nat} {os : List Opn} {N : Array Value} {k1 k2 k3 k4 k5 t1 t2 v1 o1 o2 v2 : Int} {P : Option Addr} {p pc : Nat} {Q : Option Addr} {q qc : Nat} {l1 l2 v3 : Int} {w : World}

set_option maxHeartbeats 1000000 in
theorem openFor8_is (hN : N = #[.int .i64 k1, .int .i64 k2, .int .i64 k3, .int .i64 k4, .int .i64 k5, .int .i64 t1, .int .i64 t2, .int .i64 v1, .int .i64 o1, .int .i64 o2, .int .i64 v2, .slice P p pc, .slice Q q qc, .int .i64 l1, .int .i64 l2, .int .i64 v3]) (w : World) :
    Calls Tryz.prog 36 #[.agg N] w fun e w' => e = .returned (.agg #[.int .i64 k2, .int .i64 t1, .int .i64 t2, .int .i64 v1]) ∧ Below w.heap.size w w' := by
  have D := (Box.new w 34 N).alloc (.cells #[.int .i64 0, .int .i64 0, .int .i64 0, .int .i64 0] 43)
  have Z := Box.new (w.alloc (.cells N 34)) 43 #[.int .i64 0, .int .i64 0, .int .i64 0, .int .i64 0]
  have E := bel_trans (bel_alloc w (.cells N 34)) (bel_alloc _ (.cells #[.int .i64 0, .int .i64 0, .int .i64 0, .int .i64 0] 43))
  simp only [World.size_alloc] at Z
  obtain ⟨n0, n1, n2, n3, n4, n5, n6, n7, n8, n9, n10, n11, n12, n13, n14, n15⟩ := cellsN hN
  clear hN n0 n2 n3 n4 n8 n9 n10 n11 n12 n13 n14 n15
  have cN := D.cell
  obtain ⟨z0, z1, z2, z3⟩ := Z.four
  have fz := Z.frozen
  have hz := Z.lt
  go_enter Tryz.func36, Tryz.ntmps36
  go_upto_region 1 with fail
  generalize ((w.alloc _).alloc _ : World) = w0 at D E Z cN z0 z1 z2 z3 fz hz ⊢
  go_wp2
  exact bodyPost_ret (v := .agg #[.int .i64 k2, .int .i64 t1, .int .i64 t2, .int .i64 v1]) (by simp [results, Tryz.results36, go_sem, z0, z1, z2, z3]) rfl ⟨rfl, by
    repeat (first | (with_reducible exact E) | refine Below.setCell ?_ (by simp; try omega) _)⟩

/-- What the walks of SameOpen keep: the shelf's and the note's boxes, the opens. -/
structure SO (w wr : World) (N : Array Value) (rt rq rv : Int) (X : Option Addr) (x xc : Nat) (Y : Option Addr) (y yc : Nat) (os : List Opn) : Prop where
  rb : Box wr w.heap.size 32 #[.int .i64 rt, .int .i64 rq, .int .i64 rv, .slice X x xc, .slice Y y yc]
  nb : Box wr (w.heap.size + 1) 34 N
  ops : Quads wr wr.heap.size Y y os
  bel : Below w.heap.size w wr
theorem SO.later {wr w' : World} (h : SO w wr N rt rq rv X x xc Y y yc os) (hb : Below wr.heap.size wr w') : SO w w' N rt rq rv X x xc Y y yc os :=
  ⟨h.rb.later hb h.rb.lt, h.nb.later hb h.nb.lt, h.ops.later hb, bel_trans h.bel hb⟩
theorem SO.start (w : World) (N : Array Value) (rt rq rv : Int) (X : Option Addr) (x xc : Nat) (yc : Nat) (h : Quads w w.heap.size Y y os) :
    SO w ((w.alloc (.cells #[.int .i64 rt, .int .i64 rq, .int .i64 rv, .slice X x xc, .slice Y y yc] 32)).alloc (.cells N 34)) N rt rq rv X x xc Y y yc os := by
  have E := bel_trans (bel_alloc w (.cells #[.int .i64 rt, .int .i64 rq, .int .i64 rv, .slice X x xc, .slice Y y yc] 32)) (bel_alloc _ (.cells N 34))
  have D := Box.new (w.alloc (.cells #[.int .i64 rt, .int .i64 rq, .int .i64 rv, .slice X x xc, .slice Y y yc] 32)) 34 N
  simp only [World.size_alloc] at D
  exact ⟨(Box.new w _ _).alloc _, D, h.later E, E⟩

theorem same_cases {k a d v : Int} (hg : getO os k2 = some (k, a, d, v)) (t1 t2 v1 : Int) : k = k2 ∧ ((a = t1 ∧ d = t2 ∧ v = v1 ∧ sameB os k2 t1 t2 v1 = true) ∨
    (((a == t1) = false ∨ ((a == t1) = true ∧ (d == t2) = false) ∨ ((a == t1) = true ∧ (d == t2) = true ∧ (v == v1) = false)) ∧ sameB os k2 t1 t2 v1 = false)) := by
  refine ⟨getO_is hg, ?_⟩
  rw [same_some hg]
  by_cases h1 : a = t1
  · by_cases h2 : d = t2
    · by_cases h3 : v = v1
      · exact .inl ⟨h1, h2, h3, by simp [h1, h2, h3]⟩
      · exact .inr ⟨.inr (.inr ⟨by simpa using h1, by simpa using h2, by simpa using h3⟩), by simp [h3]⟩
    · exact .inr ⟨.inr (.inl ⟨by simpa using h1, by simpa using h2⟩), by simp [h2]⟩
  · exact .inr ⟨.inl (by simpa using h1), by simp [h1]⟩

set_option maxHeartbeats 4000000 in
theorem specSame_is (hN : N = #[.int .i64 k1, .int .i64 k2, .int .i64 k3, .int .i64 k4, .int .i64 k5, .int .i64 t1, .int .i64 t2, .int .i64 v1, .int .i64 o1, .int .i64 o2, .int .i64 v2, .slice P p pc, .slice Q q qc, .int .i64 l1, .int .i64 l2, .int .i64 v3]) (hy : y ≤ 2000000) (h : Quads w w.heap.size Y y os) {b : Bool} (hb : sameB os k2 t1 t2 v1 = b) :
    Calls Tryz.prog 13 #[.agg #[.int .i64 rt, .int .i64 rq, .int .i64 rv, .slice X x xc, .slice Y y yc], .agg N] w fun e w' => e = .returned (.bool b) ∧ Below w.heap.size w w' := by
  have K0 := SO.start w N rt rq rv X x xc yc h
  obtain ⟨n0, n1, n2, n3, n4, n5, n6, n7, n8, n9, n10, n11, n12, n13, n14, n15⟩ := cellsN hN
  have cN := K0.nb.cell
  obtain ⟨r0, r1, r2, r3, r4⟩ := K0.rb.five
  clear hN h n0 n2 n3 n4 n8 n9 n10 n11 n12 n13 n14 n15
  subst hb
  rcases hg : getO os k2 with _ | ⟨k, a, d, v⟩
  · have HV := Lib.hid (same_none hg t1 t2 v1)
    have HG := Lib.hid hg
    clear hg
    go_enter Tryz.func13, Tryz.ntmps13
    go_wp2_with fail
    generalize ((w.alloc _).alloc _ : World) = w0 at K0 cN r0 r1 r2 r3 r4 ⊢
    refine (specOpenOf_is rt rq rv X x xc Y y yc os k2 w0 (by omega) K0.ops).mono ?_
    rw [HG.out]
    rintro e w1 ⟨rfl, hb⟩
    have E := bel_trans (bel_trans K0.bel hb) (bel_alloc w1 (.cells #[.int .i64 0, .int .i64 0, .int .i64 0, .int .i64 0] 43))
    clear K0 cN r0 r1 r2 r3 r4
    unfold opV
    go_wp2
    go_ret
    exact ⟨by rw [HV.out]; rfl, E⟩
  · obtain ⟨rfl, hcase⟩ := same_cases hg t1 t2 v1
    have HG := Lib.hid hg
    clear hg
    rcases hcase with ⟨rfl, rfl, rfl, HV⟩ | ⟨hne | ⟨h1, hne⟩ | ⟨h1, h2, hne⟩, HV⟩ <;> replace HV := Lib.hid HV
    all_goals
      go_enter Tryz.func13, Tryz.ntmps13
      go_wp2_with fail
      generalize ((w.alloc _).alloc _ : World) = w0 at K0 cN r0 r1 r2 r3 r4 ⊢
      refine (specOpenOf_is rt rq rv X x xc Y y yc os k w0 (by omega) K0.ops).mono ?_
      rw [HG.out]
      rintro e w1 ⟨rfl, hb⟩
      have K1 := K0.later hb
      have E := K1.bel
      clear K0 cN r0 r1 r2 r3 r4 hb
      have cN := K1.nb.cell
      have hl := K1.nb.lt
      clear K1
      unfold opV
      go_wp2
      go_ret
      exact ⟨by rw [HV.out]; rfl, bel_trans E (bel_alloc _ _)⟩

end
end Go.Proofs.YtdkmbcmenomecaaGreat

/- SameOpen of the program: its contract (written by same8.py); conditions: the sizes. -/
namespace Go.Proofs.YtdkmbcmenomecaaGreat
open Go Go.RowKit

section
variable {rt rq rv : Int} {X : Option Addr} {x xc : Nat} {Y : Option Addr} {y yc : Nat} {os : List Opn} {N : Array Value} {k1 k2 k3 k4 k5 t1 t2 v1 o1 o2 v2 : Int} {P : Option Addr} {p pc : Nat} {Q : Option Addr} {q qc : Nat} {l1 l2 v3 : Int} {w : World}

set_option maxHeartbeats 4000000 in
theorem sameOpen_is (hN : N = #[.int .i64 k1, .int .i64 k2, .int .i64 k3, .int .i64 k4, .int .i64 k5, .int .i64 t1, .int .i64 t2, .int .i64 v1, .int .i64 o1, .int .i64 o2, .int .i64 v2, .slice P p pc, .slice Q q qc, .int .i64 l1, .int .i64 l2, .int .i64 v3]) (hy : y ≤ 2000000) (h : Quads w w.heap.size Y y os) {b : Bool} (hb : sameB os k2 t1 t2 v1 = b) :
    Calls Tryz.prog 12 #[.agg #[.int .i64 rt, .int .i64 rq, .int .i64 rv, .slice X x xc, .slice Y y yc], .agg N] w fun e w' => e = .returned (.bool b) ∧ Below w.heap.size w w' := by
  have K0 := SO.start w N rt rq rv X x xc yc h
  have IN := Lib.hid (sizeN hN)
  have IO : Hid ((Tryz.prog.info? 43).map (·.size) = some 4) := Lib.hid (by kernel_rfl)
  obtain ⟨n0, n1, n2, n3, n4, n5, n6, n7, n8, n9, n10, n11, n12, n13, n14, n15⟩ := cellsN hN
  have HN := Lib.hid hN
  have cN := K0.nb.cell
  obtain ⟨r0, r1, r2, r3, r4⟩ := K0.rb.five
  clear hN h n0 n2 n3 n4 n5 n6 n7 n8 n9 n10 n11 n12 n13 n14 n15
  subst hb
  rcases hg : getO os k2 with _ | ⟨k, a, d, v⟩
  · have HV := Lib.hid (same_none hg t1 t2 v1)
    have HG := Lib.hid hg
    clear hg
    go_enter Tryz.func12, Tryz.ntmps12
    go_wp2_with fail
    generalize ((w.alloc _).alloc _ : World) = w0 at K0 cN r0 r1 r2 r3 r4 ⊢
    refine (openOf_is rt rq rv X x xc Y y yc os k2 w0 (by omega) K0.ops).mono ?_
    rw [HG.out]
    rintro e w1 ⟨rfl, hb⟩
    have E := bel_trans (bel_trans K0.bel hb) (bel_alloc w1 (.cells #[.int .i64 0, .int .i64 0, .int .i64 0, .int .i64 0] 43))
    clear K0 cN r0 r1 r2 r3 r4
    unfold opV
    go_upto_region 2 with fail
    refine wp_region_after (by kernel_rfl) (by kernel_rfl) ?_
    repeat (first | go_big_quiet_step (fail) | quiet_step (fail))
    refine wpQuiet_nil ?_
    intro pw
    go_wp2
    go_ret
    exact ⟨by rw [HV.out]; rfl, bel_trans E pw.bel⟩
  · obtain ⟨rfl, hcase⟩ := same_cases hg t1 t2 v1
    have HG := Lib.hid hg
    clear hg
    rcases hcase with ⟨rfl, rfl, rfl, HV⟩ | ⟨hne | ⟨h1, hne⟩ | ⟨h1, h2, hne⟩, HV⟩ <;> replace HV := Lib.hid HV
    · go_enter Tryz.func12, Tryz.ntmps12
      go_wp2_with fail
      generalize ((w.alloc _).alloc _ : World) = w0 at K0 cN r0 r1 r2 r3 r4 ⊢
      refine (openOf_is rt rq rv X x xc Y y yc os k w0 (by omega) K0.ops).mono ?_
      rw [HG.out]
      rintro e w1 ⟨rfl, hb⟩
      have D1 := Box.new w1 43 #[.int .i64 k, .int .i64 a, .int .i64 d, .int .i64 v]
      have K1 := (K0.later hb).later (bel_alloc w1 (.cells #[.int .i64 k, .int .i64 a, .int .i64 d, .int .i64 v] 43))
      clear K0 cN r0 r1 r2 r3 r4 hb
      unfold opV
      go_upto_region 2 with fail
      generalize (w1.alloc _ : World) = w2 at K1 D1 ⊢
      generalize w1.heap.size = V at D1 ⊢
      refine wp_region_sink 8 (fun w' => Box w' V 43 #[.int .i64 k, .int .i64 a, .int .i64 d, .int .i64 v] ∧ Box w' (w.heap.size + 1) 34 N) (by kernel_rfl) ⟨D1, K1.nb⟩ (fun hH => ?_)
      replace K1 := K1.later ((Below.refl w2.heap.size w2).drew)
      replace D1 := D1.later ((Below.refl w2.heap.size w2).drew) D1.lt
      generalize w2.drew = w3 at K1 D1 hH ⊢
      refine wpAnyE_pure (i := 0) (v := ?va0) (by simp only [List.getElem?_toArray, List.getElem?_cons_zero]; rfl) (by kernel_rfl) (by kernel_rfl) (by kernel_rfl) (by exact fun _ _ _ h => h) (by kernel_rfl) (Or.inl ⟨by rfl, ?ya0⟩) hH ?ra0
      case ya0 => (intro w' hSw; (try dsimp only at hSw); go_simp; try with_reducible rfl)
      try simp only [Act.put, List.setIfInBounds_toArray, List.set_cons_zero, List.set_cons_succ]
      refine wpAnyE_pure (i := 1) (v := ?vb0) (by simp only [List.getElem?_toArray, List.getElem?_cons_succ, List.getElem?_cons_zero]; rfl) (by kernel_rfl) (by kernel_rfl) (by kernel_rfl) (by exact fun _ _ _ h => h) (by kernel_rfl) (Or.inl ⟨by rfl, ?yb0⟩) hH ?rb0
      case yb0 => (intro w' hSw; (try dsimp only at hSw); go_simp; try with_reducible rfl)
      try simp only [Act.put, List.setIfInBounds_toArray, List.set_cons_zero, List.set_cons_succ]
      refine wpAnyE_takeS (i := 2) (v := .agg #[.int .i64 k, .int .i64 a, .int .i64 d, .int .i64 v]) (by simp only [List.getElem?_toArray, List.getElem?_cons_succ, List.getElem?_cons_zero]; rfl) (by kernel_rfl) (by kernel_rfl) (by kernel_rfl) (by exact fun _ _ _ h => h) (by kernel_rfl) ?yc0 hH ?_
      case yc0 => exact yields_box 43 _ rfl (V) rfl 43 #[.int .i64 k, .int .i64 a, .int .i64 d, .int .i64 v] (fun _ h => h.1) _ Tryz.underlying43 rfl IO.out (by first | rfl | simp [Region.wanted, yielded] | (simp [Region.wanted, yielded, Act.put] <;> omega))
      try simp only [Act.put, List.setIfInBounds_toArray, List.set_cons_zero, List.set_cons_succ]
      refine wpAnyE_takeS (i := 3) (v := .agg N) (by simp only [List.getElem?_toArray, List.getElem?_cons_succ, List.getElem?_cons_zero]; rfl) (by kernel_rfl) (by kernel_rfl) (by kernel_rfl) (by exact fun _ _ _ h => h) (by kernel_rfl) ?yd0 hH ?_
      case yd0 => exact yields_box 34 _ rfl (w.heap.size + 1) rfl 34 N (fun _ h => h.2) _ Tryz.underlying34 rfl IN.out (by first | rfl | simp [Region.wanted, yielded] | (simp [Region.wanted, yielded, Act.put] <;> omega))
      try simp only [Act.put, List.setIfInBounds_toArray, List.set_cons_zero, List.set_cons_succ]
      refine wpAnyE_one (i := 4) (by kernel_rfl) (by simp only [List.getElem?_toArray, List.getElem?_cons_succ, List.getElem?_cons_zero]; rfl) (fun K hK => ?_)
      go_simp
      refine (openFor8_is HN.out _).mono ?_
      rintro e w4 ⟨rfl, hb⟩
      replace K1 := K1.later hb
      replace D1 := D1.later hb D1.lt
      clear hb
      clear hH
      refine hK.out _ _ ⟨D1, K1.nb⟩ (fun hH => ?_)
      clear hK K
      try simp only [Act.put, List.setIfInBounds_toArray, List.set_cons_zero, List.set_cons_succ]
      refine wpAnyE_one (i := 5) (by kernel_rfl) (by simp only [List.getElem?_toArray, List.getElem?_cons_succ, List.getElem?_cons_zero]; rfl) (fun K hK => ?_)
      go_simp
      clear hH
      refine hK.out _ _ ⟨D1, K1.nb⟩ (fun hH => ?_)
      clear hK K
      try simp only [Act.put, List.setIfInBounds_toArray, List.set_cons_zero, List.set_cons_succ]
      refine wpAnyE_one (i := 6) (by kernel_rfl) (by simp only [List.getElem?_toArray, List.getElem?_cons_succ, List.getElem?_cons_zero]; rfl) (fun K hK => ?_)
      go_simp
      clear hH
      refine hK.out _ _ ⟨D1, K1.nb⟩ (fun hH => ?_)
      clear hK K
      try simp only [Act.put, List.setIfInBounds_toArray, List.set_cons_zero, List.set_cons_succ]
      refine wpAnyE_end (i := 7) (by kernel_rfl) (by simp only [List.getElem?_toArray, List.getElem?_cons_succ, List.getElem?_cons_zero]; rfl) (by kernel_rfl) (fun K hK => ?_)
      go_simp
      refine hK.out _ _ ⟨D1, K1.nb⟩ ?_
      clear hK K
      try simp only [Act.put, List.setIfInBounds_toArray, List.set_cons_zero, List.set_cons_succ]
      have E := K1.bel
      clear K1 D1 hH
      go_wp2
      go_ret
      exact ⟨by rw [HV.out]; rfl, E⟩
    · go_enter Tryz.func12, Tryz.ntmps12
      go_wp2_with fail
      generalize ((w.alloc _).alloc _ : World) = w0 at K0 cN r0 r1 r2 r3 r4 ⊢
      refine (openOf_is rt rq rv X x xc Y y yc os k w0 (by omega) K0.ops).mono ?_
      rw [HG.out]
      rintro e w1 ⟨rfl, hb⟩
      have D1 := Box.new w1 43 #[.int .i64 k, .int .i64 a, .int .i64 d, .int .i64 v]
      have K1 := (K0.later hb).later (bel_alloc w1 (.cells #[.int .i64 k, .int .i64 a, .int .i64 d, .int .i64 v] 43))
      clear K0 cN r0 r1 r2 r3 r4 hb
      unfold opV
      go_upto_region 2 with fail
      generalize (w1.alloc _ : World) = w2 at K1 D1 ⊢
      generalize w1.heap.size = V at D1 ⊢
      refine wp_region_sink 8 (fun w' => Box w' V 43 #[.int .i64 k, .int .i64 a, .int .i64 d, .int .i64 v] ∧ Box w' (w.heap.size + 1) 34 N) (by kernel_rfl) ⟨D1, K1.nb⟩ (fun hH => ?_)
      replace K1 := K1.later ((Below.refl w2.heap.size w2).drew)
      replace D1 := D1.later ((Below.refl w2.heap.size w2).drew) D1.lt
      generalize w2.drew = w3 at K1 D1 hH ⊢
      refine wpAnyE_pure (i := 0) (v := ?va1) (by simp only [List.getElem?_toArray, List.getElem?_cons_zero]; rfl) (by kernel_rfl) (by kernel_rfl) (by kernel_rfl) (by exact fun _ _ _ h => h) (by kernel_rfl) (Or.inl ⟨by rfl, ?ya1⟩) hH ?ra1
      case ya1 => (intro w' hSw; (try dsimp only at hSw); go_simp; try with_reducible rfl)
      try simp only [Act.put, List.setIfInBounds_toArray, List.set_cons_zero, List.set_cons_succ]
      refine wpAnyE_pure (i := 1) (v := ?vb1) (by simp only [List.getElem?_toArray, List.getElem?_cons_succ, List.getElem?_cons_zero]; rfl) (by kernel_rfl) (by kernel_rfl) (by kernel_rfl) (by exact fun _ _ _ h => h) (by kernel_rfl) (Or.inl ⟨by rfl, ?yb1⟩) hH ?rb1
      case yb1 => (intro w' hSw; (try dsimp only at hSw); go_simp; try with_reducible rfl)
      try simp only [Act.put, List.setIfInBounds_toArray, List.set_cons_zero, List.set_cons_succ]
      refine wpAnyE_takeS (i := 2) (v := .agg #[.int .i64 k, .int .i64 a, .int .i64 d, .int .i64 v]) (by simp only [List.getElem?_toArray, List.getElem?_cons_succ, List.getElem?_cons_zero]; rfl) (by kernel_rfl) (by kernel_rfl) (by kernel_rfl) (by exact fun _ _ _ h => h) (by kernel_rfl) ?yc1 hH ?_
      case yc1 => exact yields_box 43 _ rfl (V) rfl 43 #[.int .i64 k, .int .i64 a, .int .i64 d, .int .i64 v] (fun _ h => h.1) _ Tryz.underlying43 rfl IO.out (by first | rfl | simp [Region.wanted, yielded] | (simp [Region.wanted, yielded, Act.put] <;> omega))
      try simp only [Act.put, List.setIfInBounds_toArray, List.set_cons_zero, List.set_cons_succ]
      refine wpAnyE_takeS (i := 3) (v := .agg N) (by simp only [List.getElem?_toArray, List.getElem?_cons_succ, List.getElem?_cons_zero]; rfl) (by kernel_rfl) (by kernel_rfl) (by kernel_rfl) (by exact fun _ _ _ h => h) (by kernel_rfl) ?yd1 hH ?_
      case yd1 => exact yields_box 34 _ rfl (w.heap.size + 1) rfl 34 N (fun _ h => h.2) _ Tryz.underlying34 rfl IN.out (by first | rfl | simp [Region.wanted, yielded] | (simp [Region.wanted, yielded, Act.put] <;> omega))
      try simp only [Act.put, List.setIfInBounds_toArray, List.set_cons_zero, List.set_cons_succ]
      refine wpAnyE_one (i := 4) (by kernel_rfl) (by simp only [List.getElem?_toArray, List.getElem?_cons_succ, List.getElem?_cons_zero]; rfl) (fun K hK => ?_)
      go_simp
      refine (openFor8_is HN.out _).mono ?_
      rintro e w4 ⟨rfl, hb⟩
      replace K1 := K1.later hb
      replace D1 := D1.later hb D1.lt
      clear hb
      clear hH
      refine hK.out _ _ ⟨D1, K1.nb⟩ (fun hH => ?_)
      clear hK K
      try simp only [Act.put, List.setIfInBounds_toArray, List.set_cons_zero, List.set_cons_succ]
      refine wpAnyE_one (i := 5) (by kernel_rfl) (by simp only [List.getElem?_toArray, List.getElem?_cons_succ, List.getElem?_cons_zero]; rfl) (fun K hK => ?_)
      go_simp
      clear hH
      refine hK.out _ _ ⟨D1, K1.nb⟩ (fun hH => ?_)
      clear hK K
      try simp only [Act.put, List.setIfInBounds_toArray, List.set_cons_zero, List.set_cons_succ]
      refine wpAnyE_one (i := 6) (by kernel_rfl) (by simp only [List.getElem?_toArray, List.getElem?_cons_succ, List.getElem?_cons_zero]; rfl) (fun K hK => ?_)
      go_simp
      clear hH
      refine hK.out _ _ ⟨D1, K1.nb⟩ (fun hH => ?_)
      clear hK K
      try simp only [Act.put, List.setIfInBounds_toArray, List.set_cons_zero, List.set_cons_succ]
      refine wpAnyE_end (i := 7) (by kernel_rfl) (by simp only [List.getElem?_toArray, List.getElem?_cons_succ, List.getElem?_cons_zero]; rfl) (by kernel_rfl) (fun K hK => ?_)
      go_simp
      refine hK.out _ _ ⟨D1, K1.nb⟩ ?_
      clear hK K
      try simp only [Act.put, List.setIfInBounds_toArray, List.set_cons_zero, List.set_cons_succ]
      have E := K1.bel
      clear K1 D1 hH
      go_wp2
      go_ret
      exact ⟨by rw [HV.out]; rfl, E⟩
    · go_enter Tryz.func12, Tryz.ntmps12
      go_wp2_with fail
      generalize ((w.alloc _).alloc _ : World) = w0 at K0 cN r0 r1 r2 r3 r4 ⊢
      refine (openOf_is rt rq rv X x xc Y y yc os k w0 (by omega) K0.ops).mono ?_
      rw [HG.out]
      rintro e w1 ⟨rfl, hb⟩
      have D1 := Box.new w1 43 #[.int .i64 k, .int .i64 a, .int .i64 d, .int .i64 v]
      have K1 := (K0.later hb).later (bel_alloc w1 (.cells #[.int .i64 k, .int .i64 a, .int .i64 d, .int .i64 v] 43))
      clear K0 cN r0 r1 r2 r3 r4 hb
      unfold opV
      go_upto_region 2 with fail
      generalize (w1.alloc _ : World) = w2 at K1 D1 ⊢
      generalize w1.heap.size = V at D1 ⊢
      refine wp_region_sink 8 (fun w' => Box w' V 43 #[.int .i64 k, .int .i64 a, .int .i64 d, .int .i64 v] ∧ Box w' (w.heap.size + 1) 34 N) (by kernel_rfl) ⟨D1, K1.nb⟩ (fun hH => ?_)
      replace K1 := K1.later ((Below.refl w2.heap.size w2).drew)
      replace D1 := D1.later ((Below.refl w2.heap.size w2).drew) D1.lt
      generalize w2.drew = w3 at K1 D1 hH ⊢
      refine wpAnyE_pure (i := 0) (v := ?va2) (by simp only [List.getElem?_toArray, List.getElem?_cons_zero]; rfl) (by kernel_rfl) (by kernel_rfl) (by kernel_rfl) (by exact fun _ _ _ h => h) (by kernel_rfl) (Or.inl ⟨by rfl, ?ya2⟩) hH ?ra2
      case ya2 => (intro w' hSw; (try dsimp only at hSw); go_simp; try with_reducible rfl)
      try simp only [Act.put, List.setIfInBounds_toArray, List.set_cons_zero, List.set_cons_succ]
      refine wpAnyE_pure (i := 1) (v := ?vb2) (by simp only [List.getElem?_toArray, List.getElem?_cons_succ, List.getElem?_cons_zero]; rfl) (by kernel_rfl) (by kernel_rfl) (by kernel_rfl) (by exact fun _ _ _ h => h) (by kernel_rfl) (Or.inl ⟨by rfl, ?yb2⟩) hH ?rb2
      case yb2 => (intro w' hSw; (try dsimp only at hSw); go_simp; try with_reducible rfl)
      try simp only [Act.put, List.setIfInBounds_toArray, List.set_cons_zero, List.set_cons_succ]
      refine wpAnyE_takeS (i := 2) (v := .agg #[.int .i64 k, .int .i64 a, .int .i64 d, .int .i64 v]) (by simp only [List.getElem?_toArray, List.getElem?_cons_succ, List.getElem?_cons_zero]; rfl) (by kernel_rfl) (by kernel_rfl) (by kernel_rfl) (by exact fun _ _ _ h => h) (by kernel_rfl) ?yc2 hH ?_
      case yc2 => exact yields_box 43 _ rfl (V) rfl 43 #[.int .i64 k, .int .i64 a, .int .i64 d, .int .i64 v] (fun _ h => h.1) _ Tryz.underlying43 rfl IO.out (by first | rfl | simp [Region.wanted, yielded] | (simp [Region.wanted, yielded, Act.put] <;> omega))
      try simp only [Act.put, List.setIfInBounds_toArray, List.set_cons_zero, List.set_cons_succ]
      refine wpAnyE_takeS (i := 3) (v := .agg N) (by simp only [List.getElem?_toArray, List.getElem?_cons_succ, List.getElem?_cons_zero]; rfl) (by kernel_rfl) (by kernel_rfl) (by kernel_rfl) (by exact fun _ _ _ h => h) (by kernel_rfl) ?yd2 hH ?_
      case yd2 => exact yields_box 34 _ rfl (w.heap.size + 1) rfl 34 N (fun _ h => h.2) _ Tryz.underlying34 rfl IN.out (by first | rfl | simp [Region.wanted, yielded] | (simp [Region.wanted, yielded, Act.put] <;> omega))
      try simp only [Act.put, List.setIfInBounds_toArray, List.set_cons_zero, List.set_cons_succ]
      refine wpAnyE_one (i := 4) (by kernel_rfl) (by simp only [List.getElem?_toArray, List.getElem?_cons_succ, List.getElem?_cons_zero]; rfl) (fun K hK => ?_)
      go_simp
      refine (openFor8_is HN.out _).mono ?_
      rintro e w4 ⟨rfl, hb⟩
      replace K1 := K1.later hb
      replace D1 := D1.later hb D1.lt
      clear hb
      clear hH
      refine hK.out _ _ ⟨D1, K1.nb⟩ (fun hH => ?_)
      clear hK K
      try simp only [Act.put, List.setIfInBounds_toArray, List.set_cons_zero, List.set_cons_succ]
      refine wpAnyE_one (i := 5) (by kernel_rfl) (by simp only [List.getElem?_toArray, List.getElem?_cons_succ, List.getElem?_cons_zero]; rfl) (fun K hK => ?_)
      go_simp
      clear hH
      refine hK.out _ _ ⟨D1, K1.nb⟩ (fun hH => ?_)
      clear hK K
      try simp only [Act.put, List.setIfInBounds_toArray, List.set_cons_zero, List.set_cons_succ]
      refine wpAnyE_one (i := 6) (by kernel_rfl) (by simp only [List.getElem?_toArray, List.getElem?_cons_succ, List.getElem?_cons_zero]; rfl) (fun K hK => ?_)
      go_simp
      clear hH
      refine hK.out _ _ ⟨D1, K1.nb⟩ (fun hH => ?_)
      clear hK K
      try simp only [Act.put, List.setIfInBounds_toArray, List.set_cons_zero, List.set_cons_succ]
      refine wpAnyE_end (i := 7) (by kernel_rfl) (by simp only [List.getElem?_toArray, List.getElem?_cons_succ, List.getElem?_cons_zero]; rfl) (by kernel_rfl) (fun K hK => ?_)
      go_simp
      refine hK.out _ _ ⟨D1, K1.nb⟩ ?_
      clear hK K
      try simp only [Act.put, List.setIfInBounds_toArray, List.set_cons_zero, List.set_cons_succ]
      have E := K1.bel
      clear K1 D1 hH
      go_wp2
      go_ret
      exact ⟨by rw [HV.out]; rfl, E⟩
    · go_enter Tryz.func12, Tryz.ntmps12
      go_wp2_with fail
      generalize ((w.alloc _).alloc _ : World) = w0 at K0 cN r0 r1 r2 r3 r4 ⊢
      refine (openOf_is rt rq rv X x xc Y y yc os k w0 (by omega) K0.ops).mono ?_
      rw [HG.out]
      rintro e w1 ⟨rfl, hb⟩
      have D1 := Box.new w1 43 #[.int .i64 k, .int .i64 a, .int .i64 d, .int .i64 v]
      have K1 := (K0.later hb).later (bel_alloc w1 (.cells #[.int .i64 k, .int .i64 a, .int .i64 d, .int .i64 v] 43))
      clear K0 cN r0 r1 r2 r3 r4 hb
      unfold opV
      go_upto_region 2 with fail
      generalize (w1.alloc _ : World) = w2 at K1 D1 ⊢
      generalize w1.heap.size = V at D1 ⊢
      refine wp_region_sink 8 (fun w' => Box w' V 43 #[.int .i64 k, .int .i64 a, .int .i64 d, .int .i64 v] ∧ Box w' (w.heap.size + 1) 34 N) (by kernel_rfl) ⟨D1, K1.nb⟩ (fun hH => ?_)
      replace K1 := K1.later ((Below.refl w2.heap.size w2).drew)
      replace D1 := D1.later ((Below.refl w2.heap.size w2).drew) D1.lt
      generalize w2.drew = w3 at K1 D1 hH ⊢
      refine wpAnyE_pure (i := 0) (v := ?va3) (by simp only [List.getElem?_toArray, List.getElem?_cons_zero]; rfl) (by kernel_rfl) (by kernel_rfl) (by kernel_rfl) (by exact fun _ _ _ h => h) (by kernel_rfl) (Or.inl ⟨by rfl, ?ya3⟩) hH ?ra3
      case ya3 => (intro w' hSw; (try dsimp only at hSw); go_simp; try with_reducible rfl)
      try simp only [Act.put, List.setIfInBounds_toArray, List.set_cons_zero, List.set_cons_succ]
      refine wpAnyE_pure (i := 1) (v := ?vb3) (by simp only [List.getElem?_toArray, List.getElem?_cons_succ, List.getElem?_cons_zero]; rfl) (by kernel_rfl) (by kernel_rfl) (by kernel_rfl) (by exact fun _ _ _ h => h) (by kernel_rfl) (Or.inl ⟨by rfl, ?yb3⟩) hH ?rb3
      case yb3 => (intro w' hSw; (try dsimp only at hSw); go_simp; try with_reducible rfl)
      try simp only [Act.put, List.setIfInBounds_toArray, List.set_cons_zero, List.set_cons_succ]
      refine wpAnyE_takeS (i := 2) (v := .agg #[.int .i64 k, .int .i64 a, .int .i64 d, .int .i64 v]) (by simp only [List.getElem?_toArray, List.getElem?_cons_succ, List.getElem?_cons_zero]; rfl) (by kernel_rfl) (by kernel_rfl) (by kernel_rfl) (by exact fun _ _ _ h => h) (by kernel_rfl) ?yc3 hH ?_
      case yc3 => exact yields_box 43 _ rfl (V) rfl 43 #[.int .i64 k, .int .i64 a, .int .i64 d, .int .i64 v] (fun _ h => h.1) _ Tryz.underlying43 rfl IO.out (by first | rfl | simp [Region.wanted, yielded] | (simp [Region.wanted, yielded, Act.put] <;> omega))
      try simp only [Act.put, List.setIfInBounds_toArray, List.set_cons_zero, List.set_cons_succ]
      refine wpAnyE_takeS (i := 3) (v := .agg N) (by simp only [List.getElem?_toArray, List.getElem?_cons_succ, List.getElem?_cons_zero]; rfl) (by kernel_rfl) (by kernel_rfl) (by kernel_rfl) (by exact fun _ _ _ h => h) (by kernel_rfl) ?yd3 hH ?_
      case yd3 => exact yields_box 34 _ rfl (w.heap.size + 1) rfl 34 N (fun _ h => h.2) _ Tryz.underlying34 rfl IN.out (by first | rfl | simp [Region.wanted, yielded] | (simp [Region.wanted, yielded, Act.put] <;> omega))
      try simp only [Act.put, List.setIfInBounds_toArray, List.set_cons_zero, List.set_cons_succ]
      refine wpAnyE_one (i := 4) (by kernel_rfl) (by simp only [List.getElem?_toArray, List.getElem?_cons_succ, List.getElem?_cons_zero]; rfl) (fun K hK => ?_)
      go_simp
      refine (openFor8_is HN.out _).mono ?_
      rintro e w4 ⟨rfl, hb⟩
      replace K1 := K1.later hb
      replace D1 := D1.later hb D1.lt
      clear hb
      clear hH
      refine hK.out _ _ ⟨D1, K1.nb⟩ (fun hH => ?_)
      clear hK K
      try simp only [Act.put, List.setIfInBounds_toArray, List.set_cons_zero, List.set_cons_succ]
      refine wpAnyE_one (i := 5) (by kernel_rfl) (by simp only [List.getElem?_toArray, List.getElem?_cons_succ, List.getElem?_cons_zero]; rfl) (fun K hK => ?_)
      go_simp
      clear hH
      refine hK.out _ _ ⟨D1, K1.nb⟩ (fun hH => ?_)
      clear hK K
      try simp only [Act.put, List.setIfInBounds_toArray, List.set_cons_zero, List.set_cons_succ]
      refine wpAnyE_one (i := 6) (by kernel_rfl) (by simp only [List.getElem?_toArray, List.getElem?_cons_succ, List.getElem?_cons_zero]; rfl) (fun K hK => ?_)
      go_simp
      clear hH
      refine hK.out _ _ ⟨D1, K1.nb⟩ (fun hH => ?_)
      clear hK K
      try simp only [Act.put, List.setIfInBounds_toArray, List.set_cons_zero, List.set_cons_succ]
      refine wpAnyE_end (i := 7) (by kernel_rfl) (by simp only [List.getElem?_toArray, List.getElem?_cons_succ, List.getElem?_cons_zero]; rfl) (by kernel_rfl) (fun K hK => ?_)
      go_simp
      refine hK.out _ _ ⟨D1, K1.nb⟩ ?_
      clear hK K
      try simp only [Act.put, List.setIfInBounds_toArray, List.set_cons_zero, List.set_cons_succ]
      have E := K1.bel
      clear K1 D1 hH
      go_wp2
      go_ret
      exact ⟨by rw [HV.out]; rfl, E⟩

end
end Go.Proofs.YtdkmbcmenomecaaGreat

/- SameOpen and its model over shelves and notes of one's own: contracts of both; conditions: the sizes. -/
namespace Go.Proofs.YtdkmbcmenomecaaGreat
open Go.RowKit

def sameD (r : RegD) (d : NoteD) : Bool := sameB r.os d.k2 d.t1 d.t2 d.v1
theorem same8_is {r : RegD} {d : NoteD} {w : World} {F1 F2 : Nat → Prop} {C1 C2 : Array Value} {z : Bool} (h1 : LieR r w F1 (.agg C1)) (h2 : LieN d w F2 (.agg C2)) (z1 : r.sz ≤ 1048576) (_z2 : d.sz ≤ 1048576) (hz : sameD r d = z) :
    Calls Tryz.prog 12 #[.agg C1, .agg C2] w fun e w' => e = .returned (.bool z) ∧ Below w.heap.size w w' := by
  obtain ⟨X, x, xc, Y, y, yc, e1, s1, s2, l1, l2⟩ := h1.slc
  obtain ⟨A', n', c', A2, n2, c2, e1', m1, m1', hp1, hq1⟩ := h1.at
  obtain ⟨P, p, pc, Q, q, qc, e2, m1, m2, hp, hq⟩ := h2.at
  rw [e1] at e1'
  injection e1' with e1'
  simp only [Array.mk.injEq, List.cons.injEq, Value.slice.injEq, and_true, true_and] at e1'
  obtain ⟨-, rfl, rfl, rfl⟩ := e1'
  injection e1 with e1
  injection e2 with e2
  subst e1
  unfold RegD.sz at z1
  exact sameOpen_is e2 (by omega) hq1.1 hz
theorem specSame8_is {r : RegD} {d : NoteD} {w : World} {F1 F2 : Nat → Prop} {C1 C2 : Array Value} {z : Bool} (h1 : LieR r w F1 (.agg C1)) (h2 : LieN d w F2 (.agg C2)) (z1 : r.sz ≤ 1048576) (_z2 : d.sz ≤ 1048576) (hz : sameD r d = z) :
    Calls Tryz.prog 13 #[.agg C1, .agg C2] w fun e w' => e = .returned (.bool z) ∧ Below w.heap.size w w' := by
  obtain ⟨X, x, xc, Y, y, yc, e1, s1, s2, l1, l2⟩ := h1.slc
  obtain ⟨A', n', c', A2, n2, c2, e1', m1, m1', hp1, hq1⟩ := h1.at
  obtain ⟨P, p, pc, Q, q, qc, e2, m1, m2, hp, hq⟩ := h2.at
  rw [e1] at e1'
  injection e1' with e1'
  simp only [Array.mk.injEq, List.cons.injEq, Value.slice.injEq, and_true, true_and] at e1'
  obtain ⟨-, rfl, rfl, rfl⟩ := e1'
  injection e1 with e1
  injection e2 with e2
  subst e1
  unfold RegD.sz at z1
  exact specSame_is e2 (by omega) hq1.1 hz

end Go.Proofs.YtdkmbcmenomecaaGreat

/- What is ready for a value is ready for it again, and not for another one; opens stay in order; mathematics alone; no conditions. -/
namespace Go.Proofs.YtdkmbcmenomecaaGreat
open Go.RowKit

/-- Opens in order, all right. -/
theorem opsB_iff (R : Opn → Bool) (os : List Opn) : opsB R os = true ↔ (∀ i, i < os.length → R (oth os i) = true) ∧ ∀ i, i + 1 < os.length → (oth os i).1 < (oth os (i + 1)).1 := by
  constructor
  · intro h
    unfold opsB at h
    rw [List.all_eq_true] at h
    refine ⟨fun i hi => ?_, fun i hi => ?_⟩
    · have := h i (List.mem_range.2 hi)
      unfold stepB at this
      rw [Bool.and_eq_true] at this
      exact this.1
    · have := h (i + 1) (List.mem_range.2 hi)
      unfold stepB at this
      simp only [Bool.and_eq_true, Bool.or_eq_true, decide_eq_true_eq, Nat.add_sub_cancel] at this
      rcases this.2 with h1 | h1
      · omega
      · exact h1
  · rintro ⟨h1, h2⟩
    refine opsB_true fun i hi => ?_
    unfold stepB
    rcases i with _ | i
    · simp [h1 0 hi]
    · have := h2 i hi
      simp [h1 (i + 1) hi, this]
theorem opsB_lt {R : Opn → Bool} {os : List Opn} (h : opsB R os = true) : ∀ i j, i < j → j < os.length → (oth os i).1 < (oth os j).1 := by
  obtain ⟨-, h2⟩ := (opsB_iff R os).1 h
  intro i j hij
  induction j with
  | zero => omega
  | succ j ih =>
    intro hj
    have h3 := h2 j hj
    by_cases e : i = j
    · subst e; exact h3
    · have := ih (by omega) (by omega)
      omega
theorem oth_put {os : List Opn} {i j : Nat} {o : Opn} (hi : i ≤ os.length) (_hj : j ≤ os.length) (hij : i ≤ j) (x : Nat) :
    oth (putO os i j o) x = if x < i then oth os x else if x = i then o else oth os (x - (i + 1) + j) := by
  unfold oth putO
  simp only [List.getD_eq_getElem?_getD]
  rw [List.append_assoc]
  by_cases h1 : x < i
  · rw [if_pos h1, List.getElem?_append_left (by rw [List.length_take]; omega), List.getElem?_take, if_pos h1]
  · rw [if_neg h1, List.getElem?_append_right (by rw [List.length_take]; omega), List.length_take, Nat.min_eq_left hi]
    by_cases h2 : x = i
    · subst h2
      simp
    · rw [if_neg h2, List.getElem?_append_right (by simp; omega), List.getElem?_drop]
      simp only [List.length_singleton]
      rw [show j + (x - i - 1) = x - (i + 1) + j by omega]
theorem beh_ge {c : Int} {os : List Opn} : ∀ k, k ≤ os.length → (∀ j, behN c (os.take k) ≤ j → j < k → ¬ (oth os j).1 < c) ∧ (0 < behN c (os.take k) → (oth os (behN c (os.take k) - 1)).1 < c) := by
  intro k
  induction k with
  | zero => intro _; exact ⟨fun j _ hj => absurd hj (by omega), fun h => absurd h (by simp [behN])⟩
  | succ k ih =>
    intro hk
    obtain ⟨h1, h2⟩ := ih (by omega)
    rw [behN_snoc (by omega)]
    by_cases hc : (oth os k).1 < c
    · rw [if_pos hc]
      exact ⟨fun j h3 h4 => absurd h4 (by omega), fun _ => by simpa using hc⟩
    · rw [if_neg hc]
      refine ⟨fun j h3 h4 => ?_, h2⟩
      by_cases e : j = k
      · subst e; exact hc
      · exact h1 j h3 (by omega)
theorem opsB_with {R : Opn → Bool} {os : List Opn} {o : Opn} (h : opsB R os = true) (ho : R o = true) : opsB R (withO os o) = true := by
  have hlt := opsB_lt h
  obtain ⟨h1, h2⟩ := (opsB_iff R os).1 h
  rw [opsB_iff]
  rcases first_cases o.1 os with ⟨i, hf⟩ | hn
  · rw [withO_first hf]
    have hil := hf.1
    have hlen : (putO os i (i + 1) o).length = os.length := by rw [putO_len (by omega) (by omega)]; omega
    have hoth : ∀ x, oth (putO os i (i + 1) o) x = if x = i then o else oth os x := fun x => by
      rw [oth_put (by omega) (by omega) (by omega)]
      by_cases a : x < i
      · rw [if_pos a, if_neg (by omega)]
      · rw [if_neg a]
        by_cases b : x = i
        · rw [if_pos b, if_pos b]
        · rw [if_neg b, if_neg b, show x - (i + 1) + (i + 1) = x by omega]
    have hk := hf.2.1
    refine ⟨fun x hx => ?_, fun x hx => ?_⟩
    · rw [hoth]
      split
      · exact ho
      · exact h1 x (by omega)
    · rw [hoth, hoth]
      have := h2 x (by omega)
      split <;> split
      · omega
      · subst_vars; rw [hk] at this; exact this
      · rename_i a b; rw [← hk, ← b]; exact this
      · exact this
  · rw [withO_none hn]
    obtain ⟨b, hb⟩ : ∃ b, behN o.1 os = b := ⟨_, rfl⟩
    have hbl := behN_le o.1 os
    obtain ⟨g1, g2⟩ := beh_ge (c := o.1) os.length (Nat.le_refl _)
    rw [List.take_length] at g1 g2
    rw [hb] at hbl g1 g2 ⊢
    have hlen : (putO os b b o).length = os.length + 1 := by rw [putO_len hbl hbl]; omega
    have hoth := oth_put (o := o) hbl hbl (Nat.le_refl b)
    refine ⟨fun x hx => ?_, fun x hx => ?_⟩
    · rw [hoth]
      split
      · exact h1 x (by omega)
      · split
        · exact ho
        · exact h1 _ (by omega)
    · rw [hoth, hoth]
      by_cases a : x + 1 < b
      · rw [if_pos (by omega), if_pos a]
        exact h2 x (by omega)
      · by_cases e : x + 1 = b
        · rw [if_pos (by omega), if_neg (by omega), if_pos e]
          have := g2 (by omega)
          rw [show b - 1 = x by omega] at this
          exact this
        · by_cases f : x = b
          · subst f
            rw [if_neg (by omega), if_pos rfl, if_neg (by omega), if_neg (by omega), show x + 1 - (x + 1) + x = x by omega]
            have hx1 : x < os.length := by omega
            have := g1 x (Nat.le_refl _) hx1
            have := hn x hx1
            omega
          · rw [if_neg (by omega), if_neg f, if_neg (by omega), if_neg (by omega), show x - (b + 1) + b = x - 1 by omega, show x + 1 - (b + 1) + b = x - 1 + 1 by omega]
            exact h2 (x - 1) (by omega)
/-- Putting again what is there changes nothing. -/
theorem with_again {os : List Opn} {o : Opn} (h : getO os o.1 = some o) : withO os o = os := by
  rcases first_cases o.1 os with ⟨i, hf⟩ | hn
  · rw [withO_first hf]
    have := getO_some hf
    rw [h] at this
    injection this with this
    unfold putO
    rw [this, oth_lt hf.1, ← List.take_succ_eq_append_getElem hf.1, List.take_append_drop]
  · rw [getO_none hn] at h
    cases h

section
variable {g : GrpD} {r rr : RegD} {d : NoteD} {z : Int}
/-- A code other than 0 leaves nothing open, or all as it was. -/
theorem read_else (h : readD g r d = (rr, z)) (hz : z ≠ 0) : rr.os = [] ∨ rr = r := by
  unfold readD readN at h
  split at h
  · obtain ⟨rfl, -⟩ := Prod.mk.inj h
    exact .inl rfl
  · split at h
    · exact absurd (Prod.mk.inj h).2.symm hz
    · obtain ⟨rfl, -⟩ := Prod.mk.inj h
      exact .inr rfl
/-- What the code is. -/
theorem read_code (h : readD g r d = (rr, z)) : codeD g r d = z := by
  unfold readD readN at h
  split at h
  · rename_i hs
    obtain ⟨-, rfl⟩ := Prod.mk.inj h
    exact code_not_some hs
  · split at h
    · rename_i hc
      obtain ⟨-, rfl⟩ := Prod.mk.inj h
      exact hc
    · exact (Prod.mk.inj h).2
theorem ob_all (h : codeD g r d = 0) (j : Nat) (hj : j < 7) : obB g.s g.l g.c g.sh g.zs r.t r.q r.v r.ps r.os d.k1 d.k2 d.k3 d.k4 d.k5 d.t1 d.t2 d.v1 d.o1 d.o2 d.v2 d.l1 d.l2 d.v3 d.cs d.ms j = false := by
  have key : ∀ k, k ≤ 7 → ∀ i, i < k → obB g.s g.l g.c g.sh g.zs r.t r.q r.v r.ps r.os d.k1 d.k2 d.k3 d.k4 d.k5 d.t1 d.t2 d.v1 d.o1 d.o2 d.v2 d.l1 d.l2 d.v3 d.cs d.ms i = false := by
    intro k
    induction k with
    | zero => intro _ i hi; omega
    | succ k ih =>
      intro hk i hi
      have hb := ih (by omega)
      by_cases e : i = k
      · subst e
        rcases hv : obB g.s g.l g.c g.sh g.zs r.t r.q r.v r.ps r.os d.k1 d.k2 d.k3 d.k4 d.k5 d.t1 d.t2 d.v1 d.o1 d.o2 d.v2 d.l1 d.l2 d.v3 d.cs d.ms i with _ | _
        · rfl
        · have hc := code_at hb (by omega) hv
          unfold codeD at h
          rw [hc] at h
          have : i = 0 ∨ i = 1 ∨ i = 2 ∨ i = 3 ∨ 4 ≤ i := by omega
          rcases this with rfl | rfl | rfl | rfl | h4
          · simp [codN] at h
          · simp [codN] at h
          · simp [codN] at h
          · simp [codN] at h
          · have e4 : codN i = 4 := by
              match i, h4 with
              | i + 4, _ => rfl
            rw [e4] at h
            omega
      · exact hb i (by omega)
  exact key 7 (Nat.le_refl _) j hj
/-- The open that a note asks for. -/
def opnD (d : NoteD) : Opn := (d.k2, d.t1, d.t2, d.v1)
theorem read_zero (h : readD g r d = (rr, 0)) : rr = ⟨r.t, r.q, r.v, r.ps, withO r.os (opnD d)⟩ := by
  have hc := read_code h
  unfold readD readN at h
  split at h
  · rename_i hs
    have := code_not_some (k1 := d.k1) (k2 := d.k2) (k3 := d.k3) (k4 := d.k4) (k5 := d.k5) (t1 := d.t1) (t2 := d.t2) (v1 := d.v1) (o1 := d.o1) (o2 := d.o2) (v2 := d.v2) (l1 := d.l1) (l2 := d.l2) (v3 := d.v3) (cs := d.cs) (ms := d.ms) hs
    unfold codeD at hc
    omega
  · split at h
    · exact (Prod.mk.inj h).1.symm
    · rename_i hn
      exact absurd hc hn
theorem read_get (h : readD g r d = (rr, 0)) : getO rr.os d.k2 = some (opnD d) := by
  rw [read_zero h]
  show getO (withO r.os (opnD d)) d.k2 = _
  rw [getO_with, if_pos (show (opnD d).1 = d.k2 from rfl)]
theorem open_right (h : codeD g r d = 0) : opnB g.s g.l g.c g.sh g.zs (opnD d) = true := by
  obtain ⟨hk, hn⟩ := ob_0 (ob_all h 0 (by omega))
  have h2 := ob_all h 2 (by omega)
  rw [obB_2] at h2
  simp only [Bool.not_eq_false', Bool.and_eq_true, decide_eq_true_eq] at h2
  obtain ⟨hx, e1, e2⟩ := h2
  unfold nxB at hx
  rw [Bool.and_eq_true] at hx
  have hb := stB_bd hx.1
  have hst := nt_stamps hn
  simp only [ntB, valsB, Bool.and_eq_true] at hn
  have hv : valB d.v1 = true := hn.1.1.1.2.1.1
  have hkd := hn.2
  rw [hk, kd_3, Bool.and_eq_true] at hkd
  unfold opnB opnD
  simp only [hkd.1, Bool.true_and, Bool.and_eq_true, decide_eq_true_eq]
  exact ⟨⟨⟨e2, by omega⟩, hst.1⟩, hv⟩
theorem read_reg (h : readD g r d = (rr, 0)) : regB g.s g.l g.c g.sh g.zs d.k5 rr.t rr.q rr.v rr.ps rr.os = true := by
  have hc := read_code h
  have h1 := ob_1 (ob_all hc 1 (by omega))
  rw [read_zero h]
  unfold regB at h1 ⊢
  rw [Bool.and_eq_true] at h1 ⊢
  exact ⟨h1.1, opsB_with h1.2 (open_right hc)⟩
theorem cmp_one {a b : Int} (h : stB a b = true) : cmpN a b a b = 0 := by
  rw [cmpN_yes h h, sgn_eq, sgn_eq]; rfl
/-- Asked for the same again, it is ready; asked for another value, it is not. -/
theorem code_like (h : readD g r d = (rr, 0)) (v : Int) (hv : valB v = true) : codeD g rr ⟨d.k1, d.k2, d.k3, d.k4, d.k5, d.t1, d.t2, v, d.o1, d.o2, d.v2, d.l1, d.l2, d.v3, d.cs, d.ms⟩ = if v = d.v1 then 0 else 4 := by
  have hc := read_code h
  obtain ⟨hk, hn⟩ := ob_0 (ob_all hc 0 (by omega))
  have h2 := ob_all hc 2 (by omega)
  have h3 := ob_all hc 3 (by omega)
  have hg := read_get h
  have hst := (nt_stamps hn).1
  have hn' : ntB g.s g.l g.c g.sh g.zs d.k1 d.k2 d.k3 d.k4 d.k5 d.t1 d.t2 v d.o1 d.o2 d.v2 d.cs d.ms d.l1 d.l2 d.v3 = true := by
    rw [hk] at hn ⊢
    simp only [ntB, valsB, kd_3, Bool.and_eq_true] at hn ⊢
    exact ⟨⟨⟨⟨hn.1.1.1.1, ⟨hv, hn.1.1.1.2.1.2⟩, hn.1.1.1.2.2⟩, hn.1.1.2⟩, hn.1.2⟩, hn.2⟩
  unfold codeD
  have b0 := ob0_yes (rt := rr.t) (rq := rr.q) (rv := rr.v) (ps := rr.ps) (os := rr.os) hk hn'
  have b1 : obB g.s g.l g.c g.sh g.zs rr.t rr.q rr.v rr.ps rr.os d.k1 d.k2 d.k3 d.k4 d.k5 d.t1 d.t2 v d.o1 d.o2 d.v2 d.l1 d.l2 d.v3 d.cs d.ms 1 = false := by rw [obB_1, read_reg h]; rfl
  rw [code_more b0 b1 h2 h3]
  have e4 : obB g.s g.l g.c g.sh g.zs rr.t rr.q rr.v rr.ps rr.os d.k1 d.k2 d.k3 d.k4 d.k5 d.t1 d.t2 v d.o1 d.o2 d.v2 d.l1 d.l2 d.v3 d.cs d.ms 4 = false := (opnF_some hg _).trans (by show (cmpN d.t1 d.t2 d.t1 d.t2 == 1) = false; rw [cmp_one hst]; rfl)
  have e5 : obB g.s g.l g.c g.sh g.zs rr.t rr.q rr.v rr.ps rr.os d.k1 d.k2 d.k3 d.k4 d.k5 d.t1 d.t2 v d.o1 d.o2 d.v2 d.l1 d.l2 d.v3 d.cs d.ms 5 = !decide (d.v1 = v) := (opnF_some hg _).trans (by show (decide (d.t1 = d.t1 ∧ d.t2 = d.t2) && !decide (d.v1 = v)) = _; rw [decide_eq_true ⟨rfl, rfl⟩, Bool.true_and])
  have e6 : obB g.s g.l g.c g.sh g.zs rr.t rr.q rr.v rr.ps rr.os d.k1 d.k2 d.k3 d.k4 d.k5 d.t1 d.t2 v d.o1 d.o2 d.v2 d.l1 d.l2 d.v3 d.cs d.ms 6 = false := (opnF_some hg _).trans (by show (cmpN d.t1 d.t2 d.t1 d.t2 == 1 && _) = false; rw [cmp_one hst]; rfl)
  rw [e4, e5, e6]
  by_cases e : v = d.v1
  · rw [if_pos e, if_neg (by simp [e])]
  · rw [if_neg e, if_pos (by simp [show ¬ d.v1 = v from fun x => e x.symm])]
theorem val_v1 (h : codeD g r d = 0) : valB d.v1 = true := by
  obtain ⟨-, hn⟩ := ob_0 (ob_all h 0 (by omega))
  simp only [ntB, valsB, Bool.and_eq_true] at hn
  exact hn.1.1.1.2.1.1
theorem val_bd {v : Int} (h : valB v = true) : 0 ≤ v ∧ v ≤ 9999 := inB_true.1 h
theorem read_again (h : readD g r d = (rr, 0)) : readD g rr d = (rr, 0) := by
  have hc := read_code h
  have hs := some_of_reg (read_reg h)
  have hcc := code_like h d.v1 (val_v1 hc)
  rw [if_pos rfl] at hcc
  have := read_0 hs hcc
  unfold readD
  rw [this]
  have e : withO rr.os (d.k2, d.t1, d.t2, d.v1) = rr.os := with_again (read_get h)
  rw [e]
theorem other_code (h : readD g r d = (rr, 0)) : codeD g rr ⟨d.k1, d.k2, d.k3, d.k4, d.k5, d.t1, d.t2, (d.v1 + 1) % 10000, d.o1, d.o2, d.v2, d.l1, d.l2, d.v3, d.cs, d.ms⟩ = 4 := by
  have hv := val_bd (val_v1 (read_code h))
  rw [code_like h _ (inB_true.2 (by omega)), if_neg (by omega)]
theorem read_same (h : readD g r d = (rr, 0)) : sameD rr d = true := by
  unfold sameD
  rw [same_some (read_get h)]
  simp [opnD]
theorem read_cmp (h : readD g r d = (rr, 0)) : cmpN rr.t rr.q r.t r.q = 0 := by
  have h1 := ob_1 (ob_all (read_code h) 1 (by omega))
  rw [read_zero h]
  unfold regB at h1
  rw [Bool.and_eq_true, ← lefB_spec] at h1
  have := h1.1
  unfold spcB at this
  simp only [Bool.and_eq_true] at this
  exact cmp_one this.1.1.1
end

end Go.Proofs.YtdkmbcmenomecaaGreat

/- The model's DrawReadied; the functions of chapter 8 over what can be read (written by ready_law.py); conditions: the sizes. -/
namespace Go.Proofs.YtdkmbcmenomecaaGreat
open Go Go.RowKit

theorem in8_at {g : GrpD} {r : RegD} {d : NoteD} {w : World} {F0 F1 F2 : Nat → Prop} {C0 C1 C2 : Array Value} (h0 : AtG g w F0 (.agg C0)) (h1 : AtS r w F1 (.agg C1)) (h2 : AtN d w F2 (.agg C2)) (z1 : r.sz ≤ 1048576) (z2 : d.sz ≤ 1048576) :
    ∃ (A : Option Addr) (n cap : Nat) (X : Option Addr) (x xc : Nat) (Y : Option Addr) (y yc : Nat) (P : Option Addr) (p pc : Nat) (Q : Option Addr) (q qc : Nat),
      C0 = #[.int .i64 g.s, .int .i64 g.l, .int .i64 g.c, .int .i64 g.sh, .slice A n cap] ∧ C1 = #[.int .i64 r.t, .int .i64 r.q, .int .i64 r.v, .slice X x xc, .slice Y y yc] ∧ C2 = d.cells P p pc Q q qc ∧
      In8 w A n g.zs X x xc r.ps Y y yc r.os P p d.cs Q q d.ms := by
  obtain ⟨A, n, cap, e0, m0, hr⟩ := h0
  obtain ⟨X, x, xc, Y, y, yc, e1, s1, s2, l1, l2⟩ := h1.slc
  obtain ⟨P, p, pc, Q, q, qc, e2, m1, m2, hp, hq⟩ := h2
  injection e0 with e0
  injection e1 with e1
  injection e2 with e2
  have hl := hp.1.1
  have hl' := hq.1.1
  unfold RegD.sz at z1
  unfold NoteD.sz at z2
  exact ⟨A, n, cap, X, x, xc, Y, y, yc, P, p, pc, Q, q, qc, e0, e1, e2, m0, by omega, by omega, by omega, by omega, hr.1, s1, s2, hp.1, hq.1⟩
theorem codeA_is {g : GrpD} {r : RegD} {d : NoteD} {w : World} {F0 F1 F2 : Nat → Prop} {C0 C1 C2 : Array Value} {z : Int} (h0 : AtG g w F0 (.agg C0)) (h1 : AtS r w F1 (.agg C1)) (h2 : AtN d w F2 (.agg C2)) (z1 : r.sz ≤ 1048576) (z2 : d.sz ≤ 1048576) (hz : codeD g r d = z) :
    Calls Tryz.prog 11 #[.agg C0, .agg C1, .agg C2] w fun e w' => e = .returned (.int .i64 z) ∧ Below w.heap.size w w' := by
  obtain ⟨A, n, cap, X, x, xc, Y, y, yc, P, p, pc, Q, q, qc, rfl, rfl, e2, I⟩ := in8_at h0 h1 h2 z1 z2
  exact codeReady_is e2 I hz
theorem readiedA_is {g : GrpD} {r rr : RegD} {d : NoteD} {w : World} {F0 F1 F2 : Nat → Prop} {C0 C1 C2 : Array Value} {z : Int} (h0 : AtG g w F0 (.agg C0)) (h1 : AtS r w F1 (.agg C1)) (h2 : AtN d w F2 (.agg C2)) (z1 : r.sz ≤ 1048576) (z2 : d.sz ≤ 1048576) (hz : readD g r d = (rr, z)) :
    Calls Tryz.prog 8 #[.agg C0, .agg C1, .agg C2] w (RdR w rr z) := by
  obtain ⟨A, n, cap, X, x, xc, Y, y, yc, P, p, pc, Q, q, qc, rfl, rfl, e2, I⟩ := in8_at h0 h1 h2 z1 z2
  exact readied_is e2 I hz
theorem specReadiedA_is {g : GrpD} {r rr : RegD} {d : NoteD} {w : World} {F0 F1 F2 : Nat → Prop} {C0 C1 C2 : Array Value} {z : Int} (h0 : AtG g w F0 (.agg C0)) (h1 : AtS r w F1 (.agg C1)) (h2 : AtN d w F2 (.agg C2)) (z1 : r.sz ≤ 1048576) (z2 : d.sz ≤ 1048576) (hz : readD g r d = (rr, z)) :
    Calls Tryz.prog 9 #[.agg C0, .agg C1, .agg C2] w (RdR w rr z) := by
  obtain ⟨A, n, cap, X, x, xc, Y, y, yc, P, p, pc, Q, q, qc, rfl, rfl, e2, I⟩ := in8_at h0 h1 h2 z1 z2
  exact specReadied_is e2 I hz
theorem sameA_is {r : RegD} {d : NoteD} {w : World} {F1 F2 : Nat → Prop} {C1 C2 : Array Value} {b : Bool} (h1 : AtS r w F1 (.agg C1)) (h2 : AtN d w F2 (.agg C2)) (z1 : r.sz ≤ 1048576) (hz : sameD r d = b) :
    Calls Tryz.prog 12 #[.agg C1, .agg C2] w fun e w' => e = .returned (.bool b) ∧ Below w.heap.size w w' := by
  obtain ⟨X, x, xc, Y, y, yc, e1, -, -, -, hq1, -⟩ := h1
  obtain ⟨P, p, pc, Q, q, qc, e2, m1, m2, hp, hq⟩ := h2
  injection e1 with e1
  injection e2 with e2
  subst e1
  have := hq1.1.1
  unfold RegD.sz at z1
  exact sameOpen_is e2 (by omega) hq1.1 hz
theorem specSameA_is {r : RegD} {d : NoteD} {w : World} {F1 F2 : Nat → Prop} {C1 C2 : Array Value} {b : Bool} (h1 : AtS r w F1 (.agg C1)) (h2 : AtN d w F2 (.agg C2)) (z1 : r.sz ≤ 1048576) (hz : sameD r d = b) :
    Calls Tryz.prog 13 #[.agg C1, .agg C2] w fun e w' => e = .returned (.bool b) ∧ Below w.heap.size w w' := by
  obtain ⟨X, x, xc, Y, y, yc, e1, -, -, -, hq1, -⟩ := h1
  obtain ⟨P, p, pc, Q, q, qc, e2, m1, m2, hp, hq⟩ := h2
  injection e1 with e1
  injection e2 with e2
  subst e1
  have := hq1.1.1
  unfold RegD.sz at z1
  exact specSame_is e2 (by omega) hq1.1 hz
theorem likeA_is {r : RegD} {w : World} {F F' : Nat → Prop} {C C' : Array Value} (h : AtR r w F (.agg C)) (h' : AtR r w F' (.agg C')) (z1 : r.sz ≤ 1048576) :
    Calls Tryz.prog 10 #[.agg C, .agg C'] w fun e w' => e = .returned (.bool true) ∧ Below w.heap.size w w' := by
  obtain ⟨A, n, cap, B, m, dap, e, hm, hn, hr, hq⟩ := h
  obtain ⟨A', n', cap', B', m', dap', e', hm', hn', hr', hq'⟩ := h'
  injection e with e
  injection e' with e'
  subst e e'
  have hl : r.ps.length = n := hr.1.1
  have hl' : r.ps.length = n' := hr'.1.1
  have hk : r.os.length = m := hq.1.1
  have hk' : r.os.length = m' := hq'.1.1
  subst hl hl' hk hk'
  unfold RegD.sz at z1
  exact likeReg_is _ _ _ A _ cap B _ dap A' cap' B' dap' r.ps r.os w (by omega) (by omega) hr.1 hq.1 hr'.1 hq'.1
theorem openA_is {r : RegD} {w : World} {F : Nat → Prop} {C : Array Value} {o : Opn} (h : AtR r w F (.agg C)) (z1 : r.sz ≤ 1048576) {k : Int} (hk : getO r.os k = some o) :
    Calls Tryz.prog 14 #[.agg C, .int .i64 k] w fun e w' => e = .returned (.tuple #[.agg #[.int .i64 o.1, .int .i64 o.2.1, .int .i64 o.2.2.1, .int .i64 o.2.2.2], .bool true]) ∧ Below w.heap.size w w' := by
  obtain ⟨A, n, cap, B, m, dap, e, hm, hn, hr, hq⟩ := h
  injection e with e
  subst e
  have hl := hq.1.1
  unfold RegD.sz at z1
  refine (openOf_is _ _ _ A n cap B m dap r.os k w (by omega) hq.1).mono ?_
  rw [hk]
  exact fun _ _ h => h
/-- The cells of a shelf, of a note. -/
theorem AtR.cells {r : RegD} {w : World} {F : Nat → Prop} {C : Array Value} (h : AtR r w F (.agg C)) : C[0]? = some (.int .i64 r.t) ∧ C[1]? = some (.int .i64 r.q) ∧ ∃ A c, C[4]? = some (.slice A r.os.length c) := by
  obtain ⟨A, n, cap, B, m, dap, e, hm, hn, hr, hq⟩ := h
  injection e with e
  subst e
  have hl : r.os.length = m := hq.1.1
  exact ⟨rfl, rfl, B, dap, by rw [hl]; rfl⟩
theorem AtN.cells {d : NoteD} {w : World} {F : Nat → Prop} {C : Array Value} (h : AtN d w F (.agg C)) : C[1]? = some (.int .i64 d.k2) ∧ C[5]? = some (.int .i64 d.t1) ∧ C[6]? = some (.int .i64 d.t2) ∧ C[7]? = some (.int .i64 d.v1) := by
  obtain ⟨A, n, cap, B, m, dap, e, -⟩ := h
  injection e with e
  subst e
  exact ⟨rfl, rfl, rfl, rfl⟩
theorem AtN.val {d : NoteD} {w : World} {F : Nat → Prop} {C : Array Value} (h : AtN d w F (.agg C)) (v : Int) : AtN ⟨d.k1, d.k2, d.k3, d.k4, d.k5, d.t1, d.t2, v, d.o1, d.o2, d.v2, d.l1, d.l2, d.v3, d.cs, d.ms⟩ w F (.agg (C.setIfInBounds 7 (.int .i64 v))) := by
  obtain ⟨A, n, cap, B, m, dap, e, h1⟩ := h
  injection e with e
  subst e
  exact ⟨A, n, cap, B, m, dap, rfl, h1⟩

/-- What DrawReadied leaves. -/
def MadeRdy (w : World) (e : Ending) (w' : World) : Prop := ∃ (G R N : Array Value), e = .returned (.tuple #[.agg G, .agg R, .agg N]) ∧ GrpS w' (w.heap.size ≤ ·) (.agg G) ∧ RegS w' (w.heap.size ≤ ·) (.agg R) ∧ NoteS w' (w.heap.size ≤ ·) (.agg N) ∧ Below w.heap.size w w'
set_option maxRecDepth 100000 in
set_option maxHeartbeats 8000000 in
theorem drawReadied_any (A : Option Addr) (n cap : Nat) (w : World) (hn : n ≤ 4096) (hB : Bytes w w.heap.size A n) :
    Calls Tryz.prog 7 #[.slice A n cap] w (MadeRdy w) := by
  have E0 := bel_trans (bel_trans (bel_alloc w (.cells #[.int .i64 0, .int .i64 0, .int .i64 0, .int .i64 0, .slice none 0 0] 26)) (bel_alloc _ (.cells #[.int .i64 0, .int .i64 0, .int .i64 0, .slice none 0 0, .slice none 0 0] 32))) (bel_alloc _ (.cells #[.int .i64 0, .int .i64 0, .int .i64 0, .int .i64 0, .int .i64 0, .int .i64 0, .int .i64 0, .int .i64 0, .int .i64 0, .int .i64 0, .int .i64 0, .slice none 0 0, .slice none 0 0, .int .i64 0, .int .i64 0, .int .i64 0] 34))
  have R2 := ((Box.new w 26 #[.int .i64 0, .int .i64 0, .int .i64 0, .int .i64 0, .slice none 0 0]).alloc (.cells #[.int .i64 0, .int .i64 0, .int .i64 0, .slice none 0 0, .slice none 0 0] 32)).alloc (.cells #[.int .i64 0, .int .i64 0, .int .i64 0, .int .i64 0, .int .i64 0, .int .i64 0, .int .i64 0, .int .i64 0, .int .i64 0, .int .i64 0, .int .i64 0, .slice none 0 0, .slice none 0 0, .int .i64 0, .int .i64 0, .int .i64 0] 34)
  have R3 := (Box.new (w.alloc (.cells #[.int .i64 0, .int .i64 0, .int .i64 0, .int .i64 0, .slice none 0 0] 26)) 32 #[.int .i64 0, .int .i64 0, .int .i64 0, .slice none 0 0, .slice none 0 0]).alloc (.cells #[.int .i64 0, .int .i64 0, .int .i64 0, .int .i64 0, .int .i64 0, .int .i64 0, .int .i64 0, .int .i64 0, .int .i64 0, .int .i64 0, .int .i64 0, .slice none 0 0, .slice none 0 0, .int .i64 0, .int .i64 0, .int .i64 0] 34)
  have R4 := Box.new ((w.alloc (.cells #[.int .i64 0, .int .i64 0, .int .i64 0, .int .i64 0, .slice none 0 0] 26)).alloc (.cells #[.int .i64 0, .int .i64 0, .int .i64 0, .slice none 0 0, .slice none 0 0] 32)) 34 #[.int .i64 0, .int .i64 0, .int .i64 0, .int .i64 0, .int .i64 0, .int .i64 0, .int .i64 0, .int .i64 0, .int .i64 0, .int .i64 0, .int .i64 0, .slice none 0 0, .slice none 0 0, .int .i64 0, .int .i64 0, .int .i64 0]
  simp only [World.size_alloc] at R3 R4
  have HB := Lib.hid hB
  clear hB
  go_enter Tryz.func7, Tryz.ntmps7
  go_wp2_with fail
  generalize (((w.alloc _).alloc _).alloc _ : World) = w0 at E0 R2 R3 R4 ⊢
  refine (l1New_any A n cap w0 hn ((HB.out.below E0 (Nat.le_refl _)).more E0.size)).mono ?_
  rintro e w1 ⟨g, hg, rfl, hc1, hb1⟩
  have hz := R4.lt
  have hg' : w.heap.size + 1 + 1 < g := Nat.lt_of_lt_of_le hz hg
  have E1 := bel_trans E0 hb1
  have S2 := R2.later hb1 R2.lt
  have S3 := R3.later hb1 R3.lt
  have S4 := R4.later hb1 R4.lt
  have hz1 := S4.lt
  clear R2 R3 R4 E0 hb1
  go_wp2_with fail
  refine (l8Draw_any g A n cap w1 hc1).mono ?_
  rintro e w2 ⟨G, R, N, rfl, gs, rs, ns, -, hgN⟩
  have x2 := S2.kept hgN (by intro e; injection e with e; omega)
  have x3 := S3.kept hgN (by intro e; injection e with e; omega)
  have x4 := S4.kept hgN (by intro e; injection e with e; omega)
  have E2 := bel_grown E1 hgN (by omega)
  have IG := Lib.hid gs.one
  have IN := Lib.hid ns.size
  have IR := Lib.hid rs.one
  clear S2 S3 S4 E1 hc1 hgN hg
  have t1 := turns_setRow w2 w.heap.size G
  have t2 := turns_setRow (w2.setRow w.heap.size G) (w.heap.size + 1) R
  have t3 := turns_setRow ((w2.setRow w.heap.size G).setRow (w.heap.size + 1) R) (w.heap.size + 1 + 1) N
  have X3 := x3.turn t1 (by omega)
  have X4 := (x4.turn t1 (by omega)).turn t2 (by omega)
  have y2 := ((x2.setRow G).turn t2 (by omega)).turn t3 (by omega)
  have y3 := (X3.setRow R).turn t3 (by omega)
  have y4 := X4.setRow N
  have g0 : ∀ b, w1.heap.size + 2 < b → ¬ b = w.heap.size := fun b hb e => by omega
  have g1 : ∀ b, w1.heap.size + 2 < b → ¬ b = w.heap.size + 1 := fun b hb e => by omega
  have g2 : ∀ b, w1.heap.size + 2 < b → ¬ b = w.heap.size + 1 + 1 := fun b hb e => by omega
  have z1 := keepsGS.sub (keepsGS.turn (keepsGS.turn (keepsGS.turn gs t1 g0) t2 g1) t3 g2) (F' := (w.heap.size ≤ ·)) (fun b hb => by omega)
  have z2 := keepsRS.sub (keepsRS.turn (keepsRS.turn (keepsRS.turn rs t1 g0) t2 g1) t3 g2) (F' := (w.heap.size ≤ ·)) (fun b hb => by omega)
  have z3 := keepsNS.sub (keepsNS.turn (keepsNS.turn (keepsNS.turn ns t1 g0) t2 g1) t3 g2) (F' := (w.heap.size ≤ ·)) (fun b hb => by omega)
  have zb := t3.below (t2.below (t1.below E2 (fun i hi => by omega)) (fun i hi => by omega)) (fun i hi => by omega)
  replace y2 := Lib.hid y2
  replace y3 := Lib.hid y3
  replace y4 := Lib.hid y4
  replace z1 := Lib.hid z1
  replace z2 := Lib.hid z2
  replace z3 := Lib.hid z3
  replace zb := Lib.hid zb
  clear g0 g1 g2 t1 t2 t3 gs rs ns E2 x3 x4
  go_wp2_with (first | (refine wpList_store_row rfl 26 _ _ rfl w.heap.size _ rfl rfl 26 _ x2 IG.out.2 IG.out.1.1.symm IG.out.1.2 ?_) | (refine wpList_store_row rfl 32 _ _ rfl (w.heap.size + 1) _ rfl rfl 32 _ X3 IR.out.2 IR.out.1.1.symm IR.out.1.2 ?_) | (refine wpList_store_row rfl 34 _ _ rfl (w.heap.size + 1 + 1) _ rfl rfl 34 _ X4 IN.out.2.1 IN.out.1.symm IN.out.2.2 ?_))
  exact bodyPost_ret (v := .tuple #[.agg G, .agg R, .agg N]) (results_three (Tryz.results7) _ _ w.heap.size (w.heap.size + 1) (w.heap.size + 1 + 1) 26 32 34 G R N _ _ _ rfl rfl rfl y2.out y3.out y4.out Tryz.underlying26 rfl IG.out.2 Tryz.underlying32 rfl IR.out.2 Tryz.underlying34 rfl IN.out.2.1) rfl ⟨G, R, N, rfl, z1.out, z2.out, z3.out, zb.out⟩

end Go.Proofs.YtdkmbcmenomecaaGreat

/- FnReady: a shelf that is ready for a value is not ready for another one at that stamp; for the same it is ready again: the law's walk (written by ready_law.py); conditions: the bytes can be read. -/
namespace Go.Proofs.YtdkmbcmenomecaaGreat
open Go Go.RowKit

/-- The variables of the arguments, as they were given. -/
structure PreRl (w wr : World) (C0 C1 C2 : Array Value) (d0 : GrpD) (d1 : RegD) (d2 : NoteD) : Prop where
  v0 : VarOf (AtG d0) 26 wr (· < w.heap.size) (w.heap.size) C0
  v1 : VarOf (AtS d1) 32 wr (· < w.heap.size) (w.heap.size + 1) C1
  v2 : VarOf (AtN d2) 34 wr (· < w.heap.size) (w.heap.size + 1 + 1) C2
  bel : Below w.heap.size w wr
theorem PreRl.later {w wr w' : World} {C0 C1 C2 : Array Value} {d0 : GrpD} {d1 : RegD} {d2 : NoteD} (h : PreRl w wr C0 C1 C2 d0 d1 d2) (hb : Below wr.heap.size wr w') : PreRl w w' C0 C1 C2 d0 d1 d2 :=
  ⟨h.v0.later (keepsG d0) hb, h.v1.later (keepsS d1) hb, h.v2.later (keepsN d2) hb, bel_trans h.bel hb⟩
theorem PreRl.turn {w wr w' : World} {C0 C1 C2 : Array Value} {d0 : GrpD} {d1 : RegD} {d2 : NoteD} {T : Nat → Prop} (h : PreRl w wr C0 C1 C2 d0 d1 d2) (ht : Turns T wr w') (hT : ∀ b, T b → w.heap.size + 1 + 1 < b) : PreRl w w' C0 C1 C2 d0 d1 d2 :=
  ⟨h.v0.turn (keepsG d0) ht (fun hb => by have := hT _ hb; omega) (fun b hb hb2 => by have := hT b hb2; omega), h.v1.turn (keepsS d1) ht (fun hb => by have := hT _ hb; omega) (fun b hb hb2 => by have := hT b hb2; omega), h.v2.turn (keepsN d2) ht (fun hb => by have := hT _ hb; omega) (fun b hb hb2 => by have := hT b hb2; omega), ht.below h.bel (fun b hb => by have := hT b hb; omega)⟩
theorem PreRl.start {w : World} {C0 C1 C2 : Array Value} {d0 : GrpD} {d1 : RegD} {d2 : NoteD} (h0 : AtG d0 w (· < w.heap.size) (.agg C0)) (h1 : AtS d1 w (· < w.heap.size) (.agg C1)) (h2 : AtN d2 w (· < w.heap.size) (.agg C2)) : PreRl w (((w.alloc (.cells C0 26)).alloc (.cells C1 32)).alloc (.cells C2 34)) C0 C1 C2 d0 d1 d2 := by
  have e0 := bel_alloc w (.cells C0 26)
  have e1 := bel_alloc (w.alloc (.cells C0 26)) (.cells C1 32)
  have e2 := bel_alloc ((w.alloc (.cells C0 26)).alloc (.cells C1 32)) (.cells C2 34)
  have E0 := e0
  have E1 := bel_trans E0 e1
  have E2 := bel_trans E1 e2
  have B0 := Box.new w 26 C0
  replace B0 := B0.alloc (.cells C1 32)
  replace B0 := B0.alloc (.cells C2 34)
  have B1 := Box.new (w.alloc (.cells C0 26)) 32 C1
  replace B1 := B1.alloc (.cells C2 34)
  have B2 := Box.new ((w.alloc (.cells C0 26)).alloc (.cells C1 32)) 34 C2
  simp only [World.size_alloc] at B0 B1 B2
  exact ⟨⟨B0, by omega, (keepsG d0).later h0 E2⟩, ⟨B1, by omega, (keepsS d1).later h1 E2⟩, ⟨B2, by omega, (keepsN d2).later h2 E2⟩, E2⟩

theorem atG_lt {d : GrpD} {w : World} {F : Nat → Prop} {v : Value} (h : AtG d w F v) : AtG d w (· < w.heap.size) v := by
  obtain ⟨A, n, c, e, hn, hr⟩ := h
  exact ⟨A, n, c, e, hn, hr.1.all⟩
theorem atS_lt {d : RegD} {w : World} {F : Nat → Prop} {v : Value} (h : AtS d w F v) : AtS d w (· < w.heap.size) v := by
  obtain ⟨A, n, c, A', n', c', e, h1, h2, h3, h4, h5⟩ := h
  exact ⟨A, n, c, A', n', c', e, h1, h2, h3.1.all, h4.1.all, h5⟩
theorem atN_lt {d : NoteD} {w : World} {F : Nat → Prop} {v : Value} (h : AtN d w F v) : AtN d w (· < w.heap.size) v := by
  obtain ⟨A, n, c, A', n', c', e, h1, h2, h3, h4⟩ := h
  exact ⟨A, n, c, A', n', c', e, h1, h2, h3.1.all, h4.1.all⟩
theorem cmpA_is {a b c d k : Int} (h : cmpN a b c d = k) (w : World) :
    Calls Tryz.prog 15 #[.agg #[.int .i64 a, .int .i64 b], .agg #[.int .i64 c, .int .i64 d]] w fun e w' => e = .returned (.int .i64 k) ∧ Below w.heap.size w w' := h ▸ cmpStamp_any a b c d w

theorem ready_big (A : Option Addr) (n cap : Nat) (w : World) (hm : n ≤ maxLen) (hb : 4096 < n) :
    Calls Tryz.prog 3 #[.slice A n cap] w fun e w' => e = .returned (.bool true) ∧ Below w.heap.size w w' := by
  have hd : decide (4096 < n) = true := by simpa using hb
  go_enter Tryz.func3, Tryz.ntmps3
  go_wp2_with (go_at_call 6; refine (big_any A n cap _ hm).mono ?_; rintro e w' ⟨rfl, rfl⟩)
  go_ret
  exact ⟨rfl, Below.refl _ _⟩

set_option maxRecDepth 100000 in
set_option maxHeartbeats 16000000 in
theorem ready_small (A : Option Addr) (n cap : Nat) (w : World) (hn : n ≤ 4096) (hB : Bytes w w.heap.size A n) :
    Calls Tryz.prog 3 #[.slice A n cap] w fun e w' => e = .returned (.bool true) ∧ Below w.heap.size w w' := by
  have hd : decide (4096 < n) = false := by simpa using hn
  have HM : Hid (n ≤ maxLen) := by show n ≤ maxLen; unfold maxLen; omega
  have HB := Lib.hid hB
  clear hB
  go_enter Tryz.func3, Tryz.ntmps3
  go_wp2_with fail
  refine (big_any A n cap _ HM.out).mono ?_
  rintro e w' ⟨rfl, rfl⟩
  go_wp2_with fail
  refine (drawReadied_any A n cap w hn HB.out).mono ?_
  rintro e w1 ⟨G, R, N, rfl, gs, rs, ns, E1⟩
  clear hd HB HM hn
  have IG := Lib.hid gs.one
  have IN := Lib.hid ns.size
  have IR := Lib.hid rs.one
  obtain ⟨d0, hG, lg⟩ := gs
  obtain ⟨d1, hR, lr1, lr2⟩ := rs
  obtain ⟨d2, hN, ln1, ln2⟩ := ns.at
  clear ns
  have hz1 : d1.sz ≤ 28 := by unfold RegD.sz; omega
  have hz2 : d2.sz ≤ 41 := by unfold NoteD.sz; omega
  have e0 := bel_trans (bel_trans (bel_alloc w1 (.cells #[.int .i64 0, .int .i64 0, .int .i64 0, .int .i64 0, .slice none 0 0] 26)) (bel_alloc _ (.cells #[.int .i64 0, .int .i64 0, .int .i64 0, .slice none 0 0, .slice none 0 0] 32))) (bel_alloc _ (.cells #[.int .i64 0, .int .i64 0, .int .i64 0, .int .i64 0, .int .i64 0, .int .i64 0, .int .i64 0, .int .i64 0, .int .i64 0, .int .i64 0, .int .i64 0, .slice none 0 0, .slice none 0 0, .int .i64 0, .int .i64 0, .int .i64 0] 34))
  have R2 := ((Box.new w1 26 #[.int .i64 0, .int .i64 0, .int .i64 0, .int .i64 0, .slice none 0 0]).alloc (.cells #[.int .i64 0, .int .i64 0, .int .i64 0, .slice none 0 0, .slice none 0 0] 32)).alloc (.cells #[.int .i64 0, .int .i64 0, .int .i64 0, .int .i64 0, .int .i64 0, .int .i64 0, .int .i64 0, .int .i64 0, .int .i64 0, .int .i64 0, .int .i64 0, .slice none 0 0, .slice none 0 0, .int .i64 0, .int .i64 0, .int .i64 0] 34)
  have R3 := (Box.new (w1.alloc (.cells #[.int .i64 0, .int .i64 0, .int .i64 0, .int .i64 0, .slice none 0 0] 26)) 32 #[.int .i64 0, .int .i64 0, .int .i64 0, .slice none 0 0, .slice none 0 0]).alloc (.cells #[.int .i64 0, .int .i64 0, .int .i64 0, .int .i64 0, .int .i64 0, .int .i64 0, .int .i64 0, .int .i64 0, .int .i64 0, .int .i64 0, .int .i64 0, .slice none 0 0, .slice none 0 0, .int .i64 0, .int .i64 0, .int .i64 0] 34)
  have R4 := Box.new ((w1.alloc (.cells #[.int .i64 0, .int .i64 0, .int .i64 0, .int .i64 0, .slice none 0 0] 26)).alloc (.cells #[.int .i64 0, .int .i64 0, .int .i64 0, .slice none 0 0, .slice none 0 0] 32)) 34 #[.int .i64 0, .int .i64 0, .int .i64 0, .int .i64 0, .int .i64 0, .int .i64 0, .int .i64 0, .int .i64 0, .int .i64 0, .int .i64 0, .int .i64 0, .slice none 0 0, .slice none 0 0, .int .i64 0, .int .i64 0, .int .i64 0]
  simp only [World.size_alloc] at R3 R4
  have t1 := turns_setRow (((w1.alloc (.cells #[.int .i64 0, .int .i64 0, .int .i64 0, .int .i64 0, .slice none 0 0] 26)).alloc (.cells #[.int .i64 0, .int .i64 0, .int .i64 0, .slice none 0 0, .slice none 0 0] 32)).alloc (.cells #[.int .i64 0, .int .i64 0, .int .i64 0, .int .i64 0, .int .i64 0, .int .i64 0, .int .i64 0, .int .i64 0, .int .i64 0, .int .i64 0, .int .i64 0, .slice none 0 0, .slice none 0 0, .int .i64 0, .int .i64 0, .int .i64 0] 34)) w1.heap.size G
  have t2 := turns_setRow ((((w1.alloc (.cells #[.int .i64 0, .int .i64 0, .int .i64 0, .int .i64 0, .slice none 0 0] 26)).alloc (.cells #[.int .i64 0, .int .i64 0, .int .i64 0, .slice none 0 0, .slice none 0 0] 32)).alloc (.cells #[.int .i64 0, .int .i64 0, .int .i64 0, .int .i64 0, .int .i64 0, .int .i64 0, .int .i64 0, .int .i64 0, .int .i64 0, .int .i64 0, .int .i64 0, .slice none 0 0, .slice none 0 0, .int .i64 0, .int .i64 0, .int .i64 0] 34)).setRow w1.heap.size G) (w1.heap.size + 1) R
  have t3 := turns_setRow (((((w1.alloc (.cells #[.int .i64 0, .int .i64 0, .int .i64 0, .int .i64 0, .slice none 0 0] 26)).alloc (.cells #[.int .i64 0, .int .i64 0, .int .i64 0, .slice none 0 0, .slice none 0 0] 32)).alloc (.cells #[.int .i64 0, .int .i64 0, .int .i64 0, .int .i64 0, .int .i64 0, .int .i64 0, .int .i64 0, .int .i64 0, .int .i64 0, .int .i64 0, .int .i64 0, .slice none 0 0, .slice none 0 0, .int .i64 0, .int .i64 0, .int .i64 0] 34)).setRow w1.heap.size G).setRow (w1.heap.size + 1) R) (w1.heap.size + 1 + 1) N
  have X3 := R3.turn t1 (by omega)
  have X4 := (R4.turn t1 (by omega)).turn t2 (by omega)
  have K : PreRl w1 _ G R N d0 d1 d2 := ⟨⟨((R2.setRow G).turn t2 (by omega)).turn t3 (by omega), by omega, (keepsG d0).turn ((keepsG d0).turn ((keepsG d0).turn ((keepsG d0).later (atG_lt hG) e0) t1 (fun b hb e => by omega)) t2 (fun b hb e => by omega)) t3 (fun b hb e => by omega)⟩,
    ⟨(X3.setRow R).turn t3 (by omega), by omega, (keepsS d1).turn ((keepsS d1).turn ((keepsS d1).turn ((keepsS d1).later (atS_lt hR) e0) t1 (fun b hb e => by omega)) t2 (fun b hb e => by omega)) t3 (fun b hb e => by omega)⟩,
    ⟨X4.setRow N, by omega, (keepsN d2).turn ((keepsN d2).turn ((keepsN d2).turn ((keepsN d2).later (atN_lt hN) e0) t1 (fun b hb e => by omega)) t2 (fun b hb e => by omega)) t3 (fun b hb e => by omega)⟩,
    t3.below (t2.below (t1.below e0 (fun i hi => by omega)) (fun i hi => by omega)) (fun i hi => by omega)⟩
  clear hG hR hN e0 t1 t2 t3 lg lr1 lr2 ln1 ln2
  go_upto_region 4 with (first | (refine wpList_store_row rfl 26 _ _ rfl w1.heap.size _ rfl rfl 26 _ R2 IG.out.2 IG.out.1.1.symm IG.out.1.2 ?_) | (refine wpList_store_row rfl 32 _ _ rfl (w1.heap.size + 1) _ rfl rfl 32 _ X3 IR.out.2 IR.out.1.1.symm IR.out.1.2 ?_) | (refine wpList_store_row rfl 34 _ _ rfl (w1.heap.size + 1 + 1) _ rfl rfl 34 _ X4 IN.out.2.1 IN.out.1.symm IN.out.2.2 ?_))
  clear R2 R3 R4 X3 X4
  generalize ((((((w1.alloc _).alloc _).alloc _).setRow _ _).setRow _ _).setRow _ _ : World) = w2 at K ⊢
  obtain ⟨rr, z, hr⟩ : ∃ rr z, readD d0 d1 d2 = (rr, z) := ⟨_, _, rfl⟩
  have hln := readD_len hr
  have hzr : rr.sz ≤ 29 := by unfold RegD.sz at hz1 ⊢; omega
  have HZ := Lib.hid hr
  have hzz : (z != z) = false := by simp
  clear hln
  have IG2 := Lib.hid IG.out.2
  have IR2 := Lib.hid IR.out.2
  have IN2 := Lib.hid IN.out.2.1
  go_wp2_with (first | (refine wpList_load_box 26 _ rfl (w1.heap.size) rfl 26 G K.v0.box _ Tryz.underlying26 rfl IG2.out (by first | rfl | simp [Region.wanted, yielded] | (simp [Region.wanted, yielded, Act.put] <;> omega)) ?_) | (refine wpList_load_box 32 _ rfl (w1.heap.size + 1) rfl 32 R K.v1.box _ Tryz.underlying32 rfl IR2.out (by first | rfl | simp [Region.wanted, yielded] | (simp [Region.wanted, yielded, Act.put] <;> omega)) ?_) | (refine wpList_load_box 34 _ rfl (w1.heap.size + 1 + 1) rfl 34 N K.v2.box _ Tryz.underlying34 rfl IN2.out (by first | rfl | simp [Region.wanted, yielded] | (simp [Region.wanted, yielded, Act.put] <;> omega)) ?_))
  refine (readiedA_is K.v0.dat K.v1.dat K.v2.dat (by omega) (by omega) HZ.out).mono ?_
  rintro e w3 ⟨CX, rfl, L, hb⟩
  replace K := K.later hb
  clear hb
  have O := Lib.hid (oneR L.at)
  have JX := Lib.hid (sizeR L.at).2
  have hb := bel_new_row w3 #[.int .i64 0, .int .i64 0, .int .i64 0, .slice none 0 0, .slice none 0 0] 32 CX
  have hV := K.v2.box.lt
  have X := var_new_row (keepsLR rr) (Z := #[.int .i64 0, .int .i64 0, .int .i64 0, .slice none 0 0, .slice none 0 0]) 32 L (fun b hb => hb.2)
  replace K := K.later hb
  clear hb
  obtain ⟨FX, X, hFX⟩ : ∃ F, VarOf (LieR rr) 32 ((w3.alloc (.cells #[.int .i64 0, .int .i64 0, .int .i64 0, .slice none 0 0, .slice none 0 0] 32)).setRow w3.heap.size CX) F w3.heap.size CX ∧ ∀ b, F b → b < w3.heap.size := ⟨_, X, fun b hb => hb.2⟩
  have ZB := Box.new w3 32 #[.int .i64 0, .int .i64 0, .int .i64 0, .slice none 0 0, .slice none 0 0]
  clear L
  go_upto_region 5 with (refine wpList_store_row rfl 32 _ _ rfl w3.heap.size _ rfl rfl 32 #[.int .i64 0, .int .i64 0, .int .i64 0, .slice none 0 0, .slice none 0 0] ZB JX.out O.out.1.symm O.out.2 ?_)
  clear ZB O
  generalize ((w3.alloc _).setRow _ _ : World) = w4 at K X  ⊢
  generalize w3.heap.size = VX at hV X hFX ⊢
  clear hV
  obtain ⟨w2, rfl⟩ : ∃ x, x = w4 := ⟨_, rfl⟩
  go_wp2_with (first | (refine wpList_load_box 26 _ rfl (w1.heap.size) rfl 26 G K.v0.box _ Tryz.underlying26 rfl IG2.out (by first | rfl | simp [Region.wanted, yielded] | (simp [Region.wanted, yielded, Act.put] <;> omega)) ?_) | (refine wpList_load_box 32 _ rfl (w1.heap.size + 1) rfl 32 R K.v1.box _ Tryz.underlying32 rfl IR2.out (by first | rfl | simp [Region.wanted, yielded] | (simp [Region.wanted, yielded, Act.put] <;> omega)) ?_) | (refine wpList_load_box 34 _ rfl (w1.heap.size + 1 + 1) rfl 34 N K.v2.box _ Tryz.underlying34 rfl IN2.out (by first | rfl | simp [Region.wanted, yielded] | (simp [Region.wanted, yielded, Act.put] <;> omega)) ?_))
  refine (specReadiedA_is K.v0.dat K.v1.dat K.v2.dat (by omega) (by omega) HZ.out).mono ?_
  rintro e w3 ⟨CY, rfl, L, hb⟩
  replace K := K.later hb
  replace X := X.later (keepsLR rr) hb
  clear hb
  have O := Lib.hid (oneR L.at)
  have JY := Lib.hid (sizeR L.at).2
  have hb := bel_new_row w3 #[.int .i64 0, .int .i64 0, .int .i64 0, .slice none 0 0, .slice none 0 0] 32 CY
  have hV := K.v2.box.lt
  have Y := var_new_row (keepsLR rr) (Z := #[.int .i64 0, .int .i64 0, .int .i64 0, .slice none 0 0, .slice none 0 0]) 32 L (fun b hb => hb.2)
  replace K := K.later hb
  replace X := X.later (keepsLR rr) hb
  clear hb
  obtain ⟨FY, Y, hFY⟩ : ∃ F, VarOf (LieR rr) 32 ((w3.alloc (.cells #[.int .i64 0, .int .i64 0, .int .i64 0, .slice none 0 0, .slice none 0 0] 32)).setRow w3.heap.size CY) F w3.heap.size CY ∧ ∀ b, F b → b < w3.heap.size := ⟨_, Y, fun b hb => hb.2⟩
  have ZB := Box.new w3 32 #[.int .i64 0, .int .i64 0, .int .i64 0, .slice none 0 0, .slice none 0 0]
  clear L
  go_upto_region 6 with (refine wpList_store_row rfl 32 _ _ rfl w3.heap.size _ rfl rfl 32 #[.int .i64 0, .int .i64 0, .int .i64 0, .slice none 0 0, .slice none 0 0] ZB JY.out O.out.1.symm O.out.2 ?_)
  clear ZB O
  generalize ((w3.alloc _).setRow _ _ : World) = w4 at K Y X ⊢
  generalize w3.heap.size = VY at hV Y hFY ⊢
  clear hV
  obtain ⟨w2, rfl⟩ : ∃ x, x = w4 := ⟨_, rfl⟩
  obtain ⟨cd, hcd⟩ : ∃ cd, codeD d0 d1 d2 = cd := ⟨_, rfl⟩
  have hce : cd = z := by rw [← hcd]; exact read_code hr
  subst hce
  have HC := Lib.hid hcd
  obtain ⟨sm, hsm⟩ : ∃ sm, sameD d1 d2 = sm := ⟨_, rfl⟩
  have HS := Lib.hid hsm
  have hss : (sm != sm) = false := by simp
  clear hcd hsm hr
  refine wp_region_sink 26 (fun w' => Box w' (w1.heap.size) 26 G ∧ Box w' (w1.heap.size + 1) 32 R ∧ Box w' (w1.heap.size + 1 + 1) 34 N ∧ Box w' VX 32 CX ∧ Box w' VY 32 CY) (by kernel_rfl) ⟨K.v0.box, K.v1.box, K.v2.box, X.box, Y.box⟩ (fun hH => ?_)
  have hb := (Below.refl w2.heap.size w2).drew
  replace K := K.later hb
  replace X := X.later (keepsLR rr) hb
  replace Y := Y.later (keepsLR rr) hb
  clear hb
  generalize w2.drew = w3 at K X Y hH ⊢
  refine wpAnyE_pure (i := 0) (v := ?vr0) (by simp only [List.getElem?_toArray, List.getElem?_cons_zero]; rfl) (by kernel_rfl) (by kernel_rfl) (by kernel_rfl) (by exact fun _ _ _ h => h) (by kernel_rfl) (Or.inl ⟨by rfl, ?yr0⟩) hH ?rr0
  case yr0 => (intro w' hSw; (try dsimp only at hSw); go_simp; try with_reducible rfl)
  try simp only [Act.put, List.setIfInBounds_toArray, List.set_cons_zero, List.set_cons_succ]
  refine wpAnyE_pure (i := 1) (v := ?vr1) (by simp only [List.getElem?_toArray, List.getElem?_cons_succ, List.getElem?_cons_zero]; rfl) (by kernel_rfl) (by kernel_rfl) (by kernel_rfl) (by exact fun _ _ _ h => h) (by kernel_rfl) (Or.inl ⟨by rfl, ?yr1⟩) hH ?rr1
  case yr1 => (intro w' hSw; (try dsimp only at hSw); go_simp; try with_reducible rfl)
  try simp only [Act.put, List.setIfInBounds_toArray, List.set_cons_zero, List.set_cons_succ]
  refine wpAnyE_pure (i := 2) (v := ?vr2) (by simp only [List.getElem?_toArray, List.getElem?_cons_succ, List.getElem?_cons_zero]; rfl) (by kernel_rfl) (by kernel_rfl) (by kernel_rfl) (by exact fun _ _ _ h => h) (by kernel_rfl) (Or.inl ⟨by rfl, ?yr2⟩) hH ?rr2
  case yr2 => (intro w' hSw; (try dsimp only at hSw); go_simp; try with_reducible rfl)
  try simp only [Act.put, List.setIfInBounds_toArray, List.set_cons_zero, List.set_cons_succ]
  refine wpAnyE_pure (i := 3) (v := ?vr3) (by simp only [List.getElem?_toArray, List.getElem?_cons_succ, List.getElem?_cons_zero]; rfl) (by kernel_rfl) (by kernel_rfl) (by kernel_rfl) (by exact fun _ _ _ h => h) (by kernel_rfl) (Or.inl ⟨by rfl, ?yr3⟩) hH ?rr3
  case yr3 => (intro w' hSw; (try dsimp only at hSw); go_simp; try with_reducible rfl)
  try simp only [Act.put, List.setIfInBounds_toArray, List.set_cons_zero, List.set_cons_succ]
  refine wpAnyE_takeS (i := 4) (v := .agg CX) (by simp only [List.getElem?_toArray, List.getElem?_cons_succ, List.getElem?_cons_zero]; rfl) (by kernel_rfl) (by kernel_rfl) (by kernel_rfl) (by exact fun _ _ _ h => h) (by kernel_rfl) ?yr4 hH ?_
  case yr4 => exact yields_box 32 _ rfl (VX) rfl 32 CX (fun _ h => h.2.2.2.1) _ Tryz.underlying32 rfl JX.out (by first | rfl | simp [Region.wanted, yielded] | (simp [Region.wanted, yielded, Act.put] <;> omega))
  try simp only [Act.put, List.setIfInBounds_toArray, List.set_cons_zero, List.set_cons_succ]
  refine wpAnyE_takeS (i := 5) (v := .agg CY) (by simp only [List.getElem?_toArray, List.getElem?_cons_succ, List.getElem?_cons_zero]; rfl) (by kernel_rfl) (by kernel_rfl) (by kernel_rfl) (by exact fun _ _ _ h => h) (by kernel_rfl) ?yr5 hH ?_
  case yr5 => exact yields_box 32 _ rfl (VY) rfl 32 CY (fun _ h => h.2.2.2.2) _ Tryz.underlying32 rfl JY.out (by first | rfl | simp [Region.wanted, yielded] | (simp [Region.wanted, yielded, Act.put] <;> omega))
  try simp only [Act.put, List.setIfInBounds_toArray, List.set_cons_zero, List.set_cons_succ]
  refine wpAnyE_one (i := 6) (by kernel_rfl) (by simp only [List.getElem?_toArray, List.getElem?_cons_succ, List.getElem?_cons_zero]; rfl) (fun K' hK => ?_)
  go_simp
  refine (likeA_is X.dat.at Y.dat.at (by omega)).mono ?_
  rintro e w4 ⟨rfl, hb⟩
  replace K := K.later hb
  replace X := X.later (keepsLR rr) hb
  replace Y := Y.later (keepsLR rr) hb
  clear hb
  clear hH
  refine hK.out _ _ ⟨K.v0.box, K.v1.box, K.v2.box, X.box, Y.box⟩ (fun hH => ?_)
  clear hK K'
  try simp only [Act.put, List.setIfInBounds_toArray, List.set_cons_zero, List.set_cons_succ]
  obtain ⟨w3, rfl⟩ : ∃ x, x = w4 := ⟨_, rfl⟩
  refine wpAnyE_pure (i := 7) (v := ?vr7) (by simp only [List.getElem?_toArray, List.getElem?_cons_succ, List.getElem?_cons_zero]; rfl) (by kernel_rfl) (by kernel_rfl) (by kernel_rfl) (by exact fun _ _ _ h => h) (by kernel_rfl) (Or.inl ⟨by rfl, ?yr7⟩) hH ?rr7
  case yr7 => (intro w' hSw; (try dsimp only at hSw); go_simp; try with_reducible rfl)
  try simp only [Act.put, List.setIfInBounds_toArray, List.set_cons_zero, List.set_cons_succ]
  refine wpAnyE_pure (i := 8) (v := ?vr8) (by simp only [List.getElem?_toArray, List.getElem?_cons_succ, List.getElem?_cons_zero]; rfl) (by kernel_rfl) (by kernel_rfl) (by kernel_rfl) (by exact fun _ _ _ h => h) (by kernel_rfl) (Or.inl ⟨by rfl, ?yr8⟩) hH ?rr8
  case yr8 => (intro w' hSw; (try dsimp only at hSw); go_simp; try with_reducible rfl)
  try simp only [Act.put, List.setIfInBounds_toArray, List.set_cons_zero, List.set_cons_succ]
  refine wpAnyE_pure (i := 9) (v := ?vr9) (by simp only [List.getElem?_toArray, List.getElem?_cons_succ, List.getElem?_cons_zero]; rfl) (by kernel_rfl) (by kernel_rfl) (by kernel_rfl) (by exact fun _ _ _ h => h) (by kernel_rfl) (Or.inl ⟨by rfl, ?yr9⟩) hH ?rr9
  case yr9 => (intro w' hSw; (try dsimp only at hSw); go_simp; try with_reducible rfl)
  try simp only [Act.put, List.setIfInBounds_toArray, List.set_cons_zero, List.set_cons_succ]
  refine wpAnyE_takeS (i := 10) (v := .agg G) (by simp only [List.getElem?_toArray, List.getElem?_cons_succ, List.getElem?_cons_zero]; rfl) (by kernel_rfl) (by kernel_rfl) (by kernel_rfl) (by exact fun _ _ _ h => h) (by kernel_rfl) ?yr10 hH ?_
  case yr10 => exact yields_box 26 _ rfl (w1.heap.size) rfl 26 G (fun _ h => h.1) _ Tryz.underlying26 rfl IG2.out (by first | rfl | simp [Region.wanted, yielded] | (simp [Region.wanted, yielded, Act.put] <;> omega))
  try simp only [Act.put, List.setIfInBounds_toArray, List.set_cons_zero, List.set_cons_succ]
  refine wpAnyE_takeS (i := 11) (v := .agg R) (by simp only [List.getElem?_toArray, List.getElem?_cons_succ, List.getElem?_cons_zero]; rfl) (by kernel_rfl) (by kernel_rfl) (by kernel_rfl) (by exact fun _ _ _ h => h) (by kernel_rfl) ?yr11 hH ?_
  case yr11 => exact yields_box 32 _ rfl (w1.heap.size + 1) rfl 32 R (fun _ h => h.2.1) _ Tryz.underlying32 rfl IR2.out (by first | rfl | simp [Region.wanted, yielded] | (simp [Region.wanted, yielded, Act.put] <;> omega))
  try simp only [Act.put, List.setIfInBounds_toArray, List.set_cons_zero, List.set_cons_succ]
  refine wpAnyE_takeS (i := 12) (v := .agg N) (by simp only [List.getElem?_toArray, List.getElem?_cons_succ, List.getElem?_cons_zero]; rfl) (by kernel_rfl) (by kernel_rfl) (by kernel_rfl) (by exact fun _ _ _ h => h) (by kernel_rfl) ?yr12 hH ?_
  case yr12 => exact yields_box 34 _ rfl (w1.heap.size + 1 + 1) rfl 34 N (fun _ h => h.2.2.1) _ Tryz.underlying34 rfl IN2.out (by first | rfl | simp [Region.wanted, yielded] | (simp [Region.wanted, yielded, Act.put] <;> omega))
  try simp only [Act.put, List.setIfInBounds_toArray, List.set_cons_zero, List.set_cons_succ]
  refine wpAnyE_pure (i := 14) (v := ?vr14) (by simp only [List.getElem?_toArray, List.getElem?_cons_succ, List.getElem?_cons_zero]; rfl) (by kernel_rfl) (by kernel_rfl) (by kernel_rfl) (by exact fun _ _ _ h => h) (by kernel_rfl) (Or.inl ⟨by rfl, ?yr14⟩) hH ?rr14
  case yr14 => (intro w' hSw; (try dsimp only at hSw); go_simp; try with_reducible rfl)
  try simp only [Act.put, List.setIfInBounds_toArray, List.set_cons_zero, List.set_cons_succ]
  refine wpAnyE_one (i := 13) (by kernel_rfl) (by simp only [List.getElem?_toArray, List.getElem?_cons_succ, List.getElem?_cons_zero]; rfl) (fun K' hK => ?_)
  go_simp
  refine (codeA_is K.v0.dat K.v1.dat K.v2.dat (by omega) (by omega) HC.out).mono ?_
  rintro e w4 ⟨rfl, hb⟩
  replace K := K.later hb
  replace X := X.later (keepsLR rr) hb
  replace Y := Y.later (keepsLR rr) hb
  clear hb
  clear hH
  refine hK.out _ _ ⟨K.v0.box, K.v1.box, K.v2.box, X.box, Y.box⟩ (fun hH => ?_)
  clear hK K'
  try simp only [Act.put, List.setIfInBounds_toArray, List.set_cons_zero, List.set_cons_succ]
  obtain ⟨w3, rfl⟩ : ∃ x, x = w4 := ⟨_, rfl⟩
  refine wpAnyE_pure (i := 15) (v := ?vr15) (by simp only [List.getElem?_toArray, List.getElem?_cons_succ, List.getElem?_cons_zero]; rfl) (by kernel_rfl) (by kernel_rfl) (by kernel_rfl) (by exact fun _ _ _ h => h) (by kernel_rfl) (Or.inl ⟨by rfl, ?yr15⟩) hH ?rr15
  case yr15 => (intro w' hSw; (try dsimp only at hSw); go_simp; try with_reducible rfl)
  try simp only [Act.put, List.setIfInBounds_toArray, List.set_cons_zero, List.set_cons_succ]
  refine wpAnyE_pure (i := 16) (v := ?vr16) (by simp only [List.getElem?_toArray, List.getElem?_cons_succ, List.getElem?_cons_zero]; rfl) (by kernel_rfl) (by kernel_rfl) (by kernel_rfl) (by exact fun _ _ _ h => h) (by kernel_rfl) (Or.inl ⟨by rfl, ?yr16⟩) hH ?rr16
  case yr16 => (intro w' hSw; (try dsimp only at hSw); go_simp; try with_reducible rfl)
  try simp only [Act.put, List.setIfInBounds_toArray, List.set_cons_zero, List.set_cons_succ]
  refine wpAnyE_pure (i := 17) (v := ?vr17) (by simp only [List.getElem?_toArray, List.getElem?_cons_succ, List.getElem?_cons_zero]; rfl) (by kernel_rfl) (by kernel_rfl) (by kernel_rfl) (by exact fun _ _ _ h => h) (by kernel_rfl) (Or.inl ⟨by rfl, ?yr17⟩) hH ?rr17
  case yr17 => (intro w' hSw; (try dsimp only at hSw); go_simp; try with_reducible rfl)
  try simp only [Act.put, List.setIfInBounds_toArray, List.set_cons_zero, List.set_cons_succ]
  refine wpAnyE_takeS (i := 18) (v := .agg R) (by simp only [List.getElem?_toArray, List.getElem?_cons_succ, List.getElem?_cons_zero]; rfl) (by kernel_rfl) (by kernel_rfl) (by kernel_rfl) (by exact fun _ _ _ h => h) (by kernel_rfl) ?yr18 hH ?_
  case yr18 => exact yields_box 32 _ rfl (w1.heap.size + 1) rfl 32 R (fun _ h => h.2.1) _ Tryz.underlying32 rfl IR2.out (by first | rfl | simp [Region.wanted, yielded] | (simp [Region.wanted, yielded, Act.put] <;> omega))
  try simp only [Act.put, List.setIfInBounds_toArray, List.set_cons_zero, List.set_cons_succ]
  refine wpAnyE_takeS (i := 19) (v := .agg N) (by simp only [List.getElem?_toArray, List.getElem?_cons_succ, List.getElem?_cons_zero]; rfl) (by kernel_rfl) (by kernel_rfl) (by kernel_rfl) (by exact fun _ _ _ h => h) (by kernel_rfl) ?yr19 hH ?_
  case yr19 => exact yields_box 34 _ rfl (w1.heap.size + 1 + 1) rfl 34 N (fun _ h => h.2.2.1) _ Tryz.underlying34 rfl IN2.out (by first | rfl | simp [Region.wanted, yielded] | (simp [Region.wanted, yielded, Act.put] <;> omega))
  try simp only [Act.put, List.setIfInBounds_toArray, List.set_cons_zero, List.set_cons_succ]
  refine wpAnyE_takeS (i := 21) (v := .agg R) (by simp only [List.getElem?_toArray, List.getElem?_cons_succ, List.getElem?_cons_zero]; rfl) (by kernel_rfl) (by kernel_rfl) (by kernel_rfl) (by exact fun _ _ _ h => h) (by kernel_rfl) ?yr21 hH ?_
  case yr21 => exact yields_box 32 _ rfl (w1.heap.size + 1) rfl 32 R (fun _ h => h.2.1) _ Tryz.underlying32 rfl IR2.out (by first | rfl | simp [Region.wanted, yielded] | (simp [Region.wanted, yielded, Act.put] <;> omega))
  try simp only [Act.put, List.setIfInBounds_toArray, List.set_cons_zero, List.set_cons_succ]
  refine wpAnyE_takeS (i := 22) (v := .agg N) (by simp only [List.getElem?_toArray, List.getElem?_cons_succ, List.getElem?_cons_zero]; rfl) (by kernel_rfl) (by kernel_rfl) (by kernel_rfl) (by exact fun _ _ _ h => h) (by kernel_rfl) ?yr22 hH ?_
  case yr22 => exact yields_box 34 _ rfl (w1.heap.size + 1 + 1) rfl 34 N (fun _ h => h.2.2.1) _ Tryz.underlying34 rfl IN2.out (by first | rfl | simp [Region.wanted, yielded] | (simp [Region.wanted, yielded, Act.put] <;> omega))
  try simp only [Act.put, List.setIfInBounds_toArray, List.set_cons_zero, List.set_cons_succ]
  refine wpAnyE_one (i := 20) (by kernel_rfl) (by simp only [List.getElem?_toArray, List.getElem?_cons_succ, List.getElem?_cons_zero]; rfl) (fun K' hK => ?_)
  go_simp
  refine (sameA_is K.v1.dat K.v2.dat (by omega) HS.out).mono ?_
  rintro e w4 ⟨rfl, hb⟩
  replace K := K.later hb
  replace X := X.later (keepsLR rr) hb
  replace Y := Y.later (keepsLR rr) hb
  clear hb
  clear hH
  refine hK.out _ _ ⟨K.v0.box, K.v1.box, K.v2.box, X.box, Y.box⟩ (fun hH => ?_)
  clear hK K'
  try simp only [Act.put, List.setIfInBounds_toArray, List.set_cons_zero, List.set_cons_succ]
  obtain ⟨w3, rfl⟩ : ∃ x, x = w4 := ⟨_, rfl⟩
  refine wpAnyE_one (i := 23) (by kernel_rfl) (by simp only [List.getElem?_toArray, List.getElem?_cons_succ, List.getElem?_cons_zero]; rfl) (fun K' hK => ?_)
  go_simp
  refine (specSameA_is K.v1.dat K.v2.dat (by omega) HS.out).mono ?_
  rintro e w4 ⟨rfl, hb⟩
  replace K := K.later hb
  replace X := X.later (keepsLR rr) hb
  replace Y := Y.later (keepsLR rr) hb
  clear hb
  clear hH
  refine hK.out _ _ ⟨K.v0.box, K.v1.box, K.v2.box, X.box, Y.box⟩ (fun hH => ?_)
  clear hK K'
  try simp only [Act.put, List.setIfInBounds_toArray, List.set_cons_zero, List.set_cons_succ]
  obtain ⟨w3, rfl⟩ : ∃ x, x = w4 := ⟨_, rfl⟩
  refine wpAnyE_pure (i := 24) (v := ?vr24) (by simp only [List.getElem?_toArray, List.getElem?_cons_succ, List.getElem?_cons_zero]; rfl) (by kernel_rfl) (by kernel_rfl) (by kernel_rfl) (by exact fun _ _ _ h => h) (by kernel_rfl) (Or.inl ⟨by rfl, ?yr24⟩) hH ?rr24
  case yr24 => (intro w' hSw; (try dsimp only at hSw); go_simp; try with_reducible rfl)
  try simp only [Act.put, List.setIfInBounds_toArray, List.set_cons_zero, List.set_cons_succ]
  refine wpAnyE_end (i := 25) (by kernel_rfl) (by simp only [List.getElem?_toArray, List.getElem?_cons_succ, List.getElem?_cons_zero]; rfl) (by kernel_rfl) (fun K' hK => ?_)
  go_simp
  refine hK.out _ _ ⟨K.v0.box, K.v1.box, K.v2.box, X.box, Y.box⟩ ?_
  clear hK K'
  try simp only [Act.put, List.setIfInBounds_toArray, List.set_cons_zero, List.set_cons_succ]
  clear hH Y
  obtain ⟨w2, rfl⟩ : ∃ x, x = w3 := ⟨_, rfl⟩
  by_cases hz0 : cd = 0
  rotate_left
  · have hz0' : (cd != 0) = true := by simpa using hz0
    have hre := read_else HZ.out hz0
    clear hz0
    obtain ⟨x0, x1, Ax, cx, x4⟩ := X.dat.at.cells
    have c4 := (X.box.cell 4).trans x4
    clear x0 x1 x4
    obtain ⟨m, hm⟩ : ∃ m, rr.os.length = m := ⟨_, rfl⟩
    rw [hm] at c4
    rcases m with _ | m
    · have E := bel_trans E1 K.bel
      clear K X hre hm
      go_wp2
      go_ret
      exact ⟨rfl, E⟩
    · have hrr : rr = d1 := by
        rcases hre with h | h
        · rw [h] at hm; simp at hm
        · exact h
      have hm0 : (((m + 1 : Nat) : Int) == 0) = false := by simp; omega
      have hm0' : (((m : Int) + 1) == 0) = false := by simp; omega
      have XR : AtR d1 w2 FX (.agg CX) := hrr ▸ X.dat.at
      clear hre hm
      go_wp2_with (first | (refine wpList_load_box 32 _ rfl (VX) rfl 32 CX X.box _ Tryz.underlying32 rfl JX.out (by first | rfl | simp [Region.wanted, yielded] | (simp [Region.wanted, yielded, Act.put] <;> omega)) ?_) | (refine wpList_load_box 32 _ rfl (w1.heap.size + 1) rfl 32 R K.v1.box _ Tryz.underlying32 rfl IR2.out (by first | rfl | simp [Region.wanted, yielded] | (simp [Region.wanted, yielded, Act.put] <;> omega)) ?_))
      refine (likeA_is XR K.v1.dat.at (by omega)).mono ?_
      rintro e w3 ⟨rfl, hb⟩
      have E := bel_trans E1 (bel_trans K.bel hb)
      clear K X XR hb c4 hm0 hm0'
      go_wp2
      go_ret
      exact ⟨rfl, E⟩
  subst hz0
  -- another value
  have hcode := read_code HZ.out
  have hvv := val_bd (val_v1 hcode)
  have hO := other_code HZ.out
  have hA := read_again HZ.out
  have hS2 := read_same HZ.out
  have hGt := read_get HZ.out
  have hCm := read_cmp HZ.out
  replace hO := Lib.hid hO
  replace hA := Lib.hid hA
  replace hS2 := Lib.hid hS2
  replace hGt := Lib.hid hGt
  replace hCm := Lib.hid hCm
  clear hcode hzz hss HS HC HZ
  have hb := bel_new_row w2 #[.int .i64 0, .int .i64 0, .int .i64 0, .int .i64 0, .int .i64 0, .int .i64 0, .int .i64 0, .int .i64 0, .int .i64 0, .int .i64 0, .int .i64 0, .slice none 0 0, .slice none 0 0, .int .i64 0, .int .i64 0, .int .i64 0] 34 N
  have NN := K.v2.dat
  have Kn := K.v2.box
  have ZB := Box.new w2 34 #[.int .i64 0, .int .i64 0, .int .i64 0, .int .i64 0, .int .i64 0, .int .i64 0, .int .i64 0, .int .i64 0, .int .i64 0, .int .i64 0, .int .i64 0, .slice none 0 0, .slice none 0 0, .int .i64 0, .int .i64 0, .int .i64 0]
  have O : VarOf (AtN d2) 34 ((w2.alloc (.cells #[.int .i64 0, .int .i64 0, .int .i64 0, .int .i64 0, .int .i64 0, .int .i64 0, .int .i64 0, .int .i64 0, .int .i64 0, .int .i64 0, .int .i64 0, .slice none 0 0, .slice none 0 0, .int .i64 0, .int .i64 0, .int .i64 0] 34)).setRow w2.heap.size N) (· < w1.heap.size) w2.heap.size N := VarOf.put (keepsN d2) ZB ((keepsN d2).later NN (bel_alloc w2 _)) (by have := K.bel.size; omega)
  have hVO : w1.heap.size + 1 + 1 < w2.heap.size := K.v2.box.lt
  have hVX := X.box.lt
  replace K := K.later hb
  replace X := X.later (keepsLR rr) hb
  clear hb
  clear NN
  go_upto_region 11 with (first | (refine wpList_load_box 34 _ rfl (w1.heap.size + 1 + 1) rfl 34 N Kn _ Tryz.underlying34 rfl IN2.out (by first | rfl | simp [Region.wanted, yielded] | (simp [Region.wanted, yielded, Act.put] <;> omega)) ?_) | (refine wpList_store_row rfl 34 _ _ rfl w2.heap.size _ rfl rfl 34 #[.int .i64 0, .int .i64 0, .int .i64 0, .int .i64 0, .int .i64 0, .int .i64 0, .int .i64 0, .int .i64 0, .int .i64 0, .int .i64 0, .int .i64 0, .slice none 0 0, .slice none 0 0, .int .i64 0, .int .i64 0, .int .i64 0] ZB IN2.out IN.out.1.symm IN.out.2.2 ?_))
  clear ZB Kn
  generalize ((w2.alloc _).setRow _ _ : World) = w3 at K X O ⊢
  generalize w2.heap.size = VO at hVO hVX O ⊢
  obtain ⟨w2, rfl⟩ : ∃ x, x = w3 := ⟨_, rfl⟩
  obtain ⟨n1, n5, n6, n7⟩ := K.v2.dat.cells
  have c7 := (K.v2.box.cell 7).trans n7
  have o7 := (O.box.cell 7).trans n7
  have fo := O.box.frozen
  have ht : Turns (· = VO) w2 (w2.setCell ⟨VO, 7, none⟩ (.int .i64 ((d2.v1 + 1) % 10000))) := turns_cell w2 VO 7 _
  have O2 : VarOf (AtN ⟨d2.k1, d2.k2, d2.k3, d2.k4, d2.k5, d2.t1, d2.t2, (d2.v1 + 1) % 10000, d2.o1, d2.o2, d2.v2, d2.l1, d2.l2, d2.v3, d2.cs, d2.ms⟩) 34 _ (· < w1.heap.size) VO (N.setIfInBounds 7 (.int .i64 ((d2.v1 + 1) % 10000))) := ⟨O.box.set 7 _, O.far, (keepsN _).turn (O.dat.val _) ht (fun b hb e => by omega)⟩
  have JO := Lib.hid (sizeN8 O2.dat).2
  replace K := K.turn ht (fun b hb => by omega)
  replace X := X.turn (keepsLR rr) ht (by omega) (fun b hb e => by have := hFX b hb; omega)
  clear ht O n1 n5 n6 n7
  go_upto_region 12 with fail
  generalize (w2.setCell _ _ : World) = w3 at K X O2 ⊢
  clear c7 o7 fo
  obtain ⟨w2, rfl⟩ : ∃ x, x = w3 := ⟨_, rfl⟩
  go_wp2_with (first | (refine wpList_load_box 26 _ rfl (w1.heap.size) rfl 26 G K.v0.box _ Tryz.underlying26 rfl IG2.out (by first | rfl | simp [Region.wanted, yielded] | (simp [Region.wanted, yielded, Act.put] <;> omega)) ?_) | (refine wpList_load_box 32 _ rfl (VX) rfl 32 CX X.box _ Tryz.underlying32 rfl JX.out (by first | rfl | simp [Region.wanted, yielded] | (simp [Region.wanted, yielded, Act.put] <;> omega)) ?_) | (refine wpList_load_box 34 _ rfl (w1.heap.size + 1 + 1) rfl 34 N K.v2.box _ Tryz.underlying34 rfl IN2.out (by first | rfl | simp [Region.wanted, yielded] | (simp [Region.wanted, yielded, Act.put] <;> omega)) ?_))
  refine (readiedA_is K.v0.dat X.dat.ats K.v2.dat (by omega) (by omega) hA.out).mono ?_
  rintro e w3 ⟨CZ, rfl, L, hb⟩
  replace K := K.later hb
  replace X := X.later (keepsLR rr) hb
  replace O2 := O2.later (keepsN _) hb
  clear hb
  have O := Lib.hid (oneR L.at)
  have JZ := Lib.hid (sizeR L.at).2
  have hb := bel_new_row w3 #[.int .i64 0, .int .i64 0, .int .i64 0, .slice none 0 0, .slice none 0 0] 32 CZ
  have hV := K.v2.box.lt
  have Z := var_new_row (keepsLR rr) (Z := #[.int .i64 0, .int .i64 0, .int .i64 0, .slice none 0 0, .slice none 0 0]) 32 L (fun b hb => hb.2)
  replace K := K.later hb
  replace X := X.later (keepsLR rr) hb
  replace O2 := O2.later (keepsN _) hb
  clear hb
  obtain ⟨FZ, Z, hFZ⟩ : ∃ F, VarOf (LieR rr) 32 ((w3.alloc (.cells #[.int .i64 0, .int .i64 0, .int .i64 0, .slice none 0 0, .slice none 0 0] 32)).setRow w3.heap.size CZ) F w3.heap.size CZ ∧ ∀ b, F b → b < w3.heap.size := ⟨_, Z, fun b hb => hb.2⟩
  have ZB := Box.new w3 32 #[.int .i64 0, .int .i64 0, .int .i64 0, .slice none 0 0, .slice none 0 0]
  clear L
  go_upto_region 13 with (refine wpList_store_row rfl 32 _ _ rfl w3.heap.size _ rfl rfl 32 #[.int .i64 0, .int .i64 0, .int .i64 0, .slice none 0 0, .slice none 0 0] ZB JZ.out O.out.1.symm O.out.2 ?_)
  clear ZB O
  generalize ((w3.alloc _).setRow _ _ : World) = w4 at K Z X O2 ⊢
  generalize w3.heap.size = VZ at hV Z hFZ ⊢
  clear hV
  obtain ⟨w2, rfl⟩ : ∃ x, x = w4 := ⟨_, rfl⟩
  obtain ⟨n1, n5, n6, n7⟩ := K.v2.dat.cells
  have c1 := (K.v2.box.cell 1).trans n1
  go_wp2_with (refine wpList_load_box 32 _ rfl (VX) rfl 32 CX X.box _ Tryz.underlying32 rfl JX.out (by first | rfl | simp [Region.wanted, yielded] | (simp [Region.wanted, yielded, Act.put] <;> omega)) ?_)
  refine (openA_is X.dat.at (by omega) hGt.out).mono ?_
  rintro e w3 ⟨rfl, hb⟩
  clear c1
  unfold opnD
  replace K := K.later hb
  replace X := X.later (keepsLR rr) hb
  replace O2 := O2.later (keepsN _) hb
  replace Z := Z.later (keepsLR rr) hb
  clear hb
  have P := Box.new w3 43 #[.int .i64 d2.k2, .int .i64 d2.t1, .int .i64 d2.t2, .int .i64 d2.v1]
  have hb := bel_alloc w3 (.cells #[.int .i64 d2.k2, .int .i64 d2.t1, .int .i64 d2.t2, .int .i64 d2.v1] 43)
  replace K := K.later hb
  replace X := X.later (keepsLR rr) hb
  replace O2 := O2.later (keepsN _) hb
  replace Z := Z.later (keepsLR rr) hb
  clear hb
  go_upto_region 14 with fail
  generalize (w3.alloc _ : World) = w4 at K X O2 Z P ⊢
  generalize w3.heap.size = VP at P ⊢
  obtain ⟨w2, rfl⟩ : ∃ x, x = w4 := ⟨_, rfl⟩
  -- the answer
  go_wp2_with (first | (refine wpList_load_box 26 _ rfl (w1.heap.size) rfl 26 G K.v0.box _ Tryz.underlying26 rfl IG2.out (by first | rfl | simp [Region.wanted, yielded] | (simp [Region.wanted, yielded, Act.put] <;> omega)) ?_) | (refine wpList_load_box 32 _ rfl (VX) rfl 32 CX X.box _ Tryz.underlying32 rfl JX.out (by first | rfl | simp [Region.wanted, yielded] | (simp [Region.wanted, yielded, Act.put] <;> omega)) ?_) | (refine wpList_load_box 34 _ rfl (VO) rfl 34 (N.setIfInBounds 7 (.int .i64 ((d2.v1 + 1) % 10000))) O2.box _ Tryz.underlying34 rfl JO.out (by first | rfl | simp [Region.wanted, yielded] | (simp [Region.wanted, yielded, Act.put] <;> omega)) ?_))
  refine (codeA_is K.v0.dat X.dat.ats O2.dat (by omega) (by unfold NoteD.sz at hz2; show d2.cs.length + d2.ms.length ≤ 1048576; omega) hO.out).mono ?_
  rintro e w3 ⟨rfl, hb⟩
  replace P := P.later hb P.lt
  replace K := K.later hb
  replace X := X.later (keepsLR rr) hb
  replace O2 := O2.later (keepsN _) hb
  replace Z := Z.later (keepsLR rr) hb
  clear hb
  obtain ⟨w2, rfl⟩ : ∃ x, x = w3 := ⟨_, rfl⟩
  go_wp2_with (first | (refine wpList_load_box 32 _ rfl (VZ) rfl 32 CZ Z.box _ Tryz.underlying32 rfl JZ.out (by first | rfl | simp [Region.wanted, yielded] | (simp [Region.wanted, yielded, Act.put] <;> omega)) ?_) | (refine wpList_load_box 32 _ rfl (VX) rfl 32 CX X.box _ Tryz.underlying32 rfl JX.out (by first | rfl | simp [Region.wanted, yielded] | (simp [Region.wanted, yielded, Act.put] <;> omega)) ?_))
  refine (likeA_is Z.dat.at X.dat.at (by omega)).mono ?_
  rintro e w3 ⟨rfl, hb⟩
  replace P := P.later hb P.lt
  replace K := K.later hb
  replace X := X.later (keepsLR rr) hb
  replace O2 := O2.later (keepsN _) hb
  replace Z := Z.later (keepsLR rr) hb
  clear hb
  obtain ⟨w2, rfl⟩ : ∃ x, x = w3 := ⟨_, rfl⟩
  go_wp2_with (first | (refine wpList_load_box 32 _ rfl (VX) rfl 32 CX X.box _ Tryz.underlying32 rfl JX.out (by first | rfl | simp [Region.wanted, yielded] | (simp [Region.wanted, yielded, Act.put] <;> omega)) ?_) | (refine wpList_load_box 34 _ rfl (w1.heap.size + 1 + 1) rfl 34 N K.v2.box _ Tryz.underlying34 rfl IN2.out (by first | rfl | simp [Region.wanted, yielded] | (simp [Region.wanted, yielded, Act.put] <;> omega)) ?_))
  refine (sameA_is X.dat.ats K.v2.dat (by omega) hS2.out).mono ?_
  rintro e w3 ⟨rfl, hb⟩
  replace P := P.later hb P.lt
  replace K := K.later hb
  replace X := X.later (keepsLR rr) hb
  replace O2 := O2.later (keepsN _) hb
  replace Z := Z.later (keepsLR rr) hb
  clear hb
  obtain ⟨w2, rfl⟩ : ∃ x, x = w3 := ⟨_, rfl⟩
  obtain ⟨p0, p1, p2, p3⟩ := P.four
  have c5 := (K.v2.box.cell 5).trans n5
  have c6 := (K.v2.box.cell 6).trans n6
  have c7 := (K.v2.box.cell 7).trans n7
  obtain ⟨x0, x1, -⟩ := X.dat.at.cells
  have x0 := (X.box.cell 0).trans x0
  have x1 := (X.box.cell 1).trans x1
  obtain ⟨r0, r1, -⟩ := K.v1.dat.at.cells
  have r0 := (K.v1.box.cell 0).trans r0
  have r1 := (K.v1.box.cell 1).trans r1
  go_wp2_with fail
  refine (cmpA_is hCm.out w2).mono ?_
  rintro e w3 ⟨rfl, hb⟩
  have E := bel_trans E1 (bel_trans K.bel hb)
  clear K X O2 Z P hb p0 p1 p2 p3 c5 c6 c7 x0 x1 r0 r1 n1 n5 n6 n7
  go_wp2
  go_ret
  exact ⟨rfl, E⟩

end Go.Proofs.YtdkmbcmenomecaaGreat

namespace Go.Proofs.YtdkmbcmenomecaaGreat
set_option maxRecDepth 100000
open Go.ChangeShapes Go.WideShapes Go.ChangeAt Go.RowKit
set_option linter.unusedVariables false


namespace fnReadyF
set_option maxRecDepth 100000 in
theorem lifted (os : Os) (started : os.Started) (H : Type) (enc : TypeId × Value → H) :
    ReturnsInHanded {} Tryz.checked os 3 .any (Rows.fnReadySpec.pre6 enc Tryz.prog Tryz.f3 Rows.fnReadyRow.domain false) (Rows.fnReadySpec.post enc Tryz.prog Tryz.f3 false true false false) := by
  refine returnsInHanded_of_change (C := Tryz.checked) ownB started (by kernel_rfl) Tryz.func3
    (ChangeSpec.witness6 (enc := enc) (C := Tryz.checked) false ⟨#[], #[.slice none 0 0], []⟩ 8 (by kernel_rfl) (by kernel_rfl) (by kernel_rfl) (by kernel_rfl)) ?_
  intro W base args ds gs before hval0 hW hcnd _
  have hval : ∀ (j : Nat) t v, Tryz.f3.params[j]? = some t → args[j]? = some v → Value.okWide Tryz.prog W .any base t v := hval0
  have hW' := hW
  obtain ⟨p, q, hA0, hV, rfl, hfz, hnd⟩ := hW
  have hA : DataW.TrodAll enc Tryz.prog W 0 (fun _ => true) true Tryz.f3.params.toList args.toList ds p := hA0
  rw [Tryz.params3] at hA hval
  obtain ⟨v0, vs0, d0, ds0, p0, q0, hargs, rfl, rfl, h0, r0⟩ := trodAll_cons hA
  obtain ⟨rfl, rfl, rfl⟩ := trodAll_nil r0
  obtain rfl : args = #[v0] := by cases args; simp_all
  obtain ⟨rfl, rfl⟩ := trodVars_none hV
  have k0 := h0
  have lt0 : ∀ x ∈ p0, x.block < W.heap.size := by obtain ⟨m, hm⟩ := k0; exact DataW.trod_lt m _ _ _ hm
  obtain ⟨A, n, cap, rfl, hB, hmx⟩ := bytes_read (hval 0 22 v0 rfl rfl) h0
  clear hA0 hval0
  have walk : Calls Tryz.prog 3 #[.slice A n cap] W fun e w' => e = .returned (.bool true) ∧ Below W.heap.size W w' := by
    by_cases hs : n ≤ 4096
    · exact ready_small A n cap W hs hB
    · exact ready_big A n cap W hmx (by omega)
  refine walk.mono fun e W' ⟨he, bel⟩ => ?_
  subst he
  exact ⟨_, rfl, _, _, _, [], _, [], hW', trodAll_mk1 (shut_bool Tryz.underlying4 _), (trodAll_cons_mk (Below.trod laidOutBytes (by kernel_rfl) (of_decide_eq_true (by kernel_rfl)) k0 bel lt0) trodAll_mk0), rfl, bel.frame _, fun h => by cases h⟩

theorem proved : Rows.FnReadySaid :=
  OpenClaim.holds_of_wide 3 Tryz.f3 rfl rfl rfl rfl rfl rfl rfl ⟨rfl, rfl, rfl, rfl, rfl⟩ rfl rfl rfl rfl rfl (by kernel_rfl) Tryz.func3 (by kernel_rfl)
    (of_decide_eq_true (by kernel_rfl)) (by unfold Func.isWrapper; first | (rw [if_pos (by decide +kernel)]; kernel_rfl) | (rw [if_neg (by decide +kernel)]; exact ⟨rfl, rfl⟩))
    (fun os started H enc _ => lifted os started H enc)
end fnReadyF

theorem fnReady_holds : Rows.FnReadySaid := fnReadyF.proved
end Go.Proofs.YtdkmbcmenomecaaGreat
