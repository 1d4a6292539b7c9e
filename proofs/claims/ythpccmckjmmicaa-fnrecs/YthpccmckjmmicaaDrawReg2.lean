/- The model's l7Copy and l7Write once more: the lists that they answer are one's own (written by reg_own.py). -/
import Derived.Test.YthpccmckjmmicaaSpecReg4
import Derived.Test.YthpccmckjmmicaaDrawSeals
import Derived.Test.YthpccmckjmmicaaSpecReg1
namespace Go.Proofs.Ythpccmckjmmicaa
open Go.RowKit Go.Deep

/-- A row of one's own, in a block of [lo, hi). -/
def OwnR (t : TypeId) (size : Nat) (w : World) (lo hi : Nat) (u : Value) (n : Nat) (vs : List Value) : Prop :=
  ∃ g cap, lo ≤ g ∧ g < hi ∧ u = .slice (some ⟨g, 0, none⟩) n cap ∧ w.ownsRow lo t size u n vs
section
variable {t : TypeId} {size : Nat} {w w' : World} {lo hi : Nat} {u : Value} {n : Nat} {vs : List Value}
theorem OwnR.keepG (h : OwnR t size w lo hi u n vs) {r : Option Nat} (hg : w.grownBy w' r) (hr : ∀ b, r = some b → b < lo ∨ hi ≤ b) : OwnR t size w' lo hi u n vs := by
  obtain ⟨g, cap, h1, h2, rfl, h4⟩ := h
  exact ⟨g, cap, h1, h2, rfl, h4.kept hg (.inr (fun e => by have := hr g e.symm; omega))⟩
theorem OwnR.later (h : OwnR t size w lo hi u n vs) (hb : Below w.heap.size w w') : OwnR t size w' lo hi u n vs :=
  h.keepG (grown_bel hb none) (fun b e => by cases e)
theorem OwnR.kept {r : Nat} (h : OwnR t size w lo hi u n vs) (hg : w.grownBy w' (some r)) (hr : hi ≤ r) : OwnR t size w' lo hi u n vs :=
  h.keepG hg (fun b e => by injection e with e; omega)
theorem OwnR.far (h : OwnR t size w lo hi u n vs) {b : Nat} (hb : b < lo) (o : Nat) (x : Value) : OwnR t size (w.setCell ⟨b, o, none⟩ x) lo hi u n vs :=
  h.keepG (grown_set (grown_refl w _) o x) (fun k e => by injection e with e; omega)
theorem OwnR.farHi (h : OwnR t size w lo hi u n vs) {b : Nat} (hb : hi ≤ b) (o : Nat) (x : Value) : OwnR t size (w.setCell ⟨b, o, none⟩ x) lo hi u n vs :=
  h.keepG (grown_set (grown_refl w _) o x) (fun k e => by injection e with e; omega)
theorem OwnR.far5 (h : OwnR t size w lo hi u n vs) {b : Nat} (hb : b < lo) (x0 x1 x2 x3 x4 : Value) : OwnR t size (((((w.setCell ⟨b, 0, none⟩ x0).setCell ⟨b, 1, none⟩ x1).setCell ⟨b, 2, none⟩ x2).setCell ⟨b, 3, none⟩ x3).setCell ⟨b, 4, none⟩ x4) lo hi u n vs :=
  ((((h.far hb 0 x0).far hb 1 x1).far hb 2 x2).far hb 3 x3).far hb 4 x4
theorem OwnR.wide {lo' hi' : Nat} (h : OwnR t size w lo hi u n vs) (h1 : lo' ≤ lo) (h2 : hi ≤ hi') : OwnR t size w lo' hi' u n vs := by
  obtain ⟨g, cap, a1, a2, rfl, a4⟩ := h
  exact ⟨g, cap, by omega, by omega, rfl, ownLow a4 h1⟩
theorem OwnR.form (h : OwnR t size w lo hi u n vs) : ∃ g cap, u = .slice (some ⟨g, 0, none⟩) n cap := by
  obtain ⟨g, cap, a1, a2, rfl, a4⟩ := h
  exact ⟨g, cap, rfl⟩
theorem ownR_of {g cap : Nat} (h : w.ownsRow lo t size (.slice (some ⟨g, 0, none⟩) n cap) n vs) : OwnR t size w lo w.heap.size (.slice (some ⟨g, 0, none⟩) n cap) n vs :=
  ⟨g, cap, (h.lt g rfl).1, (h.lt g rfl).2, rfl, h⟩
end
abbrev OP (w : World) (lo hi : Nat) (u : Value) (D : List (Int × Int)) : Prop := OwnR 75 2 w lo hi u D.length (flatP D)
abbrev OO (w : World) (lo hi : Nat) (u : Value) (D : List Opn) : Prop := OwnR 69 4 w lo hi u D.length (flatO D)

/-- A shelf that is answered, with lists of one's own. -/
def RegO (w : World) (rt rq rv : Int) (ps : List (Int × Int)) (os : List Opn) (e : Ending) (w' : World) : Prop :=
  ∃ (B : Nat) (u v : Value), w.heap.size ≤ B ∧ B ≤ w'.heap.size ∧ e = .returned (.agg #[.int .i64 rt, .int .i64 rq, .int .i64 rv, u, v]) ∧ OP w' w.heap.size B u ps ∧ OO w' B w'.heap.size v os ∧ Below w.heap.size w w'

end Go.Proofs.Ythpccmckjmmicaa

/- The model's l7Write once more: the lists of its answer are one's own (written by reg_own2.py). -/
namespace Go.Proofs.Ythpccmckjmmicaa
open Go.RowKit Go.Deep

/-- A shelf and a flag that are answered: both lists one's own, each in a block of its own. -/
def SpO (w : World) (ps : List (Int × Int)) (os : List Opn) (e : Ending) (w' : World) : Prop :=
  ∃ (a b c : Int) (f : Bool) (g1 c1 g2 c2 : Nat) (D : List (Int × Int)), e = .returned (.tuple #[.agg #[.int .i64 a, .int .i64 b, .int .i64 c, .slice (some ⟨g1, 0, none⟩) D.length c1, .slice (some ⟨g2, 0, none⟩) os.length c2], .bool f]) ∧ (D = ps ∨ D.length ≤ 20) ∧ g1 ≠ g2 ∧ w'.ownsRow w.heap.size 75 2 (.slice (some ⟨g1, 0, none⟩) D.length c1) D.length (flatP D) ∧ w'.ownsRow w.heap.size 69 4 (.slice (some ⟨g2, 0, none⟩) os.length c2) os.length (flatO os) ∧ Below w.heap.size w w'

end Go.Proofs.Ythpccmckjmmicaa

/- The model's l4Cert: a list of right seals, one's own. -/
namespace Go.Proofs.Ythpccmckjmmicaa
open Go.RowKit

theorem quo_le (s l c sh : Int) (zs : List Int) : quoN s l c sh zs ≤ 20 := by
  unfold quoN
  split
  · rename_i h
    obtain ⟨b1, b2, b3, b4, b5, b6⟩ := okB_parts h
    omega
  · omega

/-- What l4Cert keeps. -/
structure LC (w wr : World) (s l c sh : Int) (A : Option Addr) (m cap' : Nat) (zs : List Int) (ck ch ct cq cv : Int) (p pc : Nat) (ps : List (Int × Int)) : Prop where
  bel : Below w.heap.size w wr
  gr : Box wr w.heap.size 26 #[.int .i64 s, .int .i64 l, .int .i64 c, .int .i64 sh, .slice A m cap']
  cl : Box wr (w.heap.size + 1) 89 #[.int .i64 ck, .int .i64 ch, .int .i64 ct, .int .i64 cq, .int .i64 cv]
  own : wr.ownsRow (w.heap.size + 2) 75 2 (.slice (some ⟨p, 0, none⟩) ps.length pc) ps.length (flatP ps)
  row : Row wr w.heap.size A m zs
section
variable {w wr w' : World} {s l c sh : Int} {A : Option Addr} {m cap' : Nat} {zs : List Int} {ck ch ct cq cv : Int} {p pc : Nat} {ps : List (Int × Int)}
theorem LC.later (h : LC w wr s l c sh A m cap' zs ck ch ct cq cv p pc ps) (hb : Below wr.heap.size wr w') : LC w w' s l c sh A m cap' zs ck ch ct cq cv p pc ps :=
  ⟨bel_trans h.bel hb, h.gr.later hb h.gr.lt, h.cl.later hb h.cl.lt, h.own.kept (grown_bel hb none) (by simp [Value.ownBlock]), h.row.below hb h.bel.size⟩
theorem LC.push {a b : Int} {ob : Obj} {gg cap2 : Nat} (h : LC w wr s l c sh A m cap' zs ck ch ct cq cv p pc ps)
    (hown : w'.ownsRow (w.heap.size + 2) 75 2 (.slice (some ⟨gg, 0, none⟩) (ps.length + 1) cap2) (ps.length + 1) (flatP ps ++ [.int .i64 a, .int .i64 b])) (hg : (wr.alloc ob).grownBy w' (Value.ownBlock (.slice (some ⟨p, 0, none⟩) ps.length pc))) : LC w w' s l c sh A m cap' zs ck ch ct cq cv gg cap2 (ps ++ [(a, b)]) := by
  have hp := (h.own.lt p rfl).1
  have hg : (wr.alloc ob).grownBy w' (some p) := hg
  have h2 := h.later (bel_alloc wr ob)
  have hB : Below w.heap.size w w' := bel_grown h2.bel hg (by omega)
  refine ⟨hB, h2.gr.kept hg (by intro e; injection e with e; omega), h2.cl.kept hg (by intro e; injection e with e; omega), ?_, h.row.keep fun q hq => ?_⟩
  · rw [flatP_snoc]
    simpa using hown
  · exact (hB.cell hq).trans (h.bel.cell hq).symm
end

/-- A list of at most twenty seals, one's own. -/
def MadeCertO (w : World) (e : Ending) (w' : World) : Prop :=
  ∃ (p pc : Nat) (ps : List (Int × Int)), e = .returned (.slice (some ⟨p, 0, none⟩) ps.length pc) ∧ w'.ownsRow w.heap.size 75 2 (.slice (some ⟨p, 0, none⟩) ps.length pc) ps.length (flatP ps) ∧ ps.length ≤ 20 ∧ Below w.heap.size w w'

set_option maxRecDepth 100000 in
set_option maxHeartbeats 4000000 in
theorem l4Cert_any (s l c sh : Int) (A : Option Addr) (m cap' : Nat) (zs : List Int) (ck ch ct cq cv : Int) (w : World) (hm : m ≤ maxLen) (hr : Row w w.heap.size A m zs) :
    Calls Try.prog 55 #[.agg #[.int .i64 s, .int .i64 l, .int .i64 c, .int .i64 sh, .slice A m cap'], .agg #[.int .i64 ck, .int .i64 ch, .int .i64 ct, .int .i64 cq, .int .i64 cv]] w (MadeCertO w) := by
  obtain ⟨i0, hi0, hz0, hz1, hz2⟩ := info_parts Try.infoSealI
  have K0 : LC w (((w.alloc (.cells #[.int .i64 s, .int .i64 l, .int .i64 c, .int .i64 sh, .slice A m cap'] 26)).alloc (.cells #[.int .i64 ck, .int .i64 ch, .int .i64 ct, .int .i64 cq, .int .i64 cv] 89)).alloc (.cells #[] 75)) s l c sh A m cap' zs ck ch ct cq cv (w.heap.size + 1 + 1) 0 [] := by
    have E := bel_trans (bel_trans (bel_alloc w (.cells #[.int .i64 s, .int .i64 l, .int .i64 c, .int .i64 sh, .slice A m cap'] 26)) (bel_alloc _ (.cells #[.int .i64 ck, .int .i64 ch, .int .i64 ct, .int .i64 cq, .int .i64 cv] 89))) (bel_alloc _ (.cells #[] 75))
    refine ⟨E, ((Box.new w _ _).alloc _).alloc _, ?_, ⟨rfl, .inr ⟨w.heap.size + 1 + 1, 0, #[], rfl, Nat.le_refl _, ?_, Nat.le_refl _, Nat.zero_le _, rfl, rfl⟩⟩, hr.below E (Nat.le_refl _)⟩
    · have := (Box.new (w.alloc (.cells #[.int .i64 s, .int .i64 l, .int .i64 c, .int .i64 sh, .slice A m cap'] 26)) 89 #[.int .i64 ck, .int .i64 ch, .int .i64 ct, .int .i64 cq, .int .i64 cv]).alloc (.cells #[] 75)
      simp only [World.size_alloc] at this
      exact this
    · have := Box.new ((w.alloc (.cells #[.int .i64 s, .int .i64 l, .int .i64 c, .int .i64 sh, .slice A m cap'] 26)).alloc (.cells #[.int .i64 ck, .int .i64 ch, .int .i64 ct, .int .i64 cq, .int .i64 cv] 89)) 75 #[]
      simp only [World.size_alloc] at this
      exact this
  have HM := Lib.hid hm
  have HQ := Lib.hid (quo_le s l c sh zs)
  clear hr hm
  go_enter Try.func55, Try.ntmps55
  go_wp2_with fail
  generalize (((w.alloc _).alloc _).alloc _ : World) = w1 at K0 ⊢
  go_loopw [5, 6] (fun ov iv wr => ∃ (i p pc : Nat) (ps : List (Int × Int)), i ≤ 20 ∧ iv = .int .i64 i ∧ ov = .slice (some ⟨p, 0, none⟩) ps.length pc ∧ ps.length ≤ i ∧ LC w wr s l c sh A m cap' zs ck ch ct cq cv p pc ps) (fun _ i _ => 20 - (intOf i).toNat)
  case atStart => exact ⟨0, _, 0, [], by omega, rfl, rfl, by simp, K0⟩
  case round =>
    obtain ⟨i, p, pc, ps, hi, rfl, rfl, hpl, hK⟩ := hrel
    clear K0
    obtain ⟨d0, d1, d2, d3, d4, x0, x1, x2, x3, x4⟩ := ten hK.gr hK.cl
    have HC := Lib.hid (specQuorum_any s l c sh A m cap' zs wr HM.out (hK.row.more hK.bel.size))
    generalize hqq : quoN s l c sh zs = qq at HC HQ
    have hqq := Lib.hid hqq
    go_wp2_with fail
    refine HC.out.mono ?_
    rintro e wq ⟨rfl, hbq⟩
    have hK := hK.later hbq
    clear HC d0 d1 d2 d3 d4 x0 x1 x2 x3 x4 hbq
    obtain ⟨d0, d1, d2, d3, d4, x0, x1, x2, x3, x4⟩ := ten hK.gr hK.cl
    by_cases hlt : (i : Int) < qq
    · have hi10 : i < 20 := by have := HQ.out; omega
      have hrow := hK.row.more hK.bel.size
      have C := specSeal_any s l c sh A m cap' zs ck ch ct cq cv i wq HM.out hrow
      rcases hse : seB s l c sh zs ck ch ct cq cv i with _ | _
      · rw [seV_no hse] at C
        have HC := Lib.hid C
        clear C hse hrow
        go_wp2_with fail
        refine HC.out.mono ?_
        rintro e w2 ⟨rfl, hb2⟩
        have HK3 := Lib.hid ((hK.later hb2).later (bel_alloc w2 (.cells #[.int .i64 0, .int .i64 0] 75)))
        clear hK HC d0 d1 d2 d3 d4 x0 x1 x2 x3 x4 hb2
        go_wp2
        go_roundw
        case rel => exact ⟨i + 1, p, pc, ps, by omega, by go_num, rfl, by omega, HK3.out⟩
        case measure => simp [intOf]; omega
      · rw [seV_yes hse] at C
        generalize tagN zs ck ch ct cq cv i = T at C
        have HC := Lib.hid C
        clear C hse hrow
        go_wp2_with fail
        refine HC.out.mono ?_
        rintro e w2 ⟨rfl, hb2⟩
        have K2 := hK.later hb2
        have hK := hK
        have K6 := K2.later (bel_alloc w2 (.cells #[.int .i64 i, .int .i64 T] 75))
        have DS := Box.new w2 75 #[.int .i64 i, .int .i64 T]
        clear hK HC d0 d1 d2 d3 d4 x0 x1 x2 x3 x4 hb2
        obtain ⟨y0, y1⟩ := DS.two
        have hw2 : w.heap.size + 2 ≤ w2.heap.size := by have := K2.cl.lt; omega
        have hw6s : (w2.alloc (.cells #[.int .i64 (i : Int), .int .i64 T] 75)).heap.size = w2.heap.size + 1 := by simp
        have hnew := heap_alloc_new (w2.alloc (.cells #[.int .i64 (i : Int), .int .i64 T] 75)) (.cells #[.int .i64 (i : Int), .int .i64 T] 75)
        rw [hw6s] at hnew
        have K6 := Lib.hid K6
        have hnew := Lib.hid hnew
        rename_i q1 q2
        clear q1 q2 hw6s
        go_wp2_with (at_builtin; refine wpList_append_lies _ rfl _ _ _ rfl (w.heap.size + 2) 75 i0 _ 2 16 Try.underlying29 hi0 hz0 hz1 hz2 rfl (by omega) (.slice (some ⟨p, 0, none⟩) (ps.length) pc) (ps.length) (flatP ps) rfl (K6.out.own.alloc _) ⟨w2.heap.size + 1, 0, none⟩ 1 1 [.int .i64 (i : Int), .int .i64 T] rfl rfl (World.news_of_block (cs := #[.int .i64 (i : Int), .int .i64 T]) (t := 75) (fr := (0, 0)) hnew.out) (by simp [Value.oneCell']) (by omega) (by unfold maxLen; omega) (by omega) (by simp; omega) (w2.heap.size + 2) (by simp) ?_; intro gg cap2 w7 hown7 hgrow7 hat7 hlt7; have K7 := K6.out.push hown7 hgrow7)
        have HK7 := Lib.hid K7
        clear K7 K6 DS hown7 hgrow7 hat7
        go_roundw
        case rel =>
          have hl2 : (ps ++ [((i : Int), T)]).length = ps.length + 1 := by simp
          exact ⟨i + 1, gg, cap2, ps ++ [((i : Int), T)], by omega, by go_num, by rw [hl2], by rw [hl2]; omega, HK7.out⟩
        case measure => simp [intOf]; omega
    · have HK := Lib.hid hK
      clear hK d0 d1 d2 d3 d4 x0 x1 x2 x3 x4
      go_wp2
      go_ret
      have ho := HK.out.own
      exact ⟨p, pc, ps, rfl, ownLow ho (by omega), by omega, HK.out.bel⟩

end Go.Proofs.Ythpccmckjmmicaa

/- The model's l7Draw: a shelf of a group, its lists one's own. -/
namespace Go.Proofs.Ythpccmckjmmicaa
open Go.RowKit Go.Deep

/-- A row of one's own is a slice of its length. -/
theorem own_form {w : World} {base : Nat} {t : TypeId} {size : Nat} {v : Value} {n : Nat} {xs : List Value} (h : w.ownsRow base t size v n xs) : ∃ A c, v = .slice A n c := by
  rcases h.2 with ⟨e, h0⟩ | ⟨g, cap, cur, e, _⟩
  · exact ⟨none, 0, by rw [e, h0]⟩
  · exact ⟨_, _, e⟩

/-- What is drawn: a shelf whose lists are one's own, and the cursor further on. -/
def DrawnReg (g : Nat) (A : Option Addr) (n cap : Nat) (w : World) (e : Ending) (w' : World) : Prop :=
  ∃ (a b d : Int) (u v : Value) (ps : List (Int × Int)) (os : List Opn), e = .returned (.agg #[.int .i64 a, .int .i64 b, .int .i64 d, u, v]) ∧ ps.length ≤ 20 ∧ os.length ≤ 6 ∧ w'.ownsRow w.heap.size 75 2 u ps.length (flatP ps) ∧ w'.ownsRow w.heap.size 69 4 v os.length (flatO os) ∧ (u.ownBlock = none ∨ u.ownBlock ≠ v.ownBlock) ∧ Cur w' 86 .i64 g A n cap ∧ w.grownBy w' (some g)
section
variable {w wr w' : World} {g : Nat} {A : Option Addr} {n cap : Nat} {s l c sh : Int} {q o m cap' : Nat} {zs : List Int} {v v' : Value} {os os' : List Opn}
end

end Go.Proofs.Ythpccmckjmmicaa
