/- The model's l8Draw and DrawReadied: a group, a shelf and a note, drawn (written by draw_ready.py); conditions: the bytes can be read. -/
import Derived.Test.YtjdepjpjjgkmbaaGreatReadyKit
import Derived.Test.YtjdepjpjjgkmbaaGreatDrawNote4
namespace Go.Proofs.YtjdepjpjjgkmbaaGreat
open Go Go.RowKit

/-- The blocks behind the results, none of the three variables. -/
def Aw (S a b c : Nat) : Nat → Prop := fun x => S + 2 < x ∧ x ≠ a ∧ x ≠ b ∧ x ≠ c
theorem Seals.wide {w : World} {F : Nat → Prop} {k k' : Nat} {v : Value} (h : Seals w F k v) (hk : k ≤ k') : Seals w F k' v := by
  obtain ⟨A, n, c, ps, e, hn, hp⟩ := h
  exact ⟨A, n, c, ps, e, Nat.le_trans hn hk, hp⟩
theorem set_else {N : Array Value} {i j : Nat} {v : Value} (h : j ≠ i) : (N.setIfInBounds i v)[j]? = N[j]? := by simp [h.symm]
theorem okB_len8 {s l c sh : Int} {zs : List Int} (h : okB s l c sh zs = true) : (zs.length : Int) = s + c := by
  unfold okB at h
  simp only [Bool.and_eq_true, decide_eq_true_eq] at h
  exact h.1.2
theorem results_three {P : Program} {fn : Func} {x y z : Tmp} {ty ty' ty'' : TypeId} (h : fn.results = #[.cell x ty, .cell y ty', .cell z ty'']) (tmps : Array Value) (w : World) (g g' g'' : Nat) (t t' t'' : TypeId) (cs cs' cs'' : Array Value) (d d' d'' : TypeDesc)
    (hx : tmps.getD x undef = .pointer (some ⟨g, 0, none⟩)) (hy : tmps.getD y undef = .pointer (some ⟨g', 0, none⟩)) (hz : tmps.getD z undef = .pointer (some ⟨g'', 0, none⟩)) (hg : Box w g t cs) (hg' : Box w g' t' cs') (hg'' : Box w g'' t'' cs'')
    (hu : P.underlying ty = some d) (hd : (match d with | .struct _ | .array _ _ => true | _ => false) = true) (hi : (P.info? ty).map (·.size) = some cs.size)
    (hu' : P.underlying ty' = some d') (hd' : (match d' with | .struct _ | .array _ _ => true | _ => false) = true) (hi' : (P.info? ty').map (·.size) = some cs'.size)
    (hu'' : P.underlying ty'' = some d'') (hd'' : (match d'' with | .struct _ | .array _ _ => true | _ => false) = true) (hi'' : (P.info? ty'').map (·.size) = some cs''.size) :
    (results fn tmps).run P w = .ok (.tuple #[.agg cs, .agg cs', .agg cs'']) w := by
  have ex : tmps[x]?.getD undef = .pointer (some ⟨g, 0, none⟩) := by simpa using hx
  have ey : tmps[y]?.getD undef = .pointer (some ⟨g', 0, none⟩) := by simpa using hy
  have ez : tmps[z]?.getD undef = .pointer (some ⟨g'', 0, none⟩) := by simpa using hz
  simp [results, h, ex, ey, ez, asAddr, run_loadVar_row w g t ty cs (0, 0) d hg hu hd hi, run_loadVar_row w g' t' ty' cs' (0, 0) d' hg' hu' hd' hi', run_loadVar_row w g'' t'' ty'' cs'' (0, 0) d'' hg'' hu'' hd'' hi'']
/-- What l8Draw keeps while it has the group that it drew first. -/
structure DS (w wr : World) (g : Nat) (A : Option Addr) (n cap : Nat) (V5 V6 : Nat) (G N : Array Value) (q m : Nat) (zs : List Int) : Prop where
  cur : Cur wr 169 .i64 g A n cap
  grw : w.grownBy wr (some g)
  r2 : Box wr w.heap.size 26 #[.int .i64 0, .int .i64 0, .int .i64 0, .int .i64 0, .slice none 0 0]
  r3 : Box wr (w.heap.size + 1) 80 #[.int .i64 0, .int .i64 0, .int .i64 0, .slice none 0 0, .slice none 0 0]
  r4 : Box wr (w.heap.size + 1 + 1) 85 #[.int .i64 0, .int .i64 0, .int .i64 0, .int .i64 0, .int .i64 0, .int .i64 0, .int .i64 0, .int .i64 0, .int .i64 0, .int .i64 0, .int .i64 0, .slice none 0 0, .slice none 0 0, .int .i64 0, .int .i64 0, .int .i64 0]
  gb : Box wr V5 26 G
  row : RowF wr (Aw w.heap.size V5 V6 V6) (some ⟨q, 0, none⟩) m zs
  nb : Box wr V6 85 N
  note : NoteS wr (Aw w.heap.size V5 V6 V6) (.agg N)
  hg : g < w.heap.size
  o5 : w.heap.size + 2 < V5
  o6 : V5 < V6
/-- What it keeps when it has the shelf, too. -/
structure DT (w wr : World) (g : Nat) (A : Option Addr) (n cap : Nat) (V5 V6 V7 : Nat) (G N R : Array Value) : Prop where
  cur : Cur wr 169 .i64 g A n cap
  grw : w.grownBy wr (some g)
  r2 : Box wr w.heap.size 26 #[.int .i64 0, .int .i64 0, .int .i64 0, .int .i64 0, .slice none 0 0]
  r3 : Box wr (w.heap.size + 1) 80 #[.int .i64 0, .int .i64 0, .int .i64 0, .slice none 0 0, .slice none 0 0]
  r4 : Box wr (w.heap.size + 1 + 1) 85 #[.int .i64 0, .int .i64 0, .int .i64 0, .int .i64 0, .int .i64 0, .int .i64 0, .int .i64 0, .int .i64 0, .int .i64 0, .int .i64 0, .int .i64 0, .slice none 0 0, .slice none 0 0, .int .i64 0, .int .i64 0, .int .i64 0]
  gb : Box wr V5 26 G
  grp : GrpS wr (Aw w.heap.size V5 V6 V7) (.agg G)
  nb : Box wr V6 85 N
  note : NoteS wr (Aw w.heap.size V5 V6 V7) (.agg N)
  rb : Box wr V7 80 R
  reg : RegS wr (Aw w.heap.size V5 V6 V7) (.agg R)
  hg : g < w.heap.size
  o5 : w.heap.size + 2 < V5
  o6 : V5 < V6
  o7 : V6 < V7
section
variable {w wr w' : World} {g : Nat} {A : Option Addr} {n cap : Nat} {V5 V6 V7 : Nat} {G N R N' G' R' : Array Value} {q m : Nat} {zs : List Int} {s l c sh : Int} {cap' : Nat}
theorem DS.draw (h : DS w wr g A n cap V5 V6 G N q m zs) (hg : wr.grownBy w' (some g)) (hc : Cur w' 169 .i64 g A n cap) : DS w w' g A n cap V5 V6 G N q m zs := by
  have ht := Turns.of_grown hg
  have h1 := h.hg
  have h5 := h.o5
  have h6 := h.o6
  have hF : ∀ b, Aw w.heap.size V5 V6 V6 b → ¬ b = g := fun b hb e => by have := hb.1; omega
  exact ⟨hc, grown_trans h.grw hg, h.r2.turn ht (by omega), h.r3.turn ht (by omega), h.r4.turn ht (by omega), h.gb.turn ht (by omega), h.row.turn ht hF, h.nb.turn ht (by omega), keepsNS.turn h.note ht hF, h1, h5, h6⟩
theorem DS.later (h : DS w wr g A n cap V5 V6 G N q m zs) (hb : Below wr.heap.size wr w') : DS w w' g A n cap V5 V6 G N q m zs :=
  ⟨h.cur.kept (grown_bel hb none) (fun q hq => by cases hq), grown_trans h.grw (grown_bel hb _), h.r2.later hb h.r2.lt, h.r3.later hb h.r3.lt, h.r4.later hb h.r4.lt, h.gb.later hb h.gb.lt, h.row.turn (T := fun _ => False) (Turns.of_below hb) (fun _ _ h => h), h.nb.later hb h.nb.lt, keepsNS.later h.note hb, h.hg, h.o5, h.o6⟩
/-- The note's variable is written. -/
theorem DS.put (h : DS w wr g A n cap V5 V6 G N q m zs) (ht : Turns (· = V6) wr w') (hB : Box w' V6 85 N') (hN : NoteS w' (Aw w.heap.size V5 V6 V6) (.agg N')) : DS w w' g A n cap V5 V6 G N' q m zs := by
  have h1 := h.hg
  have h5 := h.o5
  have h6 := h.o6
  exact ⟨h.cur.kept (turns_grown ht) (fun r hr => by injection hr with hr; omega), grown_far h.grw (turns_grown ht) (fun r hr => by injection hr with hr; omega), h.r2.turn ht (by omega), h.r3.turn ht (by omega), h.r4.turn ht (by omega), h.gb.turn ht (by omega), h.row.turn ht (fun _ hb e => hb.2.2.1 e), hB, hN, h1, h5, h6⟩
theorem turns_cell (w : World) (V i : Nat) (u : Value) : Turns (· = V) w (w.setCell ⟨V, i, none⟩ u) := Turns.of_grown (grown_set (grown_refl w (some V)) i u)
/-- A number of the note is written. -/
theorem DS.num (h : DS w wr g A n cap V5 V6 G N q m zs) {i : Nat} (hi : isNum i) (z : Int) : DS w (wr.setCell ⟨V6, i, none⟩ (.int .i64 z)) g A n cap V5 V6 G (N.setIfInBounds i (.int .i64 z)) q m zs :=
  h.put (turns_cell wr V6 i _) (h.nb.set i _) (keepsNS.turn (h.note.put hi z) (turns_cell wr V6 i _) (fun _ hb e => hb.2.2.1 e))
theorem DS.cert (h : DS w wr g A n cap V5 V6 G N q m zs) {v : Value} (hv : Seals wr (Aw w.heap.size V5 V6 V6) 20 v) : DS w (wr.setCell ⟨V6, 11, none⟩ v) g A n cap V5 V6 G (N.setIfInBounds 11 v) q m zs :=
  h.put (turns_cell wr V6 11 _) (h.nb.set 11 _) (keepsNS.turn (h.note.cert hv) (turns_cell wr V6 11 _) (fun _ hb e => hb.2.2.1 e))
theorem DS.more (h : DS w wr g A n cap V5 V6 G N q m zs) {v : Value} (hv : Seals wr (Aw w.heap.size V5 V6 V6) 20 v) : DS w (wr.setCell ⟨V6, 12, none⟩ v) g A n cap V5 V6 G (N.setIfInBounds 12 v) q m zs :=
  h.put (turns_cell wr V6 12 _) (h.nb.set 12 _) (keepsNS.turn (h.note.more hv) (turns_cell wr V6 12 _) (fun _ hb e => hb.2.2.1 e))
theorem DT.draw (h : DT w wr g A n cap V5 V6 V7 G N R) (hg : wr.grownBy w' (some g)) (hc : Cur w' 169 .i64 g A n cap) : DT w w' g A n cap V5 V6 V7 G N R := by
  have ht := Turns.of_grown hg
  have h1 := h.hg
  have h5 := h.o5
  have h6 := h.o6
  have h7 := h.o7
  have hF : ∀ b, Aw w.heap.size V5 V6 V7 b → ¬ b = g := fun b hb e => by have := hb.1; omega
  exact ⟨hc, grown_trans h.grw hg, h.r2.turn ht (by omega), h.r3.turn ht (by omega), h.r4.turn ht (by omega), h.gb.turn ht (by omega), keepsGS.turn h.grp ht hF, h.nb.turn ht (by omega), keepsNS.turn h.note ht hF, h.rb.turn ht (by omega), keepsRS.turn h.reg ht hF, h1, h5, h6, h7⟩
theorem DT.later (h : DT w wr g A n cap V5 V6 V7 G N R) (hb : Below wr.heap.size wr w') : DT w w' g A n cap V5 V6 V7 G N R :=
  ⟨h.cur.kept (grown_bel hb none) (fun q hq => by cases hq), grown_trans h.grw (grown_bel hb _), h.r2.later hb h.r2.lt, h.r3.later hb h.r3.lt, h.r4.later hb h.r4.lt, h.gb.later hb h.gb.lt, keepsGS.later h.grp hb, h.nb.later hb h.nb.lt, keepsNS.later h.note hb, h.rb.later hb h.rb.lt, keepsRS.later h.reg hb, h.hg, h.o5, h.o6, h.o7⟩
/-- A variable of the three is written whole. -/
theorem DT.putG (h : DT w wr g A n cap V5 V6 V7 G N R) (hN : GrpS wr (Aw w.heap.size V5 V6 V7) (.agg G')) : DT w (wr.setRow V5 G') g A n cap V5 V6 V7 G' N R := by
  have ht := turns_setRow wr V5 G'
  have h1 := h.hg
  have h5 := h.o5
  have h6 := h.o6
  have h7 := h.o7
  have hF : ∀ b, Aw w.heap.size V5 V6 V7 b → ¬ b = V5 := fun b hb e => hb.2.1 e
  exact ⟨h.cur.kept (turns_grown ht) (fun r hr => by injection hr with hr; omega), grown_far h.grw (turns_grown ht) (fun r hr => by injection hr with hr; omega), h.r2.turn ht (by omega), h.r3.turn ht (by omega), h.r4.turn ht (by omega), h.gb.setRow G', keepsGS.turn hN ht hF, h.nb.turn ht (by omega), keepsNS.turn h.note ht hF, h.rb.turn ht (by omega), keepsRS.turn h.reg ht hF, h1, h5, h6, h7⟩
theorem DT.putN (h : DT w wr g A n cap V5 V6 V7 G N R) (hN : NoteS wr (Aw w.heap.size V5 V6 V7) (.agg N')) : DT w (wr.setRow V6 N') g A n cap V5 V6 V7 G N' R := by
  have ht := turns_setRow wr V6 N'
  have h1 := h.hg
  have h5 := h.o5
  have h6 := h.o6
  have h7 := h.o7
  have hF : ∀ b, Aw w.heap.size V5 V6 V7 b → ¬ b = V6 := fun b hb e => hb.2.2.1 e
  exact ⟨h.cur.kept (turns_grown ht) (fun r hr => by injection hr with hr; omega), grown_far h.grw (turns_grown ht) (fun r hr => by injection hr with hr; omega), h.r2.turn ht (by omega), h.r3.turn ht (by omega), h.r4.turn ht (by omega), h.gb.turn ht (by omega), keepsGS.turn h.grp ht hF, h.nb.setRow N', keepsNS.turn hN ht hF, h.rb.turn ht (by omega), keepsRS.turn h.reg ht hF, h1, h5, h6, h7⟩
theorem DT.putR (h : DT w wr g A n cap V5 V6 V7 G N R) (hN : RegS wr (Aw w.heap.size V5 V6 V7) (.agg R')) : DT w (wr.setRow V7 R') g A n cap V5 V6 V7 G N R' := by
  have ht := turns_setRow wr V7 R'
  have h1 := h.hg
  have h5 := h.o5
  have h6 := h.o6
  have h7 := h.o7
  have hF : ∀ b, Aw w.heap.size V5 V6 V7 b → ¬ b = V7 := fun b hb e => hb.2.2.2 e
  exact ⟨h.cur.kept (turns_grown ht) (fun r hr => by injection hr with hr; omega), grown_far h.grw (turns_grown ht) (fun r hr => by injection hr with hr; omega), h.r2.turn ht (by omega), h.r3.turn ht (by omega), h.r4.turn ht (by omega), h.gb.turn ht (by omega), keepsGS.turn h.grp ht hF, h.nb.turn ht (by omega), keepsNS.turn h.note ht hF, h.rb.setRow R', keepsRS.turn hN ht hF, h1, h5, h6, h7⟩
/-- The shelf's variable is new. -/
theorem DS.shelf (h : DS w wr g A n cap V5 V6 #[.int .i64 s, .int .i64 l, .int .i64 c, .int .i64 sh, .slice (some ⟨q, 0, none⟩) m cap'] N q m zs) (hm : m ≤ 100) (hR : RegS wr (Aw w.heap.size V5 V6 wr.heap.size) (.agg R)) : DT w (wr.alloc (.cells R 80)) g A n cap V5 V6 wr.heap.size #[.int .i64 s, .int .i64 l, .int .i64 c, .int .i64 sh, .slice (some ⟨q, 0, none⟩) m cap'] N R := by
  have hb := bel_alloc wr (.cells R 80)
  have K := h.later hb
  have hl := h.nb.lt
  have hr := rowF_lt h.row
  have hn := h.note.lt
  refine ⟨K.cur, K.grw, K.r2, K.r3, K.r4, K.gb, ?_, K.nb, ?_, Box.new wr _ _, keepsRS.later hR hb, h.hg, h.o5, h.o6, hl⟩
  · refine keepsGS.later ?_ hb
    have hz : zs.length = m := hr.1.1
    refine ⟨⟨s, l, c, sh, zs⟩, ⟨_, m, _, rfl, by unfold maxLen; omega, hr.1, fun h0 b o e => ?_⟩, by show zs.length ≤ 100; omega⟩
    obtain ⟨h1, h2⟩ := hr.2 h0 b o e
    exact ⟨h1.1, h1.2.1, h1.2.2.1, by omega⟩
  · exact keepsNS.later (keepsNS.sub hn fun b ⟨h1, h2⟩ => ⟨h1.1, h1.2.1, h1.2.2.1, by omega⟩) hb
end
/-- What l8Draw leaves: a group, a shelf and a note, behind all that was there. -/
def DrawnRdy (g : Nat) (A : Option Addr) (n cap : Nat) (w : World) (e : Ending) (w' : World) : Prop :=
  ∃ (G R N : Array Value), e = .returned (.tuple #[.agg G, .agg R, .agg N]) ∧ GrpS w' (w.heap.size + 2 < ·) (.agg G) ∧ RegS w' (w.heap.size + 2 < ·) (.agg R) ∧ NoteS w' (w.heap.size + 2 < ·) (.agg N) ∧ Cur w' 169 .i64 g A n cap ∧ w.grownBy w' (some g)

set_option maxRecDepth 100000 in
set_option maxHeartbeats 16000000 in
theorem l8Draw_any (g : Nat) (A : Option Addr) (n cap : Nat) (w : World) (hc : Cur w 169 .i64 g A n cap) :
    Calls Tryz.prog 109 #[.pointer (some ⟨g, 0, none⟩)] w (DrawnRdy g A n cap w) := by
  have hgl := hc.lt
  have E0 := bel_trans (bel_trans (bel_alloc w (.cells #[.int .i64 0, .int .i64 0, .int .i64 0, .int .i64 0, .slice none 0 0] 26)) (bel_alloc _ (.cells #[.int .i64 0, .int .i64 0, .int .i64 0, .slice none 0 0, .slice none 0 0] 80))) (bel_alloc _ (.cells #[.int .i64 0, .int .i64 0, .int .i64 0, .int .i64 0, .int .i64 0, .int .i64 0, .int .i64 0, .int .i64 0, .int .i64 0, .int .i64 0, .int .i64 0, .slice none 0 0, .slice none 0 0, .int .i64 0, .int .i64 0, .int .i64 0] 85))
  have R2 := ((Box.new w 26 #[.int .i64 0, .int .i64 0, .int .i64 0, .int .i64 0, .slice none 0 0]).alloc (.cells #[.int .i64 0, .int .i64 0, .int .i64 0, .slice none 0 0, .slice none 0 0] 80)).alloc (.cells #[.int .i64 0, .int .i64 0, .int .i64 0, .int .i64 0, .int .i64 0, .int .i64 0, .int .i64 0, .int .i64 0, .int .i64 0, .int .i64 0, .int .i64 0, .slice none 0 0, .slice none 0 0, .int .i64 0, .int .i64 0, .int .i64 0] 85)
  have R3 := (Box.new (w.alloc (.cells #[.int .i64 0, .int .i64 0, .int .i64 0, .int .i64 0, .slice none 0 0] 26)) 80 #[.int .i64 0, .int .i64 0, .int .i64 0, .slice none 0 0, .slice none 0 0]).alloc (.cells #[.int .i64 0, .int .i64 0, .int .i64 0, .int .i64 0, .int .i64 0, .int .i64 0, .int .i64 0, .int .i64 0, .int .i64 0, .int .i64 0, .int .i64 0, .slice none 0 0, .slice none 0 0, .int .i64 0, .int .i64 0, .int .i64 0] 85)
  have R4 := Box.new ((w.alloc (.cells #[.int .i64 0, .int .i64 0, .int .i64 0, .int .i64 0, .slice none 0 0] 26)).alloc (.cells #[.int .i64 0, .int .i64 0, .int .i64 0, .slice none 0 0, .slice none 0 0] 80)) 85 #[.int .i64 0, .int .i64 0, .int .i64 0, .int .i64 0, .int .i64 0, .int .i64 0, .int .i64 0, .int .i64 0, .int .i64 0, .int .i64 0, .int .i64 0, .slice none 0 0, .slice none 0 0, .int .i64 0, .int .i64 0, .int .i64 0]
  simp only [World.size_alloc] at R3 R4
  have hc0 := hc.kept (grown_bel E0 none) (fun q hq => by cases hq)
  clear hc
  go_enter Tryz.func109, Tryz.ntmps109
  go_wp2_with fail
  generalize (((w.alloc _).alloc _).alloc _ : World) = w0 at E0 R2 R3 R4 hc0 ⊢
  refine (l1DrawGroup_any g A n cap w0 hc0).mono ?_
  rintro e w1 ⟨s, l, c, sh, q, cap', zs, rfl, ho, hok, hs6, hc3, hcN, hgN⟩
  obtain ⟨ok1, _, ok2, _, _, _⟩ := okB_parts hok
  have hq0 := (ho.lt q rfl).1
  have hq1 := (ho.lt q rfl).2
  have hsz := hgN.size
  have h4 := R4.lt
  have hrow := own_row ho
  have hml : zs.length ≤ 100 := by have := okB_len8 hok; omega
  obtain ⟨m, hm⟩ : ∃ m, zs.length = m := ⟨_, rfl⟩
  rw [hm] at hrow hml ⊢
  clear ho hm
  have hb := bel_alloc w1 (.cells #[.int .i64 s, .int .i64 l, .int .i64 c, .int .i64 sh, .slice (some ⟨q, 0, none⟩) m cap'] 26)
  have B5 := Box.new w1 26 #[.int .i64 s, .int .i64 l, .int .i64 c, .int .i64 sh, .slice (some ⟨q, 0, none⟩) m cap']
  have H2 := (R2.kept hgN (by intro e; injection e with e; omega)).later hb (R2.kept hgN (by intro e; injection e with e; omega)).lt
  have H3 := (R3.kept hgN (by intro e; injection e with e; omega)).later hb (R3.kept hgN (by intro e; injection e with e; omega)).lt
  have H4 := (R4.kept hgN (by intro e; injection e with e; omega)).later hb (R4.kept hgN (by intro e; injection e with e; omega)).lt
  have hcM := hcN.kept (grown_bel hb none) (fun q hq => by cases hq)
  have hgM := grown_trans (grown_trans (grown_bel E0 (some g)) hgN) (grown_bel hb _)
  have hrM := (hrow.below hb (Nat.le_refl _)).more hb.size
  have hV : w.heap.size + 2 < w1.heap.size := by omega
  have hqV : q < w1.heap.size := hq1
  have hqL : w.heap.size + 2 < q := by omega
  clear E0 R2 R3 R4 hc0 hcN hgN hrow hb hq0 hq1 hsz h4
  go_upto_region 2 with fail
  generalize (w1.alloc _ : World) = w2 at B5 H2 H3 H4 hcM hgM hrM ⊢
  generalize w1.heap.size = V5 at B5 hV hqV ⊢
  -- the note
  go_wp2_with (refine wpList_load_box 26 _ rfl V5 rfl 26 _ B5 _ Tryz.underlying26 rfl (by kernel_rfl) (by first | rfl | simp [Region.wanted, yielded] | (simp [Region.wanted, yielded, Act.put] <;> omega)) ?_)
  refine (l5Draw_any g A n cap s l c sh q 0 m cap' zs 3 w2 (by omega) (by omega) (by unfold maxLen; omega) hok hcM hrM (by omega)).mono ?_
  rintro e w3 ⟨N, cv, mv, rfl, hsh, hl1, hl2, -, hcN, hgN⟩
  have hsz := hgN.size
  have b5 := B5.lt
  have hb := bel_new_row w3 #[.int .i64 0, .int .i64 0, .int .i64 0, .int .i64 0, .int .i64 0, .int .i64 0, .int .i64 0, .int .i64 0, .int .i64 0, .int .i64 0, .int .i64 0, .slice none 0 0, .slice none 0 0, .int .i64 0, .int .i64 0, .int .i64 0] 85 N
  have B5' := B5.kept hgN (by intro e; injection e with e; omega)
  have H2' := H2.kept hgN (by intro e; injection e with e; omega)
  have H3' := H3.kept hgN (by intro e; injection e with e; omega)
  have H4' := H4.kept hgN (by intro e; injection e with e; omega)
  have hrN := hrM.keptB (Nat.le_refl _) hgN (fun k hk => by injection hk with hk; exact .inr (by intro e; omega))
  have hns : NoteS w3 (Aw w.heap.size V5 w3.heap.size w3.heap.size) (.agg N) := ⟨N, cv, mv, rfl, hsh, (hl1.seals.sub fun b hb => ⟨by omega, by omega, by omega, by omega⟩) |>.wide (by omega), hl2.seals.sub fun b hb => ⟨by omega, by omega, by omega, by omega⟩⟩
  have hrF : RowF w3 (Aw w.heap.size V5 w3.heap.size w3.heap.size) (some ⟨q, 0, none⟩) m zs := ⟨hrN.more (by omega), fun _ b o e => by injection e with e; injection e with e; subst e; exact ⟨by omega, by omega, by omega, by omega⟩⟩
  have K : DS w ((w3.alloc (.cells #[.int .i64 0, .int .i64 0, .int .i64 0, .int .i64 0, .int .i64 0, .int .i64 0, .int .i64 0, .int .i64 0, .int .i64 0, .int .i64 0, .int .i64 0, .slice none 0 0, .slice none 0 0, .int .i64 0, .int .i64 0, .int .i64 0] 85)).setRow w3.heap.size N) g A n cap V5 w3.heap.size #[.int .i64 s, .int .i64 l, .int .i64 c, .int .i64 sh, .slice (some ⟨q, 0, none⟩) m cap'] N q m zs := ⟨hcN.kept (grown_bel hb none) (fun q hq => by cases hq), grown_trans (grown_trans hgM hgN) (grown_bel hb _), H2'.later hb H2'.lt, H3'.later hb H3'.lt, H4'.later hb H4'.lt, B5'.later hb B5'.lt, hrF.turn (T := fun _ => False) (Turns.of_below hb) (fun _ _ h => h), (Box.new w3 85 #[.int .i64 0, .int .i64 0, .int .i64 0, .int .i64 0, .int .i64 0, .int .i64 0, .int .i64 0, .int .i64 0, .int .i64 0, .int .i64 0, .int .i64 0, .slice none 0 0, .slice none 0 0, .int .i64 0, .int .i64 0, .int .i64 0]).setRow N, keepsNS.later hns hb, by omega, hV, by omega⟩
  have ZB := Box.new w3 85 #[.int .i64 0, .int .i64 0, .int .i64 0, .int .i64 0, .int .i64 0, .int .i64 0, .int .i64 0, .int .i64 0, .int .i64 0, .int .i64 0, .int .i64 0, .slice none 0 0, .slice none 0 0, .int .i64 0, .int .i64 0, .int .i64 0]
  have O := Lib.hid hns.size
  clear hsh hl1 hl2 hcN hgN hb B5' H2' H3' H4' hrN hns hrF B5 H2 H3 H4 hcM hgM hrM hsz b5
  go_upto_region 3 with (refine wpList_store_row rfl 85 _ _ rfl w3.heap.size _ rfl rfl 85 #[.int .i64 0, .int .i64 0, .int .i64 0, .int .i64 0, .int .i64 0, .int .i64 0, .int .i64 0, .int .i64 0, .int .i64 0, .int .i64 0, .int .i64 0, .slice none 0 0, .slice none 0 0, .int .i64 0, .int .i64 0, .int .i64 0] ZB O.out.2.1 O.out.1.symm O.out.2.2 ?_)
  clear ZB O
  try simp only [Act.put]
  generalize ((w3.alloc _).setRow _ _ : World) = w4 at K ⊢
  generalize w3.heap.size = V6 at K ⊢
  have gi := Lib.hid (show (Tryz.prog.info? 26).map (·.size) = some (#[.int .i64 s, .int .i64 l, .int .i64 c, .int .i64 sh, .slice (some ⟨q, 0, none⟩) m cap'] : Array Value).size by kernel_rfl)
  obtain ⟨w1, rfl⟩ : ∃ x, x = w4 := ⟨_, rfl⟩
  -- a certificate
  go_cut [21] (fun v wr => ∃ b, v = .bool b ∧ DS w wr g A n cap V5 V6 #[.int .i64 s, .int .i64 l, .int .i64 c, .int .i64 sh, .slice (some ⟨q, 0, none⟩) m cap'] N q m zs)
  case first =>
    go_wp2_with fail
    refine (l1Once_any g A n cap 4 w1 (by omega) K.cur).mono ?_
    rintro e w2 ⟨b, rfl, hcN, hgN⟩
    replace K := K.draw hgN hcN
    clear hcN hgN
    obtain ⟨w1, rfl⟩ : ∃ x, x = w2 := ⟨_, rfl⟩
    rcases b with _ | _
    · obtain ⟨x8, n8⟩ := K.note.num (i := 8) (by simp [isNum])
      obtain ⟨x9, n9⟩ := K.note.num (i := 9) (by simp [isNum])
      have cN := K.nb.cell
      go_wp2_with fail
      refine (zero_is x8 x9 w1).mono ?_
      rintro e w2 ⟨rfl, hb⟩
      replace K := K.later hb
      clear hb cN n8 n9
      go_wp2_with fail
      go_meet
      exact ⟨_, rfl, K⟩
    · go_wp2_with fail
      go_meet
      exact ⟨_, rfl, K⟩
  case rest =>
  clear K
  obtain ⟨b, rfl, K⟩ := hcut
  obtain ⟨w1, rfl⟩ : ∃ x, x = wc := ⟨_, rfl⟩
  go_upto_if 21 with fail
  go_cut [] (fun wr => ∃ N, DS w wr g A n cap V5 V6 #[.int .i64 s, .int .i64 l, .int .i64 c, .int .i64 sh, .slice (some ⟨q, 0, none⟩) m cap'] N q m zs)
  case first =>
    rcases b with _ | _
    · go_wp2_with fail
      go_meet
      exact ⟨_, K⟩
    · go_wp2_with fail
      obtain ⟨x4, n4⟩ := K.note.num (i := 4) (by simp [isNum])
      obtain ⟨x8, n8⟩ := K.note.num (i := 8) (by simp [isNum])
      obtain ⟨x9, n9⟩ := K.note.num (i := 9) (by simp [isNum])
      obtain ⟨x10, n10⟩ := K.note.num (i := 10) (by simp [isNum])
      refine wp_region_sink 11 (fun w' => Box w' V5 26 #[.int .i64 s, .int .i64 l, .int .i64 c, .int .i64 sh, .slice (some ⟨q, 0, none⟩) m cap'] ∧ w'.cell? ⟨V6, 4, none⟩ = some (.int .i64 x4) ∧ w'.cell? ⟨V6, 8, none⟩ = some (.int .i64 x8) ∧ w'.cell? ⟨V6, 9, none⟩ = some (.int .i64 x9) ∧ w'.cell? ⟨V6, 10, none⟩ = some (.int .i64 x10)) (by kernel_rfl) ⟨K.gb, (K.nb.cell 4).trans n4, (K.nb.cell 8).trans n8, (K.nb.cell 9).trans n9, (K.nb.cell 10).trans n10⟩ (fun hH => ?_)
      replace K := K.later ((Below.refl w1.heap.size w1).drew)
      generalize w1.drew = w2 at K hH ⊢
      refine wpAnyE_takeS (i := 0) (v := .agg #[.int .i64 s, .int .i64 l, .int .i64 c, .int .i64 sh, .slice (some ⟨q, 0, none⟩) m cap']) (by simp only [List.getElem?_toArray, List.getElem?_cons_zero]; rfl) (by kernel_rfl) (by kernel_rfl) (by kernel_rfl) (by exact fun _ _ _ h => h) (by kernel_rfl) ?ya0 hH ?_
      case ya0 => exact yields_box 26 _ rfl V5 rfl 26 #[.int .i64 s, .int .i64 l, .int .i64 c, .int .i64 sh, .slice (some ⟨q, 0, none⟩) m cap'] (fun _ h => h.1) _ Tryz.underlying26 rfl gi.out (by first | rfl | simp [Region.wanted, yielded] | (simp [Region.wanted, yielded, Act.put] <;> omega))
      try simp only [Act.put, List.setIfInBounds_toArray, List.set_cons_zero, List.set_cons_succ]
      refine wpAnyE_pure (i := 1) (v := ?va1) (by simp only [List.getElem?_toArray, List.getElem?_cons_succ, List.getElem?_cons_zero]; rfl) (by kernel_rfl) (by kernel_rfl) (by kernel_rfl) (by exact fun _ _ _ h => h) (by kernel_rfl) (Or.inl ⟨by rfl, ?ya1⟩) hH ?ra1
      case ya1 => (intro w' hSw; (try dsimp only at hSw); go_simp; try with_reducible rfl)
      try simp only [Act.put, List.setIfInBounds_toArray, List.set_cons_zero, List.set_cons_succ]
      refine wpAnyE_takeS (i := 2) (v := ?va2) (by simp only [List.getElem?_toArray, List.getElem?_cons_succ, List.getElem?_cons_zero]; rfl) (by kernel_rfl) (by kernel_rfl) (by kernel_rfl) (by exact fun _ _ _ h => h) (by kernel_rfl) (Or.inl ⟨by rfl, ?ya2⟩) hH ?ra2
      case ya2 => (intro w' hSw; (try dsimp only at hSw); obtain ⟨hbx, s1, s2, s3, s4⟩ := hSw; go_simp; try with_reducible rfl)
      try simp only [Act.put, List.setIfInBounds_toArray, List.set_cons_zero, List.set_cons_succ]
      refine wpAnyE_pure (i := 3) (v := ?va3) (by simp only [List.getElem?_toArray, List.getElem?_cons_succ, List.getElem?_cons_zero]; rfl) (by kernel_rfl) (by kernel_rfl) (by kernel_rfl) (by exact fun _ _ _ h => h) (by kernel_rfl) (Or.inl ⟨by rfl, ?ya3⟩) hH ?ra3
      case ya3 => (intro w' hSw; (try dsimp only at hSw); go_simp; try with_reducible rfl)
      try simp only [Act.put, List.setIfInBounds_toArray, List.set_cons_zero, List.set_cons_succ]
      refine wpAnyE_takeS (i := 4) (v := ?va4) (by simp only [List.getElem?_toArray, List.getElem?_cons_succ, List.getElem?_cons_zero]; rfl) (by kernel_rfl) (by kernel_rfl) (by kernel_rfl) (by exact fun _ _ _ h => h) (by kernel_rfl) (Or.inl ⟨by rfl, ?ya4⟩) hH ?ra4
      case ya4 => (intro w' hSw; (try dsimp only at hSw); obtain ⟨hbx, s1, s2, s3, s4⟩ := hSw; go_simp; try with_reducible rfl)
      try simp only [Act.put, List.setIfInBounds_toArray, List.set_cons_zero, List.set_cons_succ]
      refine wpAnyE_pure (i := 5) (v := ?va5) (by simp only [List.getElem?_toArray, List.getElem?_cons_succ, List.getElem?_cons_zero]; rfl) (by kernel_rfl) (by kernel_rfl) (by kernel_rfl) (by exact fun _ _ _ h => h) (by kernel_rfl) (Or.inl ⟨by rfl, ?ya5⟩) hH ?ra5
      case ya5 => (intro w' hSw; (try dsimp only at hSw); go_simp; try with_reducible rfl)
      try simp only [Act.put, List.setIfInBounds_toArray, List.set_cons_zero, List.set_cons_succ]
      refine wpAnyE_takeS (i := 6) (v := ?va6) (by simp only [List.getElem?_toArray, List.getElem?_cons_succ, List.getElem?_cons_zero]; rfl) (by kernel_rfl) (by kernel_rfl) (by kernel_rfl) (by exact fun _ _ _ h => h) (by kernel_rfl) (Or.inl ⟨by rfl, ?ya6⟩) hH ?ra6
      case ya6 => (intro w' hSw; (try dsimp only at hSw); obtain ⟨hbx, s1, s2, s3, s4⟩ := hSw; go_simp; try with_reducible rfl)
      try simp only [Act.put, List.setIfInBounds_toArray, List.set_cons_zero, List.set_cons_succ]
      refine wpAnyE_one (i := 7) (by kernel_rfl) (by simp only [List.getElem?_toArray, List.getElem?_cons_succ, List.getElem?_cons_zero]; rfl) (fun K' hK => ?_)
      go_simp
      refine (l4Ready_is x4 x8 x9 x10 _).mono ?_
      rintro e w3 ⟨rfl, hb⟩
      replace K := K.later hb
      clear hb
      clear hH
      refine hK.out _ _ ⟨K.gb, (K.nb.cell 4).trans n4, (K.nb.cell 8).trans n8, (K.nb.cell 9).trans n9, (K.nb.cell 10).trans n10⟩ (fun hH => ?_)
      clear hK K'
      try simp only [Act.put, List.setIfInBounds_toArray, List.set_cons_zero, List.set_cons_succ]
      refine wpAnyE_one (i := 8) (by kernel_rfl) (by simp only [List.getElem?_toArray, List.getElem?_cons_succ, List.getElem?_cons_zero]; rfl) (fun K' hK => ?_)
      go_simp
      refine (l4Cert_any s l c sh _ m cap' zs 1 x4 x8 x9 x10 w3 (by unfold maxLen; omega) K.row.1).mono ?_
      rintro e w4 ⟨p, pc, ps, rfl, how, hpl, hb⟩
      have hsv : Seals w4 (Aw w.heap.size V5 V6 V6) 20 (.slice (some ⟨p, 0, none⟩) ps.length pc) := ⟨_, _, _, ps, rfl, hpl, own_pairs how, fun _ b o e => by
          injection e with e
          injection e with e
          subst e
          have h1 := (how.lt p rfl).1
          have h2 := K.nb.lt
          have h3 := K.o5
          have h4 := K.o6
          exact ⟨by omega, by omega, by omega, by omega⟩⟩
      replace K := K.later hb
      clear hb how
      have K9 := K.cert hsv
      have f := K.nb.frozen
      obtain ⟨cv9, c9⟩ : ∃ u, w4.cell? ⟨V6, 11, none⟩ = some u := by rw [K.nb.cell]; exact ⟨_, Array.getElem?_eq_getElem (by rw [K.note.size.1]; omega)⟩
      clear hH
      refine hK.out _ _ ⟨K.gb, (K.nb.cell 4).trans n4, (K.nb.cell 8).trans n8, (K.nb.cell 9).trans n9, (K.nb.cell 10).trans n10⟩ (fun hH => ?_)
      clear hK K'
      try simp only [Act.put, List.setIfInBounds_toArray, List.set_cons_zero, List.set_cons_succ]
      refine wpAnyE_pure (i := 9) (v := ?va9) (by simp only [List.getElem?_toArray, List.getElem?_cons_succ, List.getElem?_cons_zero]; rfl) (by kernel_rfl) (by kernel_rfl) (by kernel_rfl) (by exact fun _ _ _ h => h) (by kernel_rfl) (Or.inl ⟨by rfl, ?ya9⟩) hH ?ra9
      case ya9 => (intro w' hSw; (try dsimp only at hSw); go_simp; try with_reducible rfl)
      try simp only [Act.put, List.setIfInBounds_toArray, List.set_cons_zero, List.set_cons_succ]
      refine wpAnyE_end (i := 10) (by kernel_rfl) (by simp only [List.getElem?_toArray, List.getElem?_cons_succ, List.getElem?_cons_zero]; rfl) (by kernel_rfl) (fun K' hK => ?_)
      go_simp
      refine hK.out _ _ ⟨K9.gb, (K9.nb.cell 4).trans ((set_else (by omega)).trans n4), (K9.nb.cell 8).trans ((set_else (by omega)).trans n8), (K9.nb.cell 9).trans ((set_else (by omega)).trans n9), (K9.nb.cell 10).trans ((set_else (by omega)).trans n10)⟩ ?_
      clear hK K'
      try simp only [Act.put, List.setIfInBounds_toArray, List.set_cons_zero, List.set_cons_succ]
      clear K hH hsv f c9 n4 n8 n9 n10
      go_wp2_with fail
      go_meet
      exact ⟨_, K9⟩
  case rest =>
  clear K N
  obtain ⟨N, K⟩ := hcut
  obtain ⟨w1, rfl⟩ : ∃ x, x = wc := ⟨_, rfl⟩
  go_wp2_with fail
  refine (l1Once_any g A n cap 4 w1 (by omega) K.cur).mono ?_
  rintro e w2 ⟨b, rfl, hcN, hgN⟩
  replace K := K.draw hgN hcN
  clear hcN hgN
  obtain ⟨w1, rfl⟩ : ∃ x, x = w2 := ⟨_, rfl⟩
  go_upto_if 34 with fail
  go_cut [] (fun wr => ∃ N, DS w wr g A n cap V5 V6 #[.int .i64 s, .int .i64 l, .int .i64 c, .int .i64 sh, .slice (some ⟨q, 0, none⟩) m cap'] N q m zs)
  case first =>
    rcases b with _ | _
    · obtain ⟨x8, n8⟩ := K.note.num (i := 8) (by simp [isNum])
      obtain ⟨x9, n9⟩ := K.note.num (i := 9) (by simp [isNum])
      obtain ⟨x1, n1⟩ := K.note.num (i := 1) (by simp [isNum])
      have cN := K.nb.cell
      go_wp2_with fail
      refine (specNext_any x8 x9 x1 w1).mono ?_
      rintro e w2 ⟨rfl, hb⟩
      unfold nxV
      replace K := K.later hb
      clear hb cN n8 n9 n1
      obtain ⟨x5, n5⟩ := K.note.num (i := 5) (by simp [isNum])
      obtain ⟨x6, n6⟩ := K.note.num (i := 6) (by simp [isNum])
      have cN := K.nb.cell
      have fr := K.nb.frozen
      have K9 := (K.num (i := 5) (by simp [isNum]) (nxC x8 x9 x1)).num (i := 6) (by simp [isNum]) (nxK x8 x9 x1)
      clear K
      go_wp2_with fail
      go_meet
      exact ⟨_, K9⟩
    · go_wp2_with fail
      go_meet
      exact ⟨_, K⟩
  case rest =>
  clear K N
  obtain ⟨N, K⟩ := hcut
  obtain ⟨w1, rfl⟩ : ∃ x, x = wc := ⟨_, rfl⟩
  go_wp2_with fail
  refine (l1Once_any g A n cap 2 w1 (by omega) K.cur).mono ?_
  rintro e w2 ⟨b, rfl, hcN, hgN⟩
  replace K := K.draw hgN hcN
  clear hcN hgN
  obtain ⟨w1, rfl⟩ : ∃ x, x = w2 := ⟨_, rfl⟩
  go_upto_if 45 with fail
  go_cut [] (fun wr => ∃ N, DS w wr g A n cap V5 V6 #[.int .i64 s, .int .i64 l, .int .i64 c, .int .i64 sh, .slice (some ⟨q, 0, none⟩) m cap'] N q m zs)
  case first =>
    rcases b with _ | _
    · go_wp2_with fail
      go_meet
      exact ⟨_, K⟩
    · go_wp2_with fail
      obtain ⟨x4, n4⟩ := K.note.num (i := 4) (by simp [isNum])
      obtain ⟨x13, n13⟩ := K.note.num (i := 13) (by simp [isNum])
      obtain ⟨x14, n14⟩ := K.note.num (i := 14) (by simp [isNum])
      obtain ⟨x15, n15⟩ := K.note.num (i := 15) (by simp [isNum])
      refine wp_region_sink 11 (fun w' => Box w' V5 26 #[.int .i64 s, .int .i64 l, .int .i64 c, .int .i64 sh, .slice (some ⟨q, 0, none⟩) m cap'] ∧ w'.cell? ⟨V6, 4, none⟩ = some (.int .i64 x4) ∧ w'.cell? ⟨V6, 13, none⟩ = some (.int .i64 x13) ∧ w'.cell? ⟨V6, 14, none⟩ = some (.int .i64 x14) ∧ w'.cell? ⟨V6, 15, none⟩ = some (.int .i64 x15)) (by kernel_rfl) ⟨K.gb, (K.nb.cell 4).trans n4, (K.nb.cell 13).trans n13, (K.nb.cell 14).trans n14, (K.nb.cell 15).trans n15⟩ (fun hH => ?_)
      replace K := K.later ((Below.refl w1.heap.size w1).drew)
      generalize w1.drew = w2 at K hH ⊢
      refine wpAnyE_takeS (i := 0) (v := .agg #[.int .i64 s, .int .i64 l, .int .i64 c, .int .i64 sh, .slice (some ⟨q, 0, none⟩) m cap']) (by simp only [List.getElem?_toArray, List.getElem?_cons_zero]; rfl) (by kernel_rfl) (by kernel_rfl) (by kernel_rfl) (by exact fun _ _ _ h => h) (by kernel_rfl) ?yb0 hH ?_
      case yb0 => exact yields_box 26 _ rfl V5 rfl 26 #[.int .i64 s, .int .i64 l, .int .i64 c, .int .i64 sh, .slice (some ⟨q, 0, none⟩) m cap'] (fun _ h => h.1) _ Tryz.underlying26 rfl gi.out (by first | rfl | simp [Region.wanted, yielded] | (simp [Region.wanted, yielded, Act.put] <;> omega))
      try simp only [Act.put, List.setIfInBounds_toArray, List.set_cons_zero, List.set_cons_succ]
      refine wpAnyE_pure (i := 1) (v := ?vb1) (by simp only [List.getElem?_toArray, List.getElem?_cons_succ, List.getElem?_cons_zero]; rfl) (by kernel_rfl) (by kernel_rfl) (by kernel_rfl) (by exact fun _ _ _ h => h) (by kernel_rfl) (Or.inl ⟨by rfl, ?yb1⟩) hH ?rb1
      case yb1 => (intro w' hSw; (try dsimp only at hSw); go_simp; try with_reducible rfl)
      try simp only [Act.put, List.setIfInBounds_toArray, List.set_cons_zero, List.set_cons_succ]
      refine wpAnyE_takeS (i := 2) (v := ?vb2) (by simp only [List.getElem?_toArray, List.getElem?_cons_succ, List.getElem?_cons_zero]; rfl) (by kernel_rfl) (by kernel_rfl) (by kernel_rfl) (by exact fun _ _ _ h => h) (by kernel_rfl) (Or.inl ⟨by rfl, ?yb2⟩) hH ?rb2
      case yb2 => (intro w' hSw; (try dsimp only at hSw); obtain ⟨hbx, s1, s2, s3, s4⟩ := hSw; go_simp; try with_reducible rfl)
      try simp only [Act.put, List.setIfInBounds_toArray, List.set_cons_zero, List.set_cons_succ]
      refine wpAnyE_pure (i := 3) (v := ?vb3) (by simp only [List.getElem?_toArray, List.getElem?_cons_succ, List.getElem?_cons_zero]; rfl) (by kernel_rfl) (by kernel_rfl) (by kernel_rfl) (by exact fun _ _ _ h => h) (by kernel_rfl) (Or.inl ⟨by rfl, ?yb3⟩) hH ?rb3
      case yb3 => (intro w' hSw; (try dsimp only at hSw); go_simp; try with_reducible rfl)
      try simp only [Act.put, List.setIfInBounds_toArray, List.set_cons_zero, List.set_cons_succ]
      refine wpAnyE_takeS (i := 4) (v := ?vb4) (by simp only [List.getElem?_toArray, List.getElem?_cons_succ, List.getElem?_cons_zero]; rfl) (by kernel_rfl) (by kernel_rfl) (by kernel_rfl) (by exact fun _ _ _ h => h) (by kernel_rfl) (Or.inl ⟨by rfl, ?yb4⟩) hH ?rb4
      case yb4 => (intro w' hSw; (try dsimp only at hSw); obtain ⟨hbx, s1, s2, s3, s4⟩ := hSw; go_simp; try with_reducible rfl)
      try simp only [Act.put, List.setIfInBounds_toArray, List.set_cons_zero, List.set_cons_succ]
      refine wpAnyE_pure (i := 5) (v := ?vb5) (by simp only [List.getElem?_toArray, List.getElem?_cons_succ, List.getElem?_cons_zero]; rfl) (by kernel_rfl) (by kernel_rfl) (by kernel_rfl) (by exact fun _ _ _ h => h) (by kernel_rfl) (Or.inl ⟨by rfl, ?yb5⟩) hH ?rb5
      case yb5 => (intro w' hSw; (try dsimp only at hSw); go_simp; try with_reducible rfl)
      try simp only [Act.put, List.setIfInBounds_toArray, List.set_cons_zero, List.set_cons_succ]
      refine wpAnyE_takeS (i := 6) (v := ?vb6) (by simp only [List.getElem?_toArray, List.getElem?_cons_succ, List.getElem?_cons_zero]; rfl) (by kernel_rfl) (by kernel_rfl) (by kernel_rfl) (by exact fun _ _ _ h => h) (by kernel_rfl) (Or.inl ⟨by rfl, ?yb6⟩) hH ?rb6
      case yb6 => (intro w' hSw; (try dsimp only at hSw); obtain ⟨hbx, s1, s2, s3, s4⟩ := hSw; go_simp; try with_reducible rfl)
      try simp only [Act.put, List.setIfInBounds_toArray, List.set_cons_zero, List.set_cons_succ]
      refine wpAnyE_one (i := 7) (by kernel_rfl) (by simp only [List.getElem?_toArray, List.getElem?_cons_succ, List.getElem?_cons_zero]; rfl) (fun K' hK => ?_)
      go_simp
      refine (l4Wrote_is x4 x13 x14 x15 _).mono ?_
      rintro e w3 ⟨rfl, hb⟩
      replace K := K.later hb
      clear hb
      clear hH
      refine hK.out _ _ ⟨K.gb, (K.nb.cell 4).trans n4, (K.nb.cell 13).trans n13, (K.nb.cell 14).trans n14, (K.nb.cell 15).trans n15⟩ (fun hH => ?_)
      clear hK K'
      try simp only [Act.put, List.setIfInBounds_toArray, List.set_cons_zero, List.set_cons_succ]
      refine wpAnyE_one (i := 8) (by kernel_rfl) (by simp only [List.getElem?_toArray, List.getElem?_cons_succ, List.getElem?_cons_zero]; rfl) (fun K' hK => ?_)
      go_simp
      refine (l4Cert_any s l c sh _ m cap' zs 2 x4 x13 x14 x15 w3 (by unfold maxLen; omega) K.row.1).mono ?_
      rintro e w4 ⟨p, pc, ps, rfl, how, hpl, hb⟩
      have hsv : Seals w4 (Aw w.heap.size V5 V6 V6) 20 (.slice (some ⟨p, 0, none⟩) ps.length pc) := ⟨_, _, _, ps, rfl, hpl, own_pairs how, fun _ b o e => by
          injection e with e
          injection e with e
          subst e
          have h1 := (how.lt p rfl).1
          have h2 := K.nb.lt
          have h3 := K.o5
          have h4 := K.o6
          exact ⟨by omega, by omega, by omega, by omega⟩⟩
      replace K := K.later hb
      clear hb how
      have K9 := K.more hsv
      have f := K.nb.frozen
      obtain ⟨cv9, c9⟩ : ∃ u, w4.cell? ⟨V6, 12, none⟩ = some u := by rw [K.nb.cell]; exact ⟨_, Array.getElem?_eq_getElem (by rw [K.note.size.1]; omega)⟩
      clear hH
      refine hK.out _ _ ⟨K.gb, (K.nb.cell 4).trans n4, (K.nb.cell 13).trans n13, (K.nb.cell 14).trans n14, (K.nb.cell 15).trans n15⟩ (fun hH => ?_)
      clear hK K'
      try simp only [Act.put, List.setIfInBounds_toArray, List.set_cons_zero, List.set_cons_succ]
      refine wpAnyE_pure (i := 9) (v := ?vb9) (by simp only [List.getElem?_toArray, List.getElem?_cons_succ, List.getElem?_cons_zero]; rfl) (by kernel_rfl) (by kernel_rfl) (by kernel_rfl) (by exact fun _ _ _ h => h) (by kernel_rfl) (Or.inl ⟨by rfl, ?yb9⟩) hH ?rb9
      case yb9 => (intro w' hSw; (try dsimp only at hSw); go_simp; try with_reducible rfl)
      try simp only [Act.put, List.setIfInBounds_toArray, List.set_cons_zero, List.set_cons_succ]
      refine wpAnyE_end (i := 10) (by kernel_rfl) (by simp only [List.getElem?_toArray, List.getElem?_cons_succ, List.getElem?_cons_zero]; rfl) (by kernel_rfl) (fun K' hK => ?_)
      go_simp
      refine hK.out _ _ ⟨K9.gb, (K9.nb.cell 4).trans ((set_else (by omega)).trans n4), (K9.nb.cell 13).trans ((set_else (by omega)).trans n13), (K9.nb.cell 14).trans ((set_else (by omega)).trans n14), (K9.nb.cell 15).trans ((set_else (by omega)).trans n15)⟩ ?_
      clear hK K'
      try simp only [Act.put, List.setIfInBounds_toArray, List.set_cons_zero, List.set_cons_succ]
      clear K hH hsv f c9 n4 n13 n14 n15
      go_wp2_with fail
      go_meet
      exact ⟨_, K9⟩
  case rest =>
  clear K N
  obtain ⟨N, K⟩ := hcut
  obtain ⟨w1, rfl⟩ : ∃ x, x = wc := ⟨_, rfl⟩
  -- the shelf
  obtain ⟨x4, n4⟩ := K.note.num (i := 4) (by simp [isNum])
  have cN := K.nb.cell
  go_wp2_with (refine wpList_load_box 26 _ rfl V5 rfl 26 _ K.gb _ Tryz.underlying26 rfl gi.out (by first | rfl | simp [Region.wanted, yielded] | (simp [Region.wanted, yielded, Act.put] <;> omega)) ?_)
  refine (l7Draw_any g A n cap s l c sh q 0 m cap' zs x4 w1 (by unfold maxLen; omega) (by omega) (by omega) (by omega) (by omega) K.cur K.row.1 (by have := K.hg; omega)).mono ?_
  rintro e w2 ⟨a, b, d, u, v, ps, os, rfl, hps, hos, ou, ov, -, hcN, hgN⟩
  have hrs := regS_own (a := a) (b := b) (d := d) ou ov (by omega) (by omega)
  obtain ⟨A3, c3, rfl⟩ := own_form ou
  obtain ⟨A4, c4, rfl⟩ := own_form ov
  have hsz := K.nb.lt
  have h5 := K.o5
  have h6 := K.o6
  replace K := K.draw hgN hcN
  have L := K.shelf hml (keepsRS.sub hrs fun x hx => ⟨by omega, by omega, by omega, by omega⟩)
  clear K cN n4 hrs ou ov hcN hgN hsz h5 h6
  go_upto_region 10 with fail
  generalize (w2.alloc _ : World) = w3 at L ⊢
  generalize w2.heap.size = V7 at L ⊢
  generalize (#[.int .i64 s, .int .i64 l, .int .i64 c, .int .i64 sh, .slice (some ⟨q, 0, none⟩) m cap'] : Array Value) = G at L
  generalize (#[.int .i64 a, .int .i64 b, .int .i64 d, .slice A3 ps.length c3, .slice A4 os.length c4] : Array Value) = R at L
  obtain ⟨w1, rfl⟩ : ∃ x, x = w3 := ⟨_, rfl⟩
  have K := L
  clear L gi hml hps hos hok hs6 hc3 ok1 ok2
  go_wp2_with fail
  refine (l1Once_any g A n cap 12 w1 (by omega) K.cur).mono ?_
  rintro e w2 ⟨b, rfl, hcN, hgN⟩
  replace K := K.draw hgN hcN
  clear hcN hgN
  obtain ⟨w1, rfl⟩ : ∃ x, x = w2 := ⟨_, rfl⟩
  go_upto_if 62 with fail
  go_cut [] (fun wr => ∃ G N, DT w wr g A n cap V5 V6 V7 G N R)
  case first =>
    rcases b with _ | _
    · go_wp2_with fail
      go_meet
      exact ⟨_, _, K⟩
    · go_wp2_with fail
      refine (l5DrawAny_any g A n cap w1 K.cur).mono ?_
      rintro e w2 ⟨s, l, c, sh, q, o, m, cap', zs, N', cv, mv, rfl, hrow, hm, hql, hsh, hl1, hl2, hcN, hgN⟩
      have hsz := K.rb.lt
      have h5 := K.o5
      have h6 := K.o6
      have h7 := K.o7
      replace K := K.draw hgN hcN
      have hns : NoteS w2 (Aw w.heap.size V5 V6 V7) (.agg N') := ⟨N', cv, mv, rfl, hsh, hl1.seals.sub fun b hb => ⟨by omega, by omega, by omega, by omega⟩, hl2.seals.sub fun b hb => ⟨by omega, by omega, by omega, by omega⟩⟩
      have hgs : GrpS w2 (Aw w.heap.size V5 V6 V7) (.agg #[.int .i64 s, .int .i64 l, .int .i64 c, .int .i64 sh, .slice (some ⟨q, o, none⟩) m cap']) := ⟨⟨s, l, c, sh, zs⟩, ⟨_, m, _, rfl, by unfold maxLen; omega, hrow, fun _ b o e => by injection e with e; injection e with e; subst e; exact ⟨by omega, by omega, by omega, by omega⟩⟩, by show zs.length ≤ 100; rw [hrow.1]; exact hm⟩
      have K2 := K.putG hgs
      have K3 := K2.putN (keepsNS.turn hns (turns_setRow w2 V5 _) (fun b hb e => hb.2.1 e))
      have O1 := Lib.hid hgs.one
      have O2 := Lib.hid hns.size
      have P1 := Lib.hid K.grp.one
      have P2 := Lib.hid K.note.size
      clear hns hgs hrow hsh hl1 hl2 hcN hgN
      go_wp2_with (first | (refine wpList_store_row rfl 26 _ _ rfl V5 _ rfl rfl 26 _ K.gb O1.out.2 (P1.out.1.1.trans O1.out.1.1.symm) O1.out.1.2 ?_) | (refine wpList_store_row rfl 85 _ _ rfl V6 _ rfl rfl 85 _ K2.nb O2.out.2.1 (P2.out.1.trans O2.out.1.symm) O2.out.2.2 ?_))
      go_meet
      exact ⟨_, _, K3⟩
  case rest =>
  clear K G N
  obtain ⟨G, N, K⟩ := hcut
  obtain ⟨w1, rfl⟩ : ∃ x, x = wc := ⟨_, rfl⟩
  go_wp2_with fail
  refine (l1Once_any g A n cap 20 w1 (by omega) K.cur).mono ?_
  rintro e w2 ⟨b, rfl, hcN, hgN⟩
  replace K := K.draw hgN hcN
  clear hcN hgN
  obtain ⟨w1, rfl⟩ : ∃ x, x = w2 := ⟨_, rfl⟩
  go_upto_if 69 with fail
  go_cut [] (fun wr => ∃ G R, DT w wr g A n cap V5 V6 V7 G N R)
  case first =>
    rcases b with _ | _
    · go_wp2_with fail
      go_meet
      exact ⟨_, _, K⟩
    · go_wp2_with fail
      refine (l7DrawAny_any g A n cap w1 K.cur).mono ?_
      rintro e w2 ⟨s, l, c, sh, q, m, cap', zs, x, a, b, d, u, v, ps, os, rfl, hok, hs6, hc3, hm, hql, hrow, hps, hos, ou, ov, hcN, hgN⟩
      have hsz := K.rb.lt
      have h5 := K.o5
      have h6 := K.o6
      have h7 := K.o7
      replace K := K.draw hgN hcN
      have hrs : RegS w2 (Aw w.heap.size V5 V6 V7) (.agg #[.int .i64 a, .int .i64 b, .int .i64 d, u, v]) := keepsRS.sub (regS_own ou ov hps hos) fun b hb => ⟨by omega, by omega, by omega, by omega⟩
      obtain ⟨A3, c3, rfl⟩ := own_form ou
      obtain ⟨A4, c4, rfl⟩ := own_form ov
      have hgs : GrpS w2 (Aw w.heap.size V5 V6 V7) (.agg #[.int .i64 s, .int .i64 l, .int .i64 c, .int .i64 sh, .slice (some ⟨q, 0, none⟩) m cap']) := ⟨⟨s, l, c, sh, zs⟩, ⟨_, m, _, rfl, by unfold maxLen; omega, hrow, fun _ b o e => by injection e with e; injection e with e; subst e; exact ⟨by omega, by omega, by omega, by omega⟩⟩, by show zs.length ≤ 100; rw [hrow.1]; exact hm⟩
      have K2 := K.putG hgs
      have K3 := K2.putR (keepsRS.turn hrs (turns_setRow w2 V5 _) (fun b hb e => hb.2.1 e))
      have O1 := Lib.hid hgs.one
      have O2 := Lib.hid hrs.one
      have P1 := Lib.hid K.grp.one
      have P2 := Lib.hid K.reg.one
      clear hrs hgs hrow ou ov hcN hgN hok
      go_wp2_with (first | (refine wpList_store_row rfl 26 _ _ rfl V5 _ rfl rfl 26 _ K.gb O1.out.2 (P1.out.1.1.trans O1.out.1.1.symm) O1.out.1.2 ?_) | (refine wpList_store_row rfl 80 _ _ rfl V7 _ rfl rfl 80 _ K2.rb O2.out.2 (P2.out.1.1.trans O2.out.1.1.symm) O2.out.1.2 ?_))
      go_meet
      exact ⟨_, _, K3⟩
  case rest =>
  clear K G R
  obtain ⟨G, R, K⟩ := hcut
  obtain ⟨w1, rfl⟩ : ∃ x, x = wc := ⟨_, rfl⟩
  go_upto_region 14 with fail
  have h5 := K.o5
  have h6 := K.o6
  have h7 := K.o7
  have IG := Lib.hid K.grp.one
  have IN := Lib.hid K.note.size
  have IR := Lib.hid K.reg.one
  refine wp_region_sink 6 (fun w' => Box w' V5 26 G ∧ Box w' V7 80 R ∧ Box w' V6 85 N) (by kernel_rfl) ⟨K.gb, K.rb, K.nb⟩ (fun hH => ?_)
  replace K : DT w w1.drew g A n cap V5 V6 V7 G N R := K.later ((Below.refl w1.heap.size w1).drew)
  generalize w1.drew = w2 at K hH ⊢
  refine wpAnyE_takeS (i := 0) (v := .agg G) (by simp only [List.getElem?_toArray, List.getElem?_cons_zero]; rfl) (by kernel_rfl) (by kernel_rfl) (by kernel_rfl) (by exact fun _ _ _ h => h) (by kernel_rfl) ?yz0 hH ?_
  case yz0 => exact yields_box 26 _ rfl (V5) rfl 26 G (fun _ h => h.1) _ Tryz.underlying26 rfl IG.out.2 (by first | rfl | simp [Region.wanted, yielded] | (simp [Region.wanted, yielded, Act.put] <;> omega))
  try simp only [Act.put, List.setIfInBounds_toArray, List.set_cons_zero, List.set_cons_succ]
  refine wpAnyE_takeS (i := 1) (v := .agg R) (by simp only [List.getElem?_toArray, List.getElem?_cons_succ, List.getElem?_cons_zero]; rfl) (by kernel_rfl) (by kernel_rfl) (by kernel_rfl) (by exact fun _ _ _ h => h) (by kernel_rfl) ?yz1 hH ?_
  case yz1 => exact yields_box 80 _ rfl (V7) rfl 80 R (fun _ h => h.2.1) _ Tryz.underlying80 rfl IR.out.2 (by first | rfl | simp [Region.wanted, yielded] | (simp [Region.wanted, yielded, Act.put] <;> omega))
  try simp only [Act.put, List.setIfInBounds_toArray, List.set_cons_zero, List.set_cons_succ]
  refine wpAnyE_takeS (i := 2) (v := .agg N) (by simp only [List.getElem?_toArray, List.getElem?_cons_succ, List.getElem?_cons_zero]; rfl) (by kernel_rfl) (by kernel_rfl) (by kernel_rfl) (by exact fun _ _ _ h => h) (by kernel_rfl) ?yz2 hH ?_
  case yz2 => exact yields_box 85 _ rfl (V6) rfl 85 N (fun _ h => h.2.2) _ Tryz.underlying85 rfl IN.out.2.1 (by first | rfl | simp [Region.wanted, yielded] | (simp [Region.wanted, yielded, Act.put] <;> omega))
  try simp only [Act.put, List.setIfInBounds_toArray, List.set_cons_zero, List.set_cons_succ]
  have t1 := turns_setRow w2 w.heap.size G
  have t2 := turns_setRow (w2.setRow w.heap.size G) (w.heap.size + 1) R
  have t3 := turns_setRow ((w2.setRow w.heap.size G).setRow (w.heap.size + 1) R) (w.heap.size + 1 + 1) N
  have a1 := K.gb.turn t1 (by omega)
  have a2 := K.rb.turn t1 (by omega)
  have a3 := K.nb.turn t1 (by omega)
  have b1 := a1.turn t2 (by omega)
  have b2 := a2.turn t2 (by omega)
  have b3 := a3.turn t2 (by omega)
  have c1 := b1.turn t3 (by omega)
  have c2 := b2.turn t3 (by omega)
  have c3 := b3.turn t3 (by omega)
  have x2 := K.r2
  have x3 := K.r3.turn t1 (by omega)
  have x4 := (K.r4.turn t1 (by omega)).turn t2 (by omega)
  have y2 := ((K.r2.setRow G).turn t2 (by omega)).turn t3 (by omega)
  have y3 := (x3.setRow R).turn t3 (by omega)
  have y4 := x4.setRow N
  refine wpAnyE_one (i := 3) (by kernel_rfl) (by simp only [List.getElem?_toArray, List.getElem?_cons_succ, List.getElem?_cons_zero]; rfl) (fun K' hK => ?_)
  rw [if_pos (by first | rfl | kernel_rfl | simp [Region.wanted, yielded])]
  refine wp_store_row 26 _ _ rfl (w.heap.size) _ rfl rfl 26 _ x2 IG.out.2 IG.out.1.1.symm IG.out.1.2 ?_
  clear hH
  refine hK.out _ _ ⟨a1, a2, a3⟩ (fun hH => ?_)
  clear hK K'
  try simp only [Act.put]
  refine wpAnyE_one (i := 4) (by kernel_rfl) (by simp only [List.getElem?_toArray, List.getElem?_cons_succ, List.getElem?_cons_zero]; rfl) (fun K' hK => ?_)
  rw [if_pos (by first | rfl | kernel_rfl | simp [Region.wanted, yielded])]
  refine wp_store_row 80 _ _ rfl (w.heap.size + 1) _ rfl rfl 80 _ x3 IR.out.2 IR.out.1.1.symm IR.out.1.2 ?_
  clear hH
  refine hK.out _ _ ⟨b1, b2, b3⟩ (fun hH => ?_)
  clear hK K'
  try simp only [Act.put]
  refine wpAnyE_end (i := 5) (by kernel_rfl) (by simp only [List.getElem?_toArray, List.getElem?_cons_succ, List.getElem?_cons_zero]; rfl) (by kernel_rfl) (fun K' hK => ?_)
  rw [if_pos (by first | rfl | kernel_rfl | simp [Region.wanted, yielded])]
  refine wp_store_row 85 _ _ rfl (w.heap.size + 1 + 1) _ rfl rfl 85 _ x4 IN.out.2.1 IN.out.1.symm IN.out.2.2 ?_
  refine hK.out _ _ ⟨c1, c2, c3⟩ ?_
  clear hK K'
  try simp only [Act.put]
  have g0 : ∀ b, Aw w.heap.size V5 V6 V7 b → ¬ b = w.heap.size := fun b hb e => by have := hb.1; omega
  have g1 : ∀ b, Aw w.heap.size V5 V6 V7 b → ¬ b = w.heap.size + 1 := fun b hb e => by have := hb.1; omega
  have g2 : ∀ b, Aw w.heap.size V5 V6 V7 b → ¬ b = w.heap.size + 1 + 1 := fun b hb e => by have := hb.1; omega
  have z1 := keepsGS.sub (keepsGS.turn (keepsGS.turn (keepsGS.turn K.grp t1 g0) t2 g1) t3 g2) (F' := (w.heap.size + 2 < ·)) (fun b hb => hb.1)
  have z2 := keepsRS.sub (keepsRS.turn (keepsRS.turn (keepsRS.turn K.reg t1 g0) t2 g1) t3 g2) (F' := (w.heap.size + 2 < ·)) (fun b hb => hb.1)
  have z3 := keepsNS.sub (keepsNS.turn (keepsNS.turn (keepsNS.turn K.note t1 g0) t2 g1) t3 g2) (F' := (w.heap.size + 2 < ·)) (fun b hb => hb.1)
  have hgg := K.hg
  have zc := ((K.cur.kept (turns_grown t1) (fun r hr => by injection hr with hr; omega)).kept (turns_grown t2) (fun r hr => by injection hr with hr; omega)).kept (turns_grown t3) (fun r hr => by injection hr with hr; omega)
  have zg := grown_far (grown_far (grown_far K.grw (turns_grown t1) (fun r hr => by injection hr with hr; omega)) (turns_grown t2) (fun r hr => by injection hr with hr; omega)) (turns_grown t3) (fun r hr => by injection hr with hr; omega)
  clear a1 a2 a3 b1 b2 b3 c1 c2 c3 x2 x3 x4 t1 t2 t3 g0 g1 g2 K hH
  generalize ((((w2.setRow w.heap.size G).setRow (w.heap.size + 1) R).setRow (w.heap.size + 1 + 1) N) : World) = w5 at y2 y3 y4 z1 z2 z3 zc zg ⊢
  go_wp2
  exact bodyPost_ret (v := .tuple #[.agg G, .agg R, .agg N]) (results_three (Tryz.results109) _ w5 w.heap.size (w.heap.size + 1) (w.heap.size + 1 + 1) 26 80 85 G R N _ _ _ rfl rfl rfl y2 y3 y4 Tryz.underlying26 rfl IG.out.2 Tryz.underlying80 rfl IR.out.2 Tryz.underlying85 rfl IN.out.2.1) rfl ⟨G, R, N, rfl, z1, z2, z3, zc, zg⟩

end Go.Proofs.YtjdepjpjjgkmbaaGreat
