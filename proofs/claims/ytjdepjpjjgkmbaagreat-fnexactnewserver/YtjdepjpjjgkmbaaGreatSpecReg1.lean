/- Append onto a slice of the call's own, of whatever slice (nil, empty, somewhere): one law for a plain statement and one for a step of a region that draws its order; no conditions but the sizes. -/
import Derived.Laws.AppendOwn
import Derived.Laws.AppendOwnNone
import Derived.Deep.AppendLies
import Derived.Test.YtjdepjpjjgkmbaaGreatBase
import Derived.Test.YtjdepjpjjgkmbaaGreatReg3
namespace Go.Proofs.YtjdepjpjjgkmbaaGreat
open Go.RowKit Go.Deep

/-- The slice u of m elements, 'size' cells each, holds the cells news; nil where it is nil. -/
def Src (w : World) (u : Value) (m size : Nat) (news : List Value) : Prop :=
  (u = .slice none 0 0 ∧ m = 0 ∧ news = []) ∨ ∃ (ad : Addr) (c : Nat), u = .slice (some ad) m c ∧ news.length = m * size ∧ (∀ j x, news[j]? = some x → w.cell? (ad.add j) = some x) ∧ ∀ x ∈ news, x.oneCell' = true

theorem own_lies {w : World} {base : Nat} {e : TypeId} {size : Nat} {v : Value} {n : Nat} {xs : List Value} (h : w.ownsRow base e size v n xs) (hv : v ≠ .slice none 0 0) : ∃ g cap, v = .slice (some ⟨g, 0, none⟩) n cap ∧ base ≤ g ∧ g < w.heap.size := by
  rcases h.2 with ⟨h', _⟩ | ⟨g, cap, cur, rfl, hb, hg, _⟩
  · exact absurd h' hv
  · exact ⟨g, cap, rfl, hb, (h.lt g rfl).2⟩

section
variable {P : Program} {w : World}
theorem run_append_src (base : Nat) (t ty e : TypeId) (i : TypeInfo) (z : Value) (size bytes : Nat) (ht : P.underlying t = some (.slice e)) (hi : P.info? e = some i) (hz : i.zero = some z)
    (hsize : i.size = size) (hby : i.bytes = bytes) (hzs : z.cells.size = size) (hsz : 0 < size)
    (v : Value) (n : Nat) (xs : List Value) (hown : w.ownsRow base e size v n xs) (hv : v ≠ .slice none 0 0)
    (u : Value) (m : Nat) (news : List Value) (hu : Src w u m size news) (h63 : n + m ≤ maxLen) (hbytes : (n + m) * bytes ≤ 140737488355328) (hbase : base ≤ w.heap.size) :
    ∃ g cap w', (Builtin.append_ #[t, t] ty #[v, u]).run P w = .ok (.slice (some ⟨g, 0, none⟩) (n + m) cap) w' ∧ w'.ownsRow base e size (.slice (some ⟨g, 0, none⟩) (n + m) cap) (n + m) (xs ++ news) ∧ w.grownBy w' v.ownBlock ∧ base ≤ g ∧ g < w'.heap.size := by
  rcases hu with ⟨rfl, rfl, rfl⟩ | ⟨ad, c, rfl, hl, hn, h1⟩
  · have hr := run_append_owned_none (P := P) (w := w) base t ty e i size ht hi v n xs hown
    obtain ⟨g, cap, rfl, hb, hg⟩ := own_lies hown hv
    refine ⟨g, cap, w, hr, by simpa using hown, ⟨rfl, rfl, rfl, Nat.le_refl _, fun _ _ _ => rfl⟩, hb, hg⟩
  · obtain ⟨v', w', hr, h2, h3, h4⟩ := run_append_own (P := P) w base t ty e i z size bytes ht hi hz hsize hby hzs hsz v n xs hown ad m c news hl hn h1 h63 hbytes hbase
    have hv' : v' ≠ .slice none 0 0 := fun e => hv (h4.1 e).1
    obtain ⟨g, cap, rfl, hb, hg⟩ := own_lies h2 hv'
    exact ⟨g, cap, w', hr, h2, h3, hb, hg⟩

theorem wp_append_src {o : Oper} {a : Act} {K : Act → World → Prop} {Q : Exit → Act → World → Prop} (s x : Operand) (t : TypeId)
    (ho : o.op = .call { callee := .builtin .append, args := #[s, x], argTypes := #[t, t] })
    (base : Nat) (e : TypeId) (i : TypeInfo) (z : Value) (size bytes : Nat) (ht : P.underlying t = some (.slice e)) (hi : P.info? e = some i) (hz : i.zero = some z)
    (hsize : i.size = size) (hby : i.bytes = bytes) (hzs : z.cells.size = size) (hsz : 0 < size)
    (v : Value) (n : Nat) (xs : List Value) (hs : a.eval s = v) (hown : w.ownsRow base e size v n xs) (hv : v ≠ .slice none 0 0)
    (u : Value) (m : Nat) (news : List Value) (hx : a.eval x = u) (hu : Src w u m size news) (h63 : n + m ≤ maxLen) (hbytes : (n + m) * bytes ≤ 140737488355328) (hbase : base ≤ w.heap.size)
    (h : ∀ g cap w', w'.ownsRow base e size (.slice (some ⟨g, 0, none⟩) (n + m) cap) (n + m) (xs ++ news) → w.grownBy w' v.ownBlock → base ≤ g → g < w'.heap.size → K (a.put o.dst (.slice (some ⟨g, 0, none⟩) (n + m) cap)) w') : o.wp P a w K Q := by
  obtain ⟨g, cap, w', hr, h2, h3, h4, h5⟩ := run_append_src (P := P) base t o.type e i z size bytes ht hi hz hsize hby hzs hsz v n xs hown hv u m news hu h63 hbytes hbase
  unfold Oper.wp execOp
  simp only [ho, resolve, invoke, builtin, Sem.run_bind, Sem.run_pure, Result.andThen_ok, List.map_toArray, List.map_cons, List.map_nil, hs, hx, hr]
  exact h g cap w' h2 h3 h4 h5

theorem wpList_append_src {ops : Array Oper} {rest : List Oper} {o : Oper} {a : Act} {Q : Exit → Act → World → Prop} (hgd : o.guard = none) (s x : Operand) (t : TypeId)
    (ho : o.op = .call { callee := .builtin .append, args := #[s, x], argTypes := #[t, t] })
    (base : Nat) (e : TypeId) (i : TypeInfo) (z : Value) (size bytes : Nat) (ht : P.underlying t = some (.slice e)) (hi : P.info? e = some i) (hz : i.zero = some z)
    (hsize : i.size = size) (hby : i.bytes = bytes) (hzs : z.cells.size = size) (hsz : 0 < size)
    (v : Value) (n : Nat) (xs : List Value) (hs : a.eval s = v) (hown : w.ownsRow base e size v n xs) (hv : v ≠ .slice none 0 0)
    (u : Value) (m : Nat) (news : List Value) (hx : a.eval x = u) (hu : Src w u m size news) (h63 : n + m ≤ maxLen) (hbytes : (n + m) * bytes ≤ 140737488355328) (hbase : base ≤ w.heap.size)
    (h : ∀ g cap w', w'.ownsRow base e size (.slice (some ⟨g, 0, none⟩) (n + m) cap) (n + m) (xs ++ news) → w.grownBy w' v.ownBlock → base ≤ g → g < w'.heap.size → wpList P ops Q rest (a.put o.dst (.slice (some ⟨g, 0, none⟩) (n + m) cap)) w') : wpList P ops Q (o :: rest) a w :=
  wpList_plain hgd fun _ hK => wp_append_src s x t ho base e i z size bytes ht hi hz hsize hby hzs hsz v n xs hs hown hv u m news hx hu h63 hbytes hbase fun g cap w' h2 h3 h4 h5 => hK _ _ (h g cap w' h2 h3 h4 h5)

theorem step_append_src {ops : Array Oper} {o : Oper} {a : Act} {K : Act → World → Prop} {Q : Exit → Act → World → Prop} {E : Prop} (hgd : o.guard = none) (s x : Operand) (t : TypeId)
    (ho : o.op = .call { callee := .builtin .append, args := #[s, x], argTypes := #[t, t] })
    (base : Nat) (e : TypeId) (i : TypeInfo) (z : Value) (size bytes : Nat) (ht : P.underlying t = some (.slice e)) (hi : P.info? e = some i) (hz : i.zero = some z)
    (hsize : i.size = size) (hby : i.bytes = bytes) (hzs : z.cells.size = size) (hsz : 0 < size)
    (v : Value) (n : Nat) (xs : List Value) (hs : a.eval s = v) (hown : w.ownsRow base e size v n xs) (hv : v ≠ .slice none 0 0)
    (u : Value) (m : Nat) (news : List Value) (hx : a.eval x = u) (hu : Src w u m size news) (h63 : n + m ≤ maxLen) (hbytes : (n + m) * bytes ≤ 140737488355328) (hbase : base ≤ w.heap.size)
    (h : ∀ g cap w', w'.ownsRow base e size (.slice (some ⟨g, 0, none⟩) (n + m) cap) (n + m) (xs ++ news) → w.grownBy w' v.ownBlock → base ≤ g → g < w'.heap.size → K (a.put o.dst (.slice (some ⟨g, 0, none⟩) (n + m) cap)) w') :
    if Region.wanted o (yielded ops a.tmps) = true then Oper.wp P o a w K Q else E := by
  have hw : Region.wanted o (yielded ops a.tmps) = true := by simp [Region.wanted, hgd]
  rw [if_pos hw]
  exact wp_append_src s x t ho base e i z size bytes ht hi hz hsize hby hzs hsz v n xs hs hown hv u m news hx hu h63 hbytes hbase h
theorem step_append_srcN {ops : Array Oper} {o : Oper} {a : Act} {K : Act → World → Prop} {Q : Exit → Act → World → Prop} {E : Prop} (hgd : o.guard = none) (s x : Operand) (t : TypeId)
    (ho : o.op = .call { callee := .builtin .append, args := #[s, x], argTypes := #[t, t] })
    (base : Nat) (e : TypeId) (i : TypeInfo) (z : Value) (size bytes : Nat) (ht : P.underlying t = some (.slice e)) (hi : P.info? e = some i) (hz : i.zero = some z)
    (hsize : i.size = size) (hby : i.bytes = bytes) (hzs : z.cells.size = size) (hsz : 0 < size)
    (v : Value) (n : Nat) (xs : List Value) (hs : a.eval s = v) (hown : w.ownsRow base e size v n xs) (hv : v ≠ .slice none 0 0)
    (u : Value) (m : Nat) (news : List Value) (hx : a.eval x = u) (hu : Src w u m size news) (N : Nat) (XS : List Value) (hN : n + m = N) (hXS : xs ++ news = XS) (h63 : N ≤ maxLen) (hbytes : N * bytes ≤ 140737488355328) (hbase : base ≤ w.heap.size)
    (h : ∀ g cap w', w'.ownsRow base e size (.slice (some ⟨g, 0, none⟩) N cap) N XS → w.grownBy w' v.ownBlock → base ≤ g → g < w'.heap.size → K (a.put o.dst (.slice (some ⟨g, 0, none⟩) N cap)) w') :
    if Region.wanted o (yielded ops a.tmps) = true then Oper.wp P o a w K Q else E := by
  subst hN hXS
  exact step_append_src hgd s x t ho base e i z size bytes ht hi hz hsize hby hzs hsz v n xs hs hown hv u m news hx hu h63 hbytes hbase h
end

end Go.Proofs.YtjdepjpjjgkmbaaGreat

/- The model's functions of shelves, first part: a shelf copied, an open put to its place: contracts of each of them. -/
namespace Go.Proofs.YtjdepjpjjgkmbaaGreat
open Go.RowKit Go.Deep

theorem Slc.src {w : World} {u : Value} {ps : List (Int × Int)} (h : Slc w u ps) : Src w u ps.length 2 (flatP ps) := by
  rcases h with ⟨rfl, rfl⟩ | ⟨b, o, n, cap, rfl, hp⟩
  · exact .inl ⟨rfl, rfl, rfl⟩
  · exact .inr ⟨_, cap, by rw [hp.1], flatP_len ps, pairs_news hp, flatP_one ps⟩
theorem SlcQ.src {w : World} {u : Value} {os : List Opn} (h : SlcQ w u os) : Src w u os.length 4 (flatO os) := by
  rcases h with ⟨rfl, rfl⟩ | ⟨b, o, n, cap, rfl, _, _, hp⟩
  · exact .inl ⟨rfl, rfl, rfl⟩
  · exact .inr ⟨_, cap, by rw [hp.1], flatO_len os, quads_news hp, flatO_one os⟩
theorem own_resP {w : World} {base : Nat} {t : TypeId} {g cap : Nat} {ps : List (Int × Int)} (h : w.ownsRow base t 2 (.slice (some ⟨g, 0, none⟩) ps.length cap) ps.length (flatP ps)) : ResP w base w.heap.size (.slice (some ⟨g, 0, none⟩) ps.length cap) ps := by
  have h0 := own_held h
  rcases h.2 with ⟨h', _⟩ | ⟨g', cap', cur, h', hb, hg, hnc, hcm, _⟩
  · cases h'
  · injection h' with e1 _ e3
    injection e1 with e1
    injection e1 with e1 _ _
    subst e1 e3
    exact .inr ⟨g, cap, hb, h0.lt, rfl, hnc, hcm, h0⟩
theorem own_resO {w : World} {base : Nat} {t : TypeId} {g cap : Nat} {os : List Opn} (h : w.ownsRow base t 4 (.slice (some ⟨g, 0, none⟩) os.length cap) os.length (flatO os)) : ResO w base (.slice (some ⟨g, 0, none⟩) os.length cap) os := by
  have h0 := own_heldQ h
  rcases h.2 with ⟨h', _⟩ | ⟨g', cap', cur, h', hb, hg, hnc, hcm, _⟩
  · cases h'
  · injection h' with e1 _ e3
    injection e1 with e1
    injection e1 with e1 _ _
    subst e1 e3
    exact .inr ⟨g, cap, hb, rfl, hnc, hcm, h0⟩
theorem heldKept {w w' : World} {g : Nat} {d : List (Int × Int)} {r : Option Nat} (h : Held w g d) (hg : w.grownBy w' r) (hne : r ≠ some g) : Held w' g d :=
  ⟨Nat.lt_of_lt_of_le h.lt hg.size, fun o => (hg.frozen_far ⟨g, o, none⟩ h.lt (fun e => hne e.symm)).trans (h.fr o), fun i hi => (hg.cell_far ⟨g, i * 2, none⟩ h.lt (fun e => hne e.symm)).trans (h.at0 i hi), fun i hi => (hg.cell_far ⟨g, i * 2 + 1, none⟩ h.lt (fun e => hne e.symm)).trans (h.at1 i hi)⟩
theorem ResP.kept {w w' : World} {lo hi : Nat} {u : Value} {D : List (Int × Int)} {r : Nat} (h : ResP w lo hi u D) (hg : w.grownBy w' (some r)) (hr : hi ≤ r) : ResP w' lo hi u D := by
  rcases h with h | ⟨g, cap, h1, h2, h3, h4, h5, h6⟩
  · exact .inl h
  · exact .inr ⟨g, cap, h1, h2, h3, h4, h5, heldKept h6 hg (by intro e; injection e with e; omega)⟩

set_option maxRecDepth 100000 in
set_option maxHeartbeats 2000000 in
theorem l7Copy_is (rt rq rv : Int) (P : Option Addr) (p pc : Nat) (Q : Option Addr) (q qc : Nat) (ps : List (Int × Int)) (os : List Opn) (w : World) (hp : ps.length ≤ 4194304) (hq : os.length ≤ 4194304) (h1 : Slc w (.slice P p pc) ps) (h2 : SlcQ w (.slice Q q qc) os) :
    Calls Tryz.prog 98 #[.agg #[.int .i64 rt, .int .i64 rq, .int .i64 rv, .slice P p pc, .slice Q q qc]] w (RegR w rt rq rv ps os) := by
  obtain ⟨i0, hi0, hz0, hz1, hz2⟩ := info_parts Tryz.infoSealI
  obtain ⟨j0, hj0, hy0, hy1, hy2⟩ := info_parts Tryz.infoOpen
  have D := (Box.new w 80 #[.int .i64 rt, .int .i64 rq, .int .i64 rv, .slice P p pc, .slice Q q qc]).alloc (.cells #[.int .i64 0, .int .i64 0, .int .i64 0, .slice none 0 0, .slice none 0 0] 80)
  have X := Box.new (w.alloc (.cells #[.int .i64 rt, .int .i64 rq, .int .i64 rv, .slice P p pc, .slice Q q qc] 80)) 80 #[.int .i64 0, .int .i64 0, .int .i64 0, .slice none 0 0, .slice none 0 0]
  have hb0 := bel_trans (bel_alloc w (.cells #[.int .i64 rt, .int .i64 rq, .int .i64 rv, .slice P p pc, .slice Q q qc] 80)) (bel_alloc _ (.cells #[.int .i64 0, .int .i64 0, .int .i64 0, .slice none 0 0, .slice none 0 0] 80))
  simp only [World.size_alloc] at X
  have hszW : w.heap.size + 1 + 1 = ((w.alloc (.cells #[.int .i64 rt, .int .i64 rq, .int .i64 rv, .slice P p pc, .slice Q q qc] 80)).alloc (.cells #[.int .i64 0, .int .i64 0, .int .i64 0, .slice none 0 0, .slice none 0 0] 80)).heap.size := by simp
  generalize hW : ((w.alloc (.cells #[.int .i64 rt, .int .i64 rq, .int .i64 rv, .slice P p pc, .slice Q q qc] 80)).alloc (.cells #[.int .i64 0, .int .i64 0, .int .i64 0, .slice none 0 0, .slice none 0 0] 80) : World) = w0 at hb0 D X hszW
  have hb1 := bel_alloc w0 (.cells #[] 136)
  have hown := own_new w0 136 2
  have S1 := Lib.hid ((h1.later hb0).later hb1).src
  have H2 := Lib.hid (h2.later hb0)
  have D1 := D.later hb1 D.lt
  have X1 := X.later hb1 X.lt
  have E1 := bel_trans hb0 hb1
  have hbs : w0.heap.size ≤ (w0.alloc (.cells #[] 136)).heap.size := hb1.size
  replace hszW := Lib.hid hszW
  go_enter Tryz.func98, Tryz.ntmps98
  go_upto_region 1 with fail
  clear hW
  obtain ⟨d0, d1, d2, d3, d4⟩ := D.five
  have hD := D.lt
  have hX := X.lt
  go_upto_region 2 with (at_builtin; refine wpList_append_src rfl _ _ _ rfl w0.heap.size 136 i0 _ 2 16 Tryz.underlying40 hi0 hz0 hz1 hz2 rfl (by omega) (.slice (some ⟨w0.heap.size, 0, none⟩) 0 0) 0 [] rfl hown (by simp) (.slice P p pc) ps.length (flatP ps) rfl S1.out (by unfold maxLen; omega) (by omega) hbs ?_; intro g1 cap1 w1 hown1 hgrow1 hbg1 hlg1; have hR1 := hown1; rw [Nat.zero_add, List.nil_append] at hR1; have R1 := own_resP hR1; have hgr : (w0.alloc (.cells #[] 136)).grownBy w1 (some w0.heap.size) := hgrow1; have D2 := D1.kept hgr (by intro e; injection e with e; omega); have X2 := X1.kept hgr (by intro e; injection e with e; omega); have E2 := bel_grown E1 hgr (by have := hb0.size; omega); obtain ⟨e0, e1, e2, e3, e4⟩ := D2.five; have fd := D2.frozen; clear hown1 hgrow1 hR1)
  have hlo : w.heap.size < w0.heap.size := hD
  have R3 := R1.far (b := w.heap.size) hlo 3 (.slice (some ⟨g1, 0, none⟩) ps.length cap1)
  have D3 : Box (w1.setCell ⟨w.heap.size, 3, none⟩ (.slice (some ⟨g1, 0, none⟩) ps.length cap1)) w.heap.size 80 #[.int .i64 rt, .int .i64 rq, .int .i64 rv, .slice (some ⟨g1, 0, none⟩) ps.length cap1, .slice Q q qc] := D2.set 3 _
  have X3 := X2.far (p := ⟨w.heap.size, 3, none⟩) (by show w.heap.size ≠ _; omega) (.slice (some ⟨g1, 0, none⟩) ps.length cap1)
  have E3 := E2.setCell (p := ⟨w.heap.size, 3, none⟩) (Nat.le_refl _) (.slice (some ⟨g1, 0, none⟩) ps.length cap1)
  have hs3 : (w1.setCell ⟨w.heap.size, 3, none⟩ (.slice (some ⟨g1, 0, none⟩) ps.length cap1)).heap.size = w1.heap.size := size_set _ _ _
  rw [← hs3] at R3
  clear R1 D2 X2 E2 hgr e0 e1 e2 e3 e4 fd d0 d1 d2 d3 d4 D X D1 X1 E1 S1 hown hb1 hbs hs3 hlg1
  try simp only [Nat.zero_add]
  generalize (w1.setCell _ _ : World) = w2 at R3 D3 X3 E3 ⊢
  have hb4 := bel_alloc w2 (.cells #[] 97)
  have hown := own_new w2 97 4
  have S2 := Lib.hid ((h2.later E3).later hb4).src
  have D4 := D3.later hb4 D3.lt
  have X4 := X3.later hb4 X3.lt
  have E4 := bel_trans E3 hb4
  have R4 := R3.later hb4
  have hbs : w2.heap.size ≤ (w2.alloc (.cells #[] 97)).heap.size := hb4.size
  obtain ⟨d0, d1, d2, d3, d4⟩ := D3.five
  have hD3 := D3.lt
  have hX3 := X3.lt
  go_upto_region 3 with (at_builtin; refine wpList_append_src rfl _ _ _ rfl w2.heap.size 97 j0 _ 4 32 Tryz.underlying78 hj0 hy0 hy1 hy2 rfl (by omega) (.slice (some ⟨w2.heap.size, 0, none⟩) 0 0) 0 [] rfl hown (by simp) (.slice Q q qc) os.length (flatO os) rfl S2.out (by unfold maxLen; omega) (by omega) hbs ?_; intro g2 cap2 w5 hown5 hgrow5 hbg5 hlg5; have hR5 := hown5; rw [Nat.zero_add, List.nil_append] at hR5; have O5 := own_resO hR5; have hgr : (w2.alloc (.cells #[] 97)).grownBy w5 (some w2.heap.size) := hgrow5; have D5 := D4.kept hgr (by intro e; injection e with e; omega); have X5 := X4.kept hgr (by intro e; injection e with e; omega); have E5 := bel_grown E4 hgr (by have := E3.size; omega); have R5 := R4.kept hgr (Nat.le_refl _); obtain ⟨e0, e1, e2, e3, e4⟩ := D5.five; have fd := D5.frozen; clear hown5 hgrow5 hR5)
  have R6 := R5.far (b := w.heap.size) hlo 4 (.slice (some ⟨g2, 0, none⟩) os.length cap2)
  have O6 := O5.far (b := w.heap.size) hD3 4 (.slice (some ⟨g2, 0, none⟩) os.length cap2)
  have D6 : Box (w5.setCell ⟨w.heap.size, 4, none⟩ (.slice (some ⟨g2, 0, none⟩) os.length cap2)) w.heap.size 80 #[.int .i64 rt, .int .i64 rq, .int .i64 rv, .slice (some ⟨g1, 0, none⟩) ps.length cap1, .slice (some ⟨g2, 0, none⟩) os.length cap2] := D5.set 4 _
  have X6 := X5.far (p := ⟨w.heap.size, 4, none⟩) (by show w.heap.size ≠ _; omega) (.slice (some ⟨g2, 0, none⟩) os.length cap2)
  have E6 := E5.setCell (p := ⟨w.heap.size, 4, none⟩) (Nat.le_refl _) (.slice (some ⟨g2, 0, none⟩) os.length cap2)
  have hs6 : w2.heap.size ≤ (w5.setCell ⟨w.heap.size, 4, none⟩ (.slice (some ⟨g2, 0, none⟩) os.length cap2)).heap.size := by rw [size_set]; exact Nat.le_trans hb4.size hgr.size
  clear R5 O5 D5 X5 E5 hgr e0 e1 e2 e3 e4 fd d0 d1 d2 d3 d4 D3 X3 E4 R4 D4 X4 S2 hown hb4 hbs hlg5 R3
  try simp only [Nat.zero_add]
  generalize (w5.setCell _ _ : World) = w6 at R6 O6 D6 X6 E6 hs6 ⊢
  have hw2 : w0.heap.size ≤ w2.heap.size := Nat.le_trans (Nat.le_of_eq hszW.out.symm) (by omega)
  have hwB : w.heap.size ≤ w2.heap.size := E3.size
  have HP : Hid (∀ x0 x1 x2 x3 x4 : Value, RegR w rt rq rv ps os (.returned (.agg #[.int .i64 rt, .int .i64 rq, .int .i64 rv, .slice (some ⟨g1, 0, none⟩) ps.length cap1, .slice (some ⟨g2, 0, none⟩) os.length cap2])) (((((w6.setCell ⟨w.heap.size + 1, 0, none⟩ x0).setCell ⟨w.heap.size + 1, 1, none⟩ x1).setCell ⟨w.heap.size + 1, 2, none⟩ x2).setCell ⟨w.heap.size + 1, 3, none⟩ x3).setCell ⟨w.heap.size + 1, 4, none⟩ x4)) := Lib.hid fun x0 x1 x2 x3 x4 =>
    ⟨w2.heap.size, _, _, hwB, by simp only [size_set]; exact hs6, rfl, (R6.far5 hX x0 x1 x2 x3 x4).wide hb0.size (Nat.le_refl _), O6.far5 (by omega) x0 x1 x2 x3 x4, bel_five E6 (by omega) x0 x1 x2 x3 x4⟩
  obtain ⟨d0, d1, d2, d3, d4⟩ := D6.five
  obtain ⟨x0, x1, x2, x3, x4⟩ := X6.five
  have fx := X6.frozen
  clear R6 O6 E6 D6 X6
  go_wp2
  exact bodyPost_ret (v := .agg #[.int .i64 rt, .int .i64 rq, .int .i64 rv, .slice (some ⟨g1, 0, none⟩) ps.length cap1, .slice (some ⟨g2, 0, none⟩) os.length cap2]) (by simp [results, Tryz.results98, go_sem, x0, x1, x2, x3, x4]) rfl (HP.out _ _ _ _ _)


theorem putO_set {os : List Opn} {i : Nat} (h : i < os.length) (o : Opn) : putO os i (i + 1) o = os.set i o := by
  unfold putO
  rw [List.set_eq_take_append_cons_drop, if_pos h]
  simp
theorem fourAfter {w : World} {g : Nat} {t : TypeId} {v0 v1 v2 v3 : Value} (h : Box w g t #[v0, v1, v2, v3]) :
    (∀ p : After w, p.x.cell? ⟨g, 0, none⟩ = some v0) ∧ (∀ p : After w, p.x.cell? ⟨g, 1, none⟩ = some v1) ∧ (∀ p : After w, p.x.cell? ⟨g, 2, none⟩ = some v2) ∧ (∀ p : After w, p.x.cell? ⟨g, 3, none⟩ = some v3) :=
  ⟨After.cell h.lt (h.cell 0), After.cell h.lt (h.cell 1), After.cell h.lt (h.cell 2), After.cell h.lt (h.cell 3)⟩

theorem ResP.farHi {w : World} {lo hi : Nat} {u : Value} {D : List (Int × Int)} (h : ResP w lo hi u D) {b : Nat} (hb : hi ≤ b) (o : Nat) (x : Value) : ResP (w.setCell ⟨b, o, none⟩ x) lo hi u D := by
  rcases h with h | ⟨g, cap, h1, h2, h3, h4, h5, h6⟩
  · exact .inl h
  · exact .inr ⟨g, cap, h1, h2, h3, h4, h5, HeldK.far h6 (by omega) o x⟩
theorem ResO.farS {w : World} {lo : Nat} {v : Value} {D : List Opn} (h : ResO w lo v D) {b : Nat} (hb : ∀ g cap, v = .slice (some ⟨g, 0, none⟩) D.length cap → b ≠ g) (o : Nat) (x : Value) : ResO (w.setCell ⟨b, o, none⟩ x) lo v D := by
  rcases h with h | ⟨g, cap, h1, h3, h4, h5, h6⟩
  · exact .inl h
  · exact .inr ⟨g, cap, h1, h3, h4, h5, h6.far (hb g cap h3) o x⟩
/-- One open of the copy is written, and the answer. -/
theorem swith_set {w wr : World} {rt rq rv : Int} {B g k cap : Nat} {u : Value} {ps : List (Int × Int)} {os : List Opn} {o : Opn} (hk : k < os.length) (hlo : w.heap.size + 1 + 1 < B) (hBg : B ≤ g) (hb : Below w.heap.size w wr) (hR : ResP wr (w.heap.size + 1 + 1 + 1) B u ps) (hh : HeldQ wr g os) (hc : os.length ≤ cap) (hm : cap ≤ maxLen) (hw : withO os o = putO os k (k + 1) o) (x0 x1 x2 x3 x4 : Value) :
    RegR w rt rq rv ps (withO os o) (.returned (.agg #[.int .i64 rt, .int .i64 rq, .int .i64 rv, u, .slice (some ⟨g, 0, none⟩) os.length cap])) (((((((((wr.setCell ⟨g, k * 4, none⟩ (.int .i64 o.1)).setCell ⟨g, k * 4 + 1, none⟩ (.int .i64 o.2.1)).setCell ⟨g, k * 4 + 2, none⟩ (.int .i64 o.2.2.1)).setCell ⟨g, k * 4 + 3, none⟩ (.int .i64 o.2.2.2)).setCell ⟨w.heap.size + 1 + 1, 0, none⟩ x0).setCell ⟨w.heap.size + 1 + 1, 1, none⟩ x1).setCell ⟨w.heap.size + 1 + 1, 2, none⟩ x2).setCell ⟨w.heap.size + 1 + 1, 3, none⟩ x3).setCell ⟨w.heap.size + 1 + 1, 4, none⟩ x4) := by
  have hV := hh.put k o
  have hR' := (((hR.farHi hBg (k * 4) (.int .i64 o.1)).farHi hBg (k * 4 + 1) (.int .i64 o.2.1)).farHi hBg (k * 4 + 2) (.int .i64 o.2.2.1)).farHi hBg (k * 4 + 3) (.int .i64 o.2.2.2)
  have hgw : w.heap.size ≤ g := by omega
  have hb' := (((hb.setCell (p := ⟨g, k * 4, none⟩) hgw (.int .i64 o.1)).setCell (p := ⟨g, k * 4 + 1, none⟩) hgw (.int .i64 o.2.1)).setCell (p := ⟨g, k * 4 + 2, none⟩) hgw (.int .i64 o.2.2.1)).setCell (p := ⟨g, k * 4 + 3, none⟩) hgw (.int .i64 o.2.2.2)
  have hgl := hh.lt
  rw [hw, putO_set hk]
  have hl : (os.set k o).length = os.length := List.length_set
  refine ⟨B, _, _, by omega, by simp only [size_set]; omega, rfl, (hR'.far5 (by omega) x0 x1 x2 x3 x4).wide (by omega) (Nat.le_refl _), ?_, bel_five hb' (by omega) x0 x1 x2 x3 x4⟩
  have hV' : ResO _ B (.slice (some ⟨g, 0, none⟩) os.length cap) (os.set k o) := .inr ⟨g, cap, hBg, by rw [hl], by rw [hl]; exact hc, hm, hV⟩
  exact hV'.far5 (by omega) x0 x1 x2 x3 x4

/-- What the model's WithOpen keeps: what came in, the copy, the variable of the answer. -/
structure SWith (w wr : World) (S B : Nat) (rt rq rv : Int) (P : Option Addr) (p pc : Nat) (Q : Option Addr) (q qc : Nat) (a b c d : Int) (u v : Value) (ps : List (Int × Int)) (os : List Opn) : Prop where
  bel : Below w.heap.size w wr
  D : Box wr w.heap.size 80 #[.int .i64 rt, .int .i64 rq, .int .i64 rv, .slice P p pc, .slice Q q qc]
  O : Box wr (w.heap.size + 1) 97 #[.int .i64 a, .int .i64 b, .int .i64 c, .int .i64 d]
  X : Box wr (w.heap.size + 1 + 1) 80 #[.int .i64 0, .int .i64 0, .int .i64 0, .slice none 0 0, .slice none 0 0]
  Y : Box wr S 80 #[.int .i64 rt, .int .i64 rq, .int .i64 rv, u, v]
  hlo : w.heap.size + 1 + 1 < B
  hBS : B ≤ S
  R : ResP wr (w.heap.size + 1 + 1 + 1) B u ps
  V : ResO wr B v os
  VS : ∀ g cap, v = .slice (some ⟨g, 0, none⟩) os.length cap → g < S
theorem SWith.later {w wr w' : World} {S B : Nat} {rt rq rv : Int} {P : Option Addr} {p pc : Nat} {Q : Option Addr} {q qc : Nat} {a b c d : Int} {u v : Value} {ps : List (Int × Int)} {os : List Opn} (h : SWith w wr S B rt rq rv P p pc Q q qc a b c d u v ps os) (hb : Below wr.heap.size wr w') : SWith w w' S B rt rq rv P p pc Q q qc a b c d u v ps os :=
  ⟨bel_trans h.bel hb, h.D.later hb h.D.lt, h.O.later hb h.O.lt, h.X.later hb h.X.lt, h.Y.later hb h.Y.lt, h.hlo, h.hBS, h.R.later hb, h.V.later hb, h.VS⟩

theorem ownLow {w : World} {base base' : Nat} {e : TypeId} {size : Nat} {v : Value} {n : Nat} {xs : List Value} (h : w.ownsRow base e size v n xs) (hb : base' ≤ base) : w.ownsRow base' e size v n xs := by
  refine ⟨h.1, ?_⟩
  rcases h.2 with h' | ⟨g, cap, cur, h1, h2, h3⟩
  · exact .inl h'
  · exact .inr ⟨g, cap, cur, h1, by omega, h3⟩
theorem dfive {w : World} {g g' : Nat} {t t' : TypeId} {v0 v1 v2 v3 v4 u0 u1 u2 u3 : Value} (h : Box w g t #[v0, v1, v2, v3, v4]) (h' : Box w g' t' #[u0, u1, u2, u3]) :
    w.cell? ⟨g, 4, none⟩ = some v4 ∧ w.cell? ⟨g', 0, none⟩ = some u0 ∧ w.cell? ⟨g', 1, none⟩ = some u1 ∧ w.cell? ⟨g', 2, none⟩ = some u2 ∧ w.cell? ⟨g', 3, none⟩ = some u3 :=
  ⟨h.cell 4, h'.cell 0, h'.cell 1, h'.cell 2, h'.cell 3⟩
/-- What the model's WithOpen keeps, behind its list put together. -/
def SEnd (w wr : World) (S B : Nat) (rt rq rv : Int) (u : Value) (ps : List (Int × Int)) (os : List Opn) : Prop :=
  ∃ (g n cap : Nat), Box wr (w.heap.size + 1 + 1) 80 #[.int .i64 0, .int .i64 0, .int .i64 0, .slice none 0 0, .slice none 0 0] ∧ Box wr S 80 #[.int .i64 rt, .int .i64 rq, .int .i64 rv, u, .slice (some ⟨g, 0, none⟩) n cap] ∧ ResP wr (w.heap.size + 1 + 1 + 1) B u ps ∧ ResO wr B (.slice (some ⟨g, 0, none⟩) n cap) os ∧ Below w.heap.size w wr ∧ B ≤ wr.heap.size
theorem send_mk {w wr : World} {S B : Nat} {rt rq rv : Int} {P : Option Addr} {p pc : Nat} {Q : Option Addr} {q qc : Nat} {a b c d : Int} {u v : Value} {ps : List (Int × Int)} {os J : List Opn} {g n cap : Nat} (h : SWith w wr S B rt rq rv P p pc Q q qc a b c d u v ps os) {w' : World} {t : TypeId} (hb : Below wr.heap.size wr w') (ho : w'.ownsRow wr.heap.size t 4 (.slice (some ⟨g, 0, none⟩) n cap) n (flatO J)) (hn : J.length = n) :
    SEnd w (w'.setCell ⟨S, 4, none⟩ (.slice (some ⟨g, 0, none⟩) n cap)) S B rt rq rv u ps J := by
  subst hn
  have h' := h.later hb
  have hlo := h.hlo
  have hBS := h.hBS
  have hYl := h.Y.lt
  refine ⟨g, _, cap, h'.X.far (p := ⟨S, 4, none⟩) (by show S ≠ _; omega) _, h'.Y.set 4 _, h'.R.farHi hBS 4 _, ((own_resO ho).wide (by omega)).farS (b := S) ?_ 4 _, h'.bel.setCell (p := ⟨S, 4, none⟩) (by show _ ≤ S; omega) _, by rw [size_set]; have := hb.size; omega⟩
  intro g' cap' hv
  injection hv with e1 _ _
  injection e1 with e1
  injection e1 with e1 _ _
  have := (ho.lt g rfl).1
  omega

theorem send_put {w wr : World} {B : Nat} {rt rq rv : Int} {u v : Value} {ps : List (Int × Int)} {J : List Opn} (hlo : w.heap.size + 1 + 1 < B) (hR : ResP wr (w.heap.size + 1 + 1 + 1) B u ps) (hO : ResO wr B v J) (hb : Below w.heap.size w wr) (hB : B ≤ wr.heap.size) (x0 x1 x2 x3 x4 : Value) :
    RegR w rt rq rv ps J (.returned (.agg #[.int .i64 rt, .int .i64 rq, .int .i64 rv, u, v])) (((((wr.setCell ⟨w.heap.size + 1 + 1, 0, none⟩ x0).setCell ⟨w.heap.size + 1 + 1, 1, none⟩ x1).setCell ⟨w.heap.size + 1 + 1, 2, none⟩ x2).setCell ⟨w.heap.size + 1 + 1, 3, none⟩ x3).setCell ⟨w.heap.size + 1 + 1, 4, none⟩ x4) :=
  ⟨B, u, v, by omega, by simp only [size_set]; exact hB, rfl, (hR.far5 (by omega) x0 x1 x2 x3 x4).wide (by omega) (Nat.le_refl _), hO.far5 (by omega) x0 x1 x2 x3 x4, bel_five hb (by omega) x0 x1 x2 x3 x4⟩

set_option maxRecDepth 100000 in
set_option maxHeartbeats 4000000 in
theorem specWith_is (rt rq rv : Int) (P : Option Addr) (p pc : Nat) (Q : Option Addr) (q qc : Nat) (a b c d : Int) (ps : List (Int × Int)) (os : List Opn) (w : World) (hp : ps.length ≤ 2000000) (hq : os.length ≤ 2000000) (h1 : Slc w (.slice P p pc) ps) (h2 : SlcQ w (.slice Q q qc) os) :
    Calls Tryz.prog 96 #[.agg #[.int .i64 rt, .int .i64 rq, .int .i64 rv, .slice P p pc, .slice Q q qc], .agg #[.int .i64 a, .int .i64 b, .int .i64 c, .int .i64 d]] w (RegR w rt rq rv ps (withO os (a, b, c, d))) := by
  obtain ⟨j0, hj0, hy0, hy1, hy2⟩ := info_parts Tryz.infoOpen
  have D := ((Box.new w 80 #[.int .i64 rt, .int .i64 rq, .int .i64 rv, .slice P p pc, .slice Q q qc]).alloc (.cells #[.int .i64 a, .int .i64 b, .int .i64 c, .int .i64 d] 97)).alloc (.cells #[.int .i64 0, .int .i64 0, .int .i64 0, .slice none 0 0, .slice none 0 0] 80)
  have O := (Box.new (w.alloc (.cells #[.int .i64 rt, .int .i64 rq, .int .i64 rv, .slice P p pc, .slice Q q qc] 80)) 97 #[.int .i64 a, .int .i64 b, .int .i64 c, .int .i64 d]).alloc (.cells #[.int .i64 0, .int .i64 0, .int .i64 0, .slice none 0 0, .slice none 0 0] 80)
  have X := Box.new ((w.alloc (.cells #[.int .i64 rt, .int .i64 rq, .int .i64 rv, .slice P p pc, .slice Q q qc] 80)).alloc (.cells #[.int .i64 a, .int .i64 b, .int .i64 c, .int .i64 d] 97)) 80 #[.int .i64 0, .int .i64 0, .int .i64 0, .slice none 0 0, .slice none 0 0]
  have hb0 := bel_trans (bel_trans (bel_alloc w (.cells #[.int .i64 rt, .int .i64 rq, .int .i64 rv, .slice P p pc, .slice Q q qc] 80)) (bel_alloc _ (.cells #[.int .i64 a, .int .i64 b, .int .i64 c, .int .i64 d] 97))) (bel_alloc _ (.cells #[.int .i64 0, .int .i64 0, .int .i64 0, .slice none 0 0, .slice none 0 0] 80))
  simp only [World.size_alloc] at X O
  have H1w := Lib.hid h1
  have H2w := Lib.hid h2
  clear h1 h2
  go_enter Tryz.func96, Tryz.ntmps96
  go_wp2_with fail
  generalize (((w.alloc _).alloc _).alloc _ : World) = w0 at hb0 D O X ⊢
  refine (l7Copy_is rt rq rv P p pc Q q qc ps os w0 (by omega) (by omega) (H1w.out.later hb0) (H2w.out.later hb0)).mono ?_
  rintro e w1 ⟨B, u, v, hB, hB', rfl, hR, hV, hb1⟩
  obtain ⟨A5, c5, rfl, _, _, _, _⟩ := hR.form
  obtain ⟨A6, c6, rfl, _, _, _, _⟩ := hV.form
  have hb2 := bel_alloc w1 (.cells #[.int .i64 rt, .int .i64 rq, .int .i64 rv, .slice A5 ps.length c5, .slice A6 os.length c6] 80)
  have hXl := X.lt
  have K : SWith w (w1.alloc (.cells #[.int .i64 rt, .int .i64 rq, .int .i64 rv, .slice A5 ps.length c5, .slice A6 os.length c6] 80)) w1.heap.size B rt rq rv P p pc Q q qc a b c d (.slice A5 ps.length c5) (.slice A6 os.length c6) ps os := by
    have hb12 := bel_trans hb1 hb2
    refine ⟨bel_trans hb0 hb12, D.later hb12 D.lt, O.later hb12 O.lt, X.later hb12 X.lt, Box.new w1 _ _, by omega, hB', (hR.later hb2).wide (by omega) (Nat.le_refl _), hV.later hb2, ?_⟩
    intro g cap hg
    rcases hV with ⟨h', _⟩ | ⟨g', cap', _, h', _, _, hh⟩
    · rw [h'] at hg; cases hg
    · rw [h'] at hg
      injection hg with e1 _ _
      injection e1 with e1
      injection e1 with e1 _ _
      rw [← e1]
      exact hh.lt
  clear hR hV D O X hb0 hb1 hb2 hB
  go_wp2_with fail
  generalize (w1.alloc _ : World) = w2 at K ⊢
  generalize w1.heap.size = S at K hB' ⊢
  clear hB' hXl
  go_loopw [6] (fun iv wr => ∃ k : Nat, k ≤ os.length ∧ iv = .int .i64 k ∧ (∀ j, j < k → (oth os j).1 ≠ a) ∧ SWith w wr S B rt rq rv P p pc Q q qc a b c d (.slice A5 ps.length c5) (.slice A6 os.length c6) ps os) (fun i _ => os.length - (intOf i).toNat)
  case atStart => exact ⟨0, Nat.zero_le _, rfl, fun j hj => absurd hj (by omega), K⟩
  case round =>
    obtain ⟨k, hk, rfl, hne, hK⟩ := hrel
    clear K
    by_cases hlt : k < os.length
    · rcases hK.V with ⟨_, h0⟩ | ⟨g, cap, hBg, hv, hl1, hl2, hh⟩
      · rw [h0] at hlt; exact absurd hlt (by simp)
      injection hv with e1 _ e3
      subst e1 e3
      have hgS := hK.VS g c6 rfl
      obtain ⟨g0, g1, g2, g3⟩ := hh.cs k hlt
      have hgl := hh.lt
      have m0 := After.cell (w := wr) (a := ⟨g, k * 4, none⟩) hgl g0
      have m1 := After.cell (w := wr) (a := ⟨S, 4, none⟩) hK.Y.lt (hK.Y.cell 4)
      have m2 := After.cell (w := wr) (a := ⟨w.heap.size + 1, 0, none⟩) hK.O.lt (hK.O.cell 0)
      have n4 := hK.Y.cell 4
      generalize hx : oth os k = x at m0 g0 g1 g2 g3
      obtain ⟨x, y, z, t⟩ := x
      have HX := Lib.hid hx
      have hlt' : (k : Int) < (os.length : Int) := by omega
      replace hne := Lib.hid hne
      clear hx
      have hlo := hK.hlo
      have hBS := hK.hBS
      by_cases he : x = a
      · subst he
        have hw := Lib.hid (withO_first (os := os) (o := (x, b, c, d)) (i := k) ⟨hlt, by rw [HX.out], hne.out⟩)
        go_wp2_with fail
        refine wp_region_after (by kernel_rfl) (by kernel_rfl) ?_
        repeat (first | go_big_quiet_step (fail) | quiet_step (fail))
        refine wpQuiet_nil ?_
        intro pw
        have K3 := hK.later pw.bel
        have hh3 := hh.later pw.bel
        generalize pw.x = w3 at K3 hh3 ⊢
        clear pw m0 m1 m2 g0 g1 g2 g3 hK hh n4
        obtain ⟨g0, g1, g2, g3⟩ := hh3.cs k hlt
        have fg := hh3.fr
        obtain ⟨o0, o1, o2, o3⟩ := K3.O.four
        obtain ⟨y0, y1, y2, y3, y4⟩ := K3.Y.five
        obtain ⟨x0, x1, x2, x3, x4⟩ := K3.X.five
        have fx := K3.X.frozen
        have HP := Lib.hid (swith_set (rt := rt) (rq := rq) (rv := rv) (o := (x, b, c, d)) hlt hlo hBg K3.bel K3.R hh3 hl1 hl2 hw.out)
        clear hh3 K3
        go_wp2
        exact bodyPost_ret (v := .agg #[.int .i64 rt, .int .i64 rq, .int .i64 rv, .slice A5 ps.length c5, .slice (some ⟨g, 0, none⟩) os.length c6]) (by simp [results, Tryz.results96, go_sem, x0, x1, x2, x3, x4]) rfl (HP.out _ _ _ _ _)
      · have he' : (x == a) = false := by simpa using he
        have hne2 := Lib.hid (show ∀ j, j < k + 1 → (oth os j).1 ≠ a from fun j hj => by
          by_cases ej : j = k
          · subst ej; rw [HX.out]; exact he
          · exact hne.out j (by omega))
        go_wp2_with fail
        refine wp_region_after (by kernel_rfl) (by kernel_rfl) ?_
        repeat (first | go_big_quiet_step (fail) | quiet_step (fail))
        refine wpQuiet_nil ?_
        intro pw
        have K3 := hK.later pw.bel
        replace K3 := Lib.hid K3
        go_wp2
        go_roundw
        case rel => exact ⟨k + 1, by omega, by go_num, hne2.out, K3.out⟩
        case measure => simp [intOf]; omega
    · obtain rfl : k = os.length := by omega
      have hno : noneAt a os := hne
      have HN := Lib.hid hno
      have hw := Lib.hid (withO_none (os := os) (o := (a, b, c, d)) hno)
      clear hne hno
      obtain ⟨AQ, nQ, cQ, hQv, hQl, hQ⟩ : ∃ (A : Option Addr) (n cap : Nat), Value.slice Q q qc = .slice A n cap ∧ n = os.length ∧ Quads w w.heap.size A n os := by
        rcases H2w.out with ⟨hv, rfl⟩ | ⟨bb, oo, n, cap, hv, _, _, hq⟩
        · exact ⟨none, 0, 0, hv, rfl, quads_nil _ _ _⟩
        · exact ⟨_, n, cap, hv, hq.1.symm, hq⟩
      injection hQv with e1 e2 e3
      subst e1 e2 e3 hQl
      have HQ := Lib.hid hQ
      clear hQ
      obtain ⟨d0, d1, d2, d3, d4⟩ := hK.D.five
      obtain ⟨y0, y1, y2, y3, y4⟩ := hK.Y.five
      go_wp2_with fail
      go_loopw [7, 8] (fun bv iv wr => ∃ k bb : Nat, k ≤ os.length ∧ bb ≤ k ∧ iv = .int .i64 k ∧ bv = .int .i64 bb ∧ behN a (os.take k) = bb ∧ SWith w wr S B rt rq rv P p pc Q os.length qc a b c d (.slice A5 ps.length c5) (.slice A6 os.length c6) ps os) (fun _ i _ => os.length - (intOf i).toNat)
      case atStart => exact ⟨0, 0, Nat.zero_le _, Nat.le_refl _, rfl, rfl, rfl, hK⟩
      case round =>
        clear d0 d1 d2 d3 d4 y0 y1 y2 y3 y4 hK
        obtain ⟨k, bb, hk, hbk, rfl, rfl, hbe, hK⟩ := hrel
        by_cases hlt : k < os.length
        · obtain ⟨qb, qo, hA, hbB, hcell⟩ := HQ.out.2 (by omega)
          subst hA
          have hb := hK.bel
          have hzb := hb.size
          obtain ⟨g0, _, _, _⟩ := hcell k hlt
          have g0 := (hb.cell (p := ⟨qb, qo + k * 4, none⟩) hbB).trans g0
          have m0 := After.cell (w := wr) (a := ⟨qb, qo + k * 4, none⟩) (by show qb < _; omega) g0
          have m1 := After.cell (w := wr) (a := ⟨w.heap.size, 4, none⟩) hK.D.lt (hK.D.cell 4)
          have m2 := After.cell (w := wr) (a := ⟨w.heap.size + 1, 0, none⟩) hK.O.lt (hK.O.cell 0)
          have n4 := hK.D.cell 4
          have hsn := behN_snoc (c := a) (os := os) (k := k) hlt
          generalize oth os k = x at m0 g0 hsn
          obtain ⟨x, y, z, t⟩ := x
          have hlt' : (k : Int) < (os.length : Int) := by omega
          rw [hbe] at hsn
          replace hbe := Lib.hid hbe
          clear hcell
          by_cases hl : x < a
          · simp only [hl, if_true] at hsn
            replace hsn := Lib.hid hsn
            go_wp2_with fail
            refine wp_region_after (by kernel_rfl) (by kernel_rfl) ?_
            repeat (first | go_big_quiet_step (fail) | quiet_step (fail))
            refine wpQuiet_nil ?_
            intro pw
            have K3 := hK.later pw.bel
            replace K3 := Lib.hid K3
            go_wp2
            go_roundw
            case rel => exact ⟨k + 1, k + 1, by omega, by omega, by go_num, by go_num, hsn.out, K3.out⟩
            case measure => simp [intOf]; omega
          · simp only [hl, if_false] at hsn
            replace hsn := Lib.hid hsn
            go_wp2_with fail
            refine wp_region_after (by kernel_rfl) (by kernel_rfl) ?_
            repeat (first | go_big_quiet_step (fail) | quiet_step (fail))
            refine wpQuiet_nil ?_
            intro pw
            have K3 := hK.later pw.bel
            replace K3 := Lib.hid K3
            go_wp2
            go_roundw
            case rel => exact ⟨k + 1, bb, by omega, by omega, by go_num, rfl, hsn.out, K3.out⟩
            case measure => simp [intOf]; omega
        · obtain rfl : k = os.length := by omega
          rw [List.take_length] at hbe
          rw [hbe] at hw
          replace hbe := Lib.hid hbe
          obtain ⟨o0, o1, o2, o3⟩ := hK.O.four
          have n4 := hK.D.cell 4
          have y4 := hK.Y.cell 4
          have fy := hK.Y.frozen
          have hYl := hK.Y.lt
          have hlo := hK.hlo
          have hBS := hK.hBS
          have hDl := hK.D.lt
          have hOl := hK.O.lt
          rcases H2w.out with ⟨hv, hos⟩ | ⟨qb, qo, n, cap, hv, hnc, hcm, hQ⟩
          · injection hv with e1 e2 e3
            subst e1 e3
            obtain rfl := hos
            obtain rfl : bb = 0 := by simpa using hbk
            have hEw := hK.bel
            have hsz := hEw.size
            have hbE := bel_alloc wr (.cells #[] 97)
            have OE : (wr.alloc (.cells #[] 97)).drew.ownsRow wr.heap.size 97 4 (.slice (some ⟨wr.heap.size, 0, none⟩) 0 0) 0 [] := (own_new wr 97 4).drew
            have SQ1 : Src (wr.alloc (.cells #[] 97)).drew (.slice none 0 0) 0 4 [] := .inl ⟨rfl, rfl, rfl⟩
            have hbEb := bel_trans hbE (bel_alloc _ (.cells #[.int .i64 a, .int .i64 b, .int .i64 c, .int .i64 d] 97))
            have OEb : ((wr.alloc (.cells #[] 97)).alloc (.cells #[.int .i64 a, .int .i64 b, .int .i64 c, .int .i64 d] 97)).drew.ownsRow wr.heap.size 97 4 (.slice (some ⟨wr.heap.size, 0, none⟩) 0 0) 0 [] := ((own_new wr 97 4).alloc _).drew
            have SQb : Src ((wr.alloc (.cells #[] 97)).alloc (.cells #[.int .i64 a, .int .i64 b, .int .i64 c, .int .i64 d] 97)).drew (.slice none 0 0) 0 4 [] := .inl ⟨rfl, rfl, rfl⟩
            have BOb : Box ((wr.alloc (.cells #[] 97)).alloc (.cells #[.int .i64 a, .int .i64 b, .int .i64 c, .int .i64 d] 97)).drew (wr.heap.size + 1) 97 #[.int .i64 a, .int .i64 b, .int .i64 c, .int .i64 d] := by
              have := Box.new (wr.alloc (.cells #[] 97)) 97 #[.int .i64 a, .int .i64 b, .int .i64 c, .int .i64 d]
              simp only [World.size_alloc] at this
              exact this
            have hbEc := bel_trans (bel_alloc wr (.cells #[.int .i64 a, .int .i64 b, .int .i64 c, .int .i64 d] 97)) (bel_alloc _ (.cells #[] 97))
            have OEc : ((wr.alloc (.cells #[.int .i64 a, .int .i64 b, .int .i64 c, .int .i64 d] 97)).alloc (.cells #[] 97)).drew.ownsRow wr.heap.size 97 4 (.slice (some ⟨wr.heap.size + 1, 0, none⟩) 0 0) 0 [] := by
              have := own_new (wr.alloc (.cells #[.int .i64 a, .int .i64 b, .int .i64 c, .int .i64 d] 97)) 97 4
              simp only [World.size_alloc] at this
              exact (ownLow this (by omega)).drew
            have SQc : Src ((wr.alloc (.cells #[.int .i64 a, .int .i64 b, .int .i64 c, .int .i64 d] 97)).alloc (.cells #[] 97)).drew (.slice none 0 0) 0 4 [] := .inl ⟨rfl, rfl, rfl⟩
            have BOc : Box ((wr.alloc (.cells #[.int .i64 a, .int .i64 b, .int .i64 c, .int .i64 d] 97)).alloc (.cells #[] 97)).drew wr.heap.size 97 #[.int .i64 a, .int .i64 b, .int .i64 c, .int .i64 d] := (Box.new wr 97 #[.int .i64 a, .int .i64 b, .int .i64 c, .int .i64 d]).alloc (.cells #[] 97)
            obtain ⟨L, hL⟩ : ∃ L, (putO [] 0 0 (a, b, c, d)).length = L := ⟨_, rfl⟩
            have hL' : 0 + 1 + 0 = L := by rw [← hL]; rfl
            have hLm : L ≤ 4194304 := by omega
            replace hL := Lib.hid hL
            replace hL' := Lib.hid hL'
            have hX2 : ([] : List Value) ++ [.int .i64 a, .int .i64 b, .int .i64 c, .int .i64 d] = flatO [(a, b, c, d)] := rfl
            have hX3 : flatO [(a, b, c, d)] ++ [] = flatO (putO [] 0 0 (a, b, c, d)) := rfl
            replace hX2 := Lib.hid hX2
            replace hX3 := Lib.hid hX3
            have hSD : (⟨S, 4, none⟩ : Addr).block ≠ w.heap.size := by show S ≠ _; omega
            have hSO : (⟨S, 4, none⟩ : Addr).block ≠ w.heap.size + 1 := by show S ≠ _; omega
            go_upto_region 14 with fail
            go_cut [64] (fun _ wr => SEnd w wr S B rt rq rv (.slice A5 ps.length c5) ps (putO [] 0 0 (a, b, c, d)))
            case first =>
              go_region_held3 (fun w' => w'.cell? ⟨w.heap.size, 4, none⟩ = some (.slice none 0 0) ∧ w'.cell? ⟨w.heap.size + 1, 0, none⟩ = some (.int .i64 a) ∧ w'.cell? ⟨w.heap.size + 1, 1, none⟩ = some (.int .i64 b) ∧ w'.cell? ⟨w.heap.size + 1, 2, none⟩ = some (.int .i64 c) ∧ w'.cell? ⟨w.heap.size + 1, 3, none⟩ = some (.int .i64 d))
                (first | (with_reducible exact KD) | (with_reducible exact KC) | (with_reducible exact KB) | (with_reducible exact KA) | go_keep)
                (first
                  | (refine step_append_srcN (by rfl) _ _ _ (by rfl) wr.heap.size 97 j0 _ 4 32 Tryz.underlying78 hj0 hy0 hy1 hy2 rfl (by omega) (.slice (some ⟨wr.heap.size, 0, none⟩) 0 0) 0 [] (by rfl) OE (by simp) (.slice none 0 0) 0 [] (by rfl) SQ1 0 [] (Nat.zero_add _) rfl (by unfold maxLen; omega) (by omega) (by simp; try omega) ?_; intro g1 cap1 wA hown1 hgrow1 hbg1 hlg1; have FA := bel_grown (g := wr.heap.size) (hbE.drew) hgrow1 (by omega); have KA := dfive (hK.D.later FA hK.D.lt) (hK.O.later FA hK.O.lt); have hsA' := FA.size; have hbO := bel_alloc wA (.cells #[.int .i64 a, .int .i64 b, .int .i64 c, .int .i64 d] 97); have hown1' := hown1.alloc (.cells #[.int .i64 a, .int .i64 b, .int .i64 c, .int .i64 d] 97); have SQ2 := (slcQ_one (Box.new wA 97 #[.int .i64 a, .int .i64 b, .int .i64 c, .int .i64 d])).src; have FAO := bel_trans FA hbO; have hsA := FAO.size)
                  | (refine step_append_srcN (by rfl) _ _ _ (by rfl) wr.heap.size 97 j0 _ 4 32 Tryz.underlying78 hj0 hy0 hy1 hy2 rfl (by omega) (.slice (some ⟨wr.heap.size, 0, none⟩) 0 0) 0 [] (by rfl) OEb (by simp) (.slice none 0 0) 0 [] (by rfl) SQb 0 [] (Nat.zero_add _) rfl (by unfold maxLen; omega) (by omega) (by simp; try omega) ?_; intro g1 cap1 wA hown1 hgrow1 hbg1 hlg1; have FA := bel_grown (g := wr.heap.size) (hbEb.drew) hgrow1 (by omega); have KA := dfive (hK.D.later FA hK.D.lt) (hK.O.later FA hK.O.lt); have hsA' := FA.size; have hown1' := hown1; have SQ2 := (slcQ_one (BOb.kept (r := some wr.heap.size) hgrow1 (by simp))).src; have FAO := FA; have hsA := FAO.size)
                  | (refine step_append_srcN (by rfl) _ _ _ (by rfl) wr.heap.size 97 j0 _ 4 32 Tryz.underlying78 hj0 hy0 hy1 hy2 rfl (by omega) (.slice (some ⟨wr.heap.size + 1, 0, none⟩) 0 0) 0 [] (by rfl) OEc (by simp) (.slice none 0 0) 0 [] (by rfl) SQc 0 [] (Nat.zero_add _) rfl (by unfold maxLen; omega) (by omega) (by simp; try omega) ?_; intro g1 cap1 wA hown1 hgrow1 hbg1 hlg1; have FA := bel_grown (g := wr.heap.size + 1) (hbEc.drew) hgrow1 (by omega); have KA := dfive (hK.D.later FA hK.D.lt) (hK.O.later FA hK.O.lt); have hsA' := FA.size; have hown1' := hown1; have SQ2 := (slcQ_one (BOc.kept (r := some (wr.heap.size + 1)) hgrow1 (by simp))).src; have FAO := FA; have hsA := FAO.size)
                  | (refine step_append_srcN (by rfl) _ _ _ (by rfl) wr.heap.size 97 j0 _ 4 32 Tryz.underlying78 hj0 hy0 hy1 hy2 rfl (by omega) (.slice (some ⟨g1, 0, none⟩) 0 cap1) 0 [] (by rfl) hown1' (by simp) _ 1 (flatO [(a, b, c, d)]) (by rfl) SQ2 1 (flatO [(a, b, c, d)]) rfl hX2.out (by unfold maxLen; omega) (by omega) hsA ?_; intro g2 cap2 wB hown2 hgrow2 hbg2 hlg2; have FB := bel_grown (g := g1) FAO hgrow2 hbg1; have KB := dfive (hK.D.later FB hK.D.lt) (hK.O.later FB hK.O.lt); have hsB := FB.size; have SQ3 : Src wB (.slice none 0 0) 0 4 [] := .inl ⟨rfl, rfl, rfl⟩)
                  | (refine step_append_srcN (by rfl) _ _ _ (by rfl) wr.heap.size 97 j0 _ 4 32 Tryz.underlying78 hj0 hy0 hy1 hy2 rfl (by omega) (.slice (some ⟨g2, 0, none⟩) 1 cap2) 1 (flatO [(a, b, c, d)]) (by rfl) hown2 (by simp) (.slice none 0 0) 0 [] (by rfl) SQ3 L (flatO (putO [] 0 0 (a, b, c, d))) hL'.out hX3.out (by unfold maxLen; omega) (by omega) hsB ?_; intro g3 cap3 wC hown3 hgrow3 hbg3 hlg3; have FC := bel_grown (g := g2) FB hgrow3 hbg2; have KC := dfive (hK.D.later FC hK.D.lt) (hK.O.later FC hK.O.lt); have KD := dfive ((hK.D.later FC hK.D.lt).far (p := ⟨S, 4, none⟩) hSD (.slice (some ⟨g3, 0, none⟩) L cap3)) ((hK.O.later FC hK.O.lt).far (p := ⟨S, 4, none⟩) hSO (.slice (some ⟨g3, 0, none⟩) L cap3)); have yC := (hK.Y.later FC hK.Y.lt).cell 4; have fyC := (hK.Y.later FC hK.Y.lt).frozen))
              all_goals
                have HE := Lib.hid (send_mk hK FC hown3 hL.out)
                clear KA KB KC KD yC fyC hown1 hown1' hown2 hown3 SQ1 SQ2 SQ3 SQb SQc OE OEb OEc FA FAO FB FC
                go_wp2_with fail
                go_meet
                exact HE.out
            case rest =>
            clear o0 o1 o2 o3 n4 y4 fy
            obtain ⟨g3, n3, cap3, X4, Y4, R4, O4, E4, hB4⟩ := hcut
            obtain ⟨x0, x1, x2, x3, x4⟩ := X4.five
            obtain ⟨y0, y1, y2, y3, y4'⟩ := Y4.five
            have fx := X4.frozen
            have HP := Lib.hid (send_put (rt := rt) (rq := rq) (rv := rv) hlo R4 O4 E4 hB4)
            rw [← hw.out] at HP
            clear R4 O4 X4 Y4 E4
            go_wp2
            exact bodyPost_ret (v := .agg #[.int .i64 rt, .int .i64 rq, .int .i64 rv, .slice A5 ps.length c5, .slice (some ⟨g3, 0, none⟩) n3 cap3]) (by simp [results, Tryz.results96, go_sem, x0, x1, x2, x3, x4]) rfl (HP.out _ _ _ _ _)

          · injection hv with e1 e2 e3
            subst e1 e2 e3
            unfold maxLen at hcm
            have hi0 : (0 : Int) ≤ (bb : Int) := by omega
            have hi1 : (bb : Int) ≤ (qc : Int) := by omega
            have hi2 : (bb : Int) ≤ (os.length : Int) := by omega
            have hi3 : (os.length : Int) ≤ (qc : Int) := by omega
            obtain ⟨Z, hZ⟩ : ∃ Z : Option Addr, (if qc = bb then some ⟨qb, qo, none⟩ else some ⟨qb, qo + bb * 4, none⟩) = Z := ⟨_, rfl⟩
            have hEw := hK.bel
            have hsz := hEw.size
            have hbE := bel_alloc wr (.cells #[] 97)
            have OE : (wr.alloc (.cells #[] 97)).drew.ownsRow wr.heap.size 97 4 (.slice (some ⟨wr.heap.size, 0, none⟩) 0 0) 0 [] := (own_new wr 97 4).drew
            have hQr := hQ.later hEw
            have SQ1 : Src (wr.alloc (.cells #[] 97)).drew (.slice (some ⟨qb, qo, none⟩) bb qc) bb 4 (flatO (os.take bb)) := by
              have := (slcQ_take (hQr.later hbE) hbk hnc (show qc ≤ maxLen by unfold maxLen; omega)).src
              rw [List.length_take, Nat.min_eq_left hbk] at this
              exact this
            have hbEb := bel_trans hbE (bel_alloc _ (.cells #[.int .i64 a, .int .i64 b, .int .i64 c, .int .i64 d] 97))
            have OEb : ((wr.alloc (.cells #[] 97)).alloc (.cells #[.int .i64 a, .int .i64 b, .int .i64 c, .int .i64 d] 97)).drew.ownsRow wr.heap.size 97 4 (.slice (some ⟨wr.heap.size, 0, none⟩) 0 0) 0 [] := ((own_new wr 97 4).alloc _).drew
            have SQb : Src ((wr.alloc (.cells #[] 97)).alloc (.cells #[.int .i64 a, .int .i64 b, .int .i64 c, .int .i64 d] 97)).drew (.slice (some ⟨qb, qo, none⟩) bb qc) bb 4 (flatO (os.take bb)) := by
              have := (slcQ_take (hQr.later hbEb) hbk hnc (show qc ≤ maxLen by unfold maxLen; omega)).src
              rw [List.length_take, Nat.min_eq_left hbk] at this
              exact this
            have BOb : Box ((wr.alloc (.cells #[] 97)).alloc (.cells #[.int .i64 a, .int .i64 b, .int .i64 c, .int .i64 d] 97)).drew (wr.heap.size + 1) 97 #[.int .i64 a, .int .i64 b, .int .i64 c, .int .i64 d] := by
              have := Box.new (wr.alloc (.cells #[] 97)) 97 #[.int .i64 a, .int .i64 b, .int .i64 c, .int .i64 d]
              simp only [World.size_alloc] at this
              exact this
            have hbEc := bel_trans (bel_alloc wr (.cells #[.int .i64 a, .int .i64 b, .int .i64 c, .int .i64 d] 97)) (bel_alloc _ (.cells #[] 97))
            have OEc : ((wr.alloc (.cells #[.int .i64 a, .int .i64 b, .int .i64 c, .int .i64 d] 97)).alloc (.cells #[] 97)).drew.ownsRow wr.heap.size 97 4 (.slice (some ⟨wr.heap.size + 1, 0, none⟩) 0 0) 0 [] := by
              have := own_new (wr.alloc (.cells #[.int .i64 a, .int .i64 b, .int .i64 c, .int .i64 d] 97)) 97 4
              simp only [World.size_alloc] at this
              exact (ownLow this (by omega)).drew
            have SQc : Src ((wr.alloc (.cells #[.int .i64 a, .int .i64 b, .int .i64 c, .int .i64 d] 97)).alloc (.cells #[] 97)).drew (.slice (some ⟨qb, qo, none⟩) bb qc) bb 4 (flatO (os.take bb)) := by
              have := (slcQ_take (hQr.later hbEc) hbk hnc (show qc ≤ maxLen by unfold maxLen; omega)).src
              rw [List.length_take, Nat.min_eq_left hbk] at this
              exact this
            have BOc : Box ((wr.alloc (.cells #[.int .i64 a, .int .i64 b, .int .i64 c, .int .i64 d] 97)).alloc (.cells #[] 97)).drew wr.heap.size 97 #[.int .i64 a, .int .i64 b, .int .i64 c, .int .i64 d] := (Box.new wr 97 #[.int .i64 a, .int .i64 b, .int .i64 c, .int .i64 d]).alloc (.cells #[] 97)
            obtain ⟨L, hL⟩ : ∃ L, (putO os bb bb (a, b, c, d)).length = L := ⟨_, rfl⟩
            have hL' : bb + 1 + (os.length - bb) = L := by rw [← hL, putO_len hbk hbk]
            have hLm : L ≤ 4194304 := by omega
            replace hL := Lib.hid hL
            replace hL' := Lib.hid hL'
            have hX2 : flatO (os.take bb) ++ [.int .i64 a, .int .i64 b, .int .i64 c, .int .i64 d] = flatO (os.take bb ++ [(a, b, c, d)]) := (flatO_snoc _ _ _ _ _).symm
            have hX3 : flatO (os.take bb ++ [(a, b, c, d)]) ++ flatO (os.drop bb) = flatO (putO os bb bb (a, b, c, d)) := by unfold putO; rw [flatO_app (os.take bb ++ [(a, b, c, d)])]
            replace hX2 := Lib.hid hX2
            replace hX3 := Lib.hid hX3
            have hSD : (⟨S, 4, none⟩ : Addr).block ≠ w.heap.size := by show S ≠ _; omega
            have hSO : (⟨S, 4, none⟩ : Addr).block ≠ w.heap.size + 1 := by show S ≠ _; omega
            go_upto_region 14 with fail
            go_cut [64] (fun _ wr => SEnd w wr S B rt rq rv (.slice A5 ps.length c5) ps (putO os bb bb (a, b, c, d)))
            case first =>
              go_region_held3 (fun w' => w'.cell? ⟨w.heap.size, 4, none⟩ = some (.slice (some ⟨qb, qo, none⟩) os.length qc) ∧ w'.cell? ⟨w.heap.size + 1, 0, none⟩ = some (.int .i64 a) ∧ w'.cell? ⟨w.heap.size + 1, 1, none⟩ = some (.int .i64 b) ∧ w'.cell? ⟨w.heap.size + 1, 2, none⟩ = some (.int .i64 c) ∧ w'.cell? ⟨w.heap.size + 1, 3, none⟩ = some (.int .i64 d))
                (first | (with_reducible exact KD) | (with_reducible exact KC) | (with_reducible exact KB) | (with_reducible exact KA) | go_keep)
                (first
                  | (refine step_append_srcN (by rfl) _ _ _ (by rfl) wr.heap.size 97 j0 _ 4 32 Tryz.underlying78 hj0 hy0 hy1 hy2 rfl (by omega) (.slice (some ⟨wr.heap.size, 0, none⟩) 0 0) 0 [] (by rfl) OE (by simp) (.slice (some ⟨qb, qo, none⟩) bb qc) bb (flatO (os.take bb)) (by rfl) SQ1 bb (flatO (os.take bb)) (Nat.zero_add _) rfl (by unfold maxLen; omega) (by omega) (by simp; try omega) ?_; intro g1 cap1 wA hown1 hgrow1 hbg1 hlg1; have FA := bel_grown (g := wr.heap.size) (hbE.drew) hgrow1 (by omega); have KA := dfive (hK.D.later FA hK.D.lt) (hK.O.later FA hK.O.lt); have hsA' := FA.size; have hbO := bel_alloc wA (.cells #[.int .i64 a, .int .i64 b, .int .i64 c, .int .i64 d] 97); have hown1' := hown1.alloc (.cells #[.int .i64 a, .int .i64 b, .int .i64 c, .int .i64 d] 97); have SQ2 := (slcQ_one (Box.new wA 97 #[.int .i64 a, .int .i64 b, .int .i64 c, .int .i64 d])).src; have FAO := bel_trans FA hbO; have hsA := FAO.size)
                  | (refine step_append_srcN (by rfl) _ _ _ (by rfl) wr.heap.size 97 j0 _ 4 32 Tryz.underlying78 hj0 hy0 hy1 hy2 rfl (by omega) (.slice (some ⟨wr.heap.size, 0, none⟩) 0 0) 0 [] (by rfl) OEb (by simp) (.slice (some ⟨qb, qo, none⟩) bb qc) bb (flatO (os.take bb)) (by rfl) SQb bb (flatO (os.take bb)) (Nat.zero_add _) rfl (by unfold maxLen; omega) (by omega) (by simp; try omega) ?_; intro g1 cap1 wA hown1 hgrow1 hbg1 hlg1; have FA := bel_grown (g := wr.heap.size) (hbEb.drew) hgrow1 (by omega); have KA := dfive (hK.D.later FA hK.D.lt) (hK.O.later FA hK.O.lt); have hsA' := FA.size; have hown1' := hown1; have SQ2 := (slcQ_one (BOb.kept (r := some wr.heap.size) hgrow1 (by simp))).src; have FAO := FA; have hsA := FAO.size)
                  | (refine step_append_srcN (by rfl) _ _ _ (by rfl) wr.heap.size 97 j0 _ 4 32 Tryz.underlying78 hj0 hy0 hy1 hy2 rfl (by omega) (.slice (some ⟨wr.heap.size + 1, 0, none⟩) 0 0) 0 [] (by rfl) OEc (by simp) (.slice (some ⟨qb, qo, none⟩) bb qc) bb (flatO (os.take bb)) (by rfl) SQc bb (flatO (os.take bb)) (Nat.zero_add _) rfl (by unfold maxLen; omega) (by omega) (by simp; try omega) ?_; intro g1 cap1 wA hown1 hgrow1 hbg1 hlg1; have FA := bel_grown (g := wr.heap.size + 1) (hbEc.drew) hgrow1 (by omega); have KA := dfive (hK.D.later FA hK.D.lt) (hK.O.later FA hK.O.lt); have hsA' := FA.size; have hown1' := hown1; have SQ2 := (slcQ_one (BOc.kept (r := some (wr.heap.size + 1)) hgrow1 (by simp))).src; have FAO := FA; have hsA := FAO.size)
                  | (refine step_append_srcN (by rfl) _ _ _ (by rfl) wr.heap.size 97 j0 _ 4 32 Tryz.underlying78 hj0 hy0 hy1 hy2 rfl (by omega) (.slice (some ⟨g1, 0, none⟩) bb cap1) bb (flatO (os.take bb)) (by rfl) hown1' (by simp) _ 1 (flatO [(a, b, c, d)]) (by rfl) SQ2 (bb + 1) (flatO (os.take bb ++ [(a, b, c, d)])) rfl hX2.out (by unfold maxLen; omega) (by omega) hsA ?_; intro g2 cap2 wB hown2 hgrow2 hbg2 hlg2; have FB := bel_grown (g := g1) FAO hgrow2 hbg1; have KB := dfive (hK.D.later FB hK.D.lt) (hK.O.later FB hK.O.lt); have hsB := FB.size; have SQ3 := (slcQ_drop (hQr.later FB) hbk hnc (show qc ≤ maxLen by unfold maxLen; omega)).src; rw [hZ, List.length_drop] at SQ3)
                  | (refine step_append_srcN (by rfl) _ _ _ (by rfl) wr.heap.size 97 j0 _ 4 32 Tryz.underlying78 hj0 hy0 hy1 hy2 rfl (by omega) (.slice (some ⟨g2, 0, none⟩) (bb + 1) cap2) (bb + 1) (flatO (os.take bb ++ [(a, b, c, d)])) (by rfl) hown2 (by simp) (.slice Z (os.length - bb) (qc - bb)) (os.length - bb) (flatO (os.drop bb)) (by rfl) SQ3 L (flatO (putO os bb bb (a, b, c, d))) hL'.out hX3.out (by unfold maxLen; omega) (by omega) hsB ?_; intro g3 cap3 wC hown3 hgrow3 hbg3 hlg3; have FC := bel_grown (g := g2) FB hgrow3 hbg2; have KC := dfive (hK.D.later FC hK.D.lt) (hK.O.later FC hK.O.lt); have KD := dfive ((hK.D.later FC hK.D.lt).far (p := ⟨S, 4, none⟩) hSD (.slice (some ⟨g3, 0, none⟩) L cap3)) ((hK.O.later FC hK.O.lt).far (p := ⟨S, 4, none⟩) hSO (.slice (some ⟨g3, 0, none⟩) L cap3)); have yC := (hK.Y.later FC hK.Y.lt).cell 4; have fyC := (hK.Y.later FC hK.Y.lt).frozen))
              all_goals
                have HE := Lib.hid (send_mk hK FC hown3 hL.out)
                clear KA KB KC KD yC fyC hown1 hown1' hown2 hown3 SQ1 SQ2 SQ3 SQb SQc OE OEb OEc FA FAO FB FC
                go_wp2_with fail
                go_meet
                exact HE.out
            case rest =>
            clear o0 o1 o2 o3 n4 y4 fy
            obtain ⟨g3, n3, cap3, X4, Y4, R4, O4, E4, hB4⟩ := hcut
            obtain ⟨x0, x1, x2, x3, x4⟩ := X4.five
            obtain ⟨y0, y1, y2, y3, y4'⟩ := Y4.five
            have fx := X4.frozen
            have HP := Lib.hid (send_put (rt := rt) (rq := rq) (rv := rv) hlo R4 O4 E4 hB4)
            rw [← hw.out] at HP
            clear R4 O4 X4 Y4 E4
            go_wp2
            exact bodyPost_ret (v := .agg #[.int .i64 rt, .int .i64 rq, .int .i64 rv, .slice A5 ps.length c5, .slice (some ⟨g3, 0, none⟩) n3 cap3]) (by simp [results, Tryz.results96, go_sem, x0, x1, x2, x3, x4]) rfl (HP.out _ _ _ _ _)

end Go.Proofs.YtjdepjpjjgkmbaaGreat
