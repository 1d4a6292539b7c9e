/- What the model's bending of a record leaves: a record of its own, with another number or a seal more; conditions: the record is one's own. -/
import Derived.Test.YthpccmckjmmicaaDraw9
namespace Go.Proofs.Ythpccmckjmmicaa
open Go Go.RowKit

/-- The state of a bending: the cursor, the record's variable, the answer's. -/
structure B9 (w wr : World) (g : Nat) (A : Option Addr) (n cap : Nat) (F : Nat → Prop) (d : RecD) (u : Value) : Prop where
  cur : Cur wr 86 .i64 g A n cap
  vr : Box wr w.heap.size 31 (d.cells u)
  rs : Box wr (w.heap.size + 1) 31 #[.int .i64 0, .int .i64 0, .int .i64 0, .int .i64 0, .int .i64 0, .int .i64 0, .int .i64 0, .slice none 0 0, .int .i64 0]
  own : RowC d.ps wr (fun b => F b ∨ w.heap.size + 1 < b) u
  len : d.ps.length ≤ 21
  trn : Turns (fun b => b = g ∨ F b) w wr
  gl : g < w.heap.size
  hF : ∀ b, F b → g < b ∧ b < w.heap.size
theorem B9.draw {w wr w' : World} {g : Nat} {A : Option Addr} {n cap : Nat} {F : Nat → Prop} {d : RecD} {u : Value} (h : B9 w wr g A n cap F d u) (hg : wr.grownBy w' (some g)) (hc : Cur w' 86 .i64 g A n cap) : B9 w w' g A n cap F d u := by
  have h1 := h.gl
  have ht := Turns.of_grown hg
  exact ⟨hc, h.vr.turn ht (by omega), h.rs.turn ht (by omega), (keepsRow d.ps).turn h.own ht (fun b hb e => by rcases hb with hb | hb; exact absurd (h.hF b hb).1 (by omega); omega), h.len, h.trn.trans (ht.sub fun i _ e => .inl e), h.gl, h.hF⟩
theorem B9.later {w wr w' : World} {g : Nat} {A : Option Addr} {n cap : Nat} {F : Nat → Prop} {d : RecD} {u : Value} (h : B9 w wr g A n cap F d u) (hb : Below wr.heap.size wr w') : B9 w w' g A n cap F d u :=
  h.draw (grown_bel hb (some g)) (h.cur.kept (grown_bel hb none) (fun q hq => by cases hq))
theorem grown_setCell (w : World) (g o : Nat) (u : Value) : w.grownBy (w.setCell ⟨g, o, none⟩ u) (some g) :=
  ⟨rfl, rfl, rfl, by rw [size_set]; exact Nat.le_refl _, fun i _ hne => Below.heap_setCell w ⟨g, o, none⟩ u i (fun e => hne (by rw [e]))⟩
/-- A number of the record's variable is written. -/
theorem B9.set {w wr : World} {g : Nat} {A : Option Addr} {n cap : Nat} {F : Nat → Prop} {d d' : RecD} {u : Value} (h : B9 w wr g A n cap F d u) (i : Nat) (x : Value) (hd : (d.cells u).setIfInBounds i x = d'.cells u) (hp : d'.ps = d.ps) : B9 w (wr.setCell ⟨w.heap.size, i, none⟩ x) g A n cap F d' u := by
  have h1 := h.gl
  have ht := turns_setCell wr w.heap.size i x
  refine ⟨h.cur.kept (grown_setCell wr w.heap.size i x) (fun q hq => by injection hq with hq; omega), hd ▸ h.vr.set i x, h.rs.turn ht (by omega), ?_, by rw [hp]; exact h.len, ?_, h.gl, h.hF⟩
  · rw [hp]
    exact (keepsRow d.ps).turn h.own ht (fun b hb e => by rcases hb with hb | hb; exact absurd (h.hF b hb).2 (by omega); omega)
  · exact ⟨ht.os.trans h.trn.os, ht.tape.trans h.trn.tape, ht.output.trans h.trn.output, Nat.le_trans h.trn.size ht.size, fun i hi hne => (ht.block i (Nat.lt_of_lt_of_le hi h.trn.size) (by omega)).trans (h.trn.block i hi hne)⟩
/-- A list that was appended to is laid into the record's variable. -/
theorem B9.push {w wr w2 : World} {g : Nat} {A : Option Addr} {n cap : Nat} {F : Nat → Prop} {d : RecD} {gq cq : Nat} {ob : Obj} {z0 z1 : Int} {gg cap2 : Nat} (h : B9 w wr g A n cap F d (.slice (some ⟨gq, 0, none⟩) d.ps.length cq)) (hl : d.ps.length ≤ 20) (hgq : F gq ∨ w.heap.size + 1 < gq)
    (hown : w2.ownsRow 0 75 2 (.slice (some ⟨gg, 0, none⟩) (d.ps.length + 1) cap2) (d.ps.length + 1) (flatP d.ps ++ [.int .i64 z0, .int .i64 z1])) (hg : (wr.alloc ob).grownBy w2 (some gq)) (hat : (some gq = some gg ∨ gg = wr.heap.size + 1)) :
    B9 w (w2.setCell ⟨w.heap.size, 7, none⟩ (.slice (some ⟨gg, 0, none⟩) (d.ps.length + 1) cap2)) g A n cap F ⟨d.r1, d.r2, d.r3, d.r4, d.r5, d.r6, d.r7, d.ps ++ [(z0, z1)], d.r8⟩ (.slice (some ⟨gg, 0, none⟩) (d.ps.length + 1) cap2) := by
  have h1 := h.gl
  have hR := h.rs.lt
  have hgqs : gq ≠ w.heap.size ∧ gq ≠ w.heap.size + 1 ∧ g < gq := by
    rcases hgq with hx | hx
    · have := h.hF gq hx; omega
    · omega
  have hbl := bel_alloc wr ob
  have ht0 := (Turns.of_below (T := fun _ => False) hbl)
  have ht1 := Turns.of_grown hg
  have ht := turns_setCell w2 w.heap.size 7 (.slice (some ⟨gg, 0, none⟩) (d.ps.length + 1) cap2)
  have hc1 := (h.cur.kept (grown_bel hbl none) (fun q hq => by cases hq))
  have hc2 : Cur w2 86 .i64 g A n cap := hc1.kept hg (fun q hq => by injection hq with hq; omega)
  have v2 := (h.vr.turn ht0 (fun h => h)).turn ht1 (Ne.symm hgqs.1)
  have r2 := (h.rs.turn ht0 (fun h => h)).turn ht1 (Ne.symm hgqs.2.1)
  have hgg : F gg ∨ w.heap.size + 1 < gg := by
    rcases hat with e | e
    · injection e with e; exact e ▸ hgq
    · right; omega
  have hggs : gg ≠ w.heap.size := by
    rcases hgg with hx | hx
    · have := (h.hF gg hx).2; omega
    · omega
  have hrow : RowC (d.ps ++ [(z0, z1)]) w2 (fun b => F b ∨ w.heap.size + 1 < b) (.slice (some ⟨gg, 0, none⟩) (d.ps.length + 1) cap2) :=
    ⟨gg, cap2, hgg, by simp, by simpa [flatP] using hown⟩
  refine ⟨hc2.kept (grown_setCell w2 w.heap.size 7 _) (fun q hq => by injection hq with hq; omega), v2.set 7 _, r2.turn ht (by omega), (keepsRow _).turn hrow ht (fun b hb e => by rcases hb with hb | hb; exact absurd (h.hF b hb).2 (by omega); omega), by simp; omega, ?_, h.gl, h.hF⟩
  have hzz : wr.heap.size ≤ (wr.alloc ob).heap.size := hbl.size
  have hw := h.trn.size
  exact ⟨ht.os.trans (ht1.os.trans (ht0.os.trans h.trn.os)), ht.tape.trans (ht1.tape.trans (ht0.tape.trans h.trn.tape)), ht.output.trans (ht1.output.trans (ht0.output.trans h.trn.output)), by have := ht.size; have := ht1.size; omega,
    fun i hi hne => (ht.block i (by have := ht1.size; omega) (by omega)).trans ((ht1.block i (by omega) (fun e => by rcases hgq with hx | hx; exact hne (.inr (e ▸ hx)); omega)).trans ((ht0.block i (by omega) (fun h => h)).trans (h.trn.block i hi hne)))⟩

/-- A record was bent. -/
def BentR (g : Nat) (A : Option Addr) (n cap : Nat) (F : Nat → Prop) (w : World) (e : Ending) (w' : World) : Prop :=
  ∃ (C : Array Value) (d : RecD), e = .returned (.agg C) ∧ LieCR d w' (fun b => F b ∨ w.heap.size + 1 < b) (.agg C) ∧ d.ps.length ≤ 21 ∧ Cur w' 86 .i64 g A n cap ∧ Turns (fun b => b = g ∨ F b) w w'

theorem rowC_form {ps : List (Int × Int)} {w : World} {F : Nat → Prop} {v : Value} (h : RowC ps w F v) : ∃ (A : Option Addr) (n c : Nat), v = .slice A n c := by
  obtain ⟨g, cap, -, rfl, -⟩ := h
  exact ⟨_, _, _, rfl⟩
theorem LieCR.one {d : RecD} {w : World} {F : Nat → Prop} {C : Array Value} (h : LieCR d w F (.agg C)) : C.all (·.oneCell') = true := (oneC h.lie.at).2
/-- The record is laid into the variable of the answer. -/
theorem bent_put {w wr : World} {g : Nat} {A : Option Addr} {n cap : Nat} {F : Nat → Prop} {d : RecD} {u : Value} (h : B9 w wr g A n cap F d u) :
    Box (wr.setRow (w.heap.size + 1) (d.cells u)) (w.heap.size + 1) 31 (d.cells u) ∧ LieCR d (wr.setRow (w.heap.size + 1) (d.cells u)) (fun b => F b ∨ w.heap.size + 1 < b) (.agg (d.cells u)) ∧ Cur (wr.setRow (w.heap.size + 1) (d.cells u)) 86 .i64 g A n cap ∧ Turns (fun b => b = g ∨ F b) w (wr.setRow (w.heap.size + 1) (d.cells u)) := by
  have ht := turns_setRow wr (w.heap.size + 1) (d.cells u)
  have hg : wr.grownBy (wr.setRow (w.heap.size + 1) (d.cells u)) (some (w.heap.size + 1)) := ⟨ht.os, ht.tape, ht.output, ht.size, fun i hi hne => ht.block i hi (fun e => hne (by rw [e]))⟩
  have h1 := h.gl
  refine ⟨h.rs.setRow _, ⟨u, rfl, (keepsRow d.ps).turn h.own ht (fun b hb e => by rcases hb with hb | hb; exact absurd (h.hF b hb).2 (by omega); omega)⟩, h.cur.kept hg (fun q hq => by injection hq with hq; omega), ?_⟩
  exact ⟨ht.os.trans h.trn.os, ht.tape.trans h.trn.tape, ht.output.trans h.trn.output, Nat.le_trans h.trn.size ht.size, fun i hi hne => (ht.block i (Nat.lt_of_lt_of_le hi h.trn.size) (by omega)).trans (h.trn.block i hi hne)⟩

set_option maxRecDepth 100000 in
set_option maxHeartbeats 8000000 in
theorem l9Bend_any (g : Nat) (A : Option Addr) (n cap : Nat) (F : Nat → Prop) (C : Array Value) (d : RecD) (w : World) (hc : Cur w 86 .i64 g A n cap) (hL : LieCR d w F (.agg C)) (hl : d.ps.length ≤ 20) (hF : ∀ b, F b → g < b ∧ b < w.heap.size) :
    Calls Try.prog 34 #[.pointer (some ⟨g, 0, none⟩), .agg C] w (BentR g A n cap F w) := by
  obtain ⟨i0, hi0, hz0, hz1, hz2⟩ := info_parts Try.infoSealI
  obtain ⟨u, e, hR⟩ := hL
  injection e with e
  subst e
  have hgl := hc.lt
  have K : B9 w ((w.alloc (.cells (d.cells u) 31)).alloc (.cells #[.int .i64 0, .int .i64 0, .int .i64 0, .int .i64 0, .int .i64 0, .int .i64 0, .int .i64 0, .slice none 0 0, .int .i64 0] 31)) g A n cap F d u := by
    have E := bel_trans (bel_alloc w (.cells (d.cells u) 31)) (bel_alloc _ (.cells #[.int .i64 0, .int .i64 0, .int .i64 0, .int .i64 0, .int .i64 0, .int .i64 0, .int .i64 0, .slice none 0 0, .int .i64 0] 31))
    refine ⟨hc.kept (grown_bel E none) (fun q hq => by cases hq), (Box.new w 31 (d.cells u)).alloc _, ?_, (keepsRow d.ps).sub ((keepsRow d.ps).later hR E) (fun b hb => .inl hb), by omega, (Turns.of_below (T := fun b => b = g ∨ F b) E), hgl, hF⟩
    have := Box.new (w.alloc (.cells (d.cells u) 31)) 31 #[.int .i64 0, .int .i64 0, .int .i64 0, .int .i64 0, .int .i64 0, .int .i64 0, .int .i64 0, .slice none 0 0, .int .i64 0]
    simp only [World.size_alloc] at this
    exact this
  clear hR hc hF
  have HL := Lib.hid hl
  go_enter Try.func34, Try.ntmps34
  go_upto_region 1 with fail
  generalize ((w.alloc _).alloc _ : World) = w0 at K ⊢
  -- the walk
  go_wp2_with fail
  refine (l1Below_any g A n cap 7 w0 (by omega) K.cur).mono ?_
  rintro e w1 ⟨x, ⟨hx0, hx6⟩, rfl, hc1, hg1⟩
  replace K := K.draw hg1 hc1
  clear hc1 hg1
  have hx : x = 0 ∨ x = 1 ∨ x = 2 ∨ x = 3 ∨ x = 4 ∨ x = 5 ∨ x = 6 := by omega
  clear hx0 hx6
  rcases hx with rfl | rfl | rfl | rfl | rfl | rfl | rfl
  · go_wp2_with fail
    refine (l1Num_any g A n cap 400 w1 (by omega) (by omega) K.cur).mono ?_
    rintro e w2 ⟨r, _, rfl, hc2, hg2⟩
    replace K := K.draw hg2 hc2
    have fr := K.vr.frozen
    obtain ⟨c0, c1, c2, c3, c4, c5, c6, c7, c8⟩ := Box.nine (v0 := .int .i64 d.r1) (v1 := .int .i64 d.r2) (v2 := .int .i64 d.r3) (v3 := .int .i64 d.r4) (v4 := .int .i64 d.r5) (v5 := .int .i64 d.r6) (v6 := .int .i64 d.r7) (v7 := u) (v8 := .int .i64 d.r8) K.vr
    have HK := Lib.hid (K.set (d' := ⟨r, d.r2, d.r3, d.r4, d.r5, d.r6, d.r7, d.ps, d.r8⟩) 0 (.int .i64 r) rfl rfl)
    clear K hc2 hg2
    go_wp2_with fail
    clear c0 c1 c2 c3 c4 c5 c6 c7 c8 fr
    generalize (w2.setCell _ _ : World) = w4 at HK ⊢
    obtain ⟨d', u', K⟩ : ∃ (d' : RecD) (u' : Value), B9 w w4 g A n cap F d' u' := ⟨_, _, HK.out⟩
    clear HK
    refine (l1Once_any g A n cap 2 w4 (by omega) K.cur).mono ?_
    rintro e w5 ⟨y, rfl, hc5, hg5⟩
    replace K := K.draw hg5 hc5
    clear hc5 hg5
    have IS : Hid ((Try.prog.info? 31).map (·.size) = some 9) := Lib.hid (by kernel_rfl)
    have hps := ownPs_lt K.own.own
    rcases y with _ | _
    · obtain ⟨B, L7, C7, G7⟩ := bent_put K
      have X := K.rs
      have VR := K.vr
      replace B := Lib.hid B
      have hlen5 := Lib.hid K.len
      clear K hps
      go_wp2_with (first | (refine wpList_load_box 31 _ rfl w.heap.size rfl 31 (d'.cells u') VR _ Try.underlying31 rfl IS.out (by first | rfl | simp [Region.wanted, yielded] | (simp [Region.wanted, yielded, Act.put] <;> omega)) ?_) | (refine wpList_store_row rfl 31 _ _ rfl (w.heap.size + 1) _ rfl rfl 31 #[.int .i64 0, .int .i64 0, .int .i64 0, .int .i64 0, .int .i64 0, .int .i64 0, .int .i64 0, .slice none 0 0, .int .i64 0] X IS.out rfl L7.one ?_))
      exact bodyPost_ret (v := .agg (d'.cells u')) (results_row (Try.results34) _ _ (w.heap.size + 1) 31 (d'.cells u') _ rfl B.out Try.underlying31 rfl IS.out) rfl ⟨_, d', rfl, L7, hlen5.out, C7, G7⟩
    · obtain ⟨A7, n7, c7, hu⟩ := rowC_form K.own
      subst hu
      obtain ⟨hm7, hl7, hp7⟩ := rowC_at K.own
      have VR : Box w5 w.heap.size 31 #[.int .i64 d'.r1, .int .i64 d'.r2, .int .i64 d'.r3, .int .i64 d'.r4, .int .i64 d'.r5, .int .i64 d'.r6, .int .i64 d'.r7, .slice A7 n7 c7, .int .i64 d'.r8] := K.vr
      have hn7 : n7 ≤ 4194304 := by have := K.len; omega
      clear hps
      go_wp2_with (refine wpList_load_box 31 _ rfl w.heap.size rfl 31 #[.int .i64 d'.r1, .int .i64 d'.r2, .int .i64 d'.r3, .int .i64 d'.r4, .int .i64 d'.r5, .int .i64 d'.r6, .int .i64 d'.r7, .slice A7 n7 c7, .int .i64 d'.r8] VR _ Try.underlying31 rfl IS.out (by first | rfl | simp [Region.wanted, yielded] | (simp [Region.wanted, yielded, Act.put] <;> omega)) ?_)
      refine (specSumOf_is d'.r1 d'.r2 d'.r3 d'.r4 d'.r5 d'.r6 d'.r7 A7 n7 c7 d'.r8 d'.ps w5 hn7 hp7).mono ?_
      rintro e w6 ⟨rfl, hb⟩
      replace K := K.later hb
      clear hb hp7 VR hl7 hm7
      have fr := K.vr.frozen
      have c8 : w6.cell? ⟨w.heap.size, 8, none⟩ = some (.int .i64 d'.r8) := K.vr.cell 8
      have K9 := Lib.hid (K.set (d' := ⟨d'.r1, d'.r2, d'.r3, d'.r4, d'.r5, d'.r6, d'.r7, d'.ps, sumN d'.r1 d'.r2 d'.r3 d'.r4 d'.r5 d'.r6 d'.r7 d'.ps⟩) 8 (.int .i64 (sumN d'.r1 d'.r2 d'.r3 d'.r4 d'.r5 d'.r6 d'.r7 d'.ps)) rfl rfl)
      clear K
      go_upto_region 18 with fail
      clear fr c8
      generalize (w6.setCell _ _ : World) = w7 at K9 ⊢
      obtain ⟨d9, u9, K⟩ : ∃ (d' : RecD) (u' : Value), B9 w w7 g A n cap F d' u' := ⟨_, _, K9.out⟩
      clear K9
      obtain ⟨B, L7, C7, G7⟩ := bent_put K
      have X := K.rs
      have VR := K.vr
      replace B := Lib.hid B
      have hlen5 := Lib.hid K.len
      clear K
      go_wp2_with (first | (refine wpList_load_box 31 _ rfl w.heap.size rfl 31 (d9.cells u9) VR _ Try.underlying31 rfl IS.out (by first | rfl | simp [Region.wanted, yielded] | (simp [Region.wanted, yielded, Act.put] <;> omega)) ?_) | (refine wpList_store_row rfl 31 _ _ rfl (w.heap.size + 1) _ rfl rfl 31 #[.int .i64 0, .int .i64 0, .int .i64 0, .int .i64 0, .int .i64 0, .int .i64 0, .int .i64 0, .slice none 0 0, .int .i64 0] X IS.out rfl L7.one ?_))
      exact bodyPost_ret (v := .agg (d9.cells u9)) (results_row (Try.results34) _ _ (w.heap.size + 1) 31 (d9.cells u9) _ rfl B.out Try.underlying31 rfl IS.out) rfl ⟨_, d9, rfl, L7, hlen5.out, C7, G7⟩
  · go_wp2_with fail
    refine (l1From_any g A n cap 0 3 w1 (by omega) (by omega) (by omega) K.cur).mono ?_
    rintro e w2 ⟨r, _, rfl, hc2, hg2⟩
    replace K := K.draw hg2 hc2
    have fr := K.vr.frozen
    obtain ⟨c0, c1, c2, c3, c4, c5, c6, c7, c8⟩ := Box.nine (v0 := .int .i64 d.r1) (v1 := .int .i64 d.r2) (v2 := .int .i64 d.r3) (v3 := .int .i64 d.r4) (v4 := .int .i64 d.r5) (v5 := .int .i64 d.r6) (v6 := .int .i64 d.r7) (v7 := u) (v8 := .int .i64 d.r8) K.vr
    have HK := Lib.hid (K.set (d' := ⟨d.r1, r, d.r3, d.r4, d.r5, d.r6, d.r7, d.ps, d.r8⟩) 1 (.int .i64 r) rfl rfl)
    clear K hc2 hg2
    go_wp2_with fail
    clear c0 c1 c2 c3 c4 c5 c6 c7 c8 fr
    generalize (w2.setCell _ _ : World) = w4 at HK ⊢
    obtain ⟨d', u', K⟩ : ∃ (d' : RecD) (u' : Value), B9 w w4 g A n cap F d' u' := ⟨_, _, HK.out⟩
    clear HK
    refine (l1Once_any g A n cap 2 w4 (by omega) K.cur).mono ?_
    rintro e w5 ⟨y, rfl, hc5, hg5⟩
    replace K := K.draw hg5 hc5
    clear hc5 hg5
    have IS : Hid ((Try.prog.info? 31).map (·.size) = some 9) := Lib.hid (by kernel_rfl)
    have hps := ownPs_lt K.own.own
    rcases y with _ | _
    · obtain ⟨B, L7, C7, G7⟩ := bent_put K
      have X := K.rs
      have VR := K.vr
      replace B := Lib.hid B
      have hlen5 := Lib.hid K.len
      clear K hps
      go_wp2_with (first | (refine wpList_load_box 31 _ rfl w.heap.size rfl 31 (d'.cells u') VR _ Try.underlying31 rfl IS.out (by first | rfl | simp [Region.wanted, yielded] | (simp [Region.wanted, yielded, Act.put] <;> omega)) ?_) | (refine wpList_store_row rfl 31 _ _ rfl (w.heap.size + 1) _ rfl rfl 31 #[.int .i64 0, .int .i64 0, .int .i64 0, .int .i64 0, .int .i64 0, .int .i64 0, .int .i64 0, .slice none 0 0, .int .i64 0] X IS.out rfl L7.one ?_))
      exact bodyPost_ret (v := .agg (d'.cells u')) (results_row (Try.results34) _ _ (w.heap.size + 1) 31 (d'.cells u') _ rfl B.out Try.underlying31 rfl IS.out) rfl ⟨_, d', rfl, L7, hlen5.out, C7, G7⟩
    · obtain ⟨A7, n7, c7, hu⟩ := rowC_form K.own
      subst hu
      obtain ⟨hm7, hl7, hp7⟩ := rowC_at K.own
      have VR : Box w5 w.heap.size 31 #[.int .i64 d'.r1, .int .i64 d'.r2, .int .i64 d'.r3, .int .i64 d'.r4, .int .i64 d'.r5, .int .i64 d'.r6, .int .i64 d'.r7, .slice A7 n7 c7, .int .i64 d'.r8] := K.vr
      have hn7 : n7 ≤ 4194304 := by have := K.len; omega
      clear hps
      go_wp2_with (refine wpList_load_box 31 _ rfl w.heap.size rfl 31 #[.int .i64 d'.r1, .int .i64 d'.r2, .int .i64 d'.r3, .int .i64 d'.r4, .int .i64 d'.r5, .int .i64 d'.r6, .int .i64 d'.r7, .slice A7 n7 c7, .int .i64 d'.r8] VR _ Try.underlying31 rfl IS.out (by first | rfl | simp [Region.wanted, yielded] | (simp [Region.wanted, yielded, Act.put] <;> omega)) ?_)
      refine (specSumOf_is d'.r1 d'.r2 d'.r3 d'.r4 d'.r5 d'.r6 d'.r7 A7 n7 c7 d'.r8 d'.ps w5 hn7 hp7).mono ?_
      rintro e w6 ⟨rfl, hb⟩
      replace K := K.later hb
      clear hb hp7 VR hl7 hm7
      have fr := K.vr.frozen
      have c8 : w6.cell? ⟨w.heap.size, 8, none⟩ = some (.int .i64 d'.r8) := K.vr.cell 8
      have K9 := Lib.hid (K.set (d' := ⟨d'.r1, d'.r2, d'.r3, d'.r4, d'.r5, d'.r6, d'.r7, d'.ps, sumN d'.r1 d'.r2 d'.r3 d'.r4 d'.r5 d'.r6 d'.r7 d'.ps⟩) 8 (.int .i64 (sumN d'.r1 d'.r2 d'.r3 d'.r4 d'.r5 d'.r6 d'.r7 d'.ps)) rfl rfl)
      clear K
      go_upto_region 18 with fail
      clear fr c8
      generalize (w6.setCell _ _ : World) = w7 at K9 ⊢
      obtain ⟨d9, u9, K⟩ : ∃ (d' : RecD) (u' : Value), B9 w w7 g A n cap F d' u' := ⟨_, _, K9.out⟩
      clear K9
      obtain ⟨B, L7, C7, G7⟩ := bent_put K
      have X := K.rs
      have VR := K.vr
      replace B := Lib.hid B
      have hlen5 := Lib.hid K.len
      clear K
      go_wp2_with (first | (refine wpList_load_box 31 _ rfl w.heap.size rfl 31 (d9.cells u9) VR _ Try.underlying31 rfl IS.out (by first | rfl | simp [Region.wanted, yielded] | (simp [Region.wanted, yielded, Act.put] <;> omega)) ?_) | (refine wpList_store_row rfl 31 _ _ rfl (w.heap.size + 1) _ rfl rfl 31 #[.int .i64 0, .int .i64 0, .int .i64 0, .int .i64 0, .int .i64 0, .int .i64 0, .int .i64 0, .slice none 0 0, .int .i64 0] X IS.out rfl L7.one ?_))
      exact bodyPost_ret (v := .agg (d9.cells u9)) (results_row (Try.results34) _ _ (w.heap.size + 1) 31 (d9.cells u9) _ rfl B.out Try.underlying31 rfl IS.out) rfl ⟨_, d9, rfl, L7, hlen5.out, C7, G7⟩
  · go_wp2_with fail
    refine (l1Num_any g A n cap 3 w1 (by omega) (by omega) K.cur).mono ?_
    rintro e w2 ⟨r, _, rfl, hc2, hg2⟩
    replace K := K.draw hg2 hc2
    have fr := K.vr.frozen
    obtain ⟨c0, c1, c2, c3, c4, c5, c6, c7, c8⟩ := Box.nine (v0 := .int .i64 d.r1) (v1 := .int .i64 d.r2) (v2 := .int .i64 d.r3) (v3 := .int .i64 d.r4) (v4 := .int .i64 d.r5) (v5 := .int .i64 d.r6) (v6 := .int .i64 d.r7) (v7 := u) (v8 := .int .i64 d.r8) K.vr
    have HK := Lib.hid (K.set (d' := ⟨d.r1, d.r2, r, d.r4, d.r5, d.r6, d.r7, d.ps, d.r8⟩) 2 (.int .i64 r) rfl rfl)
    clear K hc2 hg2
    go_wp2_with fail
    clear c0 c1 c2 c3 c4 c5 c6 c7 c8 fr
    generalize (w2.setCell _ _ : World) = w4 at HK ⊢
    obtain ⟨d', u', K⟩ : ∃ (d' : RecD) (u' : Value), B9 w w4 g A n cap F d' u' := ⟨_, _, HK.out⟩
    clear HK
    refine (l1Once_any g A n cap 2 w4 (by omega) K.cur).mono ?_
    rintro e w5 ⟨y, rfl, hc5, hg5⟩
    replace K := K.draw hg5 hc5
    clear hc5 hg5
    have IS : Hid ((Try.prog.info? 31).map (·.size) = some 9) := Lib.hid (by kernel_rfl)
    have hps := ownPs_lt K.own.own
    rcases y with _ | _
    · obtain ⟨B, L7, C7, G7⟩ := bent_put K
      have X := K.rs
      have VR := K.vr
      replace B := Lib.hid B
      have hlen5 := Lib.hid K.len
      clear K hps
      go_wp2_with (first | (refine wpList_load_box 31 _ rfl w.heap.size rfl 31 (d'.cells u') VR _ Try.underlying31 rfl IS.out (by first | rfl | simp [Region.wanted, yielded] | (simp [Region.wanted, yielded, Act.put] <;> omega)) ?_) | (refine wpList_store_row rfl 31 _ _ rfl (w.heap.size + 1) _ rfl rfl 31 #[.int .i64 0, .int .i64 0, .int .i64 0, .int .i64 0, .int .i64 0, .int .i64 0, .int .i64 0, .slice none 0 0, .int .i64 0] X IS.out rfl L7.one ?_))
      exact bodyPost_ret (v := .agg (d'.cells u')) (results_row (Try.results34) _ _ (w.heap.size + 1) 31 (d'.cells u') _ rfl B.out Try.underlying31 rfl IS.out) rfl ⟨_, d', rfl, L7, hlen5.out, C7, G7⟩
    · obtain ⟨A7, n7, c7, hu⟩ := rowC_form K.own
      subst hu
      obtain ⟨hm7, hl7, hp7⟩ := rowC_at K.own
      have VR : Box w5 w.heap.size 31 #[.int .i64 d'.r1, .int .i64 d'.r2, .int .i64 d'.r3, .int .i64 d'.r4, .int .i64 d'.r5, .int .i64 d'.r6, .int .i64 d'.r7, .slice A7 n7 c7, .int .i64 d'.r8] := K.vr
      have hn7 : n7 ≤ 4194304 := by have := K.len; omega
      clear hps
      go_wp2_with (refine wpList_load_box 31 _ rfl w.heap.size rfl 31 #[.int .i64 d'.r1, .int .i64 d'.r2, .int .i64 d'.r3, .int .i64 d'.r4, .int .i64 d'.r5, .int .i64 d'.r6, .int .i64 d'.r7, .slice A7 n7 c7, .int .i64 d'.r8] VR _ Try.underlying31 rfl IS.out (by first | rfl | simp [Region.wanted, yielded] | (simp [Region.wanted, yielded, Act.put] <;> omega)) ?_)
      refine (specSumOf_is d'.r1 d'.r2 d'.r3 d'.r4 d'.r5 d'.r6 d'.r7 A7 n7 c7 d'.r8 d'.ps w5 hn7 hp7).mono ?_
      rintro e w6 ⟨rfl, hb⟩
      replace K := K.later hb
      clear hb hp7 VR hl7 hm7
      have fr := K.vr.frozen
      have c8 : w6.cell? ⟨w.heap.size, 8, none⟩ = some (.int .i64 d'.r8) := K.vr.cell 8
      have K9 := Lib.hid (K.set (d' := ⟨d'.r1, d'.r2, d'.r3, d'.r4, d'.r5, d'.r6, d'.r7, d'.ps, sumN d'.r1 d'.r2 d'.r3 d'.r4 d'.r5 d'.r6 d'.r7 d'.ps⟩) 8 (.int .i64 (sumN d'.r1 d'.r2 d'.r3 d'.r4 d'.r5 d'.r6 d'.r7 d'.ps)) rfl rfl)
      clear K
      go_upto_region 18 with fail
      clear fr c8
      generalize (w6.setCell _ _ : World) = w7 at K9 ⊢
      obtain ⟨d9, u9, K⟩ : ∃ (d' : RecD) (u' : Value), B9 w w7 g A n cap F d' u' := ⟨_, _, K9.out⟩
      clear K9
      obtain ⟨B, L7, C7, G7⟩ := bent_put K
      have X := K.rs
      have VR := K.vr
      replace B := Lib.hid B
      have hlen5 := Lib.hid K.len
      clear K
      go_wp2_with (first | (refine wpList_load_box 31 _ rfl w.heap.size rfl 31 (d9.cells u9) VR _ Try.underlying31 rfl IS.out (by first | rfl | simp [Region.wanted, yielded] | (simp [Region.wanted, yielded, Act.put] <;> omega)) ?_) | (refine wpList_store_row rfl 31 _ _ rfl (w.heap.size + 1) _ rfl rfl 31 #[.int .i64 0, .int .i64 0, .int .i64 0, .int .i64 0, .int .i64 0, .int .i64 0, .int .i64 0, .slice none 0 0, .int .i64 0] X IS.out rfl L7.one ?_))
      exact bodyPost_ret (v := .agg (d9.cells u9)) (results_row (Try.results34) _ _ (w.heap.size + 1) 31 (d9.cells u9) _ rfl B.out Try.underlying31 rfl IS.out) rfl ⟨_, d9, rfl, L7, hlen5.out, C7, G7⟩
  · go_wp2_with fail
    refine (l1Below_any g A n cap 9 w1 (by omega) K.cur).mono ?_
    rintro e w2 ⟨r, _, rfl, hc2, hg2⟩
    replace K := K.draw hg2 hc2
    have fr := K.vr.frozen
    obtain ⟨c0, c1, c2, c3, c4, c5, c6, c7, c8⟩ := Box.nine (v0 := .int .i64 d.r1) (v1 := .int .i64 d.r2) (v2 := .int .i64 d.r3) (v3 := .int .i64 d.r4) (v4 := .int .i64 d.r5) (v5 := .int .i64 d.r6) (v6 := .int .i64 d.r7) (v7 := u) (v8 := .int .i64 d.r8) K.vr
    have HK := Lib.hid (K.set (d' := ⟨d.r1, d.r2, d.r3, r, d.r5, d.r6, d.r7, d.ps, d.r8⟩) 3 (.int .i64 r) rfl rfl)
    clear K hc2 hg2
    go_wp2_with fail
    clear c0 c1 c2 c3 c4 c5 c6 c7 c8 fr
    generalize (w2.setCell _ _ : World) = w4 at HK ⊢
    obtain ⟨d', u', K⟩ : ∃ (d' : RecD) (u' : Value), B9 w w4 g A n cap F d' u' := ⟨_, _, HK.out⟩
    clear HK
    refine (l1Once_any g A n cap 2 w4 (by omega) K.cur).mono ?_
    rintro e w5 ⟨y, rfl, hc5, hg5⟩
    replace K := K.draw hg5 hc5
    clear hc5 hg5
    have IS : Hid ((Try.prog.info? 31).map (·.size) = some 9) := Lib.hid (by kernel_rfl)
    have hps := ownPs_lt K.own.own
    rcases y with _ | _
    · obtain ⟨B, L7, C7, G7⟩ := bent_put K
      have X := K.rs
      have VR := K.vr
      replace B := Lib.hid B
      have hlen5 := Lib.hid K.len
      clear K hps
      go_wp2_with (first | (refine wpList_load_box 31 _ rfl w.heap.size rfl 31 (d'.cells u') VR _ Try.underlying31 rfl IS.out (by first | rfl | simp [Region.wanted, yielded] | (simp [Region.wanted, yielded, Act.put] <;> omega)) ?_) | (refine wpList_store_row rfl 31 _ _ rfl (w.heap.size + 1) _ rfl rfl 31 #[.int .i64 0, .int .i64 0, .int .i64 0, .int .i64 0, .int .i64 0, .int .i64 0, .int .i64 0, .slice none 0 0, .int .i64 0] X IS.out rfl L7.one ?_))
      exact bodyPost_ret (v := .agg (d'.cells u')) (results_row (Try.results34) _ _ (w.heap.size + 1) 31 (d'.cells u') _ rfl B.out Try.underlying31 rfl IS.out) rfl ⟨_, d', rfl, L7, hlen5.out, C7, G7⟩
    · obtain ⟨A7, n7, c7, hu⟩ := rowC_form K.own
      subst hu
      obtain ⟨hm7, hl7, hp7⟩ := rowC_at K.own
      have VR : Box w5 w.heap.size 31 #[.int .i64 d'.r1, .int .i64 d'.r2, .int .i64 d'.r3, .int .i64 d'.r4, .int .i64 d'.r5, .int .i64 d'.r6, .int .i64 d'.r7, .slice A7 n7 c7, .int .i64 d'.r8] := K.vr
      have hn7 : n7 ≤ 4194304 := by have := K.len; omega
      clear hps
      go_wp2_with (refine wpList_load_box 31 _ rfl w.heap.size rfl 31 #[.int .i64 d'.r1, .int .i64 d'.r2, .int .i64 d'.r3, .int .i64 d'.r4, .int .i64 d'.r5, .int .i64 d'.r6, .int .i64 d'.r7, .slice A7 n7 c7, .int .i64 d'.r8] VR _ Try.underlying31 rfl IS.out (by first | rfl | simp [Region.wanted, yielded] | (simp [Region.wanted, yielded, Act.put] <;> omega)) ?_)
      refine (specSumOf_is d'.r1 d'.r2 d'.r3 d'.r4 d'.r5 d'.r6 d'.r7 A7 n7 c7 d'.r8 d'.ps w5 hn7 hp7).mono ?_
      rintro e w6 ⟨rfl, hb⟩
      replace K := K.later hb
      clear hb hp7 VR hl7 hm7
      have fr := K.vr.frozen
      have c8 : w6.cell? ⟨w.heap.size, 8, none⟩ = some (.int .i64 d'.r8) := K.vr.cell 8
      have K9 := Lib.hid (K.set (d' := ⟨d'.r1, d'.r2, d'.r3, d'.r4, d'.r5, d'.r6, d'.r7, d'.ps, sumN d'.r1 d'.r2 d'.r3 d'.r4 d'.r5 d'.r6 d'.r7 d'.ps⟩) 8 (.int .i64 (sumN d'.r1 d'.r2 d'.r3 d'.r4 d'.r5 d'.r6 d'.r7 d'.ps)) rfl rfl)
      clear K
      go_upto_region 18 with fail
      clear fr c8
      generalize (w6.setCell _ _ : World) = w7 at K9 ⊢
      obtain ⟨d9, u9, K⟩ : ∃ (d' : RecD) (u' : Value), B9 w w7 g A n cap F d' u' := ⟨_, _, K9.out⟩
      clear K9
      obtain ⟨B, L7, C7, G7⟩ := bent_put K
      have X := K.rs
      have VR := K.vr
      replace B := Lib.hid B
      have hlen5 := Lib.hid K.len
      clear K
      go_wp2_with (first | (refine wpList_load_box 31 _ rfl w.heap.size rfl 31 (d9.cells u9) VR _ Try.underlying31 rfl IS.out (by first | rfl | simp [Region.wanted, yielded] | (simp [Region.wanted, yielded, Act.put] <;> omega)) ?_) | (refine wpList_store_row rfl 31 _ _ rfl (w.heap.size + 1) _ rfl rfl 31 #[.int .i64 0, .int .i64 0, .int .i64 0, .int .i64 0, .int .i64 0, .int .i64 0, .int .i64 0, .slice none 0 0, .int .i64 0] X IS.out rfl L7.one ?_))
      exact bodyPost_ret (v := .agg (d9.cells u9)) (results_row (Try.results34) _ _ (w.heap.size + 1) 31 (d9.cells u9) _ rfl B.out Try.underlying31 rfl IS.out) rfl ⟨_, d9, rfl, L7, hlen5.out, C7, G7⟩
  · go_wp2_with fail
    refine (l2DrawAny_any g A n cap w1 K.cur).mono ?_
    rintro e w2 ⟨r, r0, rfl, hc2, hg2⟩
    replace K := K.draw hg2 hc2
    have fr := K.vr.frozen
    obtain ⟨c0, c1, c2, c3, c4, c5, c6, c7, c8⟩ := Box.nine (v0 := .int .i64 d.r1) (v1 := .int .i64 d.r2) (v2 := .int .i64 d.r3) (v3 := .int .i64 d.r4) (v4 := .int .i64 d.r5) (v5 := .int .i64 d.r6) (v6 := .int .i64 d.r7) (v7 := u) (v8 := .int .i64 d.r8) K.vr
    have HK := Lib.hid ((K.set (d' := ⟨d.r1, d.r2, d.r3, d.r4, r, d.r6, d.r7, d.ps, d.r8⟩) 4 (.int .i64 r) rfl rfl).set (d' := ⟨d.r1, d.r2, d.r3, d.r4, r, r0, d.r7, d.ps, d.r8⟩) 5 (.int .i64 r0) rfl rfl)
    clear K hc2 hg2
    go_wp2_with fail
    clear c0 c1 c2 c3 c4 c5 c6 c7 c8 fr
    generalize ((w2.setCell _ _).setCell _ _ : World) = w4 at HK ⊢
    obtain ⟨d', u', K⟩ : ∃ (d' : RecD) (u' : Value), B9 w w4 g A n cap F d' u' := ⟨_, _, HK.out⟩
    clear HK
    refine (l1Once_any g A n cap 2 w4 (by omega) K.cur).mono ?_
    rintro e w5 ⟨y, rfl, hc5, hg5⟩
    replace K := K.draw hg5 hc5
    clear hc5 hg5
    have IS : Hid ((Try.prog.info? 31).map (·.size) = some 9) := Lib.hid (by kernel_rfl)
    have hps := ownPs_lt K.own.own
    rcases y with _ | _
    · obtain ⟨B, L7, C7, G7⟩ := bent_put K
      have X := K.rs
      have VR := K.vr
      replace B := Lib.hid B
      have hlen5 := Lib.hid K.len
      clear K hps
      go_wp2_with (first | (refine wpList_load_box 31 _ rfl w.heap.size rfl 31 (d'.cells u') VR _ Try.underlying31 rfl IS.out (by first | rfl | simp [Region.wanted, yielded] | (simp [Region.wanted, yielded, Act.put] <;> omega)) ?_) | (refine wpList_store_row rfl 31 _ _ rfl (w.heap.size + 1) _ rfl rfl 31 #[.int .i64 0, .int .i64 0, .int .i64 0, .int .i64 0, .int .i64 0, .int .i64 0, .int .i64 0, .slice none 0 0, .int .i64 0] X IS.out rfl L7.one ?_))
      exact bodyPost_ret (v := .agg (d'.cells u')) (results_row (Try.results34) _ _ (w.heap.size + 1) 31 (d'.cells u') _ rfl B.out Try.underlying31 rfl IS.out) rfl ⟨_, d', rfl, L7, hlen5.out, C7, G7⟩
    · obtain ⟨A7, n7, c7, hu⟩ := rowC_form K.own
      subst hu
      obtain ⟨hm7, hl7, hp7⟩ := rowC_at K.own
      have VR : Box w5 w.heap.size 31 #[.int .i64 d'.r1, .int .i64 d'.r2, .int .i64 d'.r3, .int .i64 d'.r4, .int .i64 d'.r5, .int .i64 d'.r6, .int .i64 d'.r7, .slice A7 n7 c7, .int .i64 d'.r8] := K.vr
      have hn7 : n7 ≤ 4194304 := by have := K.len; omega
      clear hps
      go_wp2_with (refine wpList_load_box 31 _ rfl w.heap.size rfl 31 #[.int .i64 d'.r1, .int .i64 d'.r2, .int .i64 d'.r3, .int .i64 d'.r4, .int .i64 d'.r5, .int .i64 d'.r6, .int .i64 d'.r7, .slice A7 n7 c7, .int .i64 d'.r8] VR _ Try.underlying31 rfl IS.out (by first | rfl | simp [Region.wanted, yielded] | (simp [Region.wanted, yielded, Act.put] <;> omega)) ?_)
      refine (specSumOf_is d'.r1 d'.r2 d'.r3 d'.r4 d'.r5 d'.r6 d'.r7 A7 n7 c7 d'.r8 d'.ps w5 hn7 hp7).mono ?_
      rintro e w6 ⟨rfl, hb⟩
      replace K := K.later hb
      clear hb hp7 VR hl7 hm7
      have fr := K.vr.frozen
      have c8 : w6.cell? ⟨w.heap.size, 8, none⟩ = some (.int .i64 d'.r8) := K.vr.cell 8
      have K9 := Lib.hid (K.set (d' := ⟨d'.r1, d'.r2, d'.r3, d'.r4, d'.r5, d'.r6, d'.r7, d'.ps, sumN d'.r1 d'.r2 d'.r3 d'.r4 d'.r5 d'.r6 d'.r7 d'.ps⟩) 8 (.int .i64 (sumN d'.r1 d'.r2 d'.r3 d'.r4 d'.r5 d'.r6 d'.r7 d'.ps)) rfl rfl)
      clear K
      go_upto_region 18 with fail
      clear fr c8
      generalize (w6.setCell _ _ : World) = w7 at K9 ⊢
      obtain ⟨d9, u9, K⟩ : ∃ (d' : RecD) (u' : Value), B9 w w7 g A n cap F d' u' := ⟨_, _, K9.out⟩
      clear K9
      obtain ⟨B, L7, C7, G7⟩ := bent_put K
      have X := K.rs
      have VR := K.vr
      replace B := Lib.hid B
      have hlen5 := Lib.hid K.len
      clear K
      go_wp2_with (first | (refine wpList_load_box 31 _ rfl w.heap.size rfl 31 (d9.cells u9) VR _ Try.underlying31 rfl IS.out (by first | rfl | simp [Region.wanted, yielded] | (simp [Region.wanted, yielded, Act.put] <;> omega)) ?_) | (refine wpList_store_row rfl 31 _ _ rfl (w.heap.size + 1) _ rfl rfl 31 #[.int .i64 0, .int .i64 0, .int .i64 0, .int .i64 0, .int .i64 0, .int .i64 0, .int .i64 0, .slice none 0 0, .int .i64 0] X IS.out rfl L7.one ?_))
      exact bodyPost_ret (v := .agg (d9.cells u9)) (results_row (Try.results34) _ _ (w.heap.size + 1) 31 (d9.cells u9) _ rfl B.out Try.underlying31 rfl IS.out) rfl ⟨_, d9, rfl, L7, hlen5.out, C7, G7⟩
  · go_wp2_with fail
    refine (l1Num_any g A n cap 9999 w1 (by omega) (by omega) K.cur).mono ?_
    rintro e w2 ⟨r, _, rfl, hc2, hg2⟩
    replace K := K.draw hg2 hc2
    have fr := K.vr.frozen
    obtain ⟨c0, c1, c2, c3, c4, c5, c6, c7, c8⟩ := Box.nine (v0 := .int .i64 d.r1) (v1 := .int .i64 d.r2) (v2 := .int .i64 d.r3) (v3 := .int .i64 d.r4) (v4 := .int .i64 d.r5) (v5 := .int .i64 d.r6) (v6 := .int .i64 d.r7) (v7 := u) (v8 := .int .i64 d.r8) K.vr
    have HK := Lib.hid (K.set (d' := ⟨d.r1, d.r2, d.r3, d.r4, d.r5, d.r6, r, d.ps, d.r8⟩) 6 (.int .i64 r) rfl rfl)
    clear K hc2 hg2
    go_wp2_with fail
    clear c0 c1 c2 c3 c4 c5 c6 c7 c8 fr
    generalize (w2.setCell _ _ : World) = w4 at HK ⊢
    obtain ⟨d', u', K⟩ : ∃ (d' : RecD) (u' : Value), B9 w w4 g A n cap F d' u' := ⟨_, _, HK.out⟩
    clear HK
    refine (l1Once_any g A n cap 2 w4 (by omega) K.cur).mono ?_
    rintro e w5 ⟨y, rfl, hc5, hg5⟩
    replace K := K.draw hg5 hc5
    clear hc5 hg5
    have IS : Hid ((Try.prog.info? 31).map (·.size) = some 9) := Lib.hid (by kernel_rfl)
    have hps := ownPs_lt K.own.own
    rcases y with _ | _
    · obtain ⟨B, L7, C7, G7⟩ := bent_put K
      have X := K.rs
      have VR := K.vr
      replace B := Lib.hid B
      have hlen5 := Lib.hid K.len
      clear K hps
      go_wp2_with (first | (refine wpList_load_box 31 _ rfl w.heap.size rfl 31 (d'.cells u') VR _ Try.underlying31 rfl IS.out (by first | rfl | simp [Region.wanted, yielded] | (simp [Region.wanted, yielded, Act.put] <;> omega)) ?_) | (refine wpList_store_row rfl 31 _ _ rfl (w.heap.size + 1) _ rfl rfl 31 #[.int .i64 0, .int .i64 0, .int .i64 0, .int .i64 0, .int .i64 0, .int .i64 0, .int .i64 0, .slice none 0 0, .int .i64 0] X IS.out rfl L7.one ?_))
      exact bodyPost_ret (v := .agg (d'.cells u')) (results_row (Try.results34) _ _ (w.heap.size + 1) 31 (d'.cells u') _ rfl B.out Try.underlying31 rfl IS.out) rfl ⟨_, d', rfl, L7, hlen5.out, C7, G7⟩
    · obtain ⟨A7, n7, c7, hu⟩ := rowC_form K.own
      subst hu
      obtain ⟨hm7, hl7, hp7⟩ := rowC_at K.own
      have VR : Box w5 w.heap.size 31 #[.int .i64 d'.r1, .int .i64 d'.r2, .int .i64 d'.r3, .int .i64 d'.r4, .int .i64 d'.r5, .int .i64 d'.r6, .int .i64 d'.r7, .slice A7 n7 c7, .int .i64 d'.r8] := K.vr
      have hn7 : n7 ≤ 4194304 := by have := K.len; omega
      clear hps
      go_wp2_with (refine wpList_load_box 31 _ rfl w.heap.size rfl 31 #[.int .i64 d'.r1, .int .i64 d'.r2, .int .i64 d'.r3, .int .i64 d'.r4, .int .i64 d'.r5, .int .i64 d'.r6, .int .i64 d'.r7, .slice A7 n7 c7, .int .i64 d'.r8] VR _ Try.underlying31 rfl IS.out (by first | rfl | simp [Region.wanted, yielded] | (simp [Region.wanted, yielded, Act.put] <;> omega)) ?_)
      refine (specSumOf_is d'.r1 d'.r2 d'.r3 d'.r4 d'.r5 d'.r6 d'.r7 A7 n7 c7 d'.r8 d'.ps w5 hn7 hp7).mono ?_
      rintro e w6 ⟨rfl, hb⟩
      replace K := K.later hb
      clear hb hp7 VR hl7 hm7
      have fr := K.vr.frozen
      have c8 : w6.cell? ⟨w.heap.size, 8, none⟩ = some (.int .i64 d'.r8) := K.vr.cell 8
      have K9 := Lib.hid (K.set (d' := ⟨d'.r1, d'.r2, d'.r3, d'.r4, d'.r5, d'.r6, d'.r7, d'.ps, sumN d'.r1 d'.r2 d'.r3 d'.r4 d'.r5 d'.r6 d'.r7 d'.ps⟩) 8 (.int .i64 (sumN d'.r1 d'.r2 d'.r3 d'.r4 d'.r5 d'.r6 d'.r7 d'.ps)) rfl rfl)
      clear K
      go_upto_region 18 with fail
      clear fr c8
      generalize (w6.setCell _ _ : World) = w7 at K9 ⊢
      obtain ⟨d9, u9, K⟩ : ∃ (d' : RecD) (u' : Value), B9 w w7 g A n cap F d' u' := ⟨_, _, K9.out⟩
      clear K9
      obtain ⟨B, L7, C7, G7⟩ := bent_put K
      have X := K.rs
      have VR := K.vr
      replace B := Lib.hid B
      have hlen5 := Lib.hid K.len
      clear K
      go_wp2_with (first | (refine wpList_load_box 31 _ rfl w.heap.size rfl 31 (d9.cells u9) VR _ Try.underlying31 rfl IS.out (by first | rfl | simp [Region.wanted, yielded] | (simp [Region.wanted, yielded, Act.put] <;> omega)) ?_) | (refine wpList_store_row rfl 31 _ _ rfl (w.heap.size + 1) _ rfl rfl 31 #[.int .i64 0, .int .i64 0, .int .i64 0, .int .i64 0, .int .i64 0, .int .i64 0, .int .i64 0, .slice none 0 0, .int .i64 0] X IS.out rfl L7.one ?_))
      exact bodyPost_ret (v := .agg (d9.cells u9)) (results_row (Try.results34) _ _ (w.heap.size + 1) 31 (d9.cells u9) _ rfl B.out Try.underlying31 rfl IS.out) rfl ⟨_, d9, rfl, L7, hlen5.out, C7, G7⟩
  · obtain ⟨gq, cq, hgq, rfl, hown⟩ := K.own
    have c7 : w1.cell? ⟨w.heap.size, 7, none⟩ = some (.slice (some ⟨gq, 0, none⟩) d.ps.length cq) := K.vr.cell 7
    have hR := K.rs.lt
    have hlt := (hown.lt gq rfl).2
    have hgqs : gq ≠ w.heap.size ∧ g < gq := by
      rcases hgq with hx | hx
      · have := K.hF gq hx; omega
      · omega
    have hlen := HL.out
    go_wp2_with fail
    go_region_law
      (first
        | (go_simp; go_at_call 32; refine (l1Below_any g A n cap 5 _ (by omega) ?_).mono ?_; exact K.cur; rintro e w2 ⟨r, _, rfl, hc2, hg2⟩; have K2 := K.draw (grown_of_drew hg2) hc2; have J1 : w2.cell? ⟨w.heap.size, 7, none⟩ = some (.slice (some ⟨gq, 0, none⟩) d.ps.length cq) := K2.vr.cell 7; have J1a : ∀ o, (w2.alloc o).cell? ⟨w.heap.size, 7, none⟩ = some (.slice (some ⟨gq, 0, none⟩) d.ps.length cq) := fun o => (K2.vr.alloc o).cell 7; have ho2 := hown.kept (grown_of_drew hg2) (.inr (by simp [Value.ownBlock]; omega)))
        | (refine step_append_lies _ (by rfl) _ _ _ (by rfl) 0 75 i0 _ 2 16 Try.underlying29 hi0 hz0 hz1 hz2 rfl (by omega) (.slice (some ⟨gq, 0, none⟩) d.ps.length cq) d.ps.length (flatP d.ps) (by rfl) (ho2.alloc _) ⟨w2.heap.size, 0, none⟩ 1 1 [.int .i64 r, .int .i64 0] (by rfl) (by rfl) (World.news_of_block (cs := #[.int .i64 r, .int .i64 0]) (t := 75) (fr := (0, 0)) (heap_alloc_new w2 _)) (by simp [Value.oneCell']) (by omega) (by unfold maxLen; omega) (by omega) (by omega) (w2.heap.size + 1) (by simp) ?_; intro gg cap2 w3 hown3 hgrow3 hat hlt3; replace hgrow3 : World.grownBy _ w3 (some gq) := hgrow3; have v3 := ((K2.vr.alloc (.cells #[.int .i64 r, .int .i64 0] 75)).kept hgrow3 (by intro e; injection e with e; omega)); have J2 : w3.cell? ⟨w.heap.size, 7, none⟩ = some (.slice (some ⟨gq, 0, none⟩) d.ps.length cq) := v3.cell 7; have fr := v3.frozen))
    all_goals
    have HK := Lib.hid (K2.push hlen hgq hown3 hgrow3 hat)
    clear J1 J1a c7 hown ho2 hown3 hgrow3 K K2 hat v3
    go_wp2_with fail
    clear J2 fr
    generalize (w3.setCell _ _ : World) = w4 at HK ⊢
    obtain ⟨d', u', K⟩ : ∃ (d' : RecD) (u' : Value), B9 w w4 g A n cap F d' u' := ⟨_, _, HK.out⟩
    clear HK
    refine (l1Once_any g A n cap 2 w4 (by omega) K.cur).mono ?_
    rintro e w5 ⟨y, rfl, hc5, hg5⟩
    replace K := K.draw hg5 hc5
    clear hc5 hg5
    have IS : Hid ((Try.prog.info? 31).map (·.size) = some 9) := Lib.hid (by kernel_rfl)
    have hps := ownPs_lt K.own.own
    rcases y with _ | _
    · obtain ⟨B, L7, C7, G7⟩ := bent_put K
      have X := K.rs
      have VR := K.vr
      replace B := Lib.hid B
      have hlen5 := Lib.hid K.len
      clear K hps
      go_wp2_with (first | (refine wpList_load_box 31 _ rfl w.heap.size rfl 31 (d'.cells u') VR _ Try.underlying31 rfl IS.out (by first | rfl | simp [Region.wanted, yielded] | (simp [Region.wanted, yielded, Act.put] <;> omega)) ?_) | (refine wpList_store_row rfl 31 _ _ rfl (w.heap.size + 1) _ rfl rfl 31 #[.int .i64 0, .int .i64 0, .int .i64 0, .int .i64 0, .int .i64 0, .int .i64 0, .int .i64 0, .slice none 0 0, .int .i64 0] X IS.out rfl L7.one ?_))
      exact bodyPost_ret (v := .agg (d'.cells u')) (results_row (Try.results34) _ _ (w.heap.size + 1) 31 (d'.cells u') _ rfl B.out Try.underlying31 rfl IS.out) rfl ⟨_, d', rfl, L7, hlen5.out, C7, G7⟩
    · obtain ⟨A7, n7, c7, hu⟩ := rowC_form K.own
      subst hu
      obtain ⟨hm7, hl7, hp7⟩ := rowC_at K.own
      have VR : Box w5 w.heap.size 31 #[.int .i64 d'.r1, .int .i64 d'.r2, .int .i64 d'.r3, .int .i64 d'.r4, .int .i64 d'.r5, .int .i64 d'.r6, .int .i64 d'.r7, .slice A7 n7 c7, .int .i64 d'.r8] := K.vr
      have hn7 : n7 ≤ 4194304 := by have := K.len; omega
      clear hps
      go_wp2_with (refine wpList_load_box 31 _ rfl w.heap.size rfl 31 #[.int .i64 d'.r1, .int .i64 d'.r2, .int .i64 d'.r3, .int .i64 d'.r4, .int .i64 d'.r5, .int .i64 d'.r6, .int .i64 d'.r7, .slice A7 n7 c7, .int .i64 d'.r8] VR _ Try.underlying31 rfl IS.out (by first | rfl | simp [Region.wanted, yielded] | (simp [Region.wanted, yielded, Act.put] <;> omega)) ?_)
      refine (specSumOf_is d'.r1 d'.r2 d'.r3 d'.r4 d'.r5 d'.r6 d'.r7 A7 n7 c7 d'.r8 d'.ps w5 hn7 hp7).mono ?_
      rintro e w6 ⟨rfl, hb⟩
      replace K := K.later hb
      clear hb hp7 VR hl7 hm7
      have fr := K.vr.frozen
      have c8 : w6.cell? ⟨w.heap.size, 8, none⟩ = some (.int .i64 d'.r8) := K.vr.cell 8
      have K9 := Lib.hid (K.set (d' := ⟨d'.r1, d'.r2, d'.r3, d'.r4, d'.r5, d'.r6, d'.r7, d'.ps, sumN d'.r1 d'.r2 d'.r3 d'.r4 d'.r5 d'.r6 d'.r7 d'.ps⟩) 8 (.int .i64 (sumN d'.r1 d'.r2 d'.r3 d'.r4 d'.r5 d'.r6 d'.r7 d'.ps)) rfl rfl)
      clear K
      go_upto_region 18 with fail
      clear fr c8
      generalize (w6.setCell _ _ : World) = w7 at K9 ⊢
      obtain ⟨d9, u9, K⟩ : ∃ (d' : RecD) (u' : Value), B9 w w7 g A n cap F d' u' := ⟨_, _, K9.out⟩
      clear K9
      obtain ⟨B, L7, C7, G7⟩ := bent_put K
      have X := K.rs
      have VR := K.vr
      replace B := Lib.hid B
      have hlen5 := Lib.hid K.len
      clear K
      go_wp2_with (first | (refine wpList_load_box 31 _ rfl w.heap.size rfl 31 (d9.cells u9) VR _ Try.underlying31 rfl IS.out (by first | rfl | simp [Region.wanted, yielded] | (simp [Region.wanted, yielded, Act.put] <;> omega)) ?_) | (refine wpList_store_row rfl 31 _ _ rfl (w.heap.size + 1) _ rfl rfl 31 #[.int .i64 0, .int .i64 0, .int .i64 0, .int .i64 0, .int .i64 0, .int .i64 0, .int .i64 0, .slice none 0 0, .int .i64 0] X IS.out rfl L7.one ?_))
      exact bodyPost_ret (v := .agg (d9.cells u9)) (results_row (Try.results34) _ _ (w.heap.size + 1) 31 (d9.cells u9) _ rfl B.out Try.underlying31 rfl IS.out) rfl ⟨_, d9, rfl, L7, hlen5.out, C7, G7⟩

end Go.Proofs.Ythpccmckjmmicaa
