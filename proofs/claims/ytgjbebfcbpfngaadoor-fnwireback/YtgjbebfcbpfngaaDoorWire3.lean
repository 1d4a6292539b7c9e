/- What layNumber and laySeals of impl/l06_wire.go and l6Put of the model answer: contracts of each of them; the conditions are the sizes. -/
import Derived.Test.YtgjbebfcbpfngaaDoorWireCut
import Derived.Test.YtgjbebfcbpfngaaDoorBase
import Derived.WalkKit
import Derived.OwnWalk
import Derived.Deep.AppendLies
import Derived.Deep.RegionWith
import Derived.IntWalk
import Derived.Test.YtgjbebfcbpfngaaDoorSpecStamp
import Derived.BigRegion
namespace Go.Proofs.YtgjbebfcbpfngaaDoor
open Go.RowKit Go.Deep

theorem Tryd.infoB : (Tryd.prog.info? 5).map (fun i => (i.zero, i.size, i.bytes)) = some (some (.int .u8 0), 1, 1) := by kernel_rfl

/-- The bytes bs, in a block of their own that was made behind base. -/
def BOwn (w : World) (base g cap : Nat) (bs : List Int) : Prop := w.ownsRow base 5 1 (.slice (some ⟨g, 0, none⟩) bs.length cap) bs.length (bs.map (Value.int .u8))

theorem grown_own {a b c : World} {r r' : Nat} (h : a.grownBy b (some r)) (k : b.grownBy c (some r')) (hr : r' = r ∨ a.heap.size ≤ r') : a.grownBy c (some r) :=
  ⟨k.os.trans h.os, k.tape.trans h.tape, k.output.trans h.output, Nat.le_trans h.size k.size, fun i hi hne => (k.block i (Nat.lt_of_lt_of_le hi h.size) (fun e => by
    injection e with e
    rcases hr with hr | hl
    · exact hne (by rw [e, hr])
    · omega)).trans (h.block i hi hne)⟩

/-- Bytes of one's own, in block g0 at first, in g now: nothing else that was there has turned. -/
structure Laid (w wr : World) (base g0 g cap : Nat) (bs : List Int) : Prop where
  own : BOwn wr base g cap bs
  grw : w.grownBy wr (some g0)
  pos : g = g0 ∨ w.heap.size ≤ g
theorem Laid.start {w : World} {base g cap : Nat} {bs : List Int} (h : BOwn w base g cap bs) : Laid w w base g g cap bs := ⟨h, grown_refl _ _, .inl rfl⟩
theorem Laid.trans {w w1 w2 : World} {base g g1 g2 c1 c2 : Nat} {b1 b2 : List Int} (h : Laid w w1 base g g1 c1 b1) (k : Laid w1 w2 base g1 g2 c2 b2) : Laid w w2 base g g2 c2 b2 := by
  refine ⟨k.own, grown_own h.grw k.grw h.pos, ?_⟩
  rcases k.pos with e | hg
  · rw [e]; exact h.pos
  · exact .inr (Nat.le_trans h.grw.size hg)
theorem Laid.push {w wr w' : World} {base g0 g cap gg cap2 : Nat} {bs : List Int} {x : Int} {o : Obj} (h : Laid w wr base g0 g cap bs)
    (ho : w'.ownsRow base 5 1 (.slice (some ⟨gg, 0, none⟩) (bs.length + 1) cap2) (bs.length + 1) (bs.map (Value.int .u8) ++ [.int .u8 x])) (hg : (wr.alloc o).grownBy w' (some g)) (hp : some g = some gg ∨ gg = wr.heap.size + 1) :
    Laid w w' base g0 gg cap2 (bs ++ [x]) := by
  have hg' := grown_trans (grown_bel (bel_alloc wr o) (some g)) hg
  refine ⟨?_, grown_own h.grw hg' h.pos, ?_⟩
  · unfold BOwn
    simpa using ho
  · rcases hp with e | e
    · injection e with e; rw [← e]; exact h.pos
    · exact .inr (by have := h.grw.size; omega)

/-- What is left where bytes were laid, bs in all. -/
def Lays (w : World) (base g : Nat) (bs : List Int) (e : Ending) (w' : World) : Prop := ∃ (g' cap' : Nat) (cs : List Int), e = .returned (.slice (some ⟨g', 0, none⟩) cs.length cap') ∧ Hid (cs = bs) ∧ Laid w w' base g g' cap' cs

theorem lay_step {bs bs0 : List Int} {x x0 : Int} (h : 128 ≤ x) (e : bs ++ lay x = bs0 ++ lay x0) : (bs ++ [x % 128 + 128]) ++ lay (x / 128) = bs0 ++ lay x0 := by
  rw [← e, lay_big h, List.append_assoc]; rfl
theorem lay_last {bs bs0 : List Int} {x x0 : Int} (h0 : 0 ≤ x) (h : x < 128) (e : bs ++ lay x = bs0 ++ lay x0) : bs ++ [x] = bs0 ++ lay x0 := by
  rw [← e, lay_small h0 h]
theorem lay_bound {bs bs0 : List Int} {x x0 : Int} (e : bs ++ lay x = bs0 ++ lay x0) (hx : Num x0) (hn : bs0.length ≤ 1000) : bs.length ≤ 1005 := by
  have h1 := congrArg List.length e
  have h2 := lay_len hx
  simp only [List.length_append] at h1
  omega

set_option maxHeartbeats 1000000 in
theorem layNumber_is (base g cap n : Nat) (bs : List Int) (x : Int) (w : World) (hx : Num x) (hl : bs.length = n) (hn : n ≤ 1000) (hb : base ≤ w.heap.size) (h : BOwn w base g cap bs) :
    Calls Tryd.prog 28 #[.slice (some ⟨g, 0, none⟩) n cap, .int .i64 x] w (Lays w base g (bs ++ lay x)) := by
  subst hl
  obtain ⟨i0, hi0, hz0, hz1, hz2⟩ := info_parts Tryd.infoB
  have K0 := Laid.start h
  have HX := Lib.hid hx
  have HN := Lib.hid hn
  clear h hn
  obtain ⟨h0, h1⟩ := hx
  go_enter Tryd.func28, Tryd.ntmps28
  go_wp2_with fail
  go_loopw [0, 1] (fun bv nv wr => ∃ (gr cr : Nat) (cs : List Int) (y : Int), bv = .slice (some ⟨gr, 0, none⟩) cs.length cr ∧ nv = .int .i64 y ∧ 0 ≤ y ∧ y < 34359738368 ∧ Laid w wr base g gr cr cs ∧ Hid (cs ++ lay y = bs ++ lay x)) (fun _ n _ => (intOf n).toNat)
  case atStart => exact ⟨g, cap, bs, x, rfl, rfl, h0, h1, K0, Lib.hid rfl⟩
  case round =>
    obtain ⟨gr, cr, cs, y, rfl, rfl, hy0, hy1, hK, he⟩ := hrel
    have hcs := lay_bound he.out HX.out HN.out
    have hbs := hK.grw.size
    by_cases hlt : 128 ≤ y
    · have hlt' : 127 < y := by omega
      have hw1 : IntKind.u8.wrap (y % 128 + 128) = y % 128 + 128 := by rw [IntKind.wrap_u8]; omega
      go_wp2_with (at_builtin; refine wpList_append_lies _ rfl _ _ _ rfl base 5 i0 _ 1 1 Tryd.underlying22 hi0 hz0 hz1 hz2 rfl (by omega) (.slice (some ⟨gr, 0, none⟩) cs.length cr) cs.length (cs.map (Value.int .u8)) rfl (hK.own.alloc _) ⟨wr.heap.size, 0, none⟩ 1 1 [.int .u8 (y % 128 + 128)] rfl rfl (World.news_of_block (cs := #[.int .u8 (y % 128 + 128)]) (t := 5) (fr := (0, 0)) (heap_alloc_new wr _)) (by simp [Value.oneCell']) (by omega) (by unfold maxLen; omega) (by omega) (by simp; omega) (wr.heap.size + 1) (by simp) ?_; intro gg cap2 w2 hown2 hgrow2 hat hlt2)
      have HK := Lib.hid (hK.push hown2 hgrow2 hat)
      have HE := Lib.hid (lay_step hlt he.out)
      clear hown2 hgrow2 hat hK he hw1
      go_roundw
      case rel => exact ⟨gg, cap2, _, y / 128, by simp, rfl, by omega, by omega, HK.out, HE⟩
      case measure => simp [intOf]; omega
    · have hlt' : ¬ 127 < y := by omega
      have hw1 : IntKind.u8.wrap y = y := by rw [IntKind.wrap_u8]; omega
      go_wp2_with (at_builtin; refine wpList_append_lies _ rfl _ _ _ rfl base 5 i0 _ 1 1 Tryd.underlying22 hi0 hz0 hz1 hz2 rfl (by omega) (.slice (some ⟨gr, 0, none⟩) cs.length cr) cs.length (cs.map (Value.int .u8)) rfl (hK.own.alloc _) ⟨wr.heap.size, 0, none⟩ 1 1 [.int .u8 (y)] rfl rfl (World.news_of_block (cs := #[.int .u8 (y)]) (t := 5) (fr := (0, 0)) (heap_alloc_new wr _)) (by simp [Value.oneCell']) (by omega) (by unfold maxLen; omega) (by omega) (by simp; omega) (wr.heap.size + 1) (by simp) ?_; intro gg cap2 w2 hown2 hgrow2 hat hlt2)
      have HK := Lib.hid (hK.push hown2 hgrow2 hat)
      have HE := Lib.hid (lay_last hy0 (by omega) he.out)
      clear hown2 hgrow2 hat hK he hw1
      go_ret
      exact ⟨gg, cap2, _, by simp, HE, HK.out⟩

set_option maxHeartbeats 1000000 in
theorem l6Put_is (base g cap n : Nat) (bs : List Int) (x : Int) (w : World) (hx : Num x) (hl : bs.length = n) (hn : n ≤ 1000) (hb : base ≤ w.heap.size) (h : BOwn w base g cap bs) :
    Calls Tryd.prog 82 #[.slice (some ⟨g, 0, none⟩) n cap, .int .i64 x] w (Lays w base g (bs ++ lay x)) := by
  subst hl
  obtain ⟨i0, hi0, hz0, hz1, hz2⟩ := info_parts Tryd.infoB
  have K0 := Laid.start h
  have HX := Lib.hid hx
  have HN := Lib.hid hn
  clear h hn
  obtain ⟨h0, h1⟩ := hx
  go_enter Tryd.func82, Tryd.ntmps82
  go_wp2_with fail
  go_loopw [0, 1] (fun bv nv wr => ∃ (gr cr : Nat) (cs : List Int) (y : Int), bv = .slice (some ⟨gr, 0, none⟩) cs.length cr ∧ nv = .int .i64 y ∧ 0 ≤ y ∧ y < 34359738368 ∧ Laid w wr base g gr cr cs ∧ Hid (cs ++ lay y = bs ++ lay x)) (fun _ n _ => (intOf n).toNat)
  case atStart => exact ⟨g, cap, bs, x, rfl, rfl, h0, h1, K0, Lib.hid rfl⟩
  case round =>
    obtain ⟨gr, cr, cs, y, rfl, rfl, hy0, hy1, hK, he⟩ := hrel
    have hcs := lay_bound he.out HX.out HN.out
    have hbs := hK.grw.size
    by_cases hlt : 128 ≤ y
    · have hlt' : 127 < y := by omega
      have hw1 : IntKind.u8.wrap (y % 128 + 128) = y % 128 + 128 := by rw [IntKind.wrap_u8]; omega
      go_wp2_with (at_builtin; refine wpList_append_lies _ rfl _ _ _ rfl base 5 i0 _ 1 1 Tryd.underlying22 hi0 hz0 hz1 hz2 rfl (by omega) (.slice (some ⟨gr, 0, none⟩) cs.length cr) cs.length (cs.map (Value.int .u8)) rfl (hK.own.alloc _) ⟨wr.heap.size, 0, none⟩ 1 1 [.int .u8 (y % 128 + 128)] rfl rfl (World.news_of_block (cs := #[.int .u8 (y % 128 + 128)]) (t := 5) (fr := (0, 0)) (heap_alloc_new wr _)) (by simp [Value.oneCell']) (by omega) (by unfold maxLen; omega) (by omega) (by simp; omega) (wr.heap.size + 1) (by simp) ?_; intro gg cap2 w2 hown2 hgrow2 hat hlt2)
      have HK := Lib.hid (hK.push hown2 hgrow2 hat)
      have HE := Lib.hid (lay_step hlt he.out)
      clear hown2 hgrow2 hat hK he hw1
      go_roundw
      case rel => exact ⟨gg, cap2, _, y / 128, by simp, rfl, by omega, by omega, HK.out, HE⟩
      case measure => simp [intOf]; omega
    · have hlt' : ¬ 127 < y := by omega
      have hw1 : IntKind.u8.wrap y = y := by rw [IntKind.wrap_u8]; omega
      go_wp2_with (at_builtin; refine wpList_append_lies _ rfl _ _ _ rfl base 5 i0 _ 1 1 Tryd.underlying22 hi0 hz0 hz1 hz2 rfl (by omega) (.slice (some ⟨gr, 0, none⟩) cs.length cr) cs.length (cs.map (Value.int .u8)) rfl (hK.own.alloc _) ⟨wr.heap.size, 0, none⟩ 1 1 [.int .u8 (y)] rfl rfl (World.news_of_block (cs := #[.int .u8 (y)]) (t := 5) (fr := (0, 0)) (heap_alloc_new wr _)) (by simp [Value.oneCell']) (by omega) (by unfold maxLen; omega) (by omega) (by simp; omega) (wr.heap.size + 1) (by simp) ?_; intro gg cap2 w2 hown2 hgrow2 hat hlt2)
      have HK := Lib.hid (hK.push hown2 hgrow2 hat)
      have HE := Lib.hid (lay_last hy0 (by omega) he.out)
      clear hown2 hgrow2 hat hK he hw1
      go_ret
      exact ⟨gg, cap2, _, by simp, HE, HK.out⟩

end Go.Proofs.YtgjbebfcbpfngaaDoor

/- The laws' own copies of bytes, the test that two lists of them are alike, their marks: contracts of each of them. -/
namespace Go.Proofs.YtgjbebfcbpfngaaDoor
open Go.RowKit

/-- The slice of n bytes at A holds bs, in blocks below B. -/
def BRow (w : World) (B : Nat) (A : Option Addr) (n : Nat) (bs : List Int) : Prop :=
  bs.length = n ∧ (0 < n → ∃ b o, A = some ⟨b, o, none⟩ ∧ b < B ∧ ∀ i, i < n → w.cell? ⟨b, o + i, none⟩ = some (.int .u8 (nth bs i)))
theorem BRow.keep {w w' : World} {B : Nat} {A : Option Addr} {n : Nat} {bs : List Int} (h : BRow w B A n bs) (hk : ∀ p : Addr, p.block < B → w'.cell? p = w.cell? p) : BRow w' B A n bs := by
  refine ⟨h.1, fun hn => ?_⟩
  obtain ⟨b, o, hA, hb, hc⟩ := h.2 hn
  exact ⟨b, o, hA, hb, fun i hi => by rw [hk ⟨b, o + i, none⟩ hb]; exact hc i hi⟩
theorem BRow.below {w w' : World} {B C : Nat} {A : Option Addr} {n : Nat} {bs : List Int} (h : BRow w B A n bs) (hb : Below C w w') (hBC : B ≤ C) : BRow w' B A n bs := h.keep fun _ hp => hb.cell (Nat.lt_of_lt_of_le hp hBC)
theorem BRow.more {w : World} {B C : Nat} {A : Option Addr} {n : Nat} {bs : List Int} (h : BRow w B A n bs) (hBC : B ≤ C) : BRow w C A n bs := by
  refine ⟨h.1, fun hn => ?_⟩
  obtain ⟨b, o, hA, hb, hc⟩ := h.2 hn
  exact ⟨b, o, hA, by omega, hc⟩
theorem BRow.later {w w' : World} {A : Option Addr} {n : Nat} {bs : List Int} (h : BRow w w.heap.size A n bs) (hb : Below w.heap.size w w') : BRow w' w'.heap.size A n bs := (h.below hb (Nat.le_refl _)).more hb.size

/-- Block g holds the bytes d, and can be written. -/
structure BHeld (w : World) (g : Nat) (d : List Int) : Prop where
  lt : g < w.heap.size
  fr : ∀ o, w.frozen? ⟨g, o, none⟩ = false
  at0 : ∀ i, i < d.length → w.cell? ⟨g, i, none⟩ = some (.int .u8 (nth d i))
theorem BHeld.later {w w' : World} {g : Nat} {d : List Int} (h : BHeld w g d) (hb : Below w.heap.size w w') : BHeld w' g d :=
  ⟨Nat.lt_of_lt_of_le h.lt hb.size, fun o => (hb.frozen (p := ⟨g, o, none⟩) h.lt).trans (h.fr o), fun i hi => (hb.cell (p := ⟨g, i, none⟩) h.lt).trans (h.at0 i hi)⟩
theorem BHeld.kept {w w' : World} {g : Nat} {d : List Int} {r : Option Nat} (h : BHeld w g d) (hg : w.grownBy w' r) (hne : r ≠ some g) : BHeld w' g d := by
  have e := hg.block g h.lt (fun e => hne e.symm)
  exact ⟨Nat.lt_of_lt_of_le h.lt hg.size, fun o => (World.frozen?_of_block (w := w) (w' := w') (a := ⟨g, o, none⟩) e).trans (h.fr o), fun i hi => (World.cell?_of_block (w := w) (w' := w') (a := ⟨g, i, none⟩) e).trans (h.at0 i hi)⟩
theorem BHeld.row {w : World} {g n : Nat} {d : List Int} (h : BHeld w g d) (hl : d.length = n) : BRow w w.heap.size (some ⟨g, 0, none⟩) n d :=
  ⟨hl, fun _ => ⟨g, 0, rfl, h.lt, fun i hi => by rw [Nat.zero_add]; exact h.at0 i (by omega)⟩⟩
theorem BOwn.held {w : World} {base g cap : Nat} {bs : List Int} (h : BOwn w base g cap bs) : BHeld w g bs := by
  refine ⟨(h.lt g rfl).2, fun o => World.ownsRow.frozenAt h o, fun i hi => ?_⟩
  have h1 := World.ownsRow.cellAt h i (by omega)
  rw [h1, List.getElem?_map, List.getElem?_eq_getElem hi, nth_lt hi]
  rfl
theorem BHeld.put {w : World} {g : Nat} {d : List Int} (h : BHeld w g d) (i : Nat) (x : Int) : BHeld (w.setCell ⟨g, i, none⟩ (.int .u8 x)) g (d.set i x) := by
  refine ⟨by rw [size_set]; exact h.lt, fun o => by simp [h.fr o], fun k hk => ?_⟩
  rw [List.length_set] at hk
  rw [cell_set1 (h.at0 k hk)]
  by_cases e : k = i
  · subst e; simp [nth, hk]
  · rw [if_neg e]; simp [nth, show ¬ i = k by omega]

set_option maxHeartbeats 400000 in
theorem eqBytes_same (A A' : Option Addr) (n cap cap' : Nat) (bs : List Int) (w : World) (hm : n ≤ 1048576) (hr : BRow w w.heap.size A n bs) (hr' : BRow w w.heap.size A' n bs) :
    Calls Tryd.prog 20 #[.slice A n cap, .slice A' n cap'] w fun e w' => e = .returned (.bool true) ∧ Below w.heap.size w w' := by
  have HR := Lib.hid hr
  have HR' := Lib.hid hr'
  clear hr hr'
  go_enter Tryd.func20, Tryd.ntmps20
  go_wp2_with fail
  go_loopw [5] (fun i wr => ∃ k : Nat, k ≤ n ∧ i = .int .i64 k ∧ Below w.heap.size w wr) (fun i _ => n - (intOf i).toNat)
  case atStart => exact ⟨0, Nat.zero_le _, rfl, Below.refl _ _⟩
  case round =>
    obtain ⟨k, hk, rfl, hb⟩ := hrel
    by_cases hlt : k < n
    · obtain ⟨b, o, hA, hbB, hcell⟩ := HR.out.2 (by omega)
      obtain ⟨b', o', hA', hbB', hcell'⟩ := HR'.out.2 (by omega)
      subst hA hA'
      have g0 := (hb.cell (p := ⟨b, o + k, none⟩) hbB).trans (hcell k hlt)
      have h0 := (hb.cell (p := ⟨b', o' + k, none⟩) hbB').trans (hcell' k hlt)
      have hlt' : (k : Int) < (n : Int) := by omega
      generalize nth bs k = x at g0 h0
      clear hcell hcell'
      go_wp2_with fail
      go_quiet (fail)
      all_goals
        have HB := Lib.hid hb
        go_wp2
        go_roundw
        case rel => exact ⟨k + 1, by omega, by go_num, bel_drewN HB.out _⟩
        case measure => simp [intOf]; omega
    · have hkn : k = n := by omega
      subst hkn
      go_wp2
      go_ret
      exact ⟨rfl, hb⟩

/-- Marked from k on. -/
def BMarked (k : Int) (d : List Int) : Prop := ∀ j, j < d.length → nth d j = IntKind.u8.wrap (k + j)

set_option maxHeartbeats 1000000 in
theorem markB_is (g n cap : Nat) (k : Int) (d : List Int) (w : World) (hn : n ≤ 4194304) (hk0 : 0 ≤ k) (hk1 : k ≤ 100000000) (hl : d.length = n) (H : BHeld w g d) :
    Calls Tryd.prog 22 #[.slice (some ⟨g, 0, none⟩) n cap, .int .i64 k] w fun e w' => e = .returned (.int .i64 (k + n)) ∧ ∃ d', d'.length = n ∧ BMarked k d' ∧ BHeld w' g d' ∧ w.grownBy w' (some g) := by
  have HH := Lib.hid H
  replace hl := Lib.hid hl
  clear H
  go_enter Tryd.func22, Tryd.ntmps22
  go_wp2_with fail
  go_loopw [1, 5] (fun kv iv wr => ∃ (i : Nat) (k' : Int) (d' : List Int), i ≤ n ∧ k + i = k' ∧ iv = .int .i64 i ∧ kv = .int .i64 k' ∧ d'.length = n ∧ (∀ j, j < i → nth d' j = IntKind.u8.wrap (k + j)) ∧ BHeld wr g d' ∧ w.grownBy wr (some g)) (fun _ i _ => n - (intOf i).toNat)
  case atStart => exact ⟨0, k, d, Nat.zero_le _, by omega, rfl, rfl, hl.out, by omega, HH.out, grown_refl _ _⟩
  case round =>
    obtain ⟨i, k', d', hi, hk', rfl, rfl, hl', hm, hh, hg⟩ := hrel
    have hb : k' ≤ 200000000 := by omega
    have hb0 : 0 ≤ k' := by omega
    by_cases hlt : i < n
    · have hlt' : (i : Int) < (n : Int) := by omega
      have c0 := hh.at0 i (by omega)
      have fr := hh.fr
      have HP := Lib.hid (hh.put i (IntKind.u8.wrap k'))
      have HG := Lib.hid (grown_set hg i (.int .u8 (IntKind.u8.wrap k')))
      replace hl' := Lib.hid hl'
      replace hm := Lib.hid hm
      replace hk' := Lib.hid hk'
      clear hg hh
      go_wp2
      go_roundw
      case rel =>
        have e := hk'.out
        refine ⟨i + 1, k' + 1, d'.set i (IntKind.u8.wrap k'), by omega, by omega, by go_num, rfl, by simpa using hl'.out, fun j hj => ?_, HP.out, HG.out⟩
        by_cases e' : j = i
        · subst e'
          have : j < d'.length := by rw [hl'.out]; exact hlt
          rw [e]
          simp [nth, this]
        · have := hm.out j (by omega)
          rw [← this]
          simp [nth, show ¬ i = j by omega]
      case measure => simp [intOf]; omega
    · obtain rfl : i = n := by omega
      replace hl' := Lib.hid hl'
      replace hm := Lib.hid hm
      replace hk' := Lib.hid hk'
      go_wp2
      go_ret
      exact ⟨by rw [hk'.out]; rfl, d', hl'.out, fun j hj => hm.out j (by rw [← hl'.out]; exact hj), hh, hg⟩
end Go.Proofs.YtgjbebfcbpfngaaDoor

/- What laySeals and numbers of impl/l06_wire.go answer: contracts of each of them; the conditions are the sizes. -/
namespace Go.Proofs.YtgjbebfcbpfngaaDoor
open Go.RowKit Go.Deep

/-- The numbers of pairs, one behind the other. -/
def pairsN (ps : List (Int × Int)) : List Int := ps.flatMap fun p => [p.1, p.2]
theorem pairsN_len (ps : List (Int × Int)) : (pairsN ps).length = 2 * ps.length := by
  induction ps with
  | nil => rfl
  | cons p r ih => unfold pairsN at ih ⊢; rw [List.flatMap_cons, List.length_append, ih]; simp; omega
theorem sealN_is (ps : List (Int × Int)) : layAll (sealN ps) = lay ps.length ++ layAll (pairsN ps) := rfl
theorem pairsN_take {ps : List (Int × Int)} {k : Nat} {x y : Int} (hk : k < ps.length) (h : pth ps k = (x, y)) : layAll (pairsN (ps.take (k + 1))) = layAll (pairsN (ps.take k)) ++ lay x ++ lay y := by
  rw [pth_lt hk] at h
  rw [List.take_succ_eq_append_getElem hk, h]
  simp [pairsN, layAll, List.flatMap_append]
theorem pairsN_num {ps : List (Int × Int)} (h : ∀ p ∈ ps, Num p.1 ∧ Num p.2) : ∀ z ∈ pairsN ps, Num z := by
  intro z hz
  simp only [pairsN, List.mem_flatMap] at hz
  obtain ⟨p, hp, hz⟩ := hz
  simp only [List.mem_cons, List.not_mem_nil, or_false] at hz
  rcases hz with rfl | rfl
  · exact (h p hp).1
  · exact (h p hp).2
theorem seals_len {ps : List (Int × Int)} {k : Nat} (hl : ps.length ≤ 20) (h : ∀ p ∈ ps, Num p.1 ∧ Num p.2) (bs : List Int) (hb : bs.length ≤ 500) : (bs ++ lay ps.length ++ layAll (pairsN (ps.take k))).length ≤ 900 := by
  have h1 : (lay (ps.length : Int)).length ≤ 5 := lay_len ⟨by omega, by omega⟩
  have h2 := layAll_len (pairsN_num (ps := ps.take k) (fun p hp => h p (List.mem_of_mem_take hp)))
  rw [pairsN_len] at h2
  have h3 : (ps.take k).length ≤ ps.length := List.length_take_le' _ _
  simp only [List.length_append]
  omega
theorem Pairs.laid {w wr : World} {base g0 g cap : Nat} {bs : List Int} {A : Option Addr} {n : Nat} {ps : List (Int × Int)} (h : Pairs w base A n ps) (k : Laid w wr base g0 g cap bs) (hb : base ≤ w.heap.size) (hg : base ≤ g0) : Pairs wr base A n ps :=
  h.keep fun p hp => World.cell?_of_block (k.grw.block p.block (by omega) (by intro e; injection e with e; omega))
theorem Laid.alloc {w wr : World} {base g0 g cap : Nat} {bs : List Int} (h : Laid w wr base g0 g cap bs) (o : Obj) : Laid w (wr.alloc o) base g0 g cap bs :=
  ⟨World.ownsRow.alloc h.own o, grown_alloc h.grw o, h.pos⟩
theorem Laid.gpos {w wr : World} {base g0 g cap : Nat} {bs : List Int} (h : Laid w wr base g0 g cap bs) : base ≤ g ∧ g < wr.heap.size := h.own.lt g rfl
theorem Laid.row {w wr : World} {base g0 g cap : Nat} {bs : List Int} {j t : Nat} {cs : Array Value} (h : Laid w wr base g0 g cap bs) (k : Box w j t cs) (hj : j < base) (hg : base ≤ g0) : Box wr j t cs := k.kept h.grw (by intro e; injection e with e; omega)

set_option maxRecDepth 100000 in
set_option maxHeartbeats 2000000 in
theorem laySeals_is (base g cap n : Nat) (bs : List Int) (A : Option Addr) (p pc : Nat) (ps : List (Int × Int)) (w : World) (hp : Pairs w base A p ps) (hpl : p ≤ 20) (hps : ∀ p ∈ ps, Num p.1 ∧ Num p.2) (hl : bs.length = n) (hn : n ≤ 500) (hb : base ≤ w.heap.size) (h : BOwn w base g cap bs) :
    Calls Tryd.prog 29 #[.slice (some ⟨g, 0, none⟩) n cap, .slice A p pc] w (Lays w base g (bs ++ layAll (sealN ps))) := by
  have hg := (h.lt g rfl).1
  obtain ⟨q, hq⟩ : ∃ q : Int, q = (p : Int) := ⟨_, rfl⟩
  have HL := Lib.hid hp.1
  have HPS := Lib.hid hps
  have HP := Lib.hid hp
  have HN := Lib.hid (show bs.length ≤ 500 by omega)
  have HZ := Lib.hid hl
  have H := Lib.hid h
  clear h hp hps hl
  go_enter Tryd.func29, Tryd.ntmps29
  go_wp2_with fail
  refine (layNumber_is base g cap n bs p w ⟨by omega, by omega⟩ HZ.out (by omega) hb H.out).mono ?_
  rintro e w1 ⟨g1, c1, cs1, rfl, hc1, K1⟩
  have HE : Hid (cs1 = bs ++ lay ps.length ++ layAll (pairsN (ps.take 0))) := Lib.hid (by rw [hc1.out, HL.out]; simp [pairsN, layAll])
  clear hc1
  go_wp2_with fail
  go_loopw [0, 13] (fun bv iv wr => ∃ (k gr cr : Nat) (cs : List Int), k ≤ p ∧ iv = .int .i64 k ∧ bv = .slice (some ⟨gr, 0, none⟩) cs.length cr ∧ Hid (cs = bs ++ lay ps.length ++ layAll (pairsN (ps.take k))) ∧ Laid w wr base g gr cr cs) (fun _ i _ => p - (intOf i).toNat)
  case atStart => exact ⟨0, g1, c1, cs1, Nat.zero_le _, rfl, rfl, HE, K1⟩
  case round =>
    obtain ⟨k, gr, cr, cs, hk, rfl, rfl, hcs, hK⟩ := hrel
    have hcl : cs.length ≤ 900 := by rw [hcs.out]; exact seals_len (by rw [HL.out]; omega) HPS.out bs HN.out
    have hsz := hK.grw.size
    by_cases hlt : k < p
    · obtain ⟨b, o, hA, hbB, hcell⟩ := (HP.out.laid hK hb hg).2 (by omega)
      subst hA
      obtain ⟨g0, g1⟩ := hcell k hlt
      generalize hx : pth ps k = x at g0 g1
      obtain ⟨x, y⟩ := x
      have hmem : (x, y) ∈ ps := by rw [← hx, pth_lt (by rw [HL.out]; exact hlt)]; exact List.getElem_mem _
      have hnum := Lib.hid (HPS.out _ hmem)
      have hst := Lib.hid (pairsN_take (by rw [HL.out]; exact hlt) hx)
      clear hx hcell hmem
      have hlt' : (k : Int) < (p : Int) := by omega
      have V := Box.new wr 94 #[.int .i64 x, .int .i64 y]
      have KA := hK.alloc (.cells #[.int .i64 x, .int .i64 y] 94)
      have hV := hK.gpos
      have hVs : gr ≠ wr.heap.size := by omega
      obtain ⟨v0, v1⟩ := V.two
      go_wp2_with fail
      generalize (wr.alloc _ : World) = w2 at V KA v0 v1 ⊢
      generalize wr.heap.size = R at V hV hVs v0 v1 ⊢
      have hbs2 := KA.grw.size
      refine (layNumber_is base gr cr cs.length cs x w2 hnum.out.1 rfl (by omega) (by omega) KA.own).mono ?_
      rintro e w3 ⟨g3, c3, cs3, rfl, hc3, K3⟩
      have V3 := V.kept K3.grw (by intro e; injection e with e; omega)
      have KB := KA.trans K3
      have hcl3 : cs3.length ≤ 905 := by rw [hc3.out, List.length_append]; have := lay_len hnum.out.1; omega
      have hbs3 := KB.grw.size
      clear K3 KA V v0 v1 hK g0 g1
      obtain ⟨v0, v1⟩ := V3.two
      go_wp2_with fail
      refine (layNumber_is base g3 c3 cs3.length cs3 y w3 hnum.out.2 rfl (by omega) (by omega) KB.own).mono ?_
      rintro e w4 ⟨g4, c4, cs4, rfl, hc4, K4⟩
      have KC := Lib.hid (KB.trans K4)
      have HE4 : Hid (cs4 = bs ++ lay ps.length ++ layAll (pairsN (ps.take (k + 1)))) := Lib.hid (by rw [hc4.out, hc3.out, hcs.out, hst.out]; simp [List.append_assoc])
      clear K4 KB V3 v0 v1 hc3 hc4 hst
      go_wp2
      go_roundw
      case rel => exact ⟨k + 1, g4, c4, cs4, by omega, by go_num, rfl, HE4, KC.out⟩
      case measure => simp [intOf]; omega
    · have hkn : k = p := by omega
      subst hkn
      have HE2 : Hid (cs = bs ++ layAll (sealN ps)) := Lib.hid (by rw [hcs.out, sealN_is, List.take_of_length_le (by rw [HL.out]; exact Nat.le_refl _), List.append_assoc])
      go_wp2
      go_ret
      exact ⟨gr, cr, cs, rfl, HE2, hK⟩

end Go.Proofs.YtgjbebfcbpfngaaDoor

/- What numbers of impl/l06_wire.go answers: a list of pointers to a note's numbers; no conditions. -/
namespace Go.Proofs.YtgjbebfcbpfngaaDoor
open Go.RowKit Go.Deep

/-- The places of a note's numbers. -/
def ptrs (g : Nat) : Array Value := #[.pointer (some ⟨g, 0, none⟩), .pointer (some ⟨g, 1, none⟩), .pointer (some ⟨g, 2, none⟩), .pointer (some ⟨g, 3, none⟩), .pointer (some ⟨g, 4, none⟩), .pointer (some ⟨g, 5, none⟩), .pointer (some ⟨g, 6, none⟩), .pointer (some ⟨g, 7, none⟩), .pointer (some ⟨g, 8, none⟩), .pointer (some ⟨g, 9, none⟩), .pointer (some ⟨g, 10, none⟩), .pointer (some ⟨g, 13, none⟩), .pointer (some ⟨g, 14, none⟩), .pointer (some ⟨g, 15, none⟩)]

set_option maxRecDepth 100000 in
set_option maxHeartbeats 2000000 in
theorem numbers_is (g : Nat) (w : World) : Calls Tryd.prog 27 #[.pointer (some ⟨g, 0, none⟩)] w fun e w' => e = .returned (.slice (some ⟨w.heap.size, 0, none⟩) 14 14) ∧ Box w' w.heap.size 57 (ptrs g) ∧ Below w.heap.size w w' := by
  go_enter Tryd.func27, Tryd.ntmps27
  go_wp2_with fail
  go_region
  go_wp2
  go_ret
  exact ⟨rfl, Box.new w _ _, (bel_alloc w _).drew⟩

/-- Each pointer leads to its number. -/
theorem ptrs_at {N : Array Value} {k1 k2 k3 k4 k5 t1 t2 v1 o1 o2 v2 : Int} {P : Option Addr} {p pc : Nat} {Q : Option Addr} {q qc : Nat} {l1 l2 v3 : Int} (hN : N = #[.int .i64 k1, .int .i64 k2, .int .i64 k3, .int .i64 k4, .int .i64 k5, .int .i64 t1, .int .i64 t2, .int .i64 v1, .int .i64 o1, .int .i64 o2, .int .i64 v2, .slice P p pc, .slice Q q qc, .int .i64 l1, .int .i64 l2, .int .i64 v3]) (g k : Nat) (hk : k < 14) :
    ∃ j, (ptrs g)[k]? = some (.pointer (some ⟨g, j, none⟩)) ∧ N[j]? = some (.int .i64 (nth (numN k1 k2 k3 k4 k5 t1 t2 v1 o1 o2 v2 l1 l2 v3) k)) := by
  subst hN
  obtain rfl | rfl | rfl | rfl | rfl | rfl | rfl | rfl | rfl | rfl | rfl | rfl | rfl | rfl : k = 0 ∨ k = 1 ∨ k = 2 ∨ k = 3 ∨ k = 4 ∨ k = 5 ∨ k = 6 ∨ k = 7 ∨ k = 8 ∨ k = 9 ∨ k = 10 ∨ k = 11 ∨ k = 12 ∨ k = 13 := by omega
  all_goals exact ⟨_, rfl, rfl⟩
theorem numN_len (k1 k2 k3 k4 k5 t1 t2 v1 o1 o2 v2 l1 l2 v3 : Int) : (numN k1 k2 k3 k4 k5 t1 t2 v1 o1 o2 v2 l1 l2 v3).length = 14 := rfl
theorem take_lay {ns : List Int} {k : Nat} (hk : k < ns.length) : layAll (ns.take (k + 1)) = layAll (ns.take k) ++ lay (nth ns k) := by
  rw [List.take_succ_eq_append_getElem hk, layAll_app, layAll_one, nth_lt hk]
theorem take_len {ns : List Int} (h : ∀ z ∈ ns, Num z) (hl : ns.length ≤ 100) (k : Nat) : (layAll (ns.take k)).length ≤ 500 := by
  have h1 := layAll_len (zs := ns.take k) (fun z hz => h z (List.mem_of_mem_take hz))
  have h2 : (ns.take k).length ≤ ns.length := List.length_take_le' _ _
  omega
theorem nth_num {ns : List Int} (h : ∀ z ∈ ns, Num z) {k : Nat} (hk : k < ns.length) : Num (nth ns k) := by
  rw [nth_lt hk]; exact h _ (List.getElem_mem _)
theorem pack_len {k1 k2 k3 k4 k5 t1 t2 v1 o1 o2 v2 l1 l2 v3 : Int} {ps qs : List (Int × Int)} (h : Fits k1 k2 k3 k4 k5 t1 t2 v1 o1 o2 v2 l1 l2 v3 ps qs) :
    (layAll (numN k1 k2 k3 k4 k5 t1 t2 v1 o1 o2 v2 l1 l2 v3)).length ≤ 70 ∧ (layAll (sealN ps)).length ≤ 205 ∧ (layAll (sealN qs)).length ≤ 205 := by
  have h1 := layAll_len h.num
  have h2 := layAll_len (sealN_num h.pl h.ps)
  have h3 := layAll_len (sealN_num h.ql h.qs)
  rw [sealN_len] at h2 h3
  rw [numN_len] at h1
  have := h.pl
  have := h.ql
  omega

end Go.Proofs.YtgjbebfcbpfngaaDoor
