/- What layNumber and laySeals of impl/l06_wire.go and l6Put of the model answer: contracts of each of them; the conditions are the sizes. -/
import Derived.Test.YtgjbebfcbpfngaaDoorWireBase
import Derived.Test.YtgjbebfcbpfngaaDoorDraw
import Derived.Test.YtgjbebfcbpfngaaDoorAfter
import Derived.WalkKit
import Derived.OwnWalk
import Derived.Deep.AppendLies
import Derived.Deep.RegionWith
import Derived.IntWalk
namespace Go.Proofs.YtgjbebfcbpfngaaDoor
open Go.RowKit Go.Deep

theorem Tryd.infoB : (Tryd.prog.info? 5).map (fun i => (i.zero, i.size, i.bytes)) = some (some (.int .u8 0), 1, 1) := by kernel_rfl

/-- The bytes bs, in a block of their own that was made behind base. -/
def BOwn (w : World) (base g cap : Nat) (bs : List Int) : Prop := w.ownsRow base 5 1 (.slice (some ⟨g, 0, none⟩) bs.length cap) bs.length (bs.map (Value.int .u8))

theorem grown_own {a b c : World} {r r' : Nat} (h : a.grownBy b (some r)) (k : b.grownBy c (some r')) (hr : r' = r ∨ a.heap.size ≤ r') : a.grownBy c (some r) :=
  ⟨k.os.trans h.os, k.tape.trans h.tape, k.output.trans h.output, Nat.le_trans h.size k.size, fun i hi hne => (k.block i (Nat.lt_of_lt_of_le hi h.size) (fun e => by
    injection e with e
    rcases hr with hr | hl
    · exact hne (by rw [e, hr])
    · omega)).trans (h.block i hi hne)⟩

/-- Bytes of one's own, in block g0 at first, in g now: nothing else that was there has turned. -/
structure Laid (w wr : World) (base g0 g cap : Nat) (bs : List Int) : Prop where
  own : BOwn wr base g cap bs
  grw : w.grownBy wr (some g0)
  pos : g = g0 ∨ w.heap.size ≤ g
theorem Laid.start {w : World} {base g cap : Nat} {bs : List Int} (h : BOwn w base g cap bs) : Laid w w base g g cap bs := ⟨h, grown_refl _ _, .inl rfl⟩
theorem Laid.trans {w w1 w2 : World} {base g g1 g2 c1 c2 : Nat} {b1 b2 : List Int} (h : Laid w w1 base g g1 c1 b1) (k : Laid w1 w2 base g1 g2 c2 b2) : Laid w w2 base g g2 c2 b2 := by
  refine ⟨k.own, grown_own h.grw k.grw h.pos, ?_⟩
  rcases k.pos with e | hg
  · rw [e]; exact h.pos
  · exact .inr (Nat.le_trans h.grw.size hg)
theorem Laid.push {w wr w' : World} {base g0 g cap gg cap2 : Nat} {bs : List Int} {x : Int} {o : Obj} (h : Laid w wr base g0 g cap bs)
    (ho : w'.ownsRow base 5 1 (.slice (some ⟨gg, 0, none⟩) (bs.length + 1) cap2) (bs.length + 1) (bs.map (Value.int .u8) ++ [.int .u8 x])) (hg : (wr.alloc o).grownBy w' (some g)) (hp : some g = some gg ∨ gg = wr.heap.size + 1) :
    Laid w w' base g0 gg cap2 (bs ++ [x]) := by
  have hg' := grown_trans (grown_bel (bel_alloc wr o) (some g)) hg
  refine ⟨?_, grown_own h.grw hg' h.pos, ?_⟩
  · unfold BOwn
    simpa using ho
  · rcases hp with e | e
    · injection e with e; rw [← e]; exact h.pos
    · exact .inr (by have := h.grw.size; omega)

/-- What is left where bytes were laid, bs in all. -/
def Lays (w : World) (base g : Nat) (bs : List Int) (e : Ending) (w' : World) : Prop := ∃ (g' cap' : Nat) (cs : List Int), e = .returned (.slice (some ⟨g', 0, none⟩) cs.length cap') ∧ Hid (cs = bs) ∧ Laid w w' base g g' cap' cs

theorem lay_step {bs bs0 : List Int} {x x0 : Int} (h : 128 ≤ x) (e : bs ++ lay x = bs0 ++ lay x0) : (bs ++ [x % 128 + 128]) ++ lay (x / 128) = bs0 ++ lay x0 := by
  rw [← e, lay_big h, List.append_assoc]; rfl
theorem lay_last {bs bs0 : List Int} {x x0 : Int} (h0 : 0 ≤ x) (h : x < 128) (e : bs ++ lay x = bs0 ++ lay x0) : bs ++ [x] = bs0 ++ lay x0 := by
  rw [← e, lay_small h0 h]
theorem lay_bound {bs bs0 : List Int} {x x0 : Int} (e : bs ++ lay x = bs0 ++ lay x0) (hx : Num x0) (hn : bs0.length ≤ 1000) : bs.length ≤ 1005 := by
  have h1 := congrArg List.length e
  have h2 := lay_len hx
  simp only [List.length_append] at h1
  omega

set_option maxHeartbeats 1000000 in
theorem layNumber_is (base g cap n : Nat) (bs : List Int) (x : Int) (w : World) (hx : Num x) (hl : bs.length = n) (hn : n ≤ 1000) (hb : base ≤ w.heap.size) (h : BOwn w base g cap bs) :
    Calls Tryd.prog 28 #[.slice (some ⟨g, 0, none⟩) n cap, .int .i64 x] w (Lays w base g (bs ++ lay x)) := by
  subst hl
  obtain ⟨i0, hi0, hz0, hz1, hz2⟩ := info_parts Tryd.infoB
  have K0 := Laid.start h
  have HX := Lib.hid hx
  have HN := Lib.hid hn
  clear h hn
  obtain ⟨h0, h1⟩ := hx
  go_enter Tryd.func28, Tryd.ntmps28
  go_wp2_with fail
  go_loopw [0, 1] (fun bv nv wr => ∃ (gr cr : Nat) (cs : List Int) (y : Int), bv = .slice (some ⟨gr, 0, none⟩) cs.length cr ∧ nv = .int .i64 y ∧ 0 ≤ y ∧ y < 34359738368 ∧ Laid w wr base g gr cr cs ∧ Hid (cs ++ lay y = bs ++ lay x)) (fun _ n _ => (intOf n).toNat)
  case atStart => exact ⟨g, cap, bs, x, rfl, rfl, h0, h1, K0, Lib.hid rfl⟩
  case round =>
    obtain ⟨gr, cr, cs, y, rfl, rfl, hy0, hy1, hK, he⟩ := hrel
    have hcs := lay_bound he.out HX.out HN.out
    have hbs := hK.grw.size
    by_cases hlt : 128 ≤ y
    · have hlt' : 127 < y := by omega
      have hw1 : IntKind.u8.wrap (y % 128 + 128) = y % 128 + 128 := by rw [IntKind.wrap_u8]; omega
      go_wp2_with (at_builtin; refine wpList_append_lies _ rfl _ _ _ rfl base 5 i0 _ 1 1 Tryd.underlying22 hi0 hz0 hz1 hz2 rfl (by omega) (.slice (some ⟨gr, 0, none⟩) cs.length cr) cs.length (cs.map (Value.int .u8)) rfl (hK.own.alloc _) ⟨wr.heap.size, 0, none⟩ 1 1 [.int .u8 (y % 128 + 128)] rfl rfl (World.news_of_block (cs := #[.int .u8 (y % 128 + 128)]) (t := 5) (fr := (0, 0)) (heap_alloc_new wr _)) (by simp [Value.oneCell']) (by omega) (by unfold maxLen; omega) (by omega) (by simp; omega) (wr.heap.size + 1) (by simp) ?_; intro gg cap2 w2 hown2 hgrow2 hat hlt2)
      have HK := Lib.hid (hK.push hown2 hgrow2 hat)
      have HE := Lib.hid (lay_step hlt he.out)
      clear hown2 hgrow2 hat hK he hw1
      go_roundw
      case rel => exact ⟨gg, cap2, _, y / 128, by simp, rfl, by omega, by omega, HK.out, HE⟩
      case measure => simp [intOf]; omega
    · have hlt' : ¬ 127 < y := by omega
      have hw1 : IntKind.u8.wrap y = y := by rw [IntKind.wrap_u8]; omega
      go_wp2_with (at_builtin; refine wpList_append_lies _ rfl _ _ _ rfl base 5 i0 _ 1 1 Tryd.underlying22 hi0 hz0 hz1 hz2 rfl (by omega) (.slice (some ⟨gr, 0, none⟩) cs.length cr) cs.length (cs.map (Value.int .u8)) rfl (hK.own.alloc _) ⟨wr.heap.size, 0, none⟩ 1 1 [.int .u8 (y)] rfl rfl (World.news_of_block (cs := #[.int .u8 (y)]) (t := 5) (fr := (0, 0)) (heap_alloc_new wr _)) (by simp [Value.oneCell']) (by omega) (by unfold maxLen; omega) (by omega) (by simp; omega) (wr.heap.size + 1) (by simp) ?_; intro gg cap2 w2 hown2 hgrow2 hat hlt2)
      have HK := Lib.hid (hK.push hown2 hgrow2 hat)
      have HE := Lib.hid (lay_last hy0 (by omega) he.out)
      clear hown2 hgrow2 hat hK he hw1
      go_ret
      exact ⟨gg, cap2, _, by simp, HE, HK.out⟩

set_option maxHeartbeats 1000000 in
theorem l6Put_is (base g cap n : Nat) (bs : List Int) (x : Int) (w : World) (hx : Num x) (hl : bs.length = n) (hn : n ≤ 1000) (hb : base ≤ w.heap.size) (h : BOwn w base g cap bs) :
    Calls Tryd.prog 82 #[.slice (some ⟨g, 0, none⟩) n cap, .int .i64 x] w (Lays w base g (bs ++ lay x)) := by
  subst hl
  obtain ⟨i0, hi0, hz0, hz1, hz2⟩ := info_parts Tryd.infoB
  have K0 := Laid.start h
  have HX := Lib.hid hx
  have HN := Lib.hid hn
  clear h hn
  obtain ⟨h0, h1⟩ := hx
  go_enter Tryd.func82, Tryd.ntmps82
  go_wp2_with fail
  go_loopw [0, 1] (fun bv nv wr => ∃ (gr cr : Nat) (cs : List Int) (y : Int), bv = .slice (some ⟨gr, 0, none⟩) cs.length cr ∧ nv = .int .i64 y ∧ 0 ≤ y ∧ y < 34359738368 ∧ Laid w wr base g gr cr cs ∧ Hid (cs ++ lay y = bs ++ lay x)) (fun _ n _ => (intOf n).toNat)
  case atStart => exact ⟨g, cap, bs, x, rfl, rfl, h0, h1, K0, Lib.hid rfl⟩
  case round =>
    obtain ⟨gr, cr, cs, y, rfl, rfl, hy0, hy1, hK, he⟩ := hrel
    have hcs := lay_bound he.out HX.out HN.out
    have hbs := hK.grw.size
    by_cases hlt : 128 ≤ y
    · have hlt' : 127 < y := by omega
      have hw1 : IntKind.u8.wrap (y % 128 + 128) = y % 128 + 128 := by rw [IntKind.wrap_u8]; omega
      go_wp2_with (at_builtin; refine wpList_append_lies _ rfl _ _ _ rfl base 5 i0 _ 1 1 Tryd.underlying22 hi0 hz0 hz1 hz2 rfl (by omega) (.slice (some ⟨gr, 0, none⟩) cs.length cr) cs.length (cs.map (Value.int .u8)) rfl (hK.own.alloc _) ⟨wr.heap.size, 0, none⟩ 1 1 [.int .u8 (y % 128 + 128)] rfl rfl (World.news_of_block (cs := #[.int .u8 (y % 128 + 128)]) (t := 5) (fr := (0, 0)) (heap_alloc_new wr _)) (by simp [Value.oneCell']) (by omega) (by unfold maxLen; omega) (by omega) (by simp; omega) (wr.heap.size + 1) (by simp) ?_; intro gg cap2 w2 hown2 hgrow2 hat hlt2)
      have HK := Lib.hid (hK.push hown2 hgrow2 hat)
      have HE := Lib.hid (lay_step hlt he.out)
      clear hown2 hgrow2 hat hK he hw1
      go_roundw
      case rel => exact ⟨gg, cap2, _, y / 128, by simp, rfl, by omega, by omega, HK.out, HE⟩
      case measure => simp [intOf]; omega
    · have hlt' : ¬ 127 < y := by omega
      have hw1 : IntKind.u8.wrap y = y := by rw [IntKind.wrap_u8]; omega
      go_wp2_with (at_builtin; refine wpList_append_lies _ rfl _ _ _ rfl base 5 i0 _ 1 1 Tryd.underlying22 hi0 hz0 hz1 hz2 rfl (by omega) (.slice (some ⟨gr, 0, none⟩) cs.length cr) cs.length (cs.map (Value.int .u8)) rfl (hK.own.alloc _) ⟨wr.heap.size, 0, none⟩ 1 1 [.int .u8 (y)] rfl rfl (World.news_of_block (cs := #[.int .u8 (y)]) (t := 5) (fr := (0, 0)) (heap_alloc_new wr _)) (by simp [Value.oneCell']) (by omega) (by unfold maxLen; omega) (by omega) (by simp; omega) (wr.heap.size + 1) (by simp) ?_; intro gg cap2 w2 hown2 hgrow2 hat hlt2)
      have HK := Lib.hid (hK.push hown2 hgrow2 hat)
      have HE := Lib.hid (lay_last hy0 (by omega) he.out)
      clear hown2 hgrow2 hat hK he hw1
      go_ret
      exact ⟨gg, cap2, _, by simp, HE, HK.out⟩

end Go.Proofs.YtgjbebfcbpfngaaDoor
