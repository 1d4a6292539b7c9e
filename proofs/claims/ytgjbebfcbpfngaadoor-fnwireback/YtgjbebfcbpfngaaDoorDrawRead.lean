/- What DrawReadNote, the model's draw of a group and of bytes out of the code, leaves: a group whose keys can be read, and bytes of their own; the bytes of the code can be read. -/
import Derived.Test.YtgjbebfcbpfngaaDoorDrawPack
import Derived.Test.YtgjbebfcbpfngaaDoorSpecWire2
import Derived.Test.YtgjbebfcbpfngaaDoorWire9
import Derived.Deep.CutBlock
namespace Go.Proofs.YtgjbebfcbpfngaaDoor
open Go.RowKit

theorem okB_len {s l c sh : Int} {zs : List Int} (h : okB s l c sh zs = true) : (zs.length : Int) = s + c := by
  simp only [okB, Bool.and_eq_true] at h
  simpa using h.1.2
theorem packL_bys (s l c sh : Int) (zs : List Int) (k1 k2 k3 k4 k5 t1 t2 v1 o1 o2 v2 : Int) (ps qs : List (Int × Int)) (l1 l2 v3 : Int) : Bys (packL s l c sh zs k1 k2 k3 k4 k5 t1 t2 v1 o1 o2 v2 ps qs l1 l2 v3) := by
  unfold packL
  split
  · intro z hz
    simp only [packN, List.mem_append] at hz
    rcases hz with hz | hz | hz <;> exact layAll_bytes _ z hz
  · intro z hz
    cases hz
theorem bys_set {bs : List Int} (h : Bys bs) (k : Nat) {x : Int} (h0 : 0 ≤ x) (h1 : x ≤ 255) : Bys (bs.set k x) := by
  intro z hz
  rcases List.mem_or_eq_of_mem_set hz with hz | rfl
  · exact h z hz
  · exact ⟨h0, h1⟩
theorem bys_push {bs : List Int} (h : Bys bs) {x : Int} (h0 : 0 ≤ x) (h1 : x ≤ 255) : Bys (bs ++ [x]) := by
  intro z hz
  rcases List.mem_append.mp hz with hz | hz
  · exact h z hz
  · rw [List.mem_singleton] at hz; subst hz; exact ⟨h0, h1⟩
theorem bys_take {bs : List Int} (h : Bys bs) (k : Nat) : Bys (bs.take k) := fun z hz => h z (List.mem_of_mem_take hz)
theorem BHeld.cut {w : World} {g : Nat} {d : List Int} (h : BHeld w g d) (k : Nat) : BHeld w g (d.take k) := by
  refine ⟨h.lt, h.fr, fun i hi => ?_⟩
  rw [List.length_take] at hi
  rw [h.at0 i (by omega)]
  congr 2
  simp [nth, show i < k by omega]

/-- A group, in a variable of its own, and bytes; the result's place is still empty. -/
structure FB (w wr : World) (U q m cap' : Nat) (s l c sh : Int) (zs : List Int) (b : Nat) (bs : List Int) : Prop where
  r : Box wr w.heap.size 26 ZG
  u : Box wr U 26 #[.int .i64 s, .int .i64 l, .int .i64 c, .int .i64 sh, .slice (some ⟨q, 0, none⟩) m cap']
  row : Row wr U (some ⟨q, 0, none⟩) m zs
  held : BHeld wr b bs
  bel : Below w.heap.size w wr
  ru : w.heap.size < U
  ub : U < b
theorem FB.draw {w wr w' : World} {U q m cap' : Nat} {s l c sh : Int} {zs : List Int} {b g : Nat} {bs : List Int} (h : FB w wr U q m cap' s l c sh zs b bs) (hg : wr.grownBy w' (some g)) (h1 : w.heap.size < g) (h2 : g < U) (h3 : g ≠ q) : FB w w' U q m cap' s l c sh zs b bs := by
  have a1 := h.ru
  have a2 := h.ub
  have a3 := h.u.lt
  exact ⟨h.r.kept hg (by intro e; injection e with e; omega), h.u.kept hg (by intro e; injection e with e; omega), h.row.keptB (by omega) hg (fun k hk => by injection hk with hk; exact .inr (by omega)), h.held.kept hg (by intro e; injection e with e; omega), bel_grown h.bel hg (by omega), a1, a2⟩
theorem FB.put {w wr : World} {U q m cap' : Nat} {s l c sh : Int} {zs : List Int} {b : Nat} {bs : List Int} (h : FB w wr U q m cap' s l c sh zs b bs) (k : Nat) (x : Int) : FB w (wr.setCell ⟨b, k, none⟩ (.int .u8 x)) U q m cap' s l c sh zs b (bs.set k x) := by
  have a1 := h.ru
  have a2 := h.ub
  exact ⟨h.r.far (p := ⟨b, k, none⟩) (by show b ≠ _; omega) _, h.u.far (p := ⟨b, k, none⟩) (by show b ≠ _; omega) _, h.row.far (p := ⟨b, k, none⟩) (by show U ≤ b; omega) _, h.held.put k x, h.bel.setCell (p := ⟨b, k, none⟩) (by show _ ≤ b; omega) _, a1, a2⟩
theorem FB.cut {w wr : World} {U q m cap' : Nat} {s l c sh : Int} {zs : List Int} {b : Nat} {bs : List Int} (h : FB w wr U q m cap' s l c sh zs b bs) (k : Nat) : FB w wr U q m cap' s l c sh zs b (bs.take k) :=
  ⟨h.r, h.u, h.row, h.held.cut k, h.bel, h.ru, h.ub⟩
theorem FB.push {w wr w' : World} {U q m cap' : Nat} {s l c sh : Int} {zs : List Int} {b b' bc' : Nat} {bs bs' : List Int} (h : FB w wr U q m cap' s l c sh zs b bs) (hg : wr.grownBy w' (some b)) (ho : BOwn w' (U + 1) b' bc' bs') : FB w w' U q m cap' s l c sh zs b' bs' := by
  have a1 := h.ru
  have a2 := h.ub
  have a3 := h.u.lt
  have a4 := (ho.lt b' rfl).1
  exact ⟨h.r.kept hg (by intro e; injection e with e; omega), h.u.kept hg (by intro e; injection e with e; omega), h.row.keptB (by omega) hg (fun k hk => by injection hk with hk; exact .inl (by omega)), ho.held, bel_grown h.bel hg (by omega), a1, by omega⟩

/-- The group goes into the result's place. -/
theorem FB.fin {w wr : World} {U q m cap' : Nat} {s l c sh : Int} {zs : List Int} {b : Nat} {bs : List Int} (h : FB w wr U q m cap' s l c sh zs b bs) (hq : w.heap.size < q) (W : World) (hW : (((((wr.setCell ⟨w.heap.size, 0, none⟩ (.int .i64 s)).setCell ⟨w.heap.size, 1, none⟩ (.int .i64 l)).setCell ⟨w.heap.size, 2, none⟩ (.int .i64 c)).setCell ⟨w.heap.size, 3, none⟩ (.int .i64 sh)).setCell ⟨w.heap.size, 4, none⟩ (.slice (some ⟨q, 0, none⟩) m cap')) = W) :
    Box W w.heap.size 26 #[.int .i64 s, .int .i64 l, .int .i64 c, .int .i64 sh, .slice (some ⟨q, 0, none⟩) m cap'] ∧ Row W W.heap.size (some ⟨q, 0, none⟩) m zs ∧ BRow W W.heap.size (some ⟨b, 0, none⟩) bs.length bs ∧ Below w.heap.size w W := by
  subst hW
  have a1 := h.ru
  have a2 := h.ub
  have a3 := h.u.lt
  have G := grown5 wr w.heap.size (.int .i64 s) (.int .i64 l) (.int .i64 c) (.int .i64 sh) (.slice (some ⟨q, 0, none⟩) m cap')
  have l1 := G.size
  exact ⟨(show Box wr w.heap.size 26 #[.int .i64 0, .int .i64 0, .int .i64 0, .int .i64 0, .slice none 0 0] from h.r).put5 _ _ _ _ _, (h.row.keptB (by omega) G (fun k hk => by injection hk with hk; exact .inr (by omega))).more (by omega), (h.held.kept G (by intro e; injection e with e; omega)).row rfl, bel_grown h.bel G (Nat.le_refl _)⟩

theorem BOwn.capD {w : World} {base g cap : Nat} {bs : List Int} (h : BOwn w base g cap bs) : bs.length ≤ cap := by
  rcases h.2 with ⟨e, _⟩ | ⟨g', cap', cur, e, _, _, h4, _⟩
  · cases e
  · cases e; exact h4

/-- What the draw of a group and of bytes out of the code leaves. -/
def MadeGB (w : World) (e : Ending) (w' : World) : Prop :=
  ∃ (s l c sh : Int) (q m cap' : Nat) (zs : List Int) (b bc : Nat) (bs : List Int), e = .returned (.tuple #[.agg #[.int .i64 s, .int .i64 l, .int .i64 c, .int .i64 sh, .slice (some ⟨q, 0, none⟩) m cap'], .slice (some ⟨b, 0, none⟩) bs.length bc]) ∧ Row w' w'.heap.size (some ⟨q, 0, none⟩) m zs ∧ m ≤ 100 ∧ BRow w' w'.heap.size (some ⟨b, 0, none⟩) bs.length bs ∧ Bys bs ∧ bs.length ≤ 501 ∧ bs.length ≤ bc ∧ Below w.heap.size w w'

set_option maxRecDepth 100000 in
set_option maxHeartbeats 4000000 in
theorem drawRead_any (A : Option Addr) (n cap : Nat) (w : World) (hn : n ≤ 4096) (hB : Bytes w w.heap.size A n) :
    Calls Tryd.prog 13 #[.slice A n cap] w (MadeGB w) := by
  have E0 := bel_alloc w (.cells ZG 26)
  have R1 := Box.new w 26 ZG
  have B0 := (hB.below E0 (Nat.le_refl _)).more E0.size
  clear hB
  obtain ⟨i0, hi0, hz0, hz1, hz2⟩ := info_parts Tryd.infoB
  go_enter Tryd.func13, Tryd.ntmps13
  go_upto_region 1 with fail
  rw [show (#[.int .i64 0, .int .i64 0, .int .i64 0, .int .i64 0, .slice none 0 0] : Array Value) = ZG from rfl]
  generalize (w.alloc _ : World) = w0 at E0 R1 B0 ⊢
  have HB := Lib.hid B0
  clear B0
  go_wp2_with fail
  refine (l1New_any A n cap w0 hn HB.out).mono ?_
  rintro e w1 ⟨g, hg, rfl, hc1, hb1⟩
  have hg : w.heap.size < g := Nat.lt_of_lt_of_le R1.lt hg
  have hgl := hc1.lt
  have D1 := R1.later hb1 R1.lt
  have E1 := bel_trans E0 hb1
  clear R1 E0 hb1 HB
  go_wp2_with fail
  refine (l1DrawGroup_any g A n cap w1 hc1).mono ?_
  rintro e w2 ⟨s, l, c, sh, q, cap', zs, rfl, hown, hok, hs6, hc3, hc2, hg2⟩
  have hrow2 := own_row hown
  have hq := (hown.lt q rfl).1
  have hm : zs.length ≤ 100 := by have := okB_len hok; omega
  clear hown
  generalize zs.length = m at hrow2 hm ⊢
  have D2 := D1.kept hg2 (by intro e; injection e with e; omega)
  have E2 := bel_grown E1 hg2 (by omega)
  have hgq : g ≠ q := by omega
  have hqR : w.heap.size < q := by omega
  have hs2 := hg2.size
  clear D1 E1 hc1 hg2 hq hs6 hc3
  have V := Box.new w2 26 #[.int .i64 s, .int .i64 l, .int .i64 c, .int .i64 sh, .slice (some ⟨q, 0, none⟩) m cap']
  have hb3 := bel_alloc w2 (.cells #[.int .i64 s, .int .i64 l, .int .i64 c, .int .i64 sh, .slice (some ⟨q, 0, none⟩) m cap'] 26)
  go_upto_region 3 with fail
  have D3 := D2.later hb3 D2.lt
  have E3 := bel_trans E2 hb3
  have hc3 := hc2.kept (grown_bel hb3 none) (fun q hq => by cases hq)
  have hrow3 := hrow2.below hb3 (Nat.le_refl _)
  generalize (w2.alloc _ : World) = w3 at V hb3 D3 E3 hc3 hrow3 ⊢
  have hP1 : w.heap.size < w2.heap.size := D2.lt
  have hP2 : g < w2.heap.size := hc2.lt
  clear D2 E2 hc2 hrow2 hb3
  generalize w2.heap.size = U at V hrow3 hP1 hP2 hs2 ⊢
  have hUl := V.lt
  have HO := Lib.hid hok
  have HM : Hid (m ≤ maxLen) := by show m ≤ maxLen; unfold maxLen; omega
  clear hok
  go_cut [6, 7] (fun v u wr => ∃ (b bc : Nat) (bs : List Int) (bo : Bool), v = .slice (some ⟨b, 0, none⟩) bs.length bc ∧ u = .bool bo ∧ Hid (Bys bs) ∧ bs.length ≤ 500 ∧ Hid (BOwn wr (U + 1) b bc bs) ∧ Hid (FB w wr U q m cap' s l c sh zs b bs) ∧ Cur wr 90 .i64 g A n cap)
  case first =>
    obtain ⟨a0, a1, a2, a3, a4⟩ := V.five
    go_region_held3 (fun w' => w'.cell? ⟨U, 0, none⟩ = some (.int .i64 s) ∧ w'.cell? ⟨U, 1, none⟩ = some (.int .i64 l) ∧ w'.cell? ⟨U, 2, none⟩ = some (.int .i64 c) ∧ w'.cell? ⟨U, 3, none⟩ = some (.int .i64 sh) ∧ w'.cell? ⟨U, 4, none⟩ = some (.slice (some ⟨q, 0, none⟩) m cap'))
      (first | (with_reducible exact K6) | (with_reducible exact K5) | (with_reducible exact K4) | go_keep)
      (first
        | (go_at_call 50; refine (l1From_any g A n cap 1 6 _ (by omega) (by omega) (by omega) ?_).mono ?_; exact hc3; rintro e w4 ⟨k, ⟨hk1, hk6⟩, rfl, hc4, hg4⟩; have F4 := grown_of_drew hg4; have U4 := V.kept F4 (by intro e; injection e with e; omega); have row4 := hrow3.keptB (by omega) F4 (fun k hk => by injection hk with hk; exact .inr (by omega)); have K4 := U4.five; have l4 := F4.size)
        | (go_at_call 49; refine (l5Draw_any g A n cap s l c sh q 0 m cap' zs k _ hk1 hk6 HM.out HO.out ?_ ?_ hgq).mono ?_; exact hc4; exact row4.more (by omega); rintro e w5 ⟨N, cv, mv, rfl, hsh, hcer, hmor, -, hc5, hg5⟩; obtain ⟨k1, k2, k3, k4, k5, t1, t2, v1, o1, o2, v2, l1, l2, v3, hN⟩ := hsh; obtain ⟨P, p, pc, ps, rfl, hp20, hps⟩ := hcer.pairs; obtain ⟨Q, p', qc, qs, rfl, hq20, hqs⟩ := hmor.pairs; replace hN := Lib.hid hN; have F5 := hg5; have U5 := U4.kept F5 (by intro e; injection e with e; omega); have row5 := row4.keptB (by omega) F5 (fun k hk => by injection hk with hk; exact .inr (by omega)); have K5 := U5.five; have l5 := F5.size; clear hcer hmor)
        | (go_at_call 48; refine (specPackNote_is hN.out s l c sh _ m cap' zs ps qs _ HM.out ?_ ?_ ?_ ?_ ?_).mono ?_; (unfold maxLen; omega); (unfold maxLen; omega); exact row5.more (by omega); exact hps; exact hqs; rintro e w6 ⟨b, bc, bs, rfl, hbs, hown, hb6⟩; have U6 := U5.later hb6 U5.lt; have K6 := U6.five))
    all_goals
      have hbl : bs.length ≤ 500 := by rw [hbs.out]; exact packL_len ..
      have hby : Hid (Bys bs) := Lib.hid (by rw [hbs.out]; exact packL_bys _ _ _ _ _ _ _ _ _ _ _ _ _ _ _ _ _ _ _ _ _)
      have hO : Hid (BOwn w6 (U + 1) b bc bs) := Lib.hid (own_low hown (by omega))
      have D4 := D3.kept F4 (by intro e; injection e with e; omega)
      have D5 := D4.kept F5 (by intro e; injection e with e; omega)
      have E5 := bel_grown (bel_grown E3 F4 (by omega)) F5 (by omega)
      have hF : Hid (FB w w6 U q m cap' s l c sh zs b bs) := Lib.hid ⟨D5.later hb6 D5.lt, U6, row5.below hb6 (by omega), hown.held, bel_trans E5 hb6, hP1, (by have := (hown.lt b rfl).1; omega)⟩
      have C6 := hc5.kept (grown_bel hb6 none) (fun q hq => by cases hq)
      clear hown D3 D4 D5 E3 E5 K4 K5 K6 U4 U5 U6 V row4 row5 hrow3 hc3 hc4 hc5 F4 F5 hb6 hps hqs a0 a1 a2 a3 a4
      go_wp2_with fail
      go_meet
      exact ⟨b, bc, bs, _, rfl, rfl, hby, hbl, hO, hF, C6⟩
  case rest =>
  obtain ⟨b, bc, bs, bo, rfl, rfl, hby, hbl, hO, hF, hc4⟩ := hcut
  obtain ⟨w4, rfl⟩ : ∃ x, x = wc := ⟨_, rfl⟩
  clear D3 V hrow3 E3 hc3
  have hub := hF.out.ub
  have hCap := hO.out.capD
  obtain ⟨L, hL⟩ : ∃ L, bs.length = L := ⟨_, rfl⟩
  rw [hL] at hbl hCap ⊢
  replace hL := Lib.hid hL
  go_upto_region 4 with fail
  go_cut [29] (fun v wr => ∃ y : Bool, v = .bool y ∧ (y = true → 0 < L) ∧ Hid (BOwn wr (U + 1) b bc bs) ∧ Hid (FB w wr U q m cap' s l c sh zs b bs) ∧ Cur wr 90 .i64 g A n cap)
  case first =>
    go_wp2_with fail
    refine (l1Once_any g A n cap 2 w4 (by omega) hc4).mono ?_
    rintro e w5 ⟨y, rfl, hc5, hg5⟩
    have F5 := Lib.hid (hF.out.draw hg5 hg hP2 hgq)
    have O5 : Hid (BOwn w5 (U + 1) b bc bs) := Lib.hid (hO.out.kept hg5 (Or.inr (by simp [Value.ownBlock]; omega)))
    clear hc4 hg5 hF hO
    rcases y with _ | _
    · go_wp2_with fail
      go_meet
      exact ⟨_, rfl, fun h => (by simp at h), O5, F5, hc5⟩
    · go_wp2_with fail
      go_meet
      exact ⟨_, rfl, fun h => (by simpa using h), O5, F5, hc5⟩
  case rest =>
  obtain ⟨y, rfl, hy, O5, F5, hc5⟩ := hcut
  obtain ⟨w5, rfl⟩ : ∃ x, x = wc := ⟨_, rfl⟩
  clear hc4 hF hO
  go_upto_if 29 with fail
  go_cut [6] (fun v wr => ∃ (b' bc' : Nat) (bs' : List Int), v = .slice (some ⟨b', 0, none⟩) bs'.length bc' ∧ Hid (Bys bs') ∧ bs'.length ≤ 501 ∧ bs'.length ≤ bc' ∧ Hid (FB w wr U q m cap' s l c sh zs b' bs'))
  case first =>
    rcases y with _ | _
    · go_wp2_with fail
      go_meet
      exact ⟨b, bc, bs, by rw [hL.out], hby, by rw [hL.out]; omega, by rw [hL.out]; omega, F5⟩
    · have h0 := hy rfl
      clear hy
      go_wp2_with fail
      refine (l1Below_any g A n cap (L : Int) w5 (by omega) hc5).mono ?_
      rintro e w6 ⟨k, ⟨hk0, hk1⟩, rfl, hc6, hg6⟩
      have F6 := Lib.hid (F5.out.draw hg6 hg hP2 hgq)
      have O6 : Hid (BOwn w6 (U + 1) b bc bs) := Lib.hid (O5.out.kept hg6 (Or.inr (by simp [Value.ownBlock]; omega)))
      clear hc5 hg6 F5 O5
      obtain ⟨k, rfl⟩ := Int.eq_ofNat_of_zero_le hk0
      have hkL : k < L := by omega
      go_wp2_with fail
      refine (l1Below_any g A n cap 4 w6 (by omega) hc6).mono ?_
      rintro e w7 ⟨z, ⟨hz0', hz1'⟩, rfl, hc7, hg7⟩
      have F7 := Lib.hid (F6.out.draw hg7 hg hP2 hgq)
      have O7 : Hid (BOwn w7 (U + 1) b bc bs) := Lib.hid (O6.out.kept hg7 (Or.inr (by simp [Value.ownBlock]; omega)))
      clear hc6 hg7 F6 O6
      have hcase : z = 0 ∨ z = 1 ∨ z = 2 ∨ z = 3 := by omega
      clear hz0' hz1'
      rcases hcase with rfl | rfl | rfl | rfl
      · go_wp2_with fail
        refine (l1Byte_any g A n cap w7 hc7).mono ?_
        rintro e w8 ⟨x, ⟨hx0, hx1⟩, rfl, hc8, hg8⟩
        have F8 := F7.out.draw hg8 hg hP2 hgq
        have hcell := F8.held.at0 k (by rw [hL.out]; exact hkL)
        have hfr := F8.held.fr k
        have hw1 : IntKind.u8.wrap x = x := by rw [IntKind.wrap_u8]; omega
        have F9 := Lib.hid (F8.put k x)
        clear hc7 hg8 hc8 F7 O7 F8
        go_wp2_with fail
        go_meet
        exact ⟨b, bc, bs.set k x, by simp [hL.out], Lib.hid (bys_set hby.out k hx0 hx1), by simp [hL.out]; omega, by simp [hL.out]; omega, F9⟩
      · have hkc : (k : Int) ≤ (bc : Int) := by omega
        have F9 := Lib.hid (F7.out.cut k)
        have hlk : (bs.take k).length = k := by rw [List.length_take, hL.out, Nat.min_eq_left (by omega)]
        replace hlk := Lib.hid hlk
        clear hc7 F7 O7
        go_wp2_with fail
        go_meet
        exact ⟨b, bc, bs.take k, by rw [hlk.out], Lib.hid (bys_take hby.out k), by rw [hlk.out]; omega, by rw [hlk.out]; omega, F9⟩
      · go_wp2_with fail
        refine (l1Below_any g A n cap 3 w7 (by omega) hc7).mono ?_
        rintro e w8 ⟨x, ⟨hx0, hx1⟩, rfl, hc8, hg8⟩
        have F8 := Lib.hid (F7.out.draw hg8 hg hP2 hgq)
        have O8 : w8.ownsRow (U + 1) 5 1 (.slice (some ⟨b, 0, none⟩) L bc) L (bs.map (Value.int .u8)) := by
          have := O7.out.kept hg8 (Or.inr (by simp [Value.ownBlock]; omega))
          rw [hL.out] at this
          exact this
        have hU8 : U + 1 ≤ w8.heap.size := F8.out.u.lt
        have hw1 : IntKind.u8.wrap x = x := by rw [IntKind.wrap_u8]; omega
        clear hc7 hg8 hc8 F7 O7
        go_wp2_with (at_builtin; refine wpList_append_lies _ rfl _ _ _ rfl (U + 1) 5 i0 _ 1 1 Tryd.underlying22 hi0 hz0 hz1 hz2 rfl (by omega) (.slice (some ⟨b, 0, none⟩) L bc) L (bs.map (Value.int .u8)) rfl (O8.alloc _) ⟨w8.heap.size, 0, none⟩ 1 1 [.int .u8 x] rfl rfl (World.news_of_block (cs := #[.int .u8 x]) (t := 5) (fr := (0, 0)) (heap_alloc_new w8 _)) (by simp [Value.oneCell']) (by omega) (by unfold maxLen; omega) (by omega) (by simp; omega) (w8.heap.size + 1) (by simp) ?_; intro gg cap2 w9 hown2 hgrow2 hat hlt2)
        have hN : BOwn w9 (U + 1) gg cap2 (bs ++ [x]) := by
          unfold BOwn
          simpa [hL.out] using hown2
        have F9 := Lib.hid (F8.out.push (grown_trans (grown_bel (bel_alloc w8 _) (some b)) hgrow2) hN)
        have hcap := hN.capD
        have hl9 : (bs ++ [x]).length = L + 1 := by simp [hL.out]
        rw [hl9] at hcap
        replace hl9 := Lib.hid hl9
        clear hown2 hgrow2 hat hN O8 F8
        go_wp2_with fail
        go_meet
        exact ⟨gg, cap2, bs ++ [x], by rw [hl9.out], Lib.hid (bys_push hby.out hx0 (by omega)), by rw [hl9.out]; omega, by rw [hl9.out]; exact hcap, F9⟩
      · go_wp2_with fail
        refine (l1Below_any g A n cap 8 w7 (by omega) hc7).mono ?_
        rintro e w8 ⟨x, ⟨hx0, hx1⟩, rfl, hc8, hg8⟩
        have F8 := F7.out.draw hg8 hg hP2 hgq
        have hcell := F8.held.at0 k (by rw [hL.out]; exact hkL)
        have hfr := F8.held.fr k
        have hw1 : IntKind.u8.wrap x = x := by rw [IntKind.wrap_u8]; omega
        have F9 := Lib.hid (F8.put k x)
        clear hc7 hg8 hc8 F7 O7 F8
        go_wp2_with fail
        go_meet
        exact ⟨b, bc, bs.set k x, by simp [hL.out], Lib.hid (bys_set hby.out k hx0 (by omega)), by simp [hL.out]; omega, by simp [hL.out]; omega, F9⟩
  case rest =>
  obtain ⟨b', bc', bs', rfl, hby', hl1, hl2, F9⟩ := hcut
  obtain ⟨w9, rfl⟩ : ∃ x, x = wc := ⟨_, rfl⟩
  clear hc5 F5 O5 hy hby hL hCap hbl hub
  obtain ⟨X1, X2, X3, X4⟩ := F9.out.fin hqR _ rfl
  replace X1 := Lib.hid X1
  replace X2 := Lib.hid X2
  replace X3 := Lib.hid X3
  replace X4 := Lib.hid X4
  obtain ⟨r0, r1, r2, r3, r4⟩ := Box.five (show Box w9 w.heap.size 26 #[.int .i64 0, .int .i64 0, .int .i64 0, .int .i64 0, .slice none 0 0] from F9.out.r)
  have f1 := F9.out.r.frozen
  obtain ⟨u0, u1, u2, u3, u4⟩ := F9.out.u.five
  have hRU : w.heap.size ≠ U := Nat.ne_of_lt hP1
  clear F9
  go_wp2_with fail
  exact bodyPost_ret (results_cell_tmp Tryd.results13 _ _ w.heap.size 26 _ _ _ rfl rfl X1.out Tryd.underlying26 rfl infoG) rfl ⟨s, l, c, sh, q, m, cap', zs, b', bc', bs', rfl, X2.out, hm, X3.out, hby'.out, hl1, hl2, X4.out⟩

end Go.Proofs.YtgjbebfcbpfngaaDoor
