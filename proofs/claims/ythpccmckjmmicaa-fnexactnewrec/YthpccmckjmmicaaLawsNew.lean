/- FnExactNewRec answers true, whatever it is given: its walk; conditions: the list's size is one that memory holds. -/
import Derived.Test.YthpccmckjmmicaaSpecNewRec9
namespace Go.Proofs.Ythpccmckjmmicaa
open Go Go.RowKit

/-- The arguments, as they were given. -/
structure NW (w wr : World) (r5 r6 : Int) (A : Option Addr) (n : Nat) (ps : List (Int × Int)) : Prop where
  st : Box wr w.heap.size 38 #[.int .i64 r5, .int .i64 r6]
  arg : PairsF wr (· < w.heap.size) A n ps
  bel : Below w.heap.size w wr
theorem NW.turn {w wr w' : World} {r5 r6 : Int} {A : Option Addr} {n : Nat} {ps : List (Int × Int)} {T : Nat → Prop} (h : NW w wr r5 r6 A n ps) (ht : Turns T wr w') (hT : ∀ b, T b → w.heap.size < b) : NW w w' r5 r6 A n ps :=
  ⟨h.st.turn ht (fun hb => by have := hT _ hb; omega), h.arg.turn ht (fun b hb hb2 => by have := hT b hb2; omega), ht.below h.bel (fun b hb => by have := hT b hb; omega)⟩
theorem NW.later {w wr w' : World} {r5 r6 : Int} {A : Option Addr} {n : Nat} {ps : List (Int × Int)} (h : NW w wr r5 r6 A n ps) (hb : Below wr.heap.size wr w') : NW w w' r5 r6 A n ps :=
  h.turn (T := fun _ => False) (Turns.of_below hb) (fun _ h => h.elim)
/-- A list of seals is copied. -/
theorem toSl_is (A : Option Addr) (n cap : Nat) (ps : List (Int × Int)) (w : World) (hn : n ≤ 1048576) (hr : Pairs w w.heap.size A n ps) :
    Calls Try.prog 21 #[.slice A n cap] w fun e w' => ∃ g, e = .returned (.slice (some ⟨g, 0, none⟩) n n) ∧ OwnP w' (Iv w.heap.size w'.heap.size) (.slice (some ⟨g, 0, none⟩) n n) ps ∧ Below w.heap.size w w' := by
  refine (toSeals_any A n cap ps w hn hr).mono ?_
  rintro e w' ⟨g, hg, rfl, hl, hh, hb⟩
  subst hl
  exact ⟨g, rfl, .inr ⟨g, _, ⟨hg, hh.lt⟩, rfl, Nat.le_refl _, by unfold maxLen; omega, hh⟩, hb⟩
theorem OwnP.slc {w : World} {F : Nat → Prop} {v : Value} {ps : List (Int × Int)} (h : OwnP w F v ps) : Slc w v ps := by
  obtain ⟨_, _, _, _, _, s⟩ := h.at
  exact s
theorem OwnP.prs {w : World} {F : Nat → Prop} {A : Option Addr} {n c : Nat} {ps : List (Int × Int)} (h : OwnP w F (.slice A n c) ps) : Pairs w w.heap.size A n ps := by
  obtain ⟨A', c', e, _, p, _⟩ := h.at
  injection e with e1 e2
  subst e1 e2
  exact p.1

set_option maxRecDepth 100000 in
set_option maxHeartbeats 16000000 in
theorem exactNew_any (r1 r2 r3 r4 r5 r6 r7 : Int) (A : Option Addr) (n cap : Nat) (ps : List (Int × Int)) (w : World) (hm : n ≤ maxLen) (hq : Pairs w w.heap.size A n ps) :
    Calls Try.prog 5 #[.int .i64 r1, .int .i64 r2, .int .i64 r3, .int .i64 r4, .agg #[.int .i64 r5, .int .i64 r6], .int .i64 r7, .slice A n cap] w fun e w' => e = .returned (.bool true) ∧ Below w.heap.size w w' := by
  have K0 : NW w (w.alloc (.cells #[.int .i64 r5, .int .i64 r6] 38)) r5 r6 A n ps := ⟨Box.new _ _ _, (PairsF.turn (T := fun _ => False) hq.all (Turns.of_below (bel_alloc w _)) (fun _ _ h => h)), bel_alloc w _⟩
  have hlen := hq.1
  rcases Nat.lt_or_ge 1048576 n with hbig | hn
  · have E := K0.bel
    clear K0 hq
    have HM := Lib.hid hm
    clear hm hlen
    go_enter Try.func5, Try.ntmps5
    go_wp2_with (go_at_call 19; refine (szSeals_gt A n cap 1048576 _ (by omega) (by omega) (by omega) HM.out).mono ?_; rintro e w1 ⟨rfl, rfl⟩)
    go_ret
    exact ⟨rfl, E⟩
  obtain ⟨rr, hrr⟩ : ∃ rr : RecD, (⟨r1, r2, r3, r4, r5, r6, r7, ps, sumN r1 r2 r3 r4 r5 r6 r7 ps⟩ : RecD) = rr := ⟨_, rfl⟩
  have hq1 : rr.sz ≤ 1048576 := by rw [← hrr]; show ps.length ≤ _; omega
  have hq2 : rr.ps.length ≤ 1048577 := by unfold RecD.sz at hq1; omega
  have HI := Lib.hid (fun (u : Value) (W : World) (h : Slc W u ps) => show Calls Try.prog 13 _ W (Copied (LieC rr) W) from hrr ▸ newRec_is r1 r2 r3 r4 r5 r6 r7 u ps W (by omega) h)
  have HS := Lib.hid (fun (u : Value) (W : World) (h : Slc W u ps) => show Calls Try.prog 15 _ W (Copied (LieC rr) W) from hrr ▸ specNewRec_is r1 r2 r3 r4 r5 r6 r7 u ps W (by omega) h)
  have hlh := Lib.hid hlen
  clear hrr hq hm hlen
  have hn1 : ¬ (1048576 - (n : Int) < 0) := by omega
  go_enter Try.func5, Try.ntmps5
  go_upto_region 5 with (go_at_call 19; refine (szSeals_le A n cap 1048576 _ (by omega) (by omega)).mono ?_; rintro e w1 ⟨rfl, rfl⟩)
  generalize (w.alloc _ : World) = w0 at K0 ⊢
  -- the model's
  obtain ⟨s0, s1⟩ := K0.st.two
  go_wp2_with fail
  refine (toStamp_any r5 r6 w0).mono ?_
  rintro e w1 ⟨rfl, hb⟩
  replace K0 := K0.later hb
  clear hb s0 s1
  go_wp2_with fail
  refine (toSl_is A n cap ps w1 hn K0.arg.1).mono ?_
  rintro e w2 ⟨g, rfl, X, hb⟩
  replace K0 := K0.later hb
  have hw := K0.st.lt
  clear hb
  go_wp2_with fail
  refine (HS.out _ w2 X.slc).mono ?_
  rintro e w3 ⟨C, rfl, L, hb⟩
  have O := Lib.hid (oneC L.at)
  have JM := Lib.hid (sizeC L.at).2
  have M := var_new_row (keepsLC rr) (Z := #[.int .i64 0, .int .i64 0, .int .i64 0, .int .i64 0, .int .i64 0, .int .i64 0, .int .i64 0, .slice none 0 0, .int .i64 0]) 31 L (fun b hb => hb.2)
  have hn := bel_new_row w3 #[.int .i64 0, .int .i64 0, .int .i64 0, .int .i64 0, .int .i64 0, .int .i64 0, .int .i64 0, .slice none 0 0, .int .i64 0] 31 C
  replace K0 := (K0.later hb).later hn
  have ZB := Box.new w3 31 #[.int .i64 0, .int .i64 0, .int .i64 0, .int .i64 0, .int .i64 0, .int .i64 0, .int .i64 0, .slice none 0 0, .int .i64 0]
  have hM0 : w.heap.size < w3.heap.size := Nat.lt_of_lt_of_le hw hb.size
  clear hb hn L X hw
  go_upto_region 6 with (refine wpList_store_row rfl 31 _ _ rfl w3.heap.size _ rfl rfl 31 #[.int .i64 0, .int .i64 0, .int .i64 0, .int .i64 0, .int .i64 0, .int .i64 0, .int .i64 0, .slice none 0 0, .int .i64 0] ZB JM.out O.out.1.symm O.out.2 ?_)
  clear ZB O
  generalize ((w3.alloc _).setRow _ _ : World) = w1 at K0 M ⊢
  generalize w2.heap.size = SM at M
  generalize w3.heap.size = VM at M hM0 ⊢
  have hVM := M.box.lt
  -- the list that is handed in
  go_wp2_with fail
  refine (toSl_is A n cap ps w1 (by omega) K0.arg.1).mono ?_
  rintro e w2 ⟨gx, rfl, X, hb⟩
  replace K0 := K0.later hb
  replace M := M.later (keepsLC rr) hb
  have hSX := hb.size
  clear hb
  generalize w1.heap.size = SX at X hVM hSX
  -- the program's
  go_upto_region 7 with fail
  obtain ⟨s0, s1⟩ := K0.st.two
  go_wp2_with fail
  refine (toStamp_any r5 r6 w2).mono ?_
  rintro e w3 ⟨rfl, hb⟩
  replace K0 := K0.later hb
  replace M := M.later (keepsLC rr) hb
  have hX2 := hb.size
  replace X := X.later hb
  generalize w2.heap.size = EX at X hX2 hSX
  clear hb s0 s1
  go_wp2_with fail
  refine (HI.out _ w3 X.slc).mono ?_
  rintro e w4 ⟨CG, rfl, LG, hb⟩
  have O := Lib.hid (oneC LG.at)
  have JG := Lib.hid (sizeC LG.at).2
  have G := var_new_row (keepsLC rr) (Z := #[.int .i64 0, .int .i64 0, .int .i64 0, .int .i64 0, .int .i64 0, .int .i64 0, .int .i64 0, .slice none 0 0, .int .i64 0]) 31 LG (fun b hb => hb.2)
  have hn := bel_new_row w4 #[.int .i64 0, .int .i64 0, .int .i64 0, .int .i64 0, .int .i64 0, .int .i64 0, .int .i64 0, .slice none 0 0, .int .i64 0] 31 CG
  replace K0 := (K0.later hb).later hn
  replace M := (M.later (keepsLC rr) hb).later (keepsLC rr) hn
  replace X := (X.later hb).later hn
  have ZB := Box.new w4 31 #[.int .i64 0, .int .i64 0, .int .i64 0, .int .i64 0, .int .i64 0, .int .i64 0, .int .i64 0, .slice none 0 0, .int .i64 0]
  have hSG := hb.size
  clear hb hn LG
  go_upto_region 8 with (refine wpList_store_row rfl 31 _ _ rfl w4.heap.size _ rfl rfl 31 #[.int .i64 0, .int .i64 0, .int .i64 0, .int .i64 0, .int .i64 0, .int .i64 0, .int .i64 0, .slice none 0 0, .int .i64 0] ZB JG.out O.out.1.symm O.out.2 ?_)
  clear ZB O
  generalize ((w4.alloc _).setRow _ _ : World) = w1 at K0 M X G ⊢
  generalize w3.heap.size = SG at G hX2 hSG
  generalize w4.heap.size = VG at G hSG ⊢
  -- both are alike
  go_wp2_with (first | (refine wpList_load_box 31 _ rfl VG rfl 31 CG G.box _ Try.underlying31 rfl JG.out (by first | rfl | simp [Region.wanted, yielded] | (simp [Region.wanted, yielded, Act.put] <;> omega)) ?_) | (refine wpList_load_box 31 _ rfl VM rfl 31 C M.box _ Try.underlying31 rfl JM.out (by first | rfl | simp [Region.wanted, yielded] | (simp [Region.wanted, yielded, Act.put] <;> omega)) ?_))
  refine (eq_C G.dat.at M.dat.at hq1).mono ?_
  rintro e w2 ⟨rfl, hb⟩
  replace K0 := K0.later hb
  replace M := M.later (keepsLC rr) hb
  replace X := X.later hb
  replace G := G.later (keepsLC rr) hb
  clear hb
  -- the list is as it was
  go_wp2_with fail
  refine (toSl_is A n cap ps w2 (by omega) K0.arg.1).mono ?_
  rintro e w3 ⟨gy, rfl, Y, hb⟩
  replace K0 := K0.later hb
  replace M := M.later (keepsLC rr) hb
  replace X := X.later hb
  replace G := G.later (keepsLC rr) hb
  clear hb
  go_wp2_with fail
  refine (eqSeals_same _ _ n n n ps w3 (by omega) X.prs Y.prs).mono ?_
  rintro e w4 ⟨rfl, hb⟩
  replace K0 := K0.later hb
  replace M := M.later (keepsLC rr) hb
  replace X := X.later hb
  replace G := G.later (keepsLC rr) hb
  clear hb Y
  -- the marks
  obtain ⟨lo, hi, XR, hXF⟩ := ownP_res X
  clear X
  go_wp2_with fail
  refine (markP_is 1 XR (by rw [hlh.out]; omega) (by omega) (by omega)).mono ?_
  rintro e w5 ⟨rfl, D', -, -, -, hB⟩
  have ht := (Turns.of_band hB).sub (T' := Iv SX EX) fun i _ hi => hXF i hi
  clear hB XR hXF
  replace K0 := K0.turn ht (fun b hb => by have := hb.1; omega)
  replace M := M.turn (keepsLC rr) ht (iv_not (.inl (by omega))) (iv_far (.inl (by omega)))
  replace G := G.turn (keepsLC rr) ht (iv_not (.inr (by omega))) (iv_far (.inr (by omega)))
  clear ht
  have hk : ¬ (1 + 2 * (ps.length : Int) < 0) := by omega
  go_wp2_with (first | (refine wpList_load_box 31 _ rfl VG rfl 31 CG G.box _ Try.underlying31 rfl JG.out (by first | rfl | simp [Region.wanted, yielded] | (simp [Region.wanted, yielded, Act.put] <;> omega)) ?_) | (refine wpList_load_box 31 _ rfl VM rfl 31 C M.box _ Try.underlying31 rfl JM.out (by first | rfl | simp [Region.wanted, yielded] | (simp [Region.wanted, yielded, Act.put] <;> omega)) ?_))
  refine (eq_C G.dat.at M.dat.at hq1).mono ?_
  rintro e w6 ⟨rfl, hb⟩
  replace K0 := K0.later hb
  replace M := M.later (keepsLC rr) hb
  replace G := G.later (keepsLC rr) hb
  clear hb hk
  go_wp2_with (refine wpList_load_box 31 _ rfl VG rfl 31 CG G.box _ Try.underlying31 rfl JG.out (by first | rfl | simp [Region.wanted, yielded] | (simp [Region.wanted, yielded, Act.put] <;> omega)) ?_)
  refine (markd_C (k := 1) G.dat hq2 (by omega) (by omega)).mono ?_
  rintro e w7 ⟨rfl, ht, r', hmk, LG⟩
  replace K0 := K0.turn ht (fun b hb => by have := hb.1; omega)
  replace M := M.turn (keepsLC rr) ht (iv_not (.inl (by omega))) (iv_far (.inl (by omega)))
  have G2 : VarOf (LieC r') 31 w7 (Iv SG VG) VG CG := ⟨G.box.turn ht (iv_not (.inr (Nat.le_refl _))), G.far, LG⟩
  clear ht LG G
  have HM := Lib.hid hmk
  clear hmk
  have mr := mkb2_C hq2
  have hk : ¬ (1 + rr.mk8 < 0) := by omega
  have hqq : (1 + rr.mk8 != 1 + rr.mk8) = false := by simp
  go_wp2_with (refine wpList_load_box 31 _ rfl VG rfl 31 CG G2.box _ Try.underlying31 rfl JG.out (by first | rfl | simp [Region.wanted, yielded] | (simp [Region.wanted, yielded, Act.put] <;> omega)) ?_)
  refine (held_C (k := 1) G2.dat HM.out hq2 (by omega) (by omega)).mono ?_
  rintro e w8 ⟨rfl, hb⟩
  replace K0 := K0.later hb
  replace M := M.later (keepsLC rr) hb
  replace G2 := G2.later (keepsLC r') hb
  clear hb
  -- again
  go_upto_region 24 with fail
  obtain ⟨s0, s1⟩ := K0.st.two
  go_wp2_with fail
  refine (toStamp_any r5 r6 w8).mono ?_
  rintro e w1 ⟨rfl, hb⟩
  replace K0 := K0.later hb
  replace M := M.later (keepsLC rr) hb
  replace G2 := G2.later (keepsLC r') hb
  clear hb s0 s1
  go_wp2_with fail
  refine (toSl_is A n cap ps w1 (by omega) K0.arg.1).mono ?_
  rintro e w2 ⟨gz, rfl, X, hb⟩
  replace K0 := K0.later hb
  replace M := M.later (keepsLC rr) hb
  replace G2 := G2.later (keepsLC r') hb
  clear hb
  go_wp2_with fail
  refine (HI.out _ w2 X.slc).mono ?_
  rintro e w3 ⟨CH, rfl, LH, hb⟩
  have O := Lib.hid (oneC LH.at)
  have JH := Lib.hid (sizeC LH.at).2
  have H := var_new_row (keepsLC rr) (Z := #[.int .i64 0, .int .i64 0, .int .i64 0, .int .i64 0, .int .i64 0, .int .i64 0, .int .i64 0, .slice none 0 0, .int .i64 0]) 31 LH (fun b hb => hb.2)
  have hn := bel_new_row w3 #[.int .i64 0, .int .i64 0, .int .i64 0, .int .i64 0, .int .i64 0, .int .i64 0, .int .i64 0, .slice none 0 0, .int .i64 0] 31 CH
  replace K0 := (K0.later hb).later hn
  replace M := (M.later (keepsLC rr) hb).later (keepsLC rr) hn
  replace G2 := (G2.later (keepsLC r') hb).later (keepsLC r') hn
  have ZB := Box.new w3 31 #[.int .i64 0, .int .i64 0, .int .i64 0, .int .i64 0, .int .i64 0, .int .i64 0, .int .i64 0, .slice none 0 0, .int .i64 0]
  clear hb hn LH X
  go_upto_region 25 with (refine wpList_store_row rfl 31 _ _ rfl w3.heap.size _ rfl rfl 31 #[.int .i64 0, .int .i64 0, .int .i64 0, .int .i64 0, .int .i64 0, .int .i64 0, .int .i64 0, .slice none 0 0, .int .i64 0] ZB JH.out O.out.1.symm O.out.2 ?_)
  clear ZB O
  generalize ((w3.alloc _).setRow _ _ : World) = w1 at K0 M G2 H ⊢
  generalize w3.heap.size = VH at H ⊢
  go_wp2_with (first | (refine wpList_load_box 31 _ rfl VH rfl 31 CH H.box _ Try.underlying31 rfl JH.out (by first | rfl | simp [Region.wanted, yielded] | (simp [Region.wanted, yielded, Act.put] <;> omega)) ?_) | (refine wpList_load_box 31 _ rfl VM rfl 31 C M.box _ Try.underlying31 rfl JM.out (by first | rfl | simp [Region.wanted, yielded] | (simp [Region.wanted, yielded, Act.put] <;> omega)) ?_))
  refine (eq_C H.dat.at M.dat.at hq1).mono ?_
  rintro e w4 ⟨rfl, hb⟩
  replace K0 := K0.later hb
  replace G2 := G2.later (keepsLC r') hb
  clear hb H M
  go_wp2_with (refine wpList_load_box 31 _ rfl VG rfl 31 CG G2.box _ Try.underlying31 rfl JG.out (by first | rfl | simp [Region.wanted, yielded] | (simp [Region.wanted, yielded, Act.put] <;> omega)) ?_)
  refine (held_C (k := 1) G2.dat HM.out hq2 (by omega) (by omega)).mono ?_
  rintro e w5 ⟨rfl, hb⟩
  have E := (K0.later hb).bel
  clear K0 G2 hb
  go_wp2
  go_ret
  exact ⟨rfl, E⟩
end Go.Proofs.Ythpccmckjmmicaa
