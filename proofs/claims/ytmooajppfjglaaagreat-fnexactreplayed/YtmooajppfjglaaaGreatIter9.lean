/- The program's iterator over a list of records, each with whether it is right where it stands (written by iter9.py); conditions: the sizes. -/
import Derived.Test.YtmooajppfjglaaaGreatRowIn
import Derived.Test.YtmooajppfjglaaaGreatRecOk9
namespace Go.Proofs.YtmooajppfjglaaaGreat
open Go Go.RowKit Go.Shelf

attribute [local go_sem] Oper.semAt_some

/-- What a round is handed. -/
def encC (g : GrpD) (ds : List RecD) (L : Nat → Option Addr) (m mc : Nat → Nat) (k : Fin ds.length) : Array Value := #[.agg (cellsC ds[k.val] (L k.val) (m k.val) (mc k.val)), .bool (isAt g ds k.val)]

set_option maxRecDepth 100000 in
set_option maxHeartbeats 16000000 in
theorem recsIter_stops (g : GrpD) (ds : List RecD) (A : Option Addr) (n cap : Nat) (LA : Option Addr) (ln lc : Nat) (L : Nat → Option Addr) (m mc : Nat → Nat) (B1 B2 G N : Nat) (F : Nat → Prop) (w : World)
    (hG1 : B1 ≠ G) (hG2 : B2 ≠ G) (hF : ∀ b, F b → b < N ∧ b ≠ G) (h1 : Box w B1 27 #[.slice LA ln lc]) (h2 : Box w B2 26 #[.int .i64 g.s, .int .i64 g.l, .int .i64 g.c, .int .i64 g.sh, .slice A n cap]) (hm : n ≤ maxLen) (hR : RowF w F A n g.zs) (hD : RecsV ds w F LA ln L m mc) (hln : ln ≤ 1048576) (hmk : ∀ k, k < ds.length → m k ≤ 4194304) :
    SeqStopsK Fence.wide 2 Tryz.prog 107 #[.pointer (some ⟨B1, 0, none⟩), .pointer (some ⟨B2, 0, none⟩)] (encC g ds L m mc) (KeepC G N) (fun ys => ys = List.finRange ds.length) (fun pre => pre <+: List.finRange ds.length) ds.length w := by
  intro l J Jx W hW hJ hJx hY h0
  show CallsIn Fence.wide 2 Tryz.prog 107 #[.func (.yield l) #[] #[], .pointer (some ⟨B1, 0, none⟩), .pointer (some ⟨B2, 0, none⟩)] W _
  replace h1 := Lib.hid (h1.later hW h1.lt)
  replace h2 := Lib.hid (h2.later hW h2.lt)
  replace hR := Lib.hid (hR.turn (T := fun _ => False) (Turns.of_below hW) (fun _ _ h => h))
  replace hD := Lib.hid (hD.turn (T := fun _ => False) (Turns.of_below hW) (fun _ _ h => h))
  have HL := Lib.hid hD.out.1
  have HJ := Lib.hid hJ
  have HM := Lib.hid hm
  have HF := Lib.hid hF
  have HG1 := Lib.hid hG1
  have HG2 := Lib.hid hG2
  have HMK := Lib.hid hmk
  clear hW w hJ hJx hm hF hG1 hG2 hmk
  refine callsIn_of_wp Tryz.func107 rfl trivial ?_ rfl
  simp only [Tryz.ntmps107, List.size_toArray, List.length_cons, List.length_nil, Nat.reduceAdd, Nat.reduceSub, Array.replicate_succ, Array.replicate_zero, List.push_toArray, List.append_toArray, List.nil_append, List.cons_append]
  have c1 : W.cell? ⟨B1, 0, none⟩ = some (.slice LA ln lc) := h1.out.cell 0
  gi_wp2
  gi_loopw [8] (fun i wr => ∃ k : Nat, k ≤ ln ∧ i = .int .i64 k ∧ J (firsts ds.length k) wr ∧ KeepC G N W wr) (fun i _ => ln - (intOf i).toNat)
  case atStart => exact ⟨0, Nat.zero_le _, rfl, h0, KeepC.refl _⟩
  case round =>
    clear c1 h0
    obtain ⟨k, hk, rfl, hJk, ht⟩ := hrel
    have HJk := Lib.hid hJk
    have HT := Lib.hid ht
    clear hJk ht
    by_cases hlt : k < ln
    · skip
      have hkd : k < ds.length := by have := HL.out; omega
      have hDk := hD.out.turn HT.out.turns (fun b hb => notC_low (HF.out b hb).1 (HF.out b hb).2)
      obtain ⟨b, o, hA, hbF, hbl, hcell⟩ := hDk.2 (by omega)
      subst hA
      obtain ⟨hrec, hmm, hps⟩ := hcell k hkd
      clear hcell hDk
      have HRw := Lib.hid (hR.out.turn HT.out.turns (fun b hb => notC_low (HF.out b hb).1 (HF.out b hb).2)).1
      have HX2 := Lib.hid (h2.out.keepC HT.out HG2.out)
      have hIs := isAt_lt (g := g) hkd
      have hmk4 := HMK.out k hkd
      have hYk := fun W1 h => hY (firsts ds.length k) ⟨k, hkd⟩ W1 h (by rw [firsts_len _ _ (by omega)]; exact hkd)
      unfold encC at hYk
      rw [← firsts_snoc] at hYk
      dsimp only at hYk
      obtain ⟨d, hd⟩ : ∃ d : RecD, ds[k] = d := ⟨_, rfl⟩
      rw [hd] at hrec hps hIs hYk
      obtain ⟨Lk, hLk⟩ : ∃ x, L k = x := ⟨_, rfl⟩
      obtain ⟨mk, hmkk⟩ : ∃ x, m k = x := ⟨_, rfl⟩
      obtain ⟨mck, hmck⟩ : ∃ x, mc k = x := ⟨_, rfl⟩
      rw [hLk, hmkk] at hps
      rw [hLk, hmkk, hmck] at hrec hYk
      rw [hmkk] at hmm hmk4
      unfold cellsC at hYk
      have HPw := Lib.hid hps.1
      have HA := Lib.hid hIs
      have HY := Lib.hid hYk
      clear hd hIs hLk hmkk hmck hps hYk
      obtain ⟨c0, c1, c2, c3, c4, c5, c6, c7, c8⟩ := hrec
      have hltI : (k : Int) < (ln : Int) := by omega
      have hkw : IntKind.i64.wrap ((k : Int) + 1) = (k : Int) + 1 := IntWalk.i64_in _ (by omega)
      have ZB := Box.new wr 42 #[.int .i64 0, .int .i64 0, .int .i64 0, .int .i64 0, .int .i64 0, .int .i64 0, .int .i64 0, .slice none 0 0, .int .i64 0]
      have hn := bel_new_row wr #[.int .i64 0, .int .i64 0, .int .i64 0, .int .i64 0, .int .i64 0, .int .i64 0, .int .i64 0, .slice none 0 0, .int .i64 0] 42 #[.int .i64 d.r1, .int .i64 d.r2, .int .i64 d.r3, .int .i64 d.r4, .int .i64 d.r5, .int .i64 d.r6, .int .i64 d.r7, .slice Lk mk mck, .int .i64 d.r8]
      have X := (Box.new wr 42 #[.int .i64 0, .int .i64 0, .int .i64 0, .int .i64 0, .int .i64 0, .int .i64 0, .int .i64 0, .slice none 0 0, .int .i64 0]).setRow #[.int .i64 d.r1, .int .i64 d.r2, .int .i64 d.r3, .int .i64 d.r4, .int .i64 d.r5, .int .i64 d.r6, .int .i64 d.r7, .slice Lk mk mck, .int .i64 d.r8]
      gi_upto_region 3 with (refine wpListIn_store_row (fun _ => trivial) rfl 42 _ _ rfl wr.heap.size _ rfl rfl 42 #[.int .i64 0, .int .i64 0, .int .i64 0, .int .i64 0, .int .i64 0, .int .i64 0, .int .i64 0, .slice none 0 0, .int .i64 0] ZB (by kernel_rfl) rfl (by simp [Value.oneCell']) ?_)
      clear ZB c0 c1 c2 c3 c4 c5 c6 c7 c8 hbl
      try simp only [Act.put]
      have E := hn
      have HX := Lib.hid (HX2.out.later hn HX2.out.lt)
      clear hn HX2
      generalize ((wr.alloc _).setRow _ _ : World) = w1 at E X HX ⊢
      have hV : wr.heap.size = wr.heap.size := rfl
      obtain ⟨V, hVV⟩ : ∃ V, wr.heap.size = V := ⟨_, rfl⟩
      have HE := Lib.hid E
      clear hV E
      rw [hVV] at X ⊢
      have HV := Lib.hid hVV
      clear hVV
      have HK1 := Lib.hid (show True from trivial)
      clear HK1
      by_cases hno : d.r1 = (k : Int) + 1
      rotate_left
      · skip
        have hne : (d.r1 == (k : Int) + 1) = false := by simpa using hno
        have hf : isAt g ds k = false := by rw [HA.out]; simp [hno]
        rw [hf] at HY
        clear hf hno
        refine wpIn_region_sink 12 (fun w' => Box w' V 42 #[.int .i64 d.r1, .int .i64 d.r2, .int .i64 d.r3, .int .i64 d.r4, .int .i64 d.r5, .int .i64 d.r6, .int .i64 d.r7, .slice Lk mk mck, .int .i64 d.r8] ∧ Box w' B2 26 #[.int .i64 g.s, .int .i64 g.l, .int .i64 g.c, .int .i64 g.sh, .slice A n cap]) (by kernel_rfl) ⟨X.later ((Below.refl w1.heap.size w1).drew) X.lt, HX.out.later ((Below.refl w1.heap.size w1).drew) HX.out.lt⟩ (fun hH => ?_)
        replace HE := Lib.hid (bel_trans HE.out (Below.refl w1.heap.size w1).drew)
        clear X HX
        generalize w1.drew = w2 at HE hH ⊢
        refine wpAnyEI_pure (plain_of (fun _ => trivial) (by kernel_rfl)) (i := 0) (v := ?vu0_1) (by simp only [List.getElem?_toArray, List.getElem?_cons_zero]; rfl) (by kernel_rfl) (by kernel_rfl) (by kernel_rfl) (by exact fun _ _ _ h => h) (by kernel_rfl) (Or.inl ⟨by rfl, ?yu0_1⟩) hH ?_
        case yu0_1 => (intro w' hSw; (try dsimp only at hSw); go_simp; try with_reducible rfl)
        try simp only [Act.put, List.setIfInBounds_toArray, List.set_cons_zero, List.set_cons_succ]
        refine wpAnyEI_takeP [] (plain_of (fun _ => trivial) (by kernel_rfl)) (i := 1) (v := .agg #[.int .i64 d.r1, .int .i64 d.r2, .int .i64 d.r3, .int .i64 d.r4, .int .i64 d.r5, .int .i64 d.r6, .int .i64 d.r7, .slice Lk mk mck, .int .i64 d.r8]) (by simp only [List.getElem?_toArray, List.getElem?_cons_succ, List.getElem?_cons_zero]; rfl) (by kernel_rfl) (by kernel_rfl) (by kernel_rfl) (by exact fun _ _ _ h => h) (by kernel_rfl) ?y1 hH ?_
        case y1 => exact yields_box 42 _ rfl (V) rfl 42 #[.int .i64 d.r1, .int .i64 d.r2, .int .i64 d.r3, .int .i64 d.r4, .int .i64 d.r5, .int .i64 d.r6, .int .i64 d.r7, .slice Lk mk mck, .int .i64 d.r8] (fun _ h => h.1) _ Tryz.underlying42 rfl (by kernel_rfl) (by first | rfl | simp [Region.wanted, yielded] | (simp [Region.wanted, yielded, Act.put] <;> omega))
        try simp only [Act.put, List.setIfInBounds_toArray, List.set_cons_zero, List.set_cons_succ]
        refine wpAnyEI_pure (plain_of (fun _ => trivial) (by kernel_rfl)) (i := 2) (v := ?vu2_2) (by simp only [List.getElem?_toArray, List.getElem?_cons_succ, List.getElem?_cons_zero]; rfl) (by kernel_rfl) (by kernel_rfl) (by kernel_rfl) (by exact fun _ _ _ h => h) (by kernel_rfl) (Or.inl ⟨by rfl, ?yu2_2⟩) hH ?_
        case yu2_2 => (intro w' hSw; (try dsimp only at hSw); go_simp; try with_reducible rfl)
        try simp only [Act.put, List.setIfInBounds_toArray, List.set_cons_zero, List.set_cons_succ]
        refine wpAnyEI_takeP [6, 7, 11] (plain_of (fun _ => trivial) (by kernel_rfl)) (i := 3) (v := .int .i64 d.r1) (by simp only [List.getElem?_toArray, List.getElem?_cons_succ, List.getElem?_cons_zero]; rfl) (by kernel_rfl) (by kernel_rfl) (by kernel_rfl) (by exact fun _ _ _ h => h) (by kernel_rfl) (Or.inl ⟨(by first | rfl | simp [Region.wanted, yielded] | (simp [Region.wanted, yielded, Act.put] <;> omega)), ?y3⟩) hH ?_
        case y3 => (intro w' hSw; have hc0 : w'.cell? ⟨V, 0, none⟩ = some (.int .i64 d.r1) := hSw.1.cell 0; clear hSw; go_simp; try with_reducible rfl)
        try simp only [Act.put, List.setIfInBounds_toArray, List.set_cons_zero, List.set_cons_succ]
        refine wpAnyEI_pure (plain_of (fun _ => trivial) (by kernel_rfl)) (i := 4) (v := ?vu4_3) (by simp only [List.getElem?_toArray, List.getElem?_cons_succ, List.getElem?_cons_zero]; rfl) (by kernel_rfl) (by kernel_rfl) (by kernel_rfl) (by exact fun _ _ _ h => h) (by kernel_rfl) (Or.inl ⟨by rfl, ?yu4_3⟩) hH ?_
        case yu4_3 => (intro w' hSw; (try dsimp only at hSw); go_simp; try with_reducible rfl)
        try simp only [Act.put, List.setIfInBounds_toArray, List.set_cons_zero, List.set_cons_succ]
        refine wpAnyEI_pure (plain_of (fun _ => trivial) (by kernel_rfl)) (i := 5) (v := ?vu5_4) (by simp only [List.getElem?_toArray, List.getElem?_cons_succ, List.getElem?_cons_zero]; rfl) (by kernel_rfl) (by kernel_rfl) (by kernel_rfl) (by exact fun _ _ _ h => h) (by kernel_rfl) (Or.inl ⟨by rfl, ?yu5_4⟩) hH ?_
        case yu5_4 => (intro w' hSw; (try dsimp only at hSw); go_simp; try with_reducible rfl)
        try simp only [Act.put, List.setIfInBounds_toArray, List.set_cons_zero, List.set_cons_succ]
        refine wpAnyEI_pure (plain_of (fun _ => trivial) (by kernel_rfl)) (i := 6) (v := ?vu6_5) (by simp only [List.getElem?_toArray, List.getElem?_cons_succ, List.getElem?_cons_zero]; rfl) (by kernel_rfl) (by kernel_rfl) (by kernel_rfl) (by exact fun _ _ _ h => h) (by kernel_rfl) (Or.inl ⟨by rfl, ?yu6_5⟩) hH ?_
        case yu6_5 => (intro w' hSw; (try dsimp only at hSw); go_simp; try with_reducible rfl)
        try simp only [Act.put, List.setIfInBounds_toArray, List.set_cons_zero, List.set_cons_succ]
        refine wpAnyEI_pure (plain_of (fun _ => trivial) (by kernel_rfl)) (i := 7) (v := ?vu7_6) (by simp only [List.getElem?_toArray, List.getElem?_cons_succ, List.getElem?_cons_zero]; rfl) (by kernel_rfl) (by kernel_rfl) (by kernel_rfl) (by exact fun _ _ _ h => h) (by kernel_rfl) (Or.inl ⟨by rfl, ?yu7_6⟩) hH ?_
        case yu7_6 => (intro w' hSw; (try dsimp only at hSw); go_simp; try with_reducible rfl)
        try simp only [Act.put, List.setIfInBounds_toArray, List.set_cons_zero, List.set_cons_succ]
        refine wpAnyEI_pure (plain_of (fun _ => trivial) (by kernel_rfl)) (i := 8) (v := undef) (by simp only [List.getElem?_toArray, List.getElem?_cons_succ, List.getElem?_cons_zero]; rfl) (by kernel_rfl) (by kernel_rfl) (by kernel_rfl) (by exact fun _ _ _ h => h) (by kernel_rfl) (Or.inr ⟨(by first | rfl | simp [Region.wanted, yielded] | (simp [Region.wanted, yielded, Act.put] <;> omega)), rfl⟩) hH ?_
        try simp only [Act.put, List.setIfInBounds_toArray, List.set_cons_zero, List.set_cons_succ]
        refine wpAnyEI_pure (plain_of (fun _ => trivial) (by kernel_rfl)) (i := 9) (v := undef) (by simp only [List.getElem?_toArray, List.getElem?_cons_succ, List.getElem?_cons_zero]; rfl) (by kernel_rfl) (by kernel_rfl) (by kernel_rfl) (by exact fun _ _ _ h => h) (by kernel_rfl) (Or.inr ⟨(by first | rfl | simp [Region.wanted, yielded] | (simp [Region.wanted, yielded, Act.put] <;> omega)), rfl⟩) hH ?_
        try simp only [Act.put, List.setIfInBounds_toArray, List.set_cons_zero, List.set_cons_succ]
        refine wpAnyEI_pure (plain_of (fun _ => trivial) (by kernel_rfl)) (i := 10) (v := undef) (by simp only [List.getElem?_toArray, List.getElem?_cons_succ, List.getElem?_cons_zero]; rfl) (by kernel_rfl) (by kernel_rfl) (by kernel_rfl) (by exact fun _ _ _ h => h) (by kernel_rfl) (Or.inr ⟨(by first | rfl | simp [Region.wanted, yielded] | (simp [Region.wanted, yielded, Act.put] <;> omega)), rfl⟩) hH ?_
        try simp only [Act.put, List.setIfInBounds_toArray, List.set_cons_zero, List.set_cons_succ]
        refine wpAnyEI_pure (plain_of (fun _ => trivial) (by kernel_rfl)) (i := 11) (v := ?vu11_7) (by simp only [List.getElem?_toArray, List.getElem?_cons_succ, List.getElem?_cons_zero]; rfl) (by kernel_rfl) (by kernel_rfl) (by kernel_rfl) (by exact fun _ _ _ h => h) (by kernel_rfl) (Or.inl ⟨by rfl, ?yu11_7⟩) hH ?_
        case yu11_7 => (intro w' hSw; (try dsimp only at hSw); go_simp; try with_reducible rfl)
        try simp only [Act.put, List.setIfInBounds_toArray, List.set_cons_zero, List.set_cons_succ]
        obtain ⟨fnY, tmpsY, assignY, bodyY, hy, hRd⟩ := HY.out w2 (AbidesFrom.later HJ.out HJk.out HE.out)
        refine wpAnyEI_any (i := 12) (by kernel_rfl) (by simp only [List.getElem?_toArray, List.getElem?_cons_succ, List.getElem?_cons_zero]; rfl) (by kernel_rfl) (fun K' hK => ?_)
        clear hH
        go_simp
        refine hRd.mono ?_
        rintro e W3 (⟨rfl, hJ3, hk3⟩ | ⟨rfl, hJx3⟩)
        · skip
          refine hK.out _ _ ?_
          clear hK K' hy hRd
          try simp only [Act.put, List.setIfInBounds_toArray, List.set_cons_zero, List.set_cons_succ]
          refine wpAnyEI_any (i := 13) (by kernel_rfl) (by simp only [List.getElem?_toArray, List.getElem?_cons_succ, List.getElem?_cons_zero]; rfl) (by kernel_rfl) (fun K' hK => ?_)
          go_simp
          refine hK.out _ _ (wpAnyEI_nil (by kernel_rfl) ?_)
          clear hK K'
          try simp only [Act.put, List.setIfInBounds_toArray, List.set_cons_zero, List.set_cons_succ]
          have HK3 := Lib.hid ((KeepC.of_below (G := G) (N := N) HE.out).trans hk3)
          have HJ3 := Lib.hid hJ3
          clear hJ3 hk3 HE
          gi_wp2
          go_roundw
          case rel => exact ⟨k + 1, by omega, by go_num, HJ3.out, HT.out.trans HK3.out⟩
          case measure => simp [intOf]; omega
        · skip
          refine hK.out _ _ ?_
          clear hK K' hy hRd
          try simp only [Act.put, List.setIfInBounds_toArray, List.set_cons_zero, List.set_cons_succ]
          refine wpAnyEI_any (i := 13) (by kernel_rfl) (by simp only [List.getElem?_toArray, List.getElem?_cons_succ, List.getElem?_cons_zero]; rfl) (by kernel_rfl) (fun K' hK => ?_)
          go_simp
          refine hK.out _ _ (wpAnyEI_nil (by kernel_rfl) ?_)
          clear hK K'
          try simp only [Act.put, List.setIfInBounds_toArray, List.set_cons_zero, List.set_cons_succ]
          have HJ3 := Lib.hid hJx3
          clear hJx3 HE
          gi_wp2
          refine bodyPost_ret (results_none rfl _ _ _) rfl ?_
          exact ⟨⟨_, rfl⟩, .inr ⟨firsts ds.length (k + 1), firsts_pre _ _, HJ3.out⟩⟩
      have hne : (d.r1 == (k : Int) + 1) = true := by simpa using hno
      obtain ⟨z, hz⟩ : ∃ z, rokD g d = z := ⟨_, rfl⟩
      have hf : isAt g ds k = z := by rw [HA.out, hz]; simp [hno]
      rw [hf] at HY
      have HB : Hid (rokB g.s g.l g.c g.sh g.zs d.r1 d.r2 d.r3 d.r4 d.r5 d.r6 d.r7 d.ps d.r8 = z) := Lib.hid hz
      clear hf hno hz HA
      refine wpIn_region_sink 12 (fun w' => Box w' V 42 #[.int .i64 d.r1, .int .i64 d.r2, .int .i64 d.r3, .int .i64 d.r4, .int .i64 d.r5, .int .i64 d.r6, .int .i64 d.r7, .slice Lk mk mck, .int .i64 d.r8] ∧ Box w' B2 26 #[.int .i64 g.s, .int .i64 g.l, .int .i64 g.c, .int .i64 g.sh, .slice A n cap]) (by kernel_rfl) ⟨X.later ((Below.refl w1.heap.size w1).drew) X.lt, HX.out.later ((Below.refl w1.heap.size w1).drew) HX.out.lt⟩ (fun hH => ?_)
      replace HE := Lib.hid (bel_trans HE.out (Below.refl w1.heap.size w1).drew)
      clear X HX
      generalize w1.drew = w2 at HE hH ⊢
      refine wpAnyEI_pure (plain_of (fun _ => trivial) (by kernel_rfl)) (i := 0) (v := ?vu0_8) (by simp only [List.getElem?_toArray, List.getElem?_cons_zero]; rfl) (by kernel_rfl) (by kernel_rfl) (by kernel_rfl) (by exact fun _ _ _ h => h) (by kernel_rfl) (Or.inl ⟨by rfl, ?yu0_8⟩) hH ?_
      case yu0_8 => (intro w' hSw; (try dsimp only at hSw); go_simp; try with_reducible rfl)
      try simp only [Act.put, List.setIfInBounds_toArray, List.set_cons_zero, List.set_cons_succ]
      refine wpAnyEI_takeP [] (plain_of (fun _ => trivial) (by kernel_rfl)) (i := 1) (v := .agg #[.int .i64 d.r1, .int .i64 d.r2, .int .i64 d.r3, .int .i64 d.r4, .int .i64 d.r5, .int .i64 d.r6, .int .i64 d.r7, .slice Lk mk mck, .int .i64 d.r8]) (by simp only [List.getElem?_toArray, List.getElem?_cons_succ, List.getElem?_cons_zero]; rfl) (by kernel_rfl) (by kernel_rfl) (by kernel_rfl) (by exact fun _ _ _ h => h) (by kernel_rfl) ?y1 hH ?_
      case y1 => exact yields_box 42 _ rfl (V) rfl 42 #[.int .i64 d.r1, .int .i64 d.r2, .int .i64 d.r3, .int .i64 d.r4, .int .i64 d.r5, .int .i64 d.r6, .int .i64 d.r7, .slice Lk mk mck, .int .i64 d.r8] (fun _ h => h.1) _ Tryz.underlying42 rfl (by kernel_rfl) (by first | rfl | simp [Region.wanted, yielded] | (simp [Region.wanted, yielded, Act.put] <;> omega))
      try simp only [Act.put, List.setIfInBounds_toArray, List.set_cons_zero, List.set_cons_succ]
      refine wpAnyEI_pure (plain_of (fun _ => trivial) (by kernel_rfl)) (i := 2) (v := ?vu2_9) (by simp only [List.getElem?_toArray, List.getElem?_cons_succ, List.getElem?_cons_zero]; rfl) (by kernel_rfl) (by kernel_rfl) (by kernel_rfl) (by exact fun _ _ _ h => h) (by kernel_rfl) (Or.inl ⟨by rfl, ?yu2_9⟩) hH ?_
      case yu2_9 => (intro w' hSw; (try dsimp only at hSw); go_simp; try with_reducible rfl)
      try simp only [Act.put, List.setIfInBounds_toArray, List.set_cons_zero, List.set_cons_succ]
      refine wpAnyEI_takeP [6, 7, 11] (plain_of (fun _ => trivial) (by kernel_rfl)) (i := 3) (v := .int .i64 d.r1) (by simp only [List.getElem?_toArray, List.getElem?_cons_succ, List.getElem?_cons_zero]; rfl) (by kernel_rfl) (by kernel_rfl) (by kernel_rfl) (by exact fun _ _ _ h => h) (by kernel_rfl) (Or.inl ⟨(by first | rfl | simp [Region.wanted, yielded] | (simp [Region.wanted, yielded, Act.put] <;> omega)), ?y3⟩) hH ?_
      case y3 => (intro w' hSw; have hc0 : w'.cell? ⟨V, 0, none⟩ = some (.int .i64 d.r1) := hSw.1.cell 0; clear hSw; go_simp; try with_reducible rfl)
      try simp only [Act.put, List.setIfInBounds_toArray, List.set_cons_zero, List.set_cons_succ]
      refine wpAnyEI_pure (plain_of (fun _ => trivial) (by kernel_rfl)) (i := 4) (v := ?vu4_10) (by simp only [List.getElem?_toArray, List.getElem?_cons_succ, List.getElem?_cons_zero]; rfl) (by kernel_rfl) (by kernel_rfl) (by kernel_rfl) (by exact fun _ _ _ h => h) (by kernel_rfl) (Or.inl ⟨by rfl, ?yu4_10⟩) hH ?_
      case yu4_10 => (intro w' hSw; (try dsimp only at hSw); go_simp; try with_reducible rfl)
      try simp only [Act.put, List.setIfInBounds_toArray, List.set_cons_zero, List.set_cons_succ]
      refine wpAnyEI_pure (plain_of (fun _ => trivial) (by kernel_rfl)) (i := 5) (v := ?vu5_11) (by simp only [List.getElem?_toArray, List.getElem?_cons_succ, List.getElem?_cons_zero]; rfl) (by kernel_rfl) (by kernel_rfl) (by kernel_rfl) (by exact fun _ _ _ h => h) (by kernel_rfl) (Or.inl ⟨by rfl, ?yu5_11⟩) hH ?_
      case yu5_11 => (intro w' hSw; (try dsimp only at hSw); go_simp; try with_reducible rfl)
      try simp only [Act.put, List.setIfInBounds_toArray, List.set_cons_zero, List.set_cons_succ]
      refine wpAnyEI_pure (plain_of (fun _ => trivial) (by kernel_rfl)) (i := 6) (v := ?vu6_12) (by simp only [List.getElem?_toArray, List.getElem?_cons_succ, List.getElem?_cons_zero]; rfl) (by kernel_rfl) (by kernel_rfl) (by kernel_rfl) (by exact fun _ _ _ h => h) (by kernel_rfl) (Or.inl ⟨by rfl, ?yu6_12⟩) hH ?_
      case yu6_12 => (intro w' hSw; (try dsimp only at hSw); go_simp; try with_reducible rfl)
      try simp only [Act.put, List.setIfInBounds_toArray, List.set_cons_zero, List.set_cons_succ]
      refine wpAnyEI_pure (plain_of (fun _ => trivial) (by kernel_rfl)) (i := 7) (v := ?vu7_13) (by simp only [List.getElem?_toArray, List.getElem?_cons_succ, List.getElem?_cons_zero]; rfl) (by kernel_rfl) (by kernel_rfl) (by kernel_rfl) (by exact fun _ _ _ h => h) (by kernel_rfl) (Or.inl ⟨by rfl, ?yu7_13⟩) hH ?_
      case yu7_13 => (intro w' hSw; (try dsimp only at hSw); go_simp; try with_reducible rfl)
      try simp only [Act.put, List.setIfInBounds_toArray, List.set_cons_zero, List.set_cons_succ]
      refine wpAnyEI_takeP [10, 11] (plain_of (fun _ => trivial) (by kernel_rfl)) (i := 8) (v := .agg #[.int .i64 g.s, .int .i64 g.l, .int .i64 g.c, .int .i64 g.sh, .slice A n cap]) (by simp only [List.getElem?_toArray, List.getElem?_cons_succ, List.getElem?_cons_zero]; rfl) (by kernel_rfl) (by kernel_rfl) (by kernel_rfl) (by exact fun _ _ _ h => h) (by kernel_rfl) ?y8 hH ?_
      case y8 => exact yields_box 26 _ rfl (B2) rfl 26 #[.int .i64 g.s, .int .i64 g.l, .int .i64 g.c, .int .i64 g.sh, .slice A n cap] (fun _ h => h.2) _ Tryz.underlying26 rfl (by kernel_rfl) (by first | rfl | simp [Region.wanted, yielded] | (simp [Region.wanted, yielded, Act.put] <;> omega))
      try simp only [Act.put, List.setIfInBounds_toArray, List.set_cons_zero, List.set_cons_succ]
      refine wpAnyEI_takeP [10, 11] (plain_of (fun _ => trivial) (by kernel_rfl)) (i := 9) (v := .agg #[.int .i64 d.r1, .int .i64 d.r2, .int .i64 d.r3, .int .i64 d.r4, .int .i64 d.r5, .int .i64 d.r6, .int .i64 d.r7, .slice Lk mk mck, .int .i64 d.r8]) (by simp only [List.getElem?_toArray, List.getElem?_cons_succ, List.getElem?_cons_zero]; rfl) (by kernel_rfl) (by kernel_rfl) (by kernel_rfl) (by exact fun _ _ _ h => h) (by kernel_rfl) ?y9 hH ?_
      case y9 => exact yields_box 42 _ rfl (V) rfl 42 #[.int .i64 d.r1, .int .i64 d.r2, .int .i64 d.r3, .int .i64 d.r4, .int .i64 d.r5, .int .i64 d.r6, .int .i64 d.r7, .slice Lk mk mck, .int .i64 d.r8] (fun _ h => h.1) _ Tryz.underlying42 rfl (by kernel_rfl) (by first | rfl | simp [Region.wanted, yielded] | (simp [Region.wanted, yielded, Act.put] <;> omega))
      try simp only [Act.put, List.setIfInBounds_toArray, List.set_cons_zero, List.set_cons_succ]
      refine wpAnyEI_one (i := 10) (by kernel_rfl) (by simp only [List.getElem?_toArray, List.getElem?_cons_succ, List.getElem?_cons_zero]; rfl) (fun K' hK => ?_)
      have HH := Lib.hid hH
      clear hH
      go_simp
      refine ⟨trivial, ?_⟩
      refine (callsIn_wide.2 (recOk_is HB.out A n cap Lk mk mck w2 HM.out ((HRw.out.below HE.out (Nat.le_refl _)).more HE.out.size) hmk4 (HPw.out.later HE.out))).mono ?_
      rintro e w3 ⟨rfl, hb⟩
      replace HE := Lib.hid (bel_trans HE.out hb)
      refine hK.out _ _ ⟨HH.out.1.later hb HH.out.1.lt, HH.out.2.later hb HH.out.2.lt⟩ (fun hH => ?_)
      clear hK K' HH hb
      try simp only [Act.put, List.setIfInBounds_toArray, List.set_cons_zero, List.set_cons_succ]
      refine wpAnyEI_pure (plain_of (fun _ => trivial) (by kernel_rfl)) (i := 11) (v := ?vu11_14) (by simp only [List.getElem?_toArray, List.getElem?_cons_succ, List.getElem?_cons_zero]; rfl) (by kernel_rfl) (by kernel_rfl) (by kernel_rfl) (by exact fun _ _ _ h => h) (by kernel_rfl) (Or.inl ⟨by rfl, ?yu11_14⟩) hH ?_
      case yu11_14 => (intro w' hSw; (try dsimp only at hSw); go_simp; try with_reducible rfl)
      try simp only [Act.put, List.setIfInBounds_toArray, List.set_cons_zero, List.set_cons_succ]
      obtain ⟨fnY, tmpsY, assignY, bodyY, hy, hRd⟩ := HY.out w3 (AbidesFrom.later HJ.out HJk.out HE.out)
      refine wpAnyEI_any (i := 12) (by kernel_rfl) (by simp only [List.getElem?_toArray, List.getElem?_cons_succ, List.getElem?_cons_zero]; rfl) (by kernel_rfl) (fun K' hK => ?_)
      clear hH
      go_simp
      refine hRd.mono ?_
      rintro e W3 (⟨rfl, hJ3, hk3⟩ | ⟨rfl, hJx3⟩)
      · skip
        refine hK.out _ _ ?_
        clear hK K' hy hRd
        try simp only [Act.put, List.setIfInBounds_toArray, List.set_cons_zero, List.set_cons_succ]
        refine wpAnyEI_any (i := 13) (by kernel_rfl) (by simp only [List.getElem?_toArray, List.getElem?_cons_succ, List.getElem?_cons_zero]; rfl) (by kernel_rfl) (fun K' hK => ?_)
        go_simp
        refine hK.out _ _ (wpAnyEI_nil (by kernel_rfl) ?_)
        clear hK K'
        try simp only [Act.put, List.setIfInBounds_toArray, List.set_cons_zero, List.set_cons_succ]
        have HK3 := Lib.hid ((KeepC.of_below (G := G) (N := N) HE.out).trans hk3)
        have HJ3 := Lib.hid hJ3
        clear hJ3 hk3 HE
        gi_wp2
        go_roundw
        case rel => exact ⟨k + 1, by omega, by go_num, HJ3.out, HT.out.trans HK3.out⟩
        case measure => simp [intOf]; omega
      · skip
        refine hK.out _ _ ?_
        clear hK K' hy hRd
        try simp only [Act.put, List.setIfInBounds_toArray, List.set_cons_zero, List.set_cons_succ]
        refine wpAnyEI_any (i := 13) (by kernel_rfl) (by simp only [List.getElem?_toArray, List.getElem?_cons_succ, List.getElem?_cons_zero]; rfl) (by kernel_rfl) (fun K' hK => ?_)
        go_simp
        refine hK.out _ _ (wpAnyEI_nil (by kernel_rfl) ?_)
        clear hK K'
        try simp only [Act.put, List.setIfInBounds_toArray, List.set_cons_zero, List.set_cons_succ]
        have HJ3 := Lib.hid hJx3
        clear hJx3 HE
        gi_wp2
        refine bodyPost_ret (results_none rfl _ _ _) rfl ?_
        exact ⟨⟨_, rfl⟩, .inr ⟨firsts ds.length (k + 1), firsts_pre _ _, HJ3.out⟩⟩
    have hkn : k = ln := by omega
    subst hkn
    gi_wp2
    go_end0
    exact ⟨⟨_, rfl⟩, .inl ⟨_, by rw [← firsts_all, HL.out], HJk.out⟩⟩

end Go.Proofs.YtmooajppfjglaaaGreat
