/- What the model's draw of a group, a claim and a list of seals out of the code leaves; the bytes can be read. -/
import Derived.Test.YtdabmnhbmdaodaaDrawJoin
import Derived.Test.YtdabmnhbmdaodaaAppendZeros
namespace Go.Proofs.Ytdabmnhbmdaodaa
open Go.RowKit

/-- A row lies in its block, wherever that is. -/
theorem own_up {w : World} {base base' g : Nat} {e : TypeId} {n cap : Nat} {xs : List Value} (h : w.ownsRow base e 2 (.slice (some ⟨g, 0, none⟩) n cap) n xs) (hb : base' ≤ g) : w.ownsRow base' e 2 (.slice (some ⟨g, 0, none⟩) n cap) n xs := by
  refine ⟨h.1, ?_⟩
  rcases h.2 with ⟨h', _⟩ | ⟨g', cap', cur, h', _, rest⟩
  · simp at h'
  · refine .inr ⟨g', cap', cur, h', ?_, rest⟩
    injection h' with e1 _ _
    injection e1 with e1
    injection e1 with e1 _ _
    omega

/-- The variables of the draw: the two that are answered, the group, the claim, the list. -/
structure CertAt (w wr : World) (g : Nat) (A : Option Addr) (n cap P Q : Nat) (s l c sh : Int) (q o m cap' : Nat) (zs : List Int) (ck ch ct cq cv : Int) (k p pc : Nat) (ps : List (Int × Int)) : Prop where
  r1 : Box wr w.heap.size 33 #[.int .i64 0, .int .i64 0, .int .i64 0, .int .i64 0, .slice none 0 0]
  r2 : Box wr (w.heap.size + 1) 37 #[.int .i64 0, .int .i64 0, .int .i64 0, .int .i64 0, .int .i64 0]
  gr : Box wr P 33 #[.int .i64 s, .int .i64 l, .int .i64 c, .int .i64 sh, .slice (some ⟨q, o, none⟩) m cap']
  cl : Box wr Q 37 #[.int .i64 ck, .int .i64 ch, .int .i64 ct, .int .i64 cq, .int .i64 cv]
  row : Row wr P (some ⟨q, o, none⟩) m zs
  ls : ListAt w wr k p pc ps
  cur : Cur wr 94 .i64 g A n cap
  bel : Below w.heap.size w wr
/-- Where they lie. -/
structure Lies (w : World) (g P Q q p : Nat) : Prop where
  a : w.heap.size + 1 < g
  b : g < P
  c : P < Q
  d : Q < p
  e : g ≠ q
section
variable {w wr w' : World} {g : Nat} {A : Option Addr} {n cap P Q : Nat} {s l c sh : Int} {q o m cap' : Nat} {zs : List Int} {ck ch ct cq cv : Int} {k p pc : Nat} {ps : List (Int × Int)}
theorem CertAt.draw (h : CertAt w wr g A n cap P Q s l c sh q o m cap' zs ck ch ct cq cv k p pc ps) (hl : Lies w g P Q q p) (hg : wr.grownBy w' (some g)) (hc : Cur w' 94 .i64 g A n cap) : CertAt w w' g A n cap P Q s l c sh q o m cap' zs ck ch ct cq cv k p pc ps := by
  obtain ⟨a, b, c, d, e⟩ := hl
  exact ⟨h.r1.kept hg (by intro e; injection e with e; omega), h.r2.kept hg (by intro e; injection e with e; omega), h.gr.kept hg (by intro e; injection e with e; omega), h.cl.kept hg (by intro e; injection e with e; omega),
    h.row.keptB (Nat.le_of_lt h.gr.lt) hg (fun k hk => by injection hk with hk; exact .inr (by omega)), h.ls.kept hg (fun x hx => by injection hx with hx; omega), hc, bel_grown h.bel hg (by omega)⟩
theorem CertAt.val (h : CertAt w wr g A n cap P Q s l c sh q o m cap' zs ck ch ct cq cv k p pc ps) (hl : Lies w g P Q q p) (v : Int) : CertAt w (wr.setCell ⟨Q, 4, none⟩ (.int .i64 v)) g A n cap P Q s l c sh q o m cap' zs ck ch ct cq v k p pc ps := by
  obtain ⟨a, b, c, d, e⟩ := hl
  have hg : wr.grownBy (wr.setCell ⟨Q, 4, none⟩ (.int .i64 v)) (some Q) := grown_set (grown_refl wr _) 4 _
  exact ⟨h.r1.kept hg (by intro e; injection e with e; omega), h.r2.kept hg (by intro e; injection e with e; omega), h.gr.kept hg (by intro e; injection e with e; omega), h.cl.set 4 _,
    h.row.keptB (Nat.le_of_lt h.gr.lt) hg (fun k hk => by injection hk with hk; exact .inl (by omega)), h.ls.kept hg (fun x hx => by injection hx with hx; omega), h.cur.kept hg (fun r hr => by injection hr with hr; omega), bel_grown h.bel hg (by omega)⟩
theorem CertAt.grow (h : CertAt w wr g A n cap P Q s l c sh q o m cap' zs ck ch ct cq cv k p pc ps) (hl : Lies w g P Q q p) {gg cap2 k' : Nat} {ps' : List (Int × Int)} (hg : wr.grownBy w' (some p)) (ho : w'.ownsRow w.heap.size 30 2 (.slice (some ⟨gg, 0, none⟩) ps'.length cap2) ps'.length (flatP ps')) (hk : ps'.length ≤ k') : CertAt w w' g A n cap P Q s l c sh q o m cap' zs ck ch ct cq cv k' gg cap2 ps' := by
  obtain ⟨a, b, c, d, e⟩ := hl
  exact ⟨h.r1.kept hg (by intro e; injection e with e; omega), h.r2.kept hg (by intro e; injection e with e; omega), h.gr.kept hg (by intro e; injection e with e; omega), h.cl.kept hg (by intro e; injection e with e; omega),
    h.row.keptB (Nat.le_of_lt h.gr.lt) hg (fun k hk => by injection hk with hk; exact .inl (by omega)), ⟨ho, hk⟩, h.cur.kept hg (fun r hr => by injection hr with hr; omega), bel_grown h.bel hg (by omega)⟩
/-- The group and the claim are written into what is answered. -/
theorem CertAt.fin {wA wB : World} (h : CertAt w wr g A n cap P Q s l c sh q o m cap' zs ck ch ct cq cv k p pc ps) (hq : w.heap.size + 1 < q) (hp : w.heap.size + 1 < p) (G1 : wr.grownBy wA (some w.heap.size)) (G2 : wA.grownBy wB (some (w.heap.size + 1))) :
    Row wB wB.heap.size (some ⟨q, o, none⟩) m zs ∧ ListAt w wB k p pc ps ∧ Below w.heap.size w wB := by
  have B1 := bel_grown h.bel G1 (Nat.le_refl _)
  have B2 := bel_grown B1 G2 (by omega)
  have hP : P ≤ wr.heap.size := Nat.le_of_lt h.gr.lt
  have R1 := h.row.keptB hP G1 (fun k hk => by injection hk with hk; exact .inr (by omega))
  have R2 := R1.keptB (Nat.le_trans hP G1.size) G2 (fun k hk => by injection hk with hk; exact .inr (by omega))
  have L1 := h.ls.kept G1 (fun x hx => by injection hx with hx; omega)
  have L2 := L1.kept G2 (fun x hx => by injection hx with hx; omega)
  exact ⟨R2.more (Nat.le_trans hP (Nat.le_trans G1.size G2.size)), L2, B2⟩
end

/-- A group, a claim and a list of at most forty seals. -/
def MadeCert (w : World) (e : Ending) (w' : World) : Prop :=
  ∃ (s l c sh : Int) (q o m cap' : Nat) (zs : List Int) (ck ch ct cq cv : Int) (p pc : Nat) (ps : List (Int × Int)),
    e = .returned (.tuple #[.agg #[.int .i64 s, .int .i64 l, .int .i64 c, .int .i64 sh, .slice (some ⟨q, o, none⟩) m cap'], .agg #[.int .i64 ck, .int .i64 ch, .int .i64 ct, .int .i64 cq, .int .i64 cv], .slice (some ⟨p, 0, none⟩) ps.length pc]) ∧ w.heap.size ≤ q ∧ Row w' w'.heap.size (some ⟨q, o, none⟩) m zs ∧ m ≤ 100 ∧ ListAt w w' 40 p pc ps ∧ Below w.heap.size w w'

set_option maxRecDepth 100000 in
set_option maxHeartbeats 4000000 in
theorem drawGood_any (A : Option Addr) (n cap : Nat) (w : World) (hn : n ≤ 4096) (hB : Bytes w w.heap.size A n) :
    Calls Try.prog 48 #[.slice A n cap] w (MadeCert w) := by
  obtain ⟨i0, hi0, hz0, hz1, hz2⟩ := info_parts Try.infoSealI
  have hb0 := bel_trans (bel_alloc w (.cells #[.int .i64 0, .int .i64 0, .int .i64 0, .int .i64 0, .slice none 0 0] 33)) (bel_alloc _ (.cells #[.int .i64 0, .int .i64 0, .int .i64 0, .int .i64 0, .int .i64 0] 37))
  have R1 := (Box.new w 33 #[.int .i64 0, .int .i64 0, .int .i64 0, .int .i64 0, .slice none 0 0]).alloc (.cells #[.int .i64 0, .int .i64 0, .int .i64 0, .int .i64 0, .int .i64 0] 37)
  have R2 := Box.new (w.alloc (.cells #[.int .i64 0, .int .i64 0, .int .i64 0, .int .i64 0, .slice none 0 0] 33)) 37 #[.int .i64 0, .int .i64 0, .int .i64 0, .int .i64 0, .int .i64 0]
  simp only [World.size_alloc] at R2
  have HB := Lib.hid hB
  clear hB
  go_enter Try.func48, Try.ntmps48
  go_wp2_with fail
  generalize ((w.alloc _).alloc _ : World) = w0 at hb0 R1 R2 ⊢
  refine (l1New_any A n cap w0 hn ((HB.out.below hb0 (Nat.le_refl _)).more hb0.size)).mono ?_
  rintro e w1 ⟨g, hg, rfl, hc1, hb1⟩
  have R1a := R1.later hb1 R1.lt
  have R2a := R2.later hb1 R2.lt
  have E1 := bel_trans hb0 hb1
  have hg0 : w.heap.size + 1 < g := Nat.lt_of_lt_of_le R2.lt hg
  have hgl := hc1.lt
  clear R1 R2 hb0 hb1
  go_wp2_with fail
  refine (l1DrawAny_any g A n cap w1 hc1).mono ?_
  rintro e w2 ⟨s, l, c, sh, q, o, m, cap', zs, hq, rfl, hrow2, hm100, hc2, hg2⟩
  have R1b := R1a.kept hg2 (by intro e; injection e with e; omega)
  have R2b := R2a.kept hg2 (by intro e; injection e with e; omega)
  have E2 := bel_grown E1 hg2 (by omega)
  have hgq : g ≠ q := by omega
  have hgw2 := hc2.lt
  have HML : Hid (m ≤ maxLen) := by show m ≤ maxLen; unfold maxLen; omega
  clear hc1 hg2 E1 R1a R2a
  have U := Box.new w2 33 #[.int .i64 s, .int .i64 l, .int .i64 c, .int .i64 sh, .slice (some ⟨q, o, none⟩) m cap']
  have hb3 := bel_alloc w2 (.cells #[.int .i64 s, .int .i64 l, .int .i64 c, .int .i64 sh, .slice (some ⟨q, o, none⟩) m cap'] 33)
  go_wp2_with fail
  have hc3 := hc2.kept (grown_bel hb3 none) (fun q hq => by cases hq)
  have E3 := bel_trans E2 hb3
  have hrow3 := hrow2.below hb3 (Nat.le_refl _)
  have R1c := R1b.later hb3 R1b.lt
  have R2c := R2b.later hb3 R2b.lt
  generalize (w2.alloc _ : World) = w3 at U hb3 hc3 E3 hrow3 R1c R2c ⊢
  obtain ⟨P, hP⟩ : ∃ P, P = w2.heap.size := ⟨_, rfl⟩
  rw [← hP] at U hrow3 hgw2 ⊢
  clear hc2 E2 hrow2 hb3 hP R1b R2b
  refine (l3DrawAny_any g A n cap w3 hc3).mono ?_
  rintro e w4 ⟨ck, ch, ct, cq, cv, rfl, hc4, hg4⟩
  have U4 := U.kept hg4 (by intro e; injection e with e; omega)
  have R1d := R1c.kept hg4 (by intro e; injection e with e; omega)
  have R2d := R2c.kept hg4 (by intro e; injection e with e; omega)
  have hrow4 := hrow3.keptB (Nat.le_of_lt U.lt) hg4 (fun k hk => by injection hk with hk; exact .inr (by omega))
  have E4 := bel_grown E3 hg4 (by omega)
  clear U hrow3 E3 hc3 hg4 R1c R2c
  have V := Box.new w4 37 #[.int .i64 ck, .int .i64 ch, .int .i64 ct, .int .i64 cq, .int .i64 cv]
  have hb5 := bel_alloc w4 (.cells #[.int .i64 ck, .int .i64 ch, .int .i64 ct, .int .i64 cq, .int .i64 cv] 37)
  go_upto_region 4 with fail
  have hc5 := hc4.kept (grown_bel hb5 none) (fun q hq => by cases hq)
  have E5 := bel_trans E4 hb5
  have U5 := U4.later hb5 U4.lt
  have R1e := R1d.later hb5 R1d.lt
  have R2e := R2d.later hb5 R2d.lt
  have hPl := U4.lt
  have hrow5 := hrow4.below hb5 (by omega)
  generalize (w4.alloc _ : World) = w5 at V hb5 hc5 E5 U5 hrow5 R1e R2e ⊢
  obtain ⟨Q, hQ⟩ : ∃ Q, Q = w4.heap.size := ⟨_, rfl⟩
  rw [← hQ] at V hPl ⊢
  clear hc4 E4 hrow4 hb5 hQ U4 R1d R2d
  obtain ⟨d0, d1, d2, d3, d4, x0, x1, x2, x3, x4⟩ := ten U5 V
  have hPs : P ≤ w5.heap.size := Nat.le_of_lt U5.lt
  go_wp2_with fail
  refine (l4Draw_any g A n cap s l c sh q o m cap' zs ck ch ct cq cv w5 HML.out hc5 (hrow5.more hPs) hgq).mono ?_
  rintro e w6 ⟨p, pc, ps, rfl, hown6, hl6, hc6, hg6⟩
  have hpw := (hown6.lt p rfl).1
  have hw5 := E5.size
  have hVl := V.lt
  have LL : Lies w g P Q q p := ⟨hg0, hgw2, hPl, by omega, hgq⟩
  have K6 : CertAt w w6 g A n cap P Q s l c sh q o m cap' zs ck ch ct cq cv 20 p pc ps :=
    ⟨R1e.kept hg6 (by intro e; injection e with e; omega), R2e.kept hg6 (by intro e; injection e with e; omega), U5.kept hg6 (by intro e; injection e with e; omega), V.kept hg6 (by intro e; injection e with e; omega),
      hrow5.keptB hPs hg6 (fun k hk => by injection hk with hk; exact .inr (by omega)), ⟨own_base hown6 (by omega), hl6⟩, hc6, bel_grown E5 hg6 (by omega)⟩
  clear U5 V hrow5 E5 hc5 hg6 hown6 hc6 R1e R2e d0 d1 d2 d3 d4 x0 x1 x2 x3 x4
  go_wp2_with fail
  refine (l1Once_any g A n cap 10 w6 (by omega) K6.cur).mono ?_
  rintro e w7 ⟨b, rfl, hc7, hg7⟩
  have K7 := K6.draw LL hg7 hc7
  clear K6 hc7 hg7
  go_upto_if 20 with fail
  go_cut [23] (fun _ wr => ∃ cv : Int, CertAt w wr g A n cap P Q s l c sh q o m cap' zs ck ch ct cq cv 20 p pc ps)
  case first =>
    rcases b with _ | _
    · go_wp2_with fail
      go_meet
      exact ⟨cv, K7⟩
    · obtain ⟨x0, x1, x2, x3, x4⟩ := K7.cl.five
      have fz := K7.cl.frozen
      have HK := Lib.hid (fun v => K7.val LL v)
      go_wp2_with fail
      go_meet
      exact ⟨_, HK.out _⟩
  case rest =>
  obtain ⟨cv, K8⟩ := hcut
  obtain ⟨w8, rfl⟩ : ∃ w8, w8 = wc := ⟨_, rfl⟩
  clear K7
  go_wp2_with fail
  refine (l1Once_any g A n cap 20 w8 (by omega) K8.cur).mono ?_
  rintro e w9 ⟨b2, rfl, hc9, hg9⟩
  have K9 := K8.draw LL hg9 hc9
  clear K8 hc9 hg9
  go_upto_if 26 with fail
  go_cut [8] (fun lv wr => ∃ (p pc : Nat) (ps : List (Int × Int)), lv = .slice (some ⟨p, 0, none⟩) ps.length pc ∧ w.heap.size + 1 < p ∧ CertAt w wr g A n cap P Q s l c sh q o m cap' zs ck ch ct cq cv 40 p pc ps)
  case first =>
    rcases b2 with _ | _
    · go_wp2_with fail
      go_meet
      exact ⟨p, pc, ps, rfl, by omega, K9.r1, K9.r2, K9.gr, K9.cl, K9.row, ⟨K9.ls.own, by have := K9.ls.len; omega⟩, K9.cur, K9.bel⟩
    · go_wp2_with fail
      refine (l1Below_any g A n cap 9 w9 (by omega) K9.cur).mono ?_
      rintro e w10 ⟨r, ⟨hr0, hr1⟩, rfl, hc10, hg10⟩
      have K10 := K9.draw LL hg10 hc10
      obtain ⟨k, hk⟩ : ∃ k : Nat, (20 : Int) - r = (k : Int) := ⟨(20 - r).toNat, by omega⟩
      have hk1 : 0 < k := by omega
      have hk2 : k ≤ 20 := by omega
      have hpl := K10.ls.len
      obtain ⟨gg, cap2, w11, hrun, hown11, hg11⟩ := append_zeros (P := Try.prog) w10 (w.heap.size + 2) 24 2 0 30 i0 Try.underlying24 Try.underlying2 hi0 hz0 hz1 hz2 p ps.length pc k ps rfl (by omega) hk1 (by omega) (by have := K10.r2.lt; omega) (own_up K10.ls.own (by have := LL.a; have := LL.b; have := LL.c; have := LL.d; omega))
      have hl11 : (ps ++ List.replicate k ((0 : Int), (0 : Int))).length = ps.length + k := by simp
      have K11 := K10.grow LL (k' := 40) (ps' := ps ++ List.replicate k (0, 0)) hg11 (by rw [hl11]; exact own_base hown11 (by omega)) (by rw [hl11]; omega)
      have hrn : ∀ ty, (Builtin.append_ #[24, 2] ty #[.slice (some ⟨p, 0, none⟩) ps.length pc, .int .i64 (k : Int)]).run Try.prog w10 = .ok (.slice (some ⟨gg, 0, none⟩) (ps.length + k) cap2) w11 := fun ty => hrun
      have HRN := Lib.hid hrn
      have hggl : w.heap.size + 1 < gg := by have := (hown11.lt gg rfl).1; omega
      replace hl11 := Lib.hid hl11
      clear hrun hrn hown11 hg11 K9 K10 hc10 hg10
      go_wp2_with (at_builtin; refine Lib.wpList_append_run _ rfl _ _ _ _ rfl _ _ rfl rfl _ _ (HRN.out _) ?_)
      go_meet
      exact ⟨gg, cap2, ps ++ List.replicate k (0, 0), by rw [hl11.out], hggl, K11⟩
  case rest =>
  obtain ⟨p, pc, ps, rfl, hpf, K12⟩ := hcut
  obtain ⟨w12, rfl⟩ : ∃ w12, w12 = wc := ⟨_, rfl⟩
  clear K9
  obtain ⟨a0, a1, a2, a3, a4, b0, b1, b2, b3, b4⟩ := ten K12.r1 K12.r2
  obtain ⟨d0, d1, d2, d3, d4, x0, x1, x2, x3, x4⟩ := ten K12.gr K12.cl
  have f1 := K12.r1.frozen
  have f2 := K12.r2.frozen
  have hqf : w.heap.size + 1 < q := by omega
  have n1 : P ≠ w.heap.size := by omega
  have n2 : P ≠ w.heap.size + 1 := by omega
  have n3 : Q ≠ w.heap.size := by omega
  have n4 : Q ≠ w.heap.size + 1 := by omega
  have n1' : w.heap.size ≠ P := by omega
  have n2' : w.heap.size + 1 ≠ P := by omega
  have n3' : w.heap.size ≠ Q := by omega
  have n4' : w.heap.size + 1 ≠ Q := by omega
  have HK := Lib.hid K12
  clear K12
  go_wp2_with fail
  go_region
  go_wp2
  have G1 := grown5 w12 w.heap.size (.int .i64 s) (.int .i64 l) (.int .i64 c) (.int .i64 sh) (.slice (some ⟨q, o, none⟩) m cap')
  have F := CertAt.fin HK.out hqf hpf G1 (grown_drew (grown5 _ (w.heap.size + 1) (.int .i64 ck) (.int .i64 ch) (.int .i64 ct) (.int .i64 cq) (.int .i64 cv)))
  exact bodyPost_ret (v := .tuple #[.agg #[.int .i64 s, .int .i64 l, .int .i64 c, .int .i64 sh, .slice (some ⟨q, o, none⟩) m cap'], .agg #[.int .i64 ck, .int .i64 ch, .int .i64 ct, .int .i64 cq, .int .i64 cv], .slice (some ⟨p, 0, none⟩) ps.length pc]) (by simp [results, Try.results48, go_sem, a0, a1, a2, a3, a4, b0, b1, b2, b3, b4]) rfl
    ⟨s, l, c, sh, q, o, m, cap', zs, ck, ch, ct, cq, cv, p, pc, ps, rfl, by omega, F.1, hm100, F.2.1, F.2.2⟩

set_option maxRecDepth 100000 in
set_option maxHeartbeats 1000000 in
theorem drawCertOk_any (A : Option Addr) (n cap : Nat) (w : World) (hn : n ≤ 4096) (hB : Bytes w w.heap.size A n) :
    Calls Try.prog 15 #[.slice A n cap] w (MadeCert w) := by
  have hb0 := bel_trans (bel_alloc w (.cells #[.int .i64 0, .int .i64 0, .int .i64 0, .int .i64 0, .slice none 0 0] 33)) (bel_alloc _ (.cells #[.int .i64 0, .int .i64 0, .int .i64 0, .int .i64 0, .int .i64 0] 37))
  have R1 := (Box.new w 33 #[.int .i64 0, .int .i64 0, .int .i64 0, .int .i64 0, .slice none 0 0]).alloc (.cells #[.int .i64 0, .int .i64 0, .int .i64 0, .int .i64 0, .int .i64 0] 37)
  have R2 := Box.new (w.alloc (.cells #[.int .i64 0, .int .i64 0, .int .i64 0, .int .i64 0, .slice none 0 0] 33)) 37 #[.int .i64 0, .int .i64 0, .int .i64 0, .int .i64 0, .int .i64 0]
  simp only [World.size_alloc] at R2
  have HB := Lib.hid hB
  clear hB
  go_enter Try.func15, Try.ntmps15
  go_wp2_with fail
  generalize ((w.alloc _).alloc _ : World) = w0 at hb0 R1 R2 ⊢
  refine (drawGood_any A n cap w0 hn ((HB.out.below hb0 (Nat.le_refl _)).more hb0.size)).mono ?_
  rintro e w1 ⟨s, l, c, sh, q, o, m, cap', zs, ck, ch, ct, cq, cv, p, pc, ps, rfl, hq, hrow, hm, hls, hb1⟩
  have R1a := R1.later hb1 R1.lt
  have R2a := R2.later hb1 R2.lt
  have E1 := bel_trans hb0 hb1
  have h0 : w.heap.size + 1 < w0.heap.size := R2.lt
  have hp := (hls.own.lt p rfl).1
  obtain ⟨a0, a1, a2, a3, a4, b0, b1, b2, b3, b4⟩ := ten R1a R2a
  have f1 := R1a.frozen
  have f2 := R2a.frozen
  have HROW := Lib.hid hrow
  have HLS := Lib.hid hls
  clear R1 R2 hb0 hb1 hrow hls R1a R2a
  go_wp2
  have G1 := grown5 w1 w.heap.size (.int .i64 s) (.int .i64 l) (.int .i64 c) (.int .i64 sh) (.slice (some ⟨q, o, none⟩) m cap')
  have G2 := grown5 (((((w1.setCell ⟨w.heap.size, 0, none⟩ (.int .i64 s)).setCell ⟨w.heap.size, 1, none⟩ (.int .i64 l)).setCell ⟨w.heap.size, 2, none⟩ (.int .i64 c)).setCell ⟨w.heap.size, 3, none⟩ (.int .i64 sh)).setCell ⟨w.heap.size, 4, none⟩ (.slice (some ⟨q, o, none⟩) m cap')) (w.heap.size + 1) (.int .i64 ck) (.int .i64 ch) (.int .i64 ct) (.int .i64 cq) (.int .i64 cv)
  have B2 := bel_grown (bel_grown E1 G1 (Nat.le_refl _)) G2 (by omega)
  have RW := (HROW.out.kept G1 (by intro e; injection e with e; omega)).kept G2 (by intro e; injection e with e; omega)
  have LS := (HLS.out.kept G1 (fun x hx => by injection hx with hx; omega)).kept G2 (fun x hx => by injection hx with hx; omega)
  exact bodyPost_ret (v := .tuple #[.agg #[.int .i64 s, .int .i64 l, .int .i64 c, .int .i64 sh, .slice (some ⟨q, o, none⟩) m cap'], .agg #[.int .i64 ck, .int .i64 ch, .int .i64 ct, .int .i64 cq, .int .i64 cv], .slice (some ⟨p, 0, none⟩) ps.length pc]) (by simp [results, Try.results15, go_sem, a0, a1, a2, a3, a4, b0, b1, b2, b3, b4]) rfl
    ⟨s, l, c, sh, q, o, m, cap', zs, ck, ch, ct, cq, cv, p, pc, ps, rfl, by omega, RW, hm, ⟨own_base LS.own (by omega), LS.len⟩, B2⟩

end Go.Proofs.Ytdabmnhbmdaodaa
