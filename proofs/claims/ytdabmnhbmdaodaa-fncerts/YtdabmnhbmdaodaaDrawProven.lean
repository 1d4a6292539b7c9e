/- What the model's draw of a group, a shelf, a stamp, a value and a list of seals out of the code leaves; the bytes can be read. -/
import Derived.Test.YtdabmnhbmdaodaaDrawCert
import Derived.Test.YtdabmnhbmdaodaaSpecProven
namespace Go.Proofs.Ytdabmnhbmdaodaa
open Go.RowKit

theorem sevenC {w : World} {g g' : Nat} {t t' : TypeId} {v0 v1 v2 v3 v4 u0 u1 : Value} (h : Box w g t #[v0, v1, v2, v3, v4]) (h' : Box w g' t' #[u0, u1]) :
    w.cell? ⟨g, 0, none⟩ = some v0 ∧ w.cell? ⟨g, 1, none⟩ = some v1 ∧ w.cell? ⟨g, 2, none⟩ = some v2 ∧ w.cell? ⟨g, 3, none⟩ = some v3 ∧ w.cell? ⟨g, 4, none⟩ = some v4 ∧ w.cell? ⟨g', 0, none⟩ = some u0 ∧ w.cell? ⟨g', 1, none⟩ = some u1 :=
  ⟨h.cell 0, h.cell 1, h.cell 2, h.cell 3, h.cell 4, h'.cell 0, h'.cell 1⟩

/-- A group, a shelf, a stamp, a value and a list of at most twenty seals. -/
def MadeProven (w : World) (e : Ending) (w' : World) : Prop :=
  ∃ (s l c sh : Int) (q o m cap' : Nat) (zs : List Int) (x ct cq v : Int) (p pc : Nat) (ps : List (Int × Int)),
    e = .returned (.tuple #[.agg #[.int .i64 s, .int .i64 l, .int .i64 c, .int .i64 sh, .slice (some ⟨q, o, none⟩) m cap'], .int .i64 x, .agg #[.int .i64 ct, .int .i64 cq], .int .i64 v, .slice (some ⟨p, 0, none⟩) ps.length pc]) ∧ Row w' w'.heap.size (some ⟨q, o, none⟩) m zs ∧ m ≤ 100 ∧ ListAt w w' 20 p pc ps ∧ Below w.heap.size w w'

set_option maxRecDepth 100000 in
set_option maxHeartbeats 4000000 in
theorem drawProven_any (A : Option Addr) (n cap : Nat) (w : World) (hn : n ≤ 4096) (hB : Bytes w w.heap.size A n) :
    Calls Try.prog 22 #[.slice A n cap] w (MadeProven w) := by
  have hb0 := bel_trans (bel_alloc w (.cells #[.int .i64 0, .int .i64 0, .int .i64 0, .int .i64 0, .slice none 0 0] 33)) (bel_alloc _ (.cells #[.int .i64 0, .int .i64 0] 35))
  have R1 := (Box.new w 33 #[.int .i64 0, .int .i64 0, .int .i64 0, .int .i64 0, .slice none 0 0]).alloc (.cells #[.int .i64 0, .int .i64 0] 35)
  have R2 := Box.new (w.alloc (.cells #[.int .i64 0, .int .i64 0, .int .i64 0, .int .i64 0, .slice none 0 0] 33)) 35 #[.int .i64 0, .int .i64 0]
  simp only [World.size_alloc] at R2
  have HB := Lib.hid hB
  clear hB
  go_enter Try.func22, Try.ntmps22
  go_wp2_with fail
  generalize ((w.alloc _).alloc _ : World) = w0 at hb0 R1 R2 ⊢
  refine (l1New_any A n cap w0 hn ((HB.out.below hb0 (Nat.le_refl _)).more hb0.size)).mono ?_
  rintro e w1 ⟨g, hg, rfl, hc1, hb1⟩
  have R1a := R1.later hb1 R1.lt
  have R2a := R2.later hb1 R2.lt
  have E1 := bel_trans hb0 hb1
  have hg0 : w.heap.size + 1 < g := Nat.lt_of_lt_of_le R2.lt hg
  have hgl := hc1.lt
  clear R1 R2 hb0 hb1
  go_wp2_with fail
  refine (l1DrawAny_any g A n cap w1 hc1).mono ?_
  rintro e w2 ⟨s, l, c, sh, q, o, m, cap', zs, hq, rfl, hrow2, hm100, hc2, hg2⟩
  have R1b := R1a.kept hg2 (by intro e; injection e with e; omega)
  have R2b := R2a.kept hg2 (by intro e; injection e with e; omega)
  have E2 := bel_grown E1 hg2 (by omega)
  have hgq : g ≠ q := by omega
  have hgw2 := hc2.lt
  have HML : Hid (m ≤ maxLen) := by show m ≤ maxLen; unfold maxLen; omega
  clear hc1 hg2 E1 R1a R2a
  have U := Box.new w2 33 #[.int .i64 s, .int .i64 l, .int .i64 c, .int .i64 sh, .slice (some ⟨q, o, none⟩) m cap']
  have hb3 := bel_alloc w2 (.cells #[.int .i64 s, .int .i64 l, .int .i64 c, .int .i64 sh, .slice (some ⟨q, o, none⟩) m cap'] 33)
  go_wp2_with fail
  have hc3 := hc2.kept (grown_bel hb3 none) (fun q hq => by cases hq)
  have E3 := bel_trans E2 hb3
  have hrow3 := hrow2.below hb3 (Nat.le_refl _)
  have R1c := R1b.later hb3 R1b.lt
  have R2c := R2b.later hb3 R2b.lt
  generalize (w2.alloc _ : World) = w3 at U hb3 hc3 E3 hrow3 R1c R2c ⊢
  obtain ⟨P, hP⟩ : ∃ P, P = w2.heap.size := ⟨_, rfl⟩
  rw [← hP] at U hrow3 hgw2 ⊢
  clear hc2 E2 hrow2 hb3 hP R1b R2b
  refine (l1Below_any g A n cap 3 w3 (by omega) hc3).mono ?_
  rintro e w4 ⟨x, ⟨hx0, hx1⟩, rfl, hc4, hg4⟩
  have U4 := U.kept hg4 (by intro e; injection e with e; omega)
  have R1d := R1c.kept hg4 (by intro e; injection e with e; omega)
  have R2d := R2c.kept hg4 (by intro e; injection e with e; omega)
  have hrow4 := hrow3.keptB (Nat.le_of_lt U.lt) hg4 (fun k hk => by injection hk with hk; exact .inr (by omega))
  have E4 := bel_grown E3 hg4 (by omega)
  clear U hrow3 E3 hc3 hg4 R1c R2c
  go_wp2_with fail
  refine (l2Draw_any g A n cap w4 hc4).mono ?_
  rintro e w5 ⟨ct, cq, rfl, hc5, hg5⟩
  have U5 := U4.kept hg5 (by intro e; injection e with e; omega)
  have R1e := R1d.kept hg5 (by intro e; injection e with e; omega)
  have R2e := R2d.kept hg5 (by intro e; injection e with e; omega)
  have hrow5 := hrow4.keptB (Nat.le_of_lt U4.lt) hg5 (fun k hk => by injection hk with hk; exact .inr (by omega))
  have E5 := bel_grown E4 hg5 (by omega)
  clear U4 hrow4 E4 hc4 hg5 R1d R2d
  have T := Box.new w5 35 #[.int .i64 ct, .int .i64 cq]
  have hb6 := bel_alloc w5 (.cells #[.int .i64 ct, .int .i64 cq] 35)
  go_wp2_with fail
  have hc6 := hc5.kept (grown_bel hb6 none) (fun q hq => by cases hq)
  have E6 := bel_trans E5 hb6
  have U6 := U5.later hb6 U5.lt
  have R1f := R1e.later hb6 R1e.lt
  have R2f := R2e.later hb6 R2e.lt
  have hPl := U5.lt
  have hrow6 := hrow5.below hb6 (by omega)
  generalize (w5.alloc _ : World) = w6 at T hb6 hc6 E6 U6 hrow6 R1f R2f ⊢
  obtain ⟨Q, hQ⟩ : ∃ Q, Q = w5.heap.size := ⟨_, rfl⟩
  rw [← hQ] at T hPl ⊢
  clear hc5 E5 hrow5 hb6 hQ U5 R1e R2e
  refine (l1Below_any g A n cap 3 w6 (by omega) hc6).mono ?_
  rintro e w7 ⟨v, ⟨hv0, hv1⟩, rfl, hc7, hg7⟩
  have U7 := U6.kept hg7 (by intro e; injection e with e; omega)
  have T7 := T.kept hg7 (by intro e; injection e with e; omega)
  have R1g := R1f.kept hg7 (by intro e; injection e with e; omega)
  have R2g := R2f.kept hg7 (by intro e; injection e with e; omega)
  have hrow7 := hrow6.keptB (Nat.le_of_lt U6.lt) hg7 (fun k hk => by injection hk with hk; exact .inr (by omega))
  have E7 := bel_grown E6 hg7 (by omega)
  clear U6 T hrow6 E6 hc6 hg7 R1f R2f
  obtain ⟨d0, d1, d2, d3, d4, t0, t1⟩ := sevenC U7 T7
  have hP7 := U7.lt
  have hQ7 := T7.lt
  have n1 : P ≠ w.heap.size := by omega
  have n2 : P ≠ w.heap.size + 1 := by omega
  have n3 : Q ≠ w.heap.size := by omega
  have n4 : Q ≠ w.heap.size + 1 := by omega
  have n1' : w.heap.size ≠ P := by omega
  have n2' : w.heap.size + 1 ≠ P := by omega
  have n3' : w.heap.size ≠ Q := by omega
  have n4' : w.heap.size + 1 ≠ Q := by omega
  have hPQ : P ≠ Q := by omega
  have hQP : Q ≠ P := by omega
  go_wp2_with fail
  go_region_held3 (fun w' => w'.cell? ⟨P, 0, none⟩ = some (.int .i64 s) ∧ w'.cell? ⟨P, 1, none⟩ = some (.int .i64 l) ∧ w'.cell? ⟨P, 2, none⟩ = some (.int .i64 c) ∧ w'.cell? ⟨P, 3, none⟩ = some (.int .i64 sh) ∧ w'.cell? ⟨P, 4, none⟩ = some (.slice (some ⟨q, o, none⟩) m cap') ∧ w'.cell? ⟨Q, 0, none⟩ = some (.int .i64 ct) ∧ w'.cell? ⟨Q, 1, none⟩ = some (.int .i64 cq))
    (first | (with_reducible exact K9) | (with_reducible exact K8) | (with_reducible exact sevenC (U9.far5 n1' _ _ _ _ _) (T9.far5 n3' _ _ _ _ _)) | (with_reducible exact sevenC ((U9.far5 n1' _ _ _ _ _).far2 n2' _ _) ((T9.far5 n3' _ _ _ _ _).far2 n4' _ _)) | go_keep)
    (first
      | (go_at_call 59; refine (l4Ready_is x ct cq v _).mono ?_; rintro e w8 ⟨rfl, hb8⟩; have F8 := bel_drew' hb8; have U8 := U7.later F8 U7.lt; have T8 := T7.later F8 T7.lt; have K8 := sevenC U8 T8; have hc8 := hc7.kept (grown_bel F8 none) (fun q hq => by cases hq); have hrow8 := hrow7.below F8 (Nat.le_of_lt hP7))
      | (go_at_call 39; refine (l4Draw_any g A n cap s l c sh q o m cap' zs 1 x ct cq v w8 HML.out hc8 (hrow8.more (Nat.le_of_lt U8.lt)) hgq).mono ?_; rintro e w9 ⟨p, pc, ps, rfl, hown9, hl9, hc9, hg9⟩; have U9 := U8.kept hg9 (by intro e; injection e with e; omega); have T9 := T8.kept hg9 (by intro e; injection e with e; omega); have K9 := sevenC U9 T9; have R1h := (R1g.later F8 R1g.lt).kept hg9 (by intro e; injection e with e; omega); have R2h := (R2g.later F8 R2g.lt).kept hg9 (by intro e; injection e with e; omega); have y0 := R1h.five; have y1 := R2h.two; have fz1 := R1h.frozen; have fz2 := R2h.frozen))
  have E9 := bel_grown (bel_trans E7 F8) hg9 (by omega)
  have hrow9 := hrow8.keptB (Nat.le_of_lt U8.lt) hg9 (fun k hk => by injection hk with hk; exact .inr (by omega))
  have hpw := (hown9.lt p rfl).1
  have hE8 := (bel_trans E7 F8).size
  have hF8 := F8.size
  have LS9 : ListAt w w9 20 p pc ps := ⟨own_base hown9 (by omega), hl9⟩
  have hP9 := U9.lt
  have HROW := Lib.hid hrow9
  have HLS := Lib.hid LS9
  obtain ⟨a0, a1, a2, a3, a4⟩ := y0
  obtain ⟨b0, b1⟩ := y1
  clear hrow9 LS9 hown9 hg9 hc9 hc8 hc7 K8 K9 U7 U8 T7 T8 R1g R2g hrow7 hrow8 hb8 F8
  go_wp2
  have G1 := grown5 w9 w.heap.size (.int .i64 s) (.int .i64 l) (.int .i64 c) (.int .i64 sh) (.slice (some ⟨q, o, none⟩) m cap')
  have G2 := grown2 (((((w9.setCell ⟨w.heap.size, 0, none⟩ (.int .i64 s)).setCell ⟨w.heap.size, 1, none⟩ (.int .i64 l)).setCell ⟨w.heap.size, 2, none⟩ (.int .i64 c)).setCell ⟨w.heap.size, 3, none⟩ (.int .i64 sh)).setCell ⟨w.heap.size, 4, none⟩ (.slice (some ⟨q, o, none⟩) m cap')) (w.heap.size + 1) (.int .i64 ct) (.int .i64 cq)
  have B2 := bel_grown (bel_grown E9 G1 (Nat.le_refl _)) G2 (by omega)
  have RW := (HROW.out.keptB (Nat.le_of_lt hP9) G1 (fun k hk => by injection hk with hk; exact .inr (by omega))).keptB (Nat.le_trans (Nat.le_of_lt hP9) G1.size) G2 (fun k hk => by injection hk with hk; exact .inr (by omega))
  have LS := (HLS.out.kept G1 (fun x hx => by injection hx with hx; omega)).kept G2 (fun x hx => by injection hx with hx; omega)
  exact bodyPost_ret (v := .tuple #[.agg #[.int .i64 s, .int .i64 l, .int .i64 c, .int .i64 sh, .slice (some ⟨q, o, none⟩) m cap'], .int .i64 x, .agg #[.int .i64 ct, .int .i64 cq], .int .i64 v, .slice (some ⟨p, 0, none⟩) ps.length pc]) (by simp [results, Try.results22, go_sem, a0, a1, a2, a3, a4, b0, b1]) rfl
    ⟨s, l, c, sh, q, o, m, cap', zs, x, ct, cq, v, p, pc, ps, rfl, RW.more (Nat.le_trans (Nat.le_of_lt hP9) (Nat.le_trans G1.size G2.size)), hm100, LS, B2⟩

end Go.Proofs.Ytdabmnhbmdaodaa
