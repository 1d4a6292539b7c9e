/- CodeReady answers the code of the first objection that applies: its contract; conditions: the sizes. -/
import Derived.Test.YtjdepjpjjgkmbaaGreatReady2
namespace Go.Proofs.YtjdepjpjjgkmbaaGreat
open Go.RowKit

/-- The list of the objections, in their block. -/
def obCells : Array Value := #[.int .i64 1, .func (Fn.func 166) #[] #[], .int .i64 1, .func (Fn.func 167) #[] #[], .int .i64 2, .func (Fn.func 168) #[] #[], .int .i64 3, .func (Fn.func 169) #[] #[], .int .i64 4, .func (Fn.func 170) #[] #[], .int .i64 4, .func (Fn.func 171) #[] #[], .int .i64 4, .func (Fn.func 172) #[] #[]]
theorem objections_is (w : World) :
    Calls Tryz.prog 111 #[] w fun e w' => e = .returned (.slice (some ⟨w.heap.size, 0, none⟩) 7 7) ∧ Below w.heap.size w w' ∧ Box w' w.heap.size 156 obCells := by
  have E := bel_alloc w (.cells obCells 156)
  have B := Box.new w 156 obCells
  unfold obCells at E B
  go_enter Tryz.func111, Tryz.ntmps111
  go_wp2
  go_ret
  exact ⟨rfl, E, B⟩

section
variable {s l c sh : Int} {A : Option Addr} {n cap : Nat} {zs : List Int} {rt rq rv : Int} {X : Option Addr} {x xc : Nat} {ps : List (Int × Int)} {Y : Option Addr} {y yc : Nat} {os : List Opn} {N : Array Value} {k1 k2 k3 k4 k5 t1 t2 v1 o1 o2 v2 : Int} {P : Option Addr} {p pc : Nat} {Q : Option Addr} {q qc : Nat} {l1 l2 v3 : Int} {cs ms : List (Int × Int)} {w : World}

theorem Below.len {a b : World} (h : Below a.heap.size a b) {g : Nat} (hg : g < a.heap.size) : g < b.heap.size := Nat.lt_of_lt_of_le hg h.size

set_option maxHeartbeats 8000000 in
theorem codeReady_is (hN : N = #[.int .i64 k1, .int .i64 k2, .int .i64 k3, .int .i64 k4, .int .i64 k5, .int .i64 t1, .int .i64 t2, .int .i64 v1, .int .i64 o1, .int .i64 o2, .int .i64 v2, .slice P p pc, .slice Q q qc, .int .i64 l1, .int .i64 l2, .int .i64 v3]) (I : In8 w A n zs X x xc ps Y y yc os P p cs Q q ms) {z : Int} (h : codeN s l c sh zs rt rq rv ps os k1 k2 k3 k4 k5 t1 t2 v1 o1 o2 v2 l1 l2 v3 cs ms = z) :
    Calls Tryz.prog 55 #[.agg #[.int .i64 s, .int .i64 l, .int .i64 c, .int .i64 sh, .slice A n cap], .agg #[.int .i64 rt, .int .i64 rq, .int .i64 rv, .slice X x xc, .slice Y y yc], .agg N] w fun e w' => e = .returned (.int .i64 z) ∧ Below w.heap.size w w' := by
  have K0 := K8.start w N s l c sh cap rt rq rv I
  have HZ := Lib.hid (sizeN hN)
  have HN := Lib.hid hN
  have HD := Lib.hid h
  clear hN I h
  go_enter Tryz.func55, Tryz.ntmps55
  go_wp2_with fail
  generalize (((w.alloc _).alloc _).alloc _ : World) = w0 at K0 ⊢
  refine (objections_is w0).mono ?_
  rintro e w1 ⟨rfl, hb, B⟩
  have K1 := K0.later hb
  have hL := K0.nb.lt
  generalize w0.heap.size = S at B hL ⊢
  clear K0 hb
  go_wp2_with fail
  go_loopw [11] (fun i wr => ∃ k : Nat, k ≤ 7 ∧ i = .int .i64 k ∧ Hid (∀ j, j < k → obB s l c sh zs rt rq rv ps os k1 k2 k3 k4 k5 t1 t2 v1 o1 o2 v2 l1 l2 v3 cs ms j = false) ∧ K8 w wr N s l c sh A n cap zs rt rq rv X x xc ps Y y yc os P p cs Q q ms ∧ Box wr S 156 obCells)
    (fun i _ => 7 - (intOf i).toNat)
  case atStart => exact ⟨0, by omega, rfl, fun j hj => absurd hj (by omega), K1, B⟩
  case round =>
    clear K1 B
    obtain ⟨k, hk, rfl, hall, K, B⟩ := hrel
    by_cases hlt : k < 7
    · have hcase : k = 0 ∨ k = 1 ∨ k = 2 ∨ k = 3 ∨ k = 4 ∨ k = 5 ∨ k = 6 := by omega
      rcases hcase with rfl | rfl | rfl | rfl | rfl | rfl | rfl
      · have c0 : wr.cell? ⟨S, 0, none⟩ = some (.int .i64 1) := B.cell 0
        have c1 : wr.cell? ⟨S, 1, none⟩ = some (.func (Fn.func 166) #[] #[]) := B.cell 1
        have D := Box.new wr 156 #[.int .i64 1, .func (Fn.func 166) #[] #[]]
        have K1 := K.later (bel_alloc wr (.cells #[.int .i64 1, .func (Fn.func 166) #[] #[]] 156))
        have B1 := B.later (bel_alloc wr (.cells #[.int .i64 1, .func (Fn.func 166) #[] #[]] 156)) B.lt
        have hBl := B.lt
        obtain ⟨g0, g1, g2, g3, g4⟩ := K.gb.five
        obtain ⟨r0, r1, r2, r3, r4⟩ := K.rb.five
        have hgl := K.gb.lt
        have hrl := K.rb.lt
        rcases hv : obB s l c sh zs rt rq rv ps os k1 k2 k3 k4 k5 t1 t2 v1 o1 o2 v2 l1 l2 v3 cs ms 0 with _ | _
        · have HS : Hid (∀ j, j < 1 → obB s l c sh zs rt rq rv ps os k1 k2 k3 k4 k5 t1 t2 v1 o1 o2 v2 l1 l2 v3 cs ms j = false) := fun j hj => by
            by_cases e : j = 0
            · subst e; exact hv
            · exact hall.out j (by omega)
          have HV := Lib.hid hv
          clear hv
          go_wp2_with (refine wpList_load_box 85 _ rfl (w.heap.size + 1 + 1) rfl 85 N K1.nb _ Tryz.underlying85 rfl HZ.out (by first | simp [Region.wanted, yielded] | (simp [Region.wanted, yielded, Act.put] <;> omega)) ?_)
          generalize (wr.alloc _ : World) = w2 at K1 B1 D ⊢
          refine (ob0_is HN.out K1.inp HV.out).mono ?_
          rintro e w3 ⟨rfl, hb⟩
          have K2 := K1.later hb
          have B2 := B1.later hb B1.lt
          clear K K1 B B1 D hb c0 c1 g0 g1 g2 g3 g4 r0 r1 r2 r3 r4
          go_wp2
          go_roundw
          case rel => exact ⟨1, by omega, by go_num, HS, K2, B2⟩
          case measure => simp [intOf]
        · have HC : Hid (z = 1) := Lib.hid (by rw [← HD.out]; exact code_at (k := 0) hall.out (by omega) hv)
          have HV := Lib.hid hv
          clear hv
          go_wp2_with (refine wpList_load_box 85 _ rfl (w.heap.size + 1 + 1) rfl 85 N K1.nb _ Tryz.underlying85 rfl HZ.out (by first | simp [Region.wanted, yielded] | (simp [Region.wanted, yielded, Act.put] <;> omega)) ?_)
          generalize (wr.alloc _ : World) = w2 at K1 B1 D ⊢
          refine (ob0_is HN.out K1.inp HV.out).mono ?_
          rintro e w3 ⟨rfl, hb⟩
          have E := bel_trans K1.bel hb
          obtain ⟨d0, d1⟩ := (D.later hb D.lt).two
          clear K K1 B B1 D hb c0 c1 g0 g1 g2 g3 g4 r0 r1 r2 r3 r4
          go_wp2
          go_ret
          exact ⟨by rw [HC.out]; rfl, E⟩
      · have c0 : wr.cell? ⟨S, 2, none⟩ = some (.int .i64 1) := B.cell 2
        have c1 : wr.cell? ⟨S, 3, none⟩ = some (.func (Fn.func 167) #[] #[]) := B.cell 3
        have D := Box.new wr 156 #[.int .i64 1, .func (Fn.func 167) #[] #[]]
        have K1 := K.later (bel_alloc wr (.cells #[.int .i64 1, .func (Fn.func 167) #[] #[]] 156))
        have B1 := B.later (bel_alloc wr (.cells #[.int .i64 1, .func (Fn.func 167) #[] #[]] 156)) B.lt
        have hBl := B.lt
        obtain ⟨g0, g1, g2, g3, g4⟩ := K.gb.five
        obtain ⟨r0, r1, r2, r3, r4⟩ := K.rb.five
        have hgl := K.gb.lt
        have hrl := K.rb.lt
        rcases hv : obB s l c sh zs rt rq rv ps os k1 k2 k3 k4 k5 t1 t2 v1 o1 o2 v2 l1 l2 v3 cs ms 1 with _ | _
        · have HS : Hid (∀ j, j < 2 → obB s l c sh zs rt rq rv ps os k1 k2 k3 k4 k5 t1 t2 v1 o1 o2 v2 l1 l2 v3 cs ms j = false) := fun j hj => by
            by_cases e : j = 1
            · subst e; exact hv
            · exact hall.out j (by omega)
          have HV := Lib.hid hv
          clear hv
          go_wp2_with (refine wpList_load_box 85 _ rfl (w.heap.size + 1 + 1) rfl 85 N K1.nb _ Tryz.underlying85 rfl HZ.out (by first | simp [Region.wanted, yielded] | (simp [Region.wanted, yielded, Act.put] <;> omega)) ?_)
          generalize (wr.alloc _ : World) = w2 at K1 B1 D ⊢
          refine (ob1_is HN.out K1.inp HV.out).mono ?_
          rintro e w3 ⟨rfl, hb⟩
          have K2 := K1.later hb
          have B2 := B1.later hb B1.lt
          clear K K1 B B1 D hb c0 c1 g0 g1 g2 g3 g4 r0 r1 r2 r3 r4
          go_wp2
          go_roundw
          case rel => exact ⟨2, by omega, by go_num, HS, K2, B2⟩
          case measure => simp [intOf]
        · have HC : Hid (z = 1) := Lib.hid (by rw [← HD.out]; exact code_at (k := 1) hall.out (by omega) hv)
          have HV := Lib.hid hv
          clear hv
          go_wp2_with (refine wpList_load_box 85 _ rfl (w.heap.size + 1 + 1) rfl 85 N K1.nb _ Tryz.underlying85 rfl HZ.out (by first | simp [Region.wanted, yielded] | (simp [Region.wanted, yielded, Act.put] <;> omega)) ?_)
          generalize (wr.alloc _ : World) = w2 at K1 B1 D ⊢
          refine (ob1_is HN.out K1.inp HV.out).mono ?_
          rintro e w3 ⟨rfl, hb⟩
          have E := bel_trans K1.bel hb
          obtain ⟨d0, d1⟩ := (D.later hb D.lt).two
          clear K K1 B B1 D hb c0 c1 g0 g1 g2 g3 g4 r0 r1 r2 r3 r4
          go_wp2
          go_ret
          exact ⟨by rw [HC.out]; rfl, E⟩
      · have c0 : wr.cell? ⟨S, 4, none⟩ = some (.int .i64 2) := B.cell 4
        have c1 : wr.cell? ⟨S, 5, none⟩ = some (.func (Fn.func 168) #[] #[]) := B.cell 5
        have D := Box.new wr 156 #[.int .i64 2, .func (Fn.func 168) #[] #[]]
        have K1 := K.later (bel_alloc wr (.cells #[.int .i64 2, .func (Fn.func 168) #[] #[]] 156))
        have B1 := B.later (bel_alloc wr (.cells #[.int .i64 2, .func (Fn.func 168) #[] #[]] 156)) B.lt
        have hBl := B.lt
        obtain ⟨g0, g1, g2, g3, g4⟩ := K.gb.five
        obtain ⟨r0, r1, r2, r3, r4⟩ := K.rb.five
        have hgl := K.gb.lt
        have hrl := K.rb.lt
        rcases hv : obB s l c sh zs rt rq rv ps os k1 k2 k3 k4 k5 t1 t2 v1 o1 o2 v2 l1 l2 v3 cs ms 2 with _ | _
        · have HS : Hid (∀ j, j < 3 → obB s l c sh zs rt rq rv ps os k1 k2 k3 k4 k5 t1 t2 v1 o1 o2 v2 l1 l2 v3 cs ms j = false) := fun j hj => by
            by_cases e : j = 2
            · subst e; exact hv
            · exact hall.out j (by omega)
          have HV := Lib.hid hv
          clear hv
          go_wp2_with (refine wpList_load_box 85 _ rfl (w.heap.size + 1 + 1) rfl 85 N K1.nb _ Tryz.underlying85 rfl HZ.out (by first | simp [Region.wanted, yielded] | (simp [Region.wanted, yielded, Act.put] <;> omega)) ?_)
          generalize (wr.alloc _ : World) = w2 at K1 B1 D ⊢
          refine (ob2_is HN.out K1.inp HV.out).mono ?_
          rintro e w3 ⟨rfl, hb⟩
          have K2 := K1.later hb
          have B2 := B1.later hb B1.lt
          clear K K1 B B1 D hb c0 c1 g0 g1 g2 g3 g4 r0 r1 r2 r3 r4
          go_wp2
          go_roundw
          case rel => exact ⟨3, by omega, by go_num, HS, K2, B2⟩
          case measure => simp [intOf]
        · have HC : Hid (z = 2) := Lib.hid (by rw [← HD.out]; exact code_at (k := 2) hall.out (by omega) hv)
          have HV := Lib.hid hv
          clear hv
          go_wp2_with (refine wpList_load_box 85 _ rfl (w.heap.size + 1 + 1) rfl 85 N K1.nb _ Tryz.underlying85 rfl HZ.out (by first | simp [Region.wanted, yielded] | (simp [Region.wanted, yielded, Act.put] <;> omega)) ?_)
          generalize (wr.alloc _ : World) = w2 at K1 B1 D ⊢
          refine (ob2_is HN.out K1.inp HV.out).mono ?_
          rintro e w3 ⟨rfl, hb⟩
          have E := bel_trans K1.bel hb
          obtain ⟨d0, d1⟩ := (D.later hb D.lt).two
          clear K K1 B B1 D hb c0 c1 g0 g1 g2 g3 g4 r0 r1 r2 r3 r4
          go_wp2
          go_ret
          exact ⟨by rw [HC.out]; rfl, E⟩
      · have c0 : wr.cell? ⟨S, 6, none⟩ = some (.int .i64 3) := B.cell 6
        have c1 : wr.cell? ⟨S, 7, none⟩ = some (.func (Fn.func 169) #[] #[]) := B.cell 7
        have D := Box.new wr 156 #[.int .i64 3, .func (Fn.func 169) #[] #[]]
        have K1 := K.later (bel_alloc wr (.cells #[.int .i64 3, .func (Fn.func 169) #[] #[]] 156))
        have B1 := B.later (bel_alloc wr (.cells #[.int .i64 3, .func (Fn.func 169) #[] #[]] 156)) B.lt
        have hBl := B.lt
        obtain ⟨g0, g1, g2, g3, g4⟩ := K.gb.five
        obtain ⟨r0, r1, r2, r3, r4⟩ := K.rb.five
        have hgl := K.gb.lt
        have hrl := K.rb.lt
        rcases hv : obB s l c sh zs rt rq rv ps os k1 k2 k3 k4 k5 t1 t2 v1 o1 o2 v2 l1 l2 v3 cs ms 3 with _ | _
        · have HS : Hid (∀ j, j < 4 → obB s l c sh zs rt rq rv ps os k1 k2 k3 k4 k5 t1 t2 v1 o1 o2 v2 l1 l2 v3 cs ms j = false) := fun j hj => by
            by_cases e : j = 3
            · subst e; exact hv
            · exact hall.out j (by omega)
          have HV := Lib.hid hv
          clear hv
          go_wp2_with (refine wpList_load_box 85 _ rfl (w.heap.size + 1 + 1) rfl 85 N K1.nb _ Tryz.underlying85 rfl HZ.out (by first | simp [Region.wanted, yielded] | (simp [Region.wanted, yielded, Act.put] <;> omega)) ?_)
          generalize (wr.alloc _ : World) = w2 at K1 B1 D ⊢
          refine (ob3_is HN.out K1.inp HV.out).mono ?_
          rintro e w3 ⟨rfl, hb⟩
          have K2 := K1.later hb
          have B2 := B1.later hb B1.lt
          clear K K1 B B1 D hb c0 c1 g0 g1 g2 g3 g4 r0 r1 r2 r3 r4
          go_wp2
          go_roundw
          case rel => exact ⟨4, by omega, by go_num, HS, K2, B2⟩
          case measure => simp [intOf]
        · have HC : Hid (z = 3) := Lib.hid (by rw [← HD.out]; exact code_at (k := 3) hall.out (by omega) hv)
          have HV := Lib.hid hv
          clear hv
          go_wp2_with (refine wpList_load_box 85 _ rfl (w.heap.size + 1 + 1) rfl 85 N K1.nb _ Tryz.underlying85 rfl HZ.out (by first | simp [Region.wanted, yielded] | (simp [Region.wanted, yielded, Act.put] <;> omega)) ?_)
          generalize (wr.alloc _ : World) = w2 at K1 B1 D ⊢
          refine (ob3_is HN.out K1.inp HV.out).mono ?_
          rintro e w3 ⟨rfl, hb⟩
          have E := bel_trans K1.bel hb
          obtain ⟨d0, d1⟩ := (D.later hb D.lt).two
          clear K K1 B B1 D hb c0 c1 g0 g1 g2 g3 g4 r0 r1 r2 r3 r4
          go_wp2
          go_ret
          exact ⟨by rw [HC.out]; rfl, E⟩
      · have c0 : wr.cell? ⟨S, 8, none⟩ = some (.int .i64 4) := B.cell 8
        have c1 : wr.cell? ⟨S, 9, none⟩ = some (.func (Fn.func 170) #[] #[]) := B.cell 9
        have D := Box.new wr 156 #[.int .i64 4, .func (Fn.func 170) #[] #[]]
        have K1 := K.later (bel_alloc wr (.cells #[.int .i64 4, .func (Fn.func 170) #[] #[]] 156))
        have B1 := B.later (bel_alloc wr (.cells #[.int .i64 4, .func (Fn.func 170) #[] #[]] 156)) B.lt
        have hBl := B.lt
        obtain ⟨g0, g1, g2, g3, g4⟩ := K.gb.five
        obtain ⟨r0, r1, r2, r3, r4⟩ := K.rb.five
        have hgl := K.gb.lt
        have hrl := K.rb.lt
        rcases hv : obB s l c sh zs rt rq rv ps os k1 k2 k3 k4 k5 t1 t2 v1 o1 o2 v2 l1 l2 v3 cs ms 4 with _ | _
        · have HS : Hid (∀ j, j < 5 → obB s l c sh zs rt rq rv ps os k1 k2 k3 k4 k5 t1 t2 v1 o1 o2 v2 l1 l2 v3 cs ms j = false) := fun j hj => by
            by_cases e : j = 4
            · subst e; exact hv
            · exact hall.out j (by omega)
          have HV := Lib.hid hv
          clear hv
          go_wp2_with (refine wpList_load_box 85 _ rfl (w.heap.size + 1 + 1) rfl 85 N K1.nb _ Tryz.underlying85 rfl HZ.out (by first | simp [Region.wanted, yielded] | (simp [Region.wanted, yielded, Act.put] <;> omega)) ?_)
          generalize (wr.alloc _ : World) = w2 at K1 B1 D ⊢
          refine (ob4_is HN.out K1.inp HV.out).mono ?_
          rintro e w3 ⟨rfl, hb⟩
          have K2 := K1.later hb
          have B2 := B1.later hb B1.lt
          clear K K1 B B1 D hb c0 c1 g0 g1 g2 g3 g4 r0 r1 r2 r3 r4
          go_wp2
          go_roundw
          case rel => exact ⟨5, by omega, by go_num, HS, K2, B2⟩
          case measure => simp [intOf]
        · have HC : Hid (z = 4) := Lib.hid (by rw [← HD.out]; exact code_at (k := 4) hall.out (by omega) hv)
          have HV := Lib.hid hv
          clear hv
          go_wp2_with (refine wpList_load_box 85 _ rfl (w.heap.size + 1 + 1) rfl 85 N K1.nb _ Tryz.underlying85 rfl HZ.out (by first | simp [Region.wanted, yielded] | (simp [Region.wanted, yielded, Act.put] <;> omega)) ?_)
          generalize (wr.alloc _ : World) = w2 at K1 B1 D ⊢
          refine (ob4_is HN.out K1.inp HV.out).mono ?_
          rintro e w3 ⟨rfl, hb⟩
          have E := bel_trans K1.bel hb
          obtain ⟨d0, d1⟩ := (D.later hb D.lt).two
          clear K K1 B B1 D hb c0 c1 g0 g1 g2 g3 g4 r0 r1 r2 r3 r4
          go_wp2
          go_ret
          exact ⟨by rw [HC.out]; rfl, E⟩
      · have c0 : wr.cell? ⟨S, 10, none⟩ = some (.int .i64 4) := B.cell 10
        have c1 : wr.cell? ⟨S, 11, none⟩ = some (.func (Fn.func 171) #[] #[]) := B.cell 11
        have D := Box.new wr 156 #[.int .i64 4, .func (Fn.func 171) #[] #[]]
        have K1 := K.later (bel_alloc wr (.cells #[.int .i64 4, .func (Fn.func 171) #[] #[]] 156))
        have B1 := B.later (bel_alloc wr (.cells #[.int .i64 4, .func (Fn.func 171) #[] #[]] 156)) B.lt
        have hBl := B.lt
        obtain ⟨g0, g1, g2, g3, g4⟩ := K.gb.five
        obtain ⟨r0, r1, r2, r3, r4⟩ := K.rb.five
        have hgl := K.gb.lt
        have hrl := K.rb.lt
        rcases hv : obB s l c sh zs rt rq rv ps os k1 k2 k3 k4 k5 t1 t2 v1 o1 o2 v2 l1 l2 v3 cs ms 5 with _ | _
        · have HS : Hid (∀ j, j < 6 → obB s l c sh zs rt rq rv ps os k1 k2 k3 k4 k5 t1 t2 v1 o1 o2 v2 l1 l2 v3 cs ms j = false) := fun j hj => by
            by_cases e : j = 5
            · subst e; exact hv
            · exact hall.out j (by omega)
          have HV := Lib.hid hv
          clear hv
          go_wp2_with (refine wpList_load_box 85 _ rfl (w.heap.size + 1 + 1) rfl 85 N K1.nb _ Tryz.underlying85 rfl HZ.out (by first | simp [Region.wanted, yielded] | (simp [Region.wanted, yielded, Act.put] <;> omega)) ?_)
          generalize (wr.alloc _ : World) = w2 at K1 B1 D ⊢
          refine (ob5_is HN.out K1.inp HV.out).mono ?_
          rintro e w3 ⟨rfl, hb⟩
          have K2 := K1.later hb
          have B2 := B1.later hb B1.lt
          clear K K1 B B1 D hb c0 c1 g0 g1 g2 g3 g4 r0 r1 r2 r3 r4
          go_wp2
          go_roundw
          case rel => exact ⟨6, by omega, by go_num, HS, K2, B2⟩
          case measure => simp [intOf]
        · have HC : Hid (z = 4) := Lib.hid (by rw [← HD.out]; exact code_at (k := 5) hall.out (by omega) hv)
          have HV := Lib.hid hv
          clear hv
          go_wp2_with (refine wpList_load_box 85 _ rfl (w.heap.size + 1 + 1) rfl 85 N K1.nb _ Tryz.underlying85 rfl HZ.out (by first | simp [Region.wanted, yielded] | (simp [Region.wanted, yielded, Act.put] <;> omega)) ?_)
          generalize (wr.alloc _ : World) = w2 at K1 B1 D ⊢
          refine (ob5_is HN.out K1.inp HV.out).mono ?_
          rintro e w3 ⟨rfl, hb⟩
          have E := bel_trans K1.bel hb
          obtain ⟨d0, d1⟩ := (D.later hb D.lt).two
          clear K K1 B B1 D hb c0 c1 g0 g1 g2 g3 g4 r0 r1 r2 r3 r4
          go_wp2
          go_ret
          exact ⟨by rw [HC.out]; rfl, E⟩
      · have c0 : wr.cell? ⟨S, 12, none⟩ = some (.int .i64 4) := B.cell 12
        have c1 : wr.cell? ⟨S, 13, none⟩ = some (.func (Fn.func 172) #[] #[]) := B.cell 13
        have D := Box.new wr 156 #[.int .i64 4, .func (Fn.func 172) #[] #[]]
        have K1 := K.later (bel_alloc wr (.cells #[.int .i64 4, .func (Fn.func 172) #[] #[]] 156))
        have B1 := B.later (bel_alloc wr (.cells #[.int .i64 4, .func (Fn.func 172) #[] #[]] 156)) B.lt
        have hBl := B.lt
        obtain ⟨g0, g1, g2, g3, g4⟩ := K.gb.five
        obtain ⟨r0, r1, r2, r3, r4⟩ := K.rb.five
        have hgl := K.gb.lt
        have hrl := K.rb.lt
        rcases hv : obB s l c sh zs rt rq rv ps os k1 k2 k3 k4 k5 t1 t2 v1 o1 o2 v2 l1 l2 v3 cs ms 6 with _ | _
        · have HS : Hid (∀ j, j < 7 → obB s l c sh zs rt rq rv ps os k1 k2 k3 k4 k5 t1 t2 v1 o1 o2 v2 l1 l2 v3 cs ms j = false) := fun j hj => by
            by_cases e : j = 6
            · subst e; exact hv
            · exact hall.out j (by omega)
          have HV := Lib.hid hv
          clear hv
          go_wp2_with (refine wpList_load_box 85 _ rfl (w.heap.size + 1 + 1) rfl 85 N K1.nb _ Tryz.underlying85 rfl HZ.out (by first | simp [Region.wanted, yielded] | (simp [Region.wanted, yielded, Act.put] <;> omega)) ?_)
          generalize (wr.alloc _ : World) = w2 at K1 B1 D ⊢
          refine (ob6_is HN.out K1.inp HV.out).mono ?_
          rintro e w3 ⟨rfl, hb⟩
          have K2 := K1.later hb
          have B2 := B1.later hb B1.lt
          clear K K1 B B1 D hb c0 c1 g0 g1 g2 g3 g4 r0 r1 r2 r3 r4
          go_wp2
          go_roundw
          case rel => exact ⟨7, by omega, by go_num, HS, K2, B2⟩
          case measure => simp [intOf]
        · have HC : Hid (z = 4) := Lib.hid (by rw [← HD.out]; exact code_at (k := 6) hall.out (by omega) hv)
          have HV := Lib.hid hv
          clear hv
          go_wp2_with (refine wpList_load_box 85 _ rfl (w.heap.size + 1 + 1) rfl 85 N K1.nb _ Tryz.underlying85 rfl HZ.out (by first | simp [Region.wanted, yielded] | (simp [Region.wanted, yielded, Act.put] <;> omega)) ?_)
          generalize (wr.alloc _ : World) = w2 at K1 B1 D ⊢
          refine (ob6_is HN.out K1.inp HV.out).mono ?_
          rintro e w3 ⟨rfl, hb⟩
          have E := bel_trans K1.bel hb
          obtain ⟨d0, d1⟩ := (D.later hb D.lt).two
          clear K K1 B B1 D hb c0 c1 g0 g1 g2 g3 g4 r0 r1 r2 r3 r4
          go_wp2
          go_ret
          exact ⟨by rw [HC.out]; rfl, E⟩
    · obtain rfl : k = 7 := by omega
      have HC : Hid (z = 0) := Lib.hid (by rw [← HD.out]; exact code_none hall.out)
      have E := K.bel
      clear K B
      go_wp2
      go_ret
      exact ⟨by rw [HC.out]; rfl, E⟩

end
end Go.Proofs.YtjdepjpjjgkmbaaGreat
