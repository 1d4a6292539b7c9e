/- What the model's NoteOk answers: its contract. -/
import Derived.Test.YtjdepjpjjgkmbaaGreatSpecNote1
import Derived.Test.YtjdepjpjjgkmbaaGreatNoteShape
namespace Go.Proofs.YtjdepjpjjgkmbaaGreat
open Go.RowKit

theorem specValueB_is {x : Int} {b : Bool} (h : valB x = b) (w : World) : Calls Tryz.prog 196 #[.int .i64 x] w fun e w' => e = .returned (.bool b) ∧ w = w' := h ▸ specValue_any x w

/-- Are from and to right, by the kind's being odd or even? -/
def kpB (s l c sh : Int) (zs : List Int) (k1 k2 k3 : Int) : Bool := if k1 % 2 = 1 then cliB s l c sh zs k2 && srvB s l c sh zs k3 else srvB s l c sh zs k2 && cliB s l c sh zs k3
theorem kp_odd {s l c sh : Int} {zs : List Int} {k1 k2 k3 : Int} (h : k1 % 2 = 1) : kpB s l c sh zs k1 k2 k3 = (cliB s l c sh zs k2 && srvB s l c sh zs k3) := by simp [kpB, h]
theorem kp_even {s l c sh : Int} {zs : List Int} {k1 k2 k3 : Int} (h : k1 % 2 = 0) : kpB s l c sh zs k1 k2 k3 = (srvB s l c sh zs k2 && cliB s l c sh zs k3) := by simp [kpB, h]
theorem kp_kd {s l c sh : Int} {zs : List Int} {k1 k2 k3 : Int} {hv hp : Bool} (h : inB k1 1 6 = true) : kdB s l c sh zs k1 k2 k3 hv hp = (kpB s l c sh zs k1 k2 k3 && emB k1 hv hp) := by
  have hb := inB_true.1 h
  have hc : k1 = 1 ∨ k1 = 2 ∨ k1 = 3 ∨ k1 = 4 ∨ k1 = 5 ∨ k1 = 6 := by omega
  unfold kdB kpB emB
  generalize cliB s l c sh zs k2 = x1
  generalize srvB s l c sh zs k2 = x2
  generalize cliB s l c sh zs k3 = x3
  generalize srvB s l c sh zs k3 = x4
  rcases hc with rfl | rfl | rfl | rfl | rfl | rfl <;> cases hv <;> cases hp <;> cases x1 <;> cases x2 <;> cases x3 <;> cases x4 <;> rfl
theorem kd_out {s l c sh : Int} {zs : List Int} {k1 k2 k3 : Int} {hv hp : Bool} (h : inB k1 1 6 = false) : kdB s l c sh zs k1 k2 k3 hv hp = false := by
  have hb := inB_false.1 h
  simp [kdB, show ¬ k1 = 1 by omega, show ¬ k1 = 2 by omega, show ¬ k1 = 3 by omega, show ¬ k1 = 4 by omega, show ¬ k1 = 5 by omega, show ¬ k1 = 6 by omega]

/-- Behind the first test: the kind and the shelf are right. -/
theorem nt_more {s l c sh : Int} {zs : List Int} {k1 k2 k3 k4 k5 t1 t2 v1 o1 o2 v2 : Int} {ps qs : List (Int × Int)} {l1 l2 v3 : Int} (h1 : inB k1 1 6 = true) (h2 : inB k4 0 100000 = true) (h3 : okB s l c sh zs = true) (h4 : inB k5 0 (sh - 1) = true) :
    ntB s l c sh zs k1 k2 k3 k4 k5 t1 t2 v1 o1 o2 v2 ps qs l1 l2 v3 = (kpB s l c sh zs k1 k2 k3 && (stsB t1 t2 o1 o2 l1 l2 && valsB v1 v2 v3) && fitB ps && fitB qs && emB k1 (hvB t1 t2 v1 ps.length) (hpB o1 o2 v2 l1 l2 v3 qs.length)) := by
  unfold ntB shfB
  rw [kp_kd h1, h2, h3, h4]
  generalize kpB s l c sh zs k1 k2 k3 = x1
  generalize stsB t1 t2 o1 o2 l1 l2 = x2
  generalize valsB v1 v2 v3 = x3
  generalize fitB ps = x4
  generalize fitB qs = x5
  cases x1 <;> cases x2 <;> cases x3 <;> cases x4 <;> cases x5 <;> rfl

set_option maxRecDepth 100000 in
set_option maxHeartbeats 8000000 in
theorem specNote_is (s l c sh : Int) (A : Option Addr) (n cap : Nat) (zs : List Int) (k1 k2 k3 k4 k5 t1 t2 v1 o1 o2 v2 : Int) (P : Option Addr) (p pc : Nat) (Q : Option Addr) (q qc : Nat) (l1 l2 v3 : Int) (ps qs : List (Int × Int)) (w : World) (hm : n ≤ maxLen) (hmp : p ≤ maxLen) (hmq : q ≤ maxLen) (hr : Row w w.heap.size A n zs) (hp : Pairs w w.heap.size P p ps) (hq : Pairs w w.heap.size Q q qs) :
    Calls Tryz.prog 149 #[.agg #[.int .i64 s, .int .i64 l, .int .i64 c, .int .i64 sh, .slice A n cap], .agg #[.int .i64 k1, .int .i64 k2, .int .i64 k3, .int .i64 k4, .int .i64 k5, .int .i64 t1, .int .i64 t2, .int .i64 v1, .int .i64 o1, .int .i64 o2, .int .i64 v2, .slice P p pc, .slice Q q qc, .int .i64 l1, .int .i64 l2, .int .i64 v3]] w fun e w' => e = .returned (.bool (ntB s l c sh zs k1 k2 k3 k4 k5 t1 t2 v1 o1 o2 v2 ps qs l1 l2 v3)) ∧ Below w.heap.size w w' := by
  have K0 := NGP.start w 85 26 #[.int .i64 k1, .int .i64 k2, .int .i64 k3, .int .i64 k4, .int .i64 k5, .int .i64 t1, .int .i64 t2, .int .i64 v1, .int .i64 o1, .int .i64 o2, .int .i64 v2, .slice P p pc, .slice Q q qc, .int .i64 l1, .int .i64 l2, .int .i64 v3] #[.int .i64 s, .int .i64 l, .int .i64 c, .int .i64 sh, .slice A n cap] A n zs P p ps Q q qs hr hp hq
  have HM := Lib.hid hm
  have HMP := Lib.hid hmp
  have HMQ := Lib.hid hmq
  have HLP := Lib.hid hp.1
  have HLQ := Lib.hid hq.1
  clear hr hm hmp hmq hp hq
  obtain ⟨a0, a1, a2, a3, a4, a5, a6, a7, a8, a9, a10, a11, a12, a13, a14, a15⟩ := sixteen K0.nb
  obtain ⟨g0, g1, g2, g3, g4⟩ := K0.gb.five
  rcases h1 : inB k1 1 6 with _ | _
  · have HV := Lib.hid (show ntB s l c sh zs k1 k2 k3 k4 k5 t1 t2 v1 o1 o2 v2 ps qs l1 l2 v3 = false by rw [ntB, kd_out h1]; simp)
    have E := K0.bel
    have H1 := Lib.hid h1
    clear h1
    go_enter Tryz.func149, Tryz.ntmps149
    go_wp2_with (go_at_call 174; refine (l1InB_is H1.out _).mono ?_; rintro e w' ⟨rfl, rfl⟩)
    go_ret
    exact ⟨by rw [HV.out]; rfl, E⟩
  rcases h2 : inB k4 0 100000 with _ | _
  · have HV := Lib.hid (show ntB s l c sh zs k1 k2 k3 k4 k5 t1 t2 v1 o1 o2 v2 ps qs l1 l2 v3 = false by simp [ntB, h2])
    have E := K0.bel
    have H1 := Lib.hid h1
    have H2 := Lib.hid h2
    clear h1 h2
    go_enter Tryz.func149, Tryz.ntmps149
    go_wp2_with (go_at_call 174; first | ((with_reducible refine (l1InB_is H1.out _).mono ?_); rintro e w' ⟨rfl, rfl⟩) | ((with_reducible refine (l1InB_is H2.out _).mono ?_); rintro e w' ⟨rfl, rfl⟩))
    go_ret
    exact ⟨by rw [HV.out]; rfl, E⟩
  rcases h3 : okB s l c sh zs with _ | _
  · have HV := Lib.hid (show ntB s l c sh zs k1 k2 k3 k4 k5 t1 t2 v1 o1 o2 v2 ps qs l1 l2 v3 = false by simp [ntB, shfB, h3])
    have H1 := Lib.hid h1
    have H2 := Lib.hid h2
    have H3 := Lib.hid h3
    clear h1 h2 h3
    go_enter Tryz.func149, Tryz.ntmps149
    go_wp2_with (go_at_call 174; first | ((with_reducible refine (l1InB_is H1.out _).mono ?_); rintro e w' ⟨rfl, rfl⟩) | ((with_reducible refine (l1InB_is H2.out _).mono ?_); rintro e w' ⟨rfl, rfl⟩))
    generalize ((w.alloc _).alloc _ : World) = w0 at K0 a0 a1 a2 a3 a4 a5 a6 a7 a8 a9 a10 a11 a12 a13 a14 a15 g0 g1 g2 g3 g4 ⊢
    refine (specGroupB_is H3.out A n cap w0 HM.out K0.row).mono ?_
    rintro e w1 ⟨rfl, hb⟩
    have E := bel_trans K0.bel hb
    go_wp2
    go_ret
    exact ⟨by rw [HV.out]; rfl, E⟩
  have hsh := okB_sh h3
  generalize h4 : inB k5 0 (sh - 1) = b4
  have HVF := Lib.hid (show b4 = false → ntB s l c sh zs k1 k2 k3 k4 k5 t1 t2 v1 o1 o2 v2 ps qs l1 l2 v3 = false by intro hb4; simp [ntB, shfB, h4, hb4])
  have HVT := Lib.hid (show b4 = true → ntB s l c sh zs k1 k2 k3 k4 k5 t1 t2 v1 o1 o2 v2 ps qs l1 l2 v3 = _ from fun hb4 => nt_more h1 h2 h3 (h4.trans hb4))
  have hk := inB_true.1 h1
  have H1 := Lib.hid h1
  have H2 := Lib.hid h2
  have H3 := Lib.hid h3
  have H4 := Lib.hid h4
  clear h1 h2 h3 h4
  go_enter Tryz.func149, Tryz.ntmps149
  go_wp2_with (go_at_call 174; first | ((with_reducible refine (l1InB_is H1.out _).mono ?_); rintro e w' ⟨rfl, rfl⟩) | ((with_reducible refine (l1InB_is H2.out _).mono ?_); rintro e w' ⟨rfl, rfl⟩))
  generalize ((w.alloc _).alloc _ : World) = w0 at K0 a0 a1 a2 a3 a4 a5 a6 a7 a8 a9 a10 a11 a12 a13 a14 a15 g0 g1 g2 g3 g4 ⊢
  refine (specGroupB_is H3.out A n cap w0 HM.out K0.row).mono ?_
  rintro e w1 ⟨rfl, hb⟩
  have K1 := K0.later hb
  clear hb K0 a0 a1 a2 a3 a4 a5 a6 a7 a8 a9 a10 a11 a12 a13 a14 a15 g0 g1 g2 g3 g4
  obtain ⟨a0, a1, a2, a3, a4, a5, a6, a7, a8, a9, a10, a11, a12, a13, a14, a15⟩ := sixteen K1.nb
  obtain ⟨g0, g1, g2, g3, g4⟩ := K1.gb.five
  go_wp2_with fail
  refine (l1InB_is H4.out w1).mono ?_
  rintro e w' ⟨rfl, rfl⟩
  rcases b4 with _ | _
  · have E := K1.bel
    have HV := Lib.hid (HVF.out rfl)
    clear HVF HVT
    go_wp2
    go_ret
    exact ⟨by rw [HV.out]; rfl, E⟩
  have HV := Lib.hid (HVT.out rfl)
  clear HVF HVT H4 H3 H2 H1
  rw [HLP.out, HLQ.out] at HV
  obtain ⟨hk1, hk6⟩ := hk
  go_upto_region 3 with fail
  go_cut [66] (fun v wr => v = .bool (!kpB s l c sh zs k1 k2 k3) ∧ NGP w wr 85 26 #[.int .i64 k1, .int .i64 k2, .int .i64 k3, .int .i64 k4, .int .i64 k5, .int .i64 t1, .int .i64 t2, .int .i64 v1, .int .i64 o1, .int .i64 o2, .int .i64 v2, .slice P p pc, .slice Q q qc, .int .i64 l1, .int .i64 l2, .int .i64 v3] #[.int .i64 s, .int .i64 l, .int .i64 c, .int .i64 sh, .slice A n cap] A n zs P p ps Q q qs w.heap.size (w.heap.size + 1))
  case first =>
    rcases (show k1 % 2 = 1 ∨ k1 % 2 = 0 by omega) with hpar | hpar
    · have HKP := Lib.hid (kp_odd (s := s) (l := l) (c := c) (sh := sh) (zs := zs) (k2 := k2) (k3 := k3) hpar)
      rcases h1 : cliB s l c sh zs k2 with _ | _
      · have H1 := Lib.hid h1
        clear h1
        go_wp2_with fail
        refine (specClientB_is H1.out A n cap w1 HM.out K1.row).mono ?_
        rintro e w2 ⟨rfl, hb⟩
        have K2 := K1.later hb
        clear hb K1 a0 a1 a2 a3 a4 a5 a6 a7 a8 a9 a10 a11 a12 a13 a14 a15 g0 g1 g2 g3 g4
        have F := K2
        clear K2
        go_wp2_with fail
        go_meet
        exact ⟨by rw [HKP.out, H1.out]; rfl, F⟩
      generalize h2 : srvB s l c sh zs k3 = b2
      have H1 := Lib.hid h1
      have H2 := Lib.hid h2
      clear h1 h2
      go_wp2_with fail
      refine (specClientB_is H1.out A n cap w1 HM.out K1.row).mono ?_
      rintro e w2 ⟨rfl, hb⟩
      have K2 := K1.later hb
      clear hb K1 a0 a1 a2 a3 a4 a5 a6 a7 a8 a9 a10 a11 a12 a13 a14 a15 g0 g1 g2 g3 g4
      obtain ⟨a0, a1, a2, a3, a4, a5, a6, a7, a8, a9, a10, a11, a12, a13, a14, a15⟩ := sixteen K2.nb
      obtain ⟨g0, g1, g2, g3, g4⟩ := K2.gb.five
      go_wp2_with fail
      refine (specServerB_is H2.out A n cap w2 HM.out K2.row).mono ?_
      rintro e w3 ⟨rfl, hb⟩
      have K3 := K2.later hb
      clear hb K2 a0 a1 a2 a3 a4 a5 a6 a7 a8 a9 a10 a11 a12 a13 a14 a15 g0 g1 g2 g3 g4
      obtain ⟨a0, a1, a2, a3, a4, a5, a6, a7, a8, a9, a10, a11, a12, a13, a14, a15⟩ := sixteen K3.nb
      have F := K3
      clear K3
      rcases b2 with _ | _
      all_goals
        go_wp2_with fail
        go_meet
        exact ⟨by rw [HKP.out, H1.out, H2.out]; rfl, F⟩
    · have HKP := Lib.hid (kp_even (s := s) (l := l) (c := c) (sh := sh) (zs := zs) (k2 := k2) (k3 := k3) hpar)
      rcases h1 : srvB s l c sh zs k2 with _ | _
      · have H1 := Lib.hid h1
        clear h1
        go_wp2_with fail
        refine (specServerB_is H1.out A n cap w1 HM.out K1.row).mono ?_
        rintro e w2 ⟨rfl, hb⟩
        have K2 := K1.later hb
        clear hb K1 a0 a1 a2 a3 a4 a5 a6 a7 a8 a9 a10 a11 a12 a13 a14 a15 g0 g1 g2 g3 g4
        have F := K2
        clear K2
        go_wp2_with fail
        go_meet
        exact ⟨by rw [HKP.out, H1.out]; rfl, F⟩
      generalize h2 : cliB s l c sh zs k3 = b2
      have H1 := Lib.hid h1
      have H2 := Lib.hid h2
      clear h1 h2
      go_wp2_with fail
      refine (specServerB_is H1.out A n cap w1 HM.out K1.row).mono ?_
      rintro e w2 ⟨rfl, hb⟩
      have K2 := K1.later hb
      clear hb K1 a0 a1 a2 a3 a4 a5 a6 a7 a8 a9 a10 a11 a12 a13 a14 a15 g0 g1 g2 g3 g4
      obtain ⟨a0, a1, a2, a3, a4, a5, a6, a7, a8, a9, a10, a11, a12, a13, a14, a15⟩ := sixteen K2.nb
      obtain ⟨g0, g1, g2, g3, g4⟩ := K2.gb.five
      go_wp2_with fail
      refine (specClientB_is H2.out A n cap w2 HM.out K2.row).mono ?_
      rintro e w3 ⟨rfl, hb⟩
      have K3 := K2.later hb
      clear hb K2 a0 a1 a2 a3 a4 a5 a6 a7 a8 a9 a10 a11 a12 a13 a14 a15 g0 g1 g2 g3 g4
      obtain ⟨a0, a1, a2, a3, a4, a5, a6, a7, a8, a9, a10, a11, a12, a13, a14, a15⟩ := sixteen K3.nb
      have F := K3
      clear K3
      rcases b2 with _ | _
      all_goals
        go_wp2_with fail
        go_meet
        exact ⟨by rw [HKP.out, H1.out, H2.out]; rfl, F⟩
  case rest =>
  obtain ⟨rfl, K2⟩ := hcut
  obtain ⟨w2, rfl⟩ : ∃ w2, w2 = wc := ⟨_, rfl⟩
  clear K1 a0 a1 a2 a3 a4 a5 a6 a7 a8 a9 a10 a11 a12 a13 a14 a15 g0 g1 g2 g3 g4
  generalize kpB s l c sh zs k1 k2 k3 = bk at HV ⊢
  rcases bk with _ | _
  · have HW := Lib.hid (HV.out.trans (by rfl : _ = false))
    clear HV
    have E := K2.bel
    go_wp2_with fail
    go_ret
    exact ⟨by rw [HW.out]; rfl, E⟩
  go_upto_region 5 with fail
  go_cut [100] (fun v wr => v = .bool (!(stsB t1 t2 o1 o2 l1 l2 && valsB v1 v2 v3)) ∧ NGP w wr 85 26 #[.int .i64 k1, .int .i64 k2, .int .i64 k3, .int .i64 k4, .int .i64 k5, .int .i64 t1, .int .i64 t2, .int .i64 v1, .int .i64 o1, .int .i64 o2, .int .i64 v2, .slice P p pc, .slice Q q qc, .int .i64 l1, .int .i64 l2, .int .i64 v3] #[.int .i64 s, .int .i64 l, .int .i64 c, .int .i64 sh, .slice A n cap] A n zs P p ps Q q qs w.heap.size (w.heap.size + 1))
  case first =>
    obtain ⟨a0, a1, a2, a3, a4, a5, a6, a7, a8, a9, a10, a11, a12, a13, a14, a15⟩ := sixteen K2.nb
    obtain ⟨g0, g1, g2, g3, g4⟩ := K2.gb.five
    rcases h1 : stB t1 t2 with _ | _
    · have H1 := Lib.hid h1
      clear h1
      go_wp2_with fail
      refine (specStampB_is H1.out w2).mono ?_
      rintro e w3 ⟨rfl, hb⟩
      have K3 := K2.later hb
      clear hb K2 a0 a1 a2 a3 a4 a5 a6 a7 a8 a9 a10 a11 a12 a13 a14 a15 g0 g1 g2 g3 g4
      have F := K3
      clear K3
      go_wp2_with fail
      go_meet
      exact ⟨by rw [stsB, H1.out]; rfl, F⟩
    rcases h2 : stB o1 o2 with _ | _
    · have H1 := Lib.hid h1
      have H2 := Lib.hid h2
      clear h1 h2
      go_wp2_with fail
      refine (specStampB_is H1.out w2).mono ?_
      rintro e w3 ⟨rfl, hb⟩
      have K3 := K2.later hb
      clear hb K2 a0 a1 a2 a3 a4 a5 a6 a7 a8 a9 a10 a11 a12 a13 a14 a15 g0 g1 g2 g3 g4
      obtain ⟨a0, a1, a2, a3, a4, a5, a6, a7, a8, a9, a10, a11, a12, a13, a14, a15⟩ := sixteen K3.nb
      obtain ⟨g0, g1, g2, g3, g4⟩ := K3.gb.five
      go_wp2_with fail
      refine (specStampB_is H2.out w3).mono ?_
      rintro e w4 ⟨rfl, hb⟩
      have K4 := K3.later hb
      clear hb K3 a0 a1 a2 a3 a4 a5 a6 a7 a8 a9 a10 a11 a12 a13 a14 a15 g0 g1 g2 g3 g4
      have F := K4
      clear K4
      go_wp2_with fail
      go_meet
      exact ⟨by rw [stsB, H1.out, H2.out]; rfl, F⟩
    rcases h3 : stB l1 l2 with _ | _
    · have H1 := Lib.hid h1
      have H2 := Lib.hid h2
      have H3 := Lib.hid h3
      clear h1 h2 h3
      go_wp2_with fail
      refine (specStampB_is H1.out w2).mono ?_
      rintro e w3 ⟨rfl, hb⟩
      have K3 := K2.later hb
      clear hb K2 a0 a1 a2 a3 a4 a5 a6 a7 a8 a9 a10 a11 a12 a13 a14 a15 g0 g1 g2 g3 g4
      obtain ⟨a0, a1, a2, a3, a4, a5, a6, a7, a8, a9, a10, a11, a12, a13, a14, a15⟩ := sixteen K3.nb
      obtain ⟨g0, g1, g2, g3, g4⟩ := K3.gb.five
      go_wp2_with fail
      refine (specStampB_is H2.out w3).mono ?_
      rintro e w4 ⟨rfl, hb⟩
      have K4 := K3.later hb
      clear hb K3 a0 a1 a2 a3 a4 a5 a6 a7 a8 a9 a10 a11 a12 a13 a14 a15 g0 g1 g2 g3 g4
      obtain ⟨a0, a1, a2, a3, a4, a5, a6, a7, a8, a9, a10, a11, a12, a13, a14, a15⟩ := sixteen K4.nb
      obtain ⟨g0, g1, g2, g3, g4⟩ := K4.gb.five
      go_wp2_with fail
      refine (specStampB_is H3.out w4).mono ?_
      rintro e w5 ⟨rfl, hb⟩
      have K5 := K4.later hb
      clear hb K4 a0 a1 a2 a3 a4 a5 a6 a7 a8 a9 a10 a11 a12 a13 a14 a15 g0 g1 g2 g3 g4
      have F := K5
      clear K5
      go_wp2_with fail
      go_meet
      exact ⟨by rw [stsB, H1.out, H2.out, H3.out]; rfl, F⟩
    rcases h4 : valB v1 with _ | _
    · have H1 := Lib.hid h1
      have H2 := Lib.hid h2
      have H3 := Lib.hid h3
      have H4 := Lib.hid h4
      clear h1 h2 h3 h4
      go_wp2_with fail
      refine (specStampB_is H1.out w2).mono ?_
      rintro e w3 ⟨rfl, hb⟩
      have K3 := K2.later hb
      clear hb K2 a0 a1 a2 a3 a4 a5 a6 a7 a8 a9 a10 a11 a12 a13 a14 a15 g0 g1 g2 g3 g4
      obtain ⟨a0, a1, a2, a3, a4, a5, a6, a7, a8, a9, a10, a11, a12, a13, a14, a15⟩ := sixteen K3.nb
      obtain ⟨g0, g1, g2, g3, g4⟩ := K3.gb.five
      go_wp2_with fail
      refine (specStampB_is H2.out w3).mono ?_
      rintro e w4 ⟨rfl, hb⟩
      have K4 := K3.later hb
      clear hb K3 a0 a1 a2 a3 a4 a5 a6 a7 a8 a9 a10 a11 a12 a13 a14 a15 g0 g1 g2 g3 g4
      obtain ⟨a0, a1, a2, a3, a4, a5, a6, a7, a8, a9, a10, a11, a12, a13, a14, a15⟩ := sixteen K4.nb
      obtain ⟨g0, g1, g2, g3, g4⟩ := K4.gb.five
      go_wp2_with fail
      refine (specStampB_is H3.out w4).mono ?_
      rintro e w5 ⟨rfl, hb⟩
      have K5 := K4.later hb
      clear hb K4 a0 a1 a2 a3 a4 a5 a6 a7 a8 a9 a10 a11 a12 a13 a14 a15 g0 g1 g2 g3 g4
      obtain ⟨a0, a1, a2, a3, a4, a5, a6, a7, a8, a9, a10, a11, a12, a13, a14, a15⟩ := sixteen K5.nb
      obtain ⟨g0, g1, g2, g3, g4⟩ := K5.gb.five
      have F := K5
      clear K5
      go_wp2_with (go_at_call 196; first | ((with_reducible refine (specValueB_is H4.out _).mono ?_); rintro e w' ⟨rfl, rfl⟩))
      go_meet
      exact ⟨by rw [stsB, valsB, H1.out, H2.out, H3.out, H4.out]; rfl, F⟩
    rcases h5 : valB v2 with _ | _
    · have H1 := Lib.hid h1
      have H2 := Lib.hid h2
      have H3 := Lib.hid h3
      have H4 := Lib.hid h4
      have H5 := Lib.hid h5
      clear h1 h2 h3 h4 h5
      go_wp2_with fail
      refine (specStampB_is H1.out w2).mono ?_
      rintro e w3 ⟨rfl, hb⟩
      have K3 := K2.later hb
      clear hb K2 a0 a1 a2 a3 a4 a5 a6 a7 a8 a9 a10 a11 a12 a13 a14 a15 g0 g1 g2 g3 g4
      obtain ⟨a0, a1, a2, a3, a4, a5, a6, a7, a8, a9, a10, a11, a12, a13, a14, a15⟩ := sixteen K3.nb
      obtain ⟨g0, g1, g2, g3, g4⟩ := K3.gb.five
      go_wp2_with fail
      refine (specStampB_is H2.out w3).mono ?_
      rintro e w4 ⟨rfl, hb⟩
      have K4 := K3.later hb
      clear hb K3 a0 a1 a2 a3 a4 a5 a6 a7 a8 a9 a10 a11 a12 a13 a14 a15 g0 g1 g2 g3 g4
      obtain ⟨a0, a1, a2, a3, a4, a5, a6, a7, a8, a9, a10, a11, a12, a13, a14, a15⟩ := sixteen K4.nb
      obtain ⟨g0, g1, g2, g3, g4⟩ := K4.gb.five
      go_wp2_with fail
      refine (specStampB_is H3.out w4).mono ?_
      rintro e w5 ⟨rfl, hb⟩
      have K5 := K4.later hb
      clear hb K4 a0 a1 a2 a3 a4 a5 a6 a7 a8 a9 a10 a11 a12 a13 a14 a15 g0 g1 g2 g3 g4
      obtain ⟨a0, a1, a2, a3, a4, a5, a6, a7, a8, a9, a10, a11, a12, a13, a14, a15⟩ := sixteen K5.nb
      obtain ⟨g0, g1, g2, g3, g4⟩ := K5.gb.five
      have F := K5
      clear K5
      go_wp2_with (go_at_call 196; first | ((with_reducible refine (specValueB_is H4.out _).mono ?_); rintro e w' ⟨rfl, rfl⟩) | ((with_reducible refine (specValueB_is H5.out _).mono ?_); rintro e w' ⟨rfl, rfl⟩))
      go_meet
      exact ⟨by rw [stsB, valsB, H1.out, H2.out, H3.out, H4.out, H5.out]; rfl, F⟩
    generalize h6 : valB v3 = b6
    have H1 := Lib.hid h1
    have H2 := Lib.hid h2
    have H3 := Lib.hid h3
    have H4 := Lib.hid h4
    have H5 := Lib.hid h5
    have H6 := Lib.hid h6
    clear h1 h2 h3 h4 h5 h6
    go_wp2_with fail
    refine (specStampB_is H1.out w2).mono ?_
    rintro e w3 ⟨rfl, hb⟩
    have K3 := K2.later hb
    clear hb K2 a0 a1 a2 a3 a4 a5 a6 a7 a8 a9 a10 a11 a12 a13 a14 a15 g0 g1 g2 g3 g4
    obtain ⟨a0, a1, a2, a3, a4, a5, a6, a7, a8, a9, a10, a11, a12, a13, a14, a15⟩ := sixteen K3.nb
    obtain ⟨g0, g1, g2, g3, g4⟩ := K3.gb.five
    go_wp2_with fail
    refine (specStampB_is H2.out w3).mono ?_
    rintro e w4 ⟨rfl, hb⟩
    have K4 := K3.later hb
    clear hb K3 a0 a1 a2 a3 a4 a5 a6 a7 a8 a9 a10 a11 a12 a13 a14 a15 g0 g1 g2 g3 g4
    obtain ⟨a0, a1, a2, a3, a4, a5, a6, a7, a8, a9, a10, a11, a12, a13, a14, a15⟩ := sixteen K4.nb
    obtain ⟨g0, g1, g2, g3, g4⟩ := K4.gb.five
    go_wp2_with fail
    refine (specStampB_is H3.out w4).mono ?_
    rintro e w5 ⟨rfl, hb⟩
    have K5 := K4.later hb
    clear hb K4 a0 a1 a2 a3 a4 a5 a6 a7 a8 a9 a10 a11 a12 a13 a14 a15 g0 g1 g2 g3 g4
    obtain ⟨a0, a1, a2, a3, a4, a5, a6, a7, a8, a9, a10, a11, a12, a13, a14, a15⟩ := sixteen K5.nb
    obtain ⟨g0, g1, g2, g3, g4⟩ := K5.gb.five
    have F := K5
    clear K5
    go_wp2_with (go_at_call 196; first | ((with_reducible refine (specValueB_is H4.out _).mono ?_); rintro e w' ⟨rfl, rfl⟩) | ((with_reducible refine (specValueB_is H5.out _).mono ?_); rintro e w' ⟨rfl, rfl⟩) | ((with_reducible refine (specValueB_is H6.out _).mono ?_); rintro e w' ⟨rfl, rfl⟩))
    rcases b6 with _ | _
    all_goals
      go_wp2_with fail
      go_meet
      exact ⟨by rw [stsB, valsB, H1.out, H2.out, H3.out, H4.out, H5.out, H6.out]; rfl, F⟩
  case rest =>
  obtain ⟨rfl, K3⟩ := hcut
  obtain ⟨w3, rfl⟩ : ∃ w3, w3 = wc := ⟨_, rfl⟩
  clear K2
  generalize (stsB t1 t2 o1 o2 l1 l2 && valsB v1 v2 v3) = bk at HV ⊢
  rcases bk with _ | _
  · have HW := Lib.hid (HV.out.trans (by rfl : _ = false))
    clear HV
    have E := K3.bel
    go_wp2_with fail
    go_ret
    exact ⟨by rw [HW.out]; rfl, E⟩
  obtain ⟨a0, a1, a2, a3, a4, a5, a6, a7, a8, a9, a10, a11, a12, a13, a14, a15⟩ := sixteen K3.nb
  obtain ⟨g0, g1, g2, g3, g4⟩ := K3.gb.five
  rcases h1 : fitB ps with _ | _
  · have HW := Lib.hid (HV.out.trans (by rw [h1]; rfl : _ = false))
    have H1 := Lib.hid h1
    clear h1 HV
    go_wp2_with fail
    refine (specSealsB_is H1.out P p pc w3 HMP.out K3.prs).mono ?_
    rintro e w4 ⟨rfl, hb⟩
    have K4 := K3.later hb
    clear hb K3 a0 a1 a2 a3 a4 a5 a6 a7 a8 a9 a10 a11 a12 a13 a14 a15 g0 g1 g2 g3 g4
    have E := K4.bel
    clear K4
    go_wp2
    go_ret
    exact ⟨by rw [HW.out]; rfl, E⟩
  rcases h2 : fitB qs with _ | _
  · have HW := Lib.hid (HV.out.trans (by rw [h1, h2]; rfl : _ = false))
    have H1 := Lib.hid h1
    have H2 := Lib.hid h2
    clear h1 h2 HV
    go_wp2_with fail
    refine (specSealsB_is H1.out P p pc w3 HMP.out K3.prs).mono ?_
    rintro e w4 ⟨rfl, hb⟩
    have K4 := K3.later hb
    clear hb K3 a0 a1 a2 a3 a4 a5 a6 a7 a8 a9 a10 a11 a12 a13 a14 a15 g0 g1 g2 g3 g4
    obtain ⟨a0, a1, a2, a3, a4, a5, a6, a7, a8, a9, a10, a11, a12, a13, a14, a15⟩ := sixteen K4.nb
    obtain ⟨g0, g1, g2, g3, g4⟩ := K4.gb.five
    go_wp2_with fail
    refine (specSealsB_is H2.out Q q qc w4 HMQ.out K4.qrs).mono ?_
    rintro e w5 ⟨rfl, hb⟩
    have K5 := K4.later hb
    clear hb K4 a0 a1 a2 a3 a4 a5 a6 a7 a8 a9 a10 a11 a12 a13 a14 a15 g0 g1 g2 g3 g4
    have E := K5.bel
    clear K5
    go_wp2
    go_ret
    exact ⟨by rw [HW.out]; rfl, E⟩
  generalize h3 : emB k1 (hvB t1 t2 v1 p) (hpB o1 o2 v2 l1 l2 v3 q) = b3 at HV
  have HW := Lib.hid (HV.out.trans (by rw [h1, h2]; cases b3 <;> rfl : _ = b3))
  have H1 := Lib.hid h1
  have H2 := Lib.hid h2
  have H3 := Lib.hid h3
  clear h1 h2 h3 HV
  go_wp2_with fail
  refine (specSealsB_is H1.out P p pc w3 HMP.out K3.prs).mono ?_
  rintro e w4 ⟨rfl, hb⟩
  have K4 := K3.later hb
  clear hb K3 a0 a1 a2 a3 a4 a5 a6 a7 a8 a9 a10 a11 a12 a13 a14 a15 g0 g1 g2 g3 g4
  obtain ⟨a0, a1, a2, a3, a4, a5, a6, a7, a8, a9, a10, a11, a12, a13, a14, a15⟩ := sixteen K4.nb
  obtain ⟨g0, g1, g2, g3, g4⟩ := K4.gb.five
  go_wp2_with fail
  refine (specSealsB_is H2.out Q q qc w4 HMQ.out K4.qrs).mono ?_
  rintro e w5 ⟨rfl, hb⟩
  have K5 := K4.later hb
  clear hb K4 a0 a1 a2 a3 a4 a5 a6 a7 a8 a9 a10 a11 a12 a13 a14 a15 g0 g1 g2 g3 g4
  obtain ⟨a0, a1, a2, a3, a4, a5, a6, a7, a8, a9, a10, a11, a12, a13, a14, a15⟩ := sixteen K5.nb
  obtain ⟨g0, g1, g2, g3, g4⟩ := K5.gb.five
  go_wp2_with fail
  refine (specEmptyB_is H3.out k2 k3 k4 k5 P pc Q qc w5).mono ?_
  rintro e w6 ⟨rfl, hb⟩
  have K6 := K5.later hb
  clear hb K5 a0 a1 a2 a3 a4 a5 a6 a7 a8 a9 a10 a11 a12 a13 a14 a15 g0 g1 g2 g3 g4
  have E := K6.bel
  clear K6
  rcases b3 with _ | _
  all_goals
    go_wp2
    go_ret
    exact ⟨by rw [HW.out]; rfl, E⟩

theorem specNoteN_is {N : Array Value} {k1 k2 k3 k4 k5 t1 t2 v1 o1 o2 v2 : Int} {P : Option Addr} {p pc : Nat} {Q : Option Addr} {q qc : Nat} {l1 l2 v3 : Int} (hN : N = #[.int .i64 k1, .int .i64 k2, .int .i64 k3, .int .i64 k4, .int .i64 k5, .int .i64 t1, .int .i64 t2, .int .i64 v1, .int .i64 o1, .int .i64 o2, .int .i64 v2, .slice P p pc, .slice Q q qc, .int .i64 l1, .int .i64 l2, .int .i64 v3]) (s l c sh : Int) (A : Option Addr) (n cap : Nat) (zs : List Int) (ps qs : List (Int × Int)) (w : World) (hm : n ≤ maxLen) (hmp : p ≤ maxLen) (hmq : q ≤ maxLen) (hr : Row w w.heap.size A n zs) (hp : Pairs w w.heap.size P p ps) (hq : Pairs w w.heap.size Q q qs) :
    Calls Tryz.prog 149 #[.agg #[.int .i64 s, .int .i64 l, .int .i64 c, .int .i64 sh, .slice A n cap], .agg N] w fun e w' => e = .returned (.bool (ntB s l c sh zs k1 k2 k3 k4 k5 t1 t2 v1 o1 o2 v2 ps qs l1 l2 v3)) ∧ Below w.heap.size w w' := by
  subst hN; exact specNote_is s l c sh A n cap zs k1 k2 k3 k4 k5 t1 t2 v1 o1 o2 v2 P p pc Q q qc l1 l2 v3 ps qs w hm hmp hmq hr hp hq

end Go.Proofs.YtjdepjpjjgkmbaaGreat
