/- FnExactNewServer: at every group and node the program answers as its model and leaves its argument alone: the law answers true; no condition beyond the given row's own. -/
import Derived.Test.YtjdepjpjjgkmbaaGreatExactNewServerSeg1
import Derived.Test.YtjdepjpjjgkmbaaGreatExactNewServerSeg0
import Derived.Test.YtjdepjpjjgkmbaaGreatRows
import Derived.Test.YtjdepjpjjgkmbaaGreatBase
import Derived.Test.YtjdepjpjjgkmbaaGreatChecked
import Derived.WalkKit
import Derived.ProofKit
import Derived.OpenShut
import Derived.ShutString
import Derived.ChangeOld
import Derived.Below
import Derived.Carry
import Derived.Deep.Fields
import Derived.Laws.Rows
import Derived.Test.YtjdepjpjjgkmbaaGreatCopiesMark

/- The laws' mark on a list of shelves of one's own; conditions: the sizes. -/
namespace Go.Proofs.YtjdepjpjjgkmbaaGreat
open Go Go.RowKit

/-- The first j of them are marked, from k on. -/
def MarkedS (k : Int) (S : Nat → Nat) (D D' : Nat → RegD) (j : Nat) : Prop :=
  (∀ i, (D' i).ps.length = (D i).ps.length ∧ (D' i).os.length = (D i).os.length) ∧ ∀ i, i < j → (D' i).t = k + S i ∧ (D' i).q = k + S i + 1 ∧ (D' i).v = k + S i + 1 + 1 ∧ Marked (k + S i + 1 + 1 + 1) (D' i).ps ∧ MarkedQ (k + S i + 1 + 1 + 1 + 2 * (D i).ps.length) (D' i).os

set_option maxRecDepth 100000 in
set_option maxHeartbeats 8000000 in
theorem mark_RS {w : World} {G n cap : Nat} {D : Nat → RegD} {Fs : Nat → Nat → Prop} {k : Int} (h : RegsE w G n D Fs) (hn : n ≤ 1048576) (S : Nat → Nat) (hS0 : S 0 = 0) (hS : ∀ j, j < n → S (j + 1) = S j + 3 + 2 * (D j).ps.length + 4 * (D j).os.length) (hSn : ∀ j, j ≤ n → S j ≤ 20000000) (hlen : ∀ j, j < n → (D j).ps.length ≤ 1048577 ∧ (D j).os.length ≤ 1048577) (hk0 : 0 ≤ k) (hk1 : k ≤ 10000000) :
    Calls Tryz.prog 122 #[.slice (some ⟨G, 0, none⟩) n cap, .int .i64 k] w fun e w' => e = .returned (.int .i64 (k + S n)) ∧ Turns (fun b => b = G ∨ ∃ i, i < n ∧ Fs i b) w w' ∧ ∃ D', RegsE w' G n D' Fs ∧ MarkedS k S D D' n := by
  have HS := Lib.hid hS
  have HSN := Lib.hid hSn
  have HLN := Lib.hid hlen
  have HS0 := Lib.hid hS0
  clear hS hSn hlen hS0
  go_enter Tryz.func122, Tryz.ntmps122
  go_wp2
  go_loopw [1, 5] (fun kv i wr => ∃ (j : Nat) (D' : Nat → RegD), j ≤ n ∧ i = .int .i64 j ∧ kv = .int .i64 (k + S j) ∧ RegsE wr G n D' Fs ∧ Hid (MarkedS k S D D' j) ∧ Turns (fun b => b = G ∨ ∃ i, i < n ∧ Fs i b) w wr) (fun _ i _ => n - (intOf i).toNat)
  case atStart => exact ⟨0, D, Nat.zero_le _, rfl, by rw [HS0.out]; simp, h, Lib.hid ⟨fun _ => ⟨rfl, rfl⟩, fun i hi => absurd hi (by omega)⟩, Turns.of_below (Below.refl _ _)⟩
  case round =>
    clear h
    obtain ⟨j, D', hj, rfl, rfl, h, hl, ht⟩ := hrel
    by_cases hlt : j < n
    · obtain ⟨u, v, hr, -⟩ := h.row j hlt
      have c0 : wr.cell? ⟨G, j * 5, none⟩ = some (.int .i64 (D' j).t) := hr 0 _ rfl
      have c1 : wr.cell? ⟨G, j * 5 + 1, none⟩ = some (.int .i64 (D' j).q) := hr 1 _ rfl
      have c2 : wr.cell? ⟨G, j * 5 + 2, none⟩ = some (.int .i64 (D' j).v) := hr 2 _ rfl
      have c3 : wr.cell? ⟨G, j * 5 + 3, none⟩ = some u := hr 3 _ rfl
      have c4 : wr.cell? ⟨G, j * 5 + 4, none⟩ = some v := hr 4 _ rfl
      have fG := h.fr
      have hSj := HSN.out j hj
      obtain ⟨q, hq⟩ : ∃ q : Int, k + (S j : Int) = q := ⟨_, rfl⟩
      have hq0 : 0 ≤ q := by omega
      have hq1 : q ≤ 30000000 := by omega
      rw [hq]
      have HQ := Lib.hid hq
      clear hq hSj
      have v0 : IntKind.i64.wrap (q + 1) = q + 1 := IntWalk.i64_in _ (by omega)
      have v1 : IntKind.i64.wrap (q + 1 + 1) = q + 1 + 1 := IntWalk.i64_in _ (by omega)
      have v2 : IntKind.i64.wrap (q + 1 + 1 + 1) = q + 1 + 1 + 1 := IntWalk.i64_in _ (by omega)
      have hkw : IntKind.i64.wrap ((j : Int) + 1) = (j : Int) + 1 := IntWalk.i64_in _ (by omega)
      have hltI : (j : Int) < (n : Int) := by omega
      have HSJ := Lib.hid (HS.out j hlt)
      have HLJ := Lib.hid (HLN.out j hlt)
      have HLE := Lib.hid (hl.out.1 j)
      go_upto_region 10 with fail
      have K3 := h.three hlt q (q + 1) (q + 1 + 1)
      have t3 : Turns (· = G) wr (((wr.setCell ⟨G, j * 5, none⟩ (.int .i64 q)).setCell ⟨G, j * 5 + 1, none⟩ (.int .i64 (q + 1))).setCell ⟨G, j * 5 + 2, none⟩ (.int .i64 (q + 1 + 1))) := ((turns_cell5 wr G _ _).trans (turns_cell5 _ G _ _)).trans (turns_cell5 _ G _ _)
      clear c0 c1 c2 c3 c4 fG v0 v1 v2 hr
      generalize (((wr.setCell ⟨G, j * 5, none⟩ (.int .i64 q)).setCell ⟨G, j * 5 + 1, none⟩ (.int .i64 (q + 1))).setCell ⟨G, j * 5 + 2, none⟩ (.int .i64 (q + 1 + 1))) = w7 at K3 t3 ⊢
      obtain ⟨u, v, hr3, hL3⟩ := K3.row j hlt
      rw [upR_same] at hr3 hL3
      obtain ⟨A, m, mc, A', m', mc', lo, B, hi, e3, hP, hQ, o1, o2, o3, hF⟩ := hL3
      have huv : u = .slice A m mc ∧ v = .slice A' m' mc' := by simpa [rowE] using e3
      obtain ⟨rfl, rfl⟩ := huv
      clear e3
      have c3 : w7.cell? ⟨G, j * 5 + 3, none⟩ = some (.slice A m mc) := hr3 3 _ rfl
      have c4 : w7.cell? ⟨G, j * 5 + 4, none⟩ = some (.slice A' m' mc') := hr3 4 _ rfl
      obtain ⟨q7, hq7⟩ : ∃ q7 : Int, q + 1 + 1 + 1 = q7 := ⟨_, rfl⟩
      rw [hq7]
      have HQ7 := Lib.hid hq7
      have hp0 : 0 ≤ q7 := by omega
      have hp1 : q7 ≤ 30000007 := by omega
      clear hq7 hq0 hq1 hr3
      have HP := Lib.hid hP
      have HQQ := Lib.hid hQ
      have HF := Lib.hid hF
      clear hP hQ hF
      go_upto_region 11 with (go_at_call 36; refine (markPE_is q7 HP.out (by rw [HLE.out.1]; exact HLJ.out.1) hp0 (by omega)).mono ?_; rintro e w8 ⟨rfl, D2, hd1, hd2, hR2, hB⟩)
      have t8 := Turns.of_band hB
      have hGn : ¬ Iv lo hi G := fun hb => K3.apart j hlt G (HF.out G hb) rfl
      have hQ8 := HQQ.out.turn t8 (fun b h1 h2 => by unfold Iv at h1 h2; omega)
      have c48 := (t8.cell K3.lt (fun hb => hGn ⟨hb.1, Nat.lt_of_lt_of_le hb.2 o2⟩) (j * 5 + 4)).trans c4
      obtain ⟨q8, hq8⟩ : ∃ q8 : Int, q7 + 2 * ((D' j).ps.length : Int) = q8 := ⟨_, rfl⟩
      have hql := HLJ.out.1
      have hql2 := HLE.out.1
      rw [hq8]
      have HQ8 := Lib.hid hq8
      have hr0 : 0 ≤ q8 := by omega
      have hr1 : q8 ≤ 40000000 := by omega
      have HD1 := Lib.hid hd1
      have HD2 := Lib.hid hd2
      have HR2 := Lib.hid hR2
      have HQR := Lib.hid hQ8
      have C3 := Lib.hid c3
      have C4 := Lib.hid c4
      clear hq8 hql hql2 hd1 hd2 hR2 hQ8 hB c3 c4
      go_wp2_with (go_at_call 106; refine (markQE_is q8 HQR.out (by rw [HLE.out.2]; exact HLJ.out.2) hr0 (by omega)).mono ?_; rintro e w9 ⟨rfl, D3, he1, he2, hR3, hB2⟩)
      have t9 := Turns.of_band hB2
      have tt : Turns (Iv lo hi) w7 w9 := (t8.sub (fun b _ hb => ⟨hb.1, Nat.lt_of_lt_of_le hb.2 o2⟩)).trans (t9.sub (fun b _ hb => ⟨Nat.le_trans o1 hb.1, hb.2⟩))
      have hL9 : LieE ⟨q, q + 1, q + 1 + 1, D2, D3⟩ w9 (Fs j) (.agg (rowE ⟨q, q + 1, q + 1 + 1, D2, D3⟩ (.slice A m mc) (.slice A' m' mc')).toArray) :=
        ⟨A, m, mc, A', m', mc', lo, B, hi, rfl, HR2.out.turn t9 (fun b h1 h2 => by unfold Iv at h1 h2; omega), hR3, o1, o2, Nat.le_trans o3 tt.size, HF.out⟩
      have K9 := K3.lists hlt tt HF.out C3.out C4.out (by rw [upR_same]; exact ⟨rfl, rfl, rfl⟩) hL9
      rw [upR_twice] at K9
      go_roundw
      case rel =>
        refine ⟨j + 1, _, by omega, by go_num, ?_, K9, Lib.hid ⟨fun i => ?_, fun i hi1 => ?_⟩, ?_⟩
        · rw [HSJ.out]
          have h1 := HQ8.out
          have h2 := HQ7.out
          have h3 := HQ.out
          have h4 := HLE.out
          congr 1
          omega
        · by_cases e : i = j
          · subst e
            rw [upR_same]
            exact ⟨HD1.out.trans HLE.out.1, he1.trans HLE.out.2⟩
          · rw [show ∀ d, upR D' j d i = D' i from fun d => by simp [upR, e]]
            exact hl.out.1 i
        · by_cases e : i = j
          · subst e
            rw [upR_same]
            have h1 := HQ8.out
            have h2 := HQ7.out
            have h3 := HQ.out
            have h4 := HLE.out.1
            refine ⟨h3.symm, by rw [h3], by rw [h3], by rw [h3, h2]; exact HD2.out, ?_⟩
            rw [h3, h2, ← h4, h1]
            exact he2
          · rw [show ∀ d, upR D' j d i = D' i from fun d => by simp [upR, e]]
            exact hl.out.2 i (by omega)
        · exact (ht.trans (t3.sub (fun _ _ e => .inl e))).trans (tt.sub (fun b _ hb => .inr ⟨j, hlt, HF.out b hb⟩))
      case measure => simp [intOf]; omega
    · have hjn : j = n := by omega
      subst hjn
      go_wp2
      go_ret
      exact ⟨rfl, ht, D', h, hl.out⟩
end Go.Proofs.YtjdepjpjjgkmbaaGreat

/- The laws' look at the marks on a list of shelves of one's own; conditions: the sizes. -/
namespace Go.Proofs.YtjdepjpjjgkmbaaGreat
open Go Go.RowKit

set_option maxRecDepth 100000 in
set_option maxHeartbeats 8000000 in
theorem held_RS {w : World} {G n cap : Nat} {D D' : Nat → RegD} {Fs : Nat → Nat → Prop} {k : Int} (S : Nat → Nat) (h : RegsE w G n D' Fs) (hm : MarkedS k S D D' n) (hn : n ≤ 1048576) (hS0 : S 0 = 0) (hS : ∀ j, j < n → S (j + 1) = S j + 3 + 2 * (D j).ps.length + 4 * (D j).os.length) (hSn : ∀ j, j ≤ n → S j ≤ 20000000) (hlen : ∀ j, j < n → (D j).ps.length ≤ 1048577 ∧ (D j).os.length ≤ 1048577) (hk0 : 0 ≤ k) (hk1 : k ≤ 10000000) :
    Calls Tryz.prog 124 #[.slice (some ⟨G, 0, none⟩) n cap, .int .i64 k] w fun e w' => e = .returned (.int .i64 (k + S n)) ∧ w = w' := by
  have HS := Lib.hid hS
  have HSN := Lib.hid hSn
  have HLN := Lib.hid hlen
  have HS0 := Lib.hid hS0
  have HM := Lib.hid hm
  clear hS hSn hlen hS0 hm
  go_enter Tryz.func124, Tryz.ntmps124
  go_wp2
  go_loopw [1, 5] (fun kv i wr => ∃ j : Nat, j ≤ n ∧ i = .int .i64 j ∧ kv = .int .i64 (k + S j) ∧ w = wr) (fun _ i _ => n - (intOf i).toNat)
  case atStart => exact ⟨0, Nat.zero_le _, rfl, by rw [HS0.out]; simp, rfl⟩
  case round =>
    obtain ⟨j, hj, rfl, rfl, rfl⟩ := hrel
    by_cases hlt : j < n
    · obtain ⟨u, v, hr, hL⟩ := h.row j hlt
      obtain ⟨A, m, mc, A', m', mc', lo, B, hi, e3, hP, hQ, -⟩ := hL
      have huv : u = .slice A m mc ∧ v = .slice A' m' mc' := by simpa [rowE] using e3
      obtain ⟨rfl, rfl⟩ := huv
      clear e3
      obtain ⟨m0, m1, m2, m3, m4⟩ := HM.out.2 j hlt
      have hSj := HSN.out j hj
      obtain ⟨q, hq⟩ : ∃ q : Int, k + (S j : Int) = q := ⟨_, rfl⟩
      rw [hq] at m0 m1 m2 m3 m4 ⊢
      have c0 : w.cell? ⟨G, j * 5, none⟩ = some (.int .i64 q) := m0 ▸ hr 0 _ rfl
      have c1 : w.cell? ⟨G, j * 5 + 1, none⟩ = some (.int .i64 (q + 1)) := m1 ▸ hr 1 _ rfl
      have c2 : w.cell? ⟨G, j * 5 + 2, none⟩ = some (.int .i64 (q + 1 + 1)) := m2 ▸ hr 2 _ rfl
      have c3 : w.cell? ⟨G, j * 5 + 3, none⟩ = some (.slice A m mc) := hr 3 _ rfl
      have c4 : w.cell? ⟨G, j * 5 + 4, none⟩ = some (.slice A' m' mc') := hr 4 _ rfl
      have hq0 : 0 ≤ q := by omega
      have hq1 : q ≤ 30000000 := by omega
      have HQ := Lib.hid hq
      clear hq hSj hr
      have v0 : IntKind.i64.wrap (q + 1) = q + 1 := IntWalk.i64_in _ (by omega)
      have v1 : IntKind.i64.wrap (q + 1 + 1) = q + 1 + 1 := IntWalk.i64_in _ (by omega)
      have v2 : IntKind.i64.wrap (q + 1 + 1 + 1) = q + 1 + 1 + 1 := IntWalk.i64_in _ (by omega)
      have hkw : IntKind.i64.wrap ((j : Int) + 1) = (j : Int) + 1 := IntWalk.i64_in _ (by omega)
      have hltI : (j : Int) < (n : Int) := by omega
      have HSJ := Lib.hid (HS.out j hlt)
      have HLJ := Lib.hid (HLN.out j hlt)
      have HLE := Lib.hid (HM.out.1 j)
      have HP := Lib.hid hP
      have HQQ := Lib.hid hQ
      have M3 := Lib.hid m3
      have M4 := Lib.hid m4
      clear hP hQ m0 m1 m2 m3 m4
      go_upto_region 13 with fail
      obtain ⟨q7, hq7⟩ : ∃ q7 : Int, q + 1 + 1 + 1 = q7 := ⟨_, rfl⟩
      rw [hq7]
      have hM3 := M3.out
      have hM4 := M4.out
      rw [hq7] at hM3 hM4
      have HQ7 := Lib.hid hq7
      have hp0 : 0 ≤ q7 := by omega
      have hp1 : q7 ≤ 30000007 := by omega
      rw [← HLE.out.1] at hM4
      have HM3 := Lib.hid hM3
      have HM4 := Lib.hid hM4
      clear hq7 hq0 hq1 hM3 hM4 M3 M4 v0 v1 v2 c0 c1 c2
      go_upto_region 14 with (go_at_call 107; refine (heldPE_is q7 HP.out HM3.out (by rw [HLE.out.1]; exact HLJ.out.1) hp0 (by omega)).mono ?_; rintro e w8 ⟨rfl, rfl⟩)
      obtain ⟨q8, hq8⟩ : ∃ q8 : Int, q7 + 2 * ((D' j).ps.length : Int) = q8 := ⟨_, rfl⟩
      have hql := HLJ.out.1
      have hql2 := HLE.out.1
      have hM4 := HM4.out
      rw [hq8] at hM4 ⊢
      have HQ8 := Lib.hid hq8
      have hr0 : 0 ≤ q8 := by omega
      have hr1 : q8 ≤ 40000000 := by omega
      have hneg : ¬ q8 < 0 := by omega
      replace HM4 := Lib.hid hM4
      have hfin : ¬ q8 + 4 * ((D' j).os.length : Int) < 0 := by omega
      clear hq8 hql hql2 hM4
      go_wp2_with (go_at_call 108; refine (heldQE_is q8 HQQ.out HM4.out (by rw [HLE.out.2]; exact HLJ.out.2) hr0 (by omega)).mono ?_; rintro e w9 ⟨rfl, rfl⟩)
      go_roundw
      case rel =>
        refine ⟨j + 1, by omega, by go_num, ?_, by trivial⟩
        rw [HSJ.out]
        have h1 := HQ8.out
        have h2 := HQ7.out
        have h3 := HQ.out
        have h4 := HLE.out
        congr 1
        omega
      case measure => simp [intOf]; omega
    · have hjn : j = n := by omega
      subst hjn
      go_wp2
      go_ret
      exact ⟨rfl, rfl⟩
end Go.Proofs.YtjdepjpjjgkmbaaGreat

/- Notes of one's own by ranges: a number or the lists of one of them written (written by notes_kind2.py); conditions: none. -/
namespace Go.Proofs.YtjdepjpjjgkmbaaGreat
open Go Go.RowKit

def rowN (d : NoteD) (u v : Value) : List Value := [.int .i64 d.k1, .int .i64 d.k2, .int .i64 d.k3, .int .i64 d.k4, .int .i64 d.k5, .int .i64 d.t1, .int .i64 d.t2, .int .i64 d.v1, .int .i64 d.o1, .int .i64 d.o2, .int .i64 d.v2, u, v, .int .i64 d.l1, .int .i64 d.l2, .int .i64 d.v3]
def upN (D : Nat → NoteD) (i : Nat) (d : NoteD) : Nat → NoteD := fun j => if j = i then d else D j
theorem upN_same (D : Nat → NoteD) (i : Nat) (d : NoteD) : upN D i d i = d := by simp [upN]
theorem upN_twice (D : Nat → NoteD) (i : Nat) (a b : NoteD) : upN (upN D i a) i b = upN D i b := by
  funext j
  unfold upN
  split <;> rfl
/-- A note of one's own: its lists in blocks of F, apart. -/
def LieNE (d : NoteD) (w : World) (F : Nat → Prop) (v : Value) : Prop :=
  ∃ (u u' : Value) (lo hi lo' hi' : Nat), v = .agg (rowN d u u').toArray ∧ ResE w lo hi u d.cs ∧ ResE w lo' hi' u' d.ms ∧ (∀ b, Iv lo hi b → F b) ∧ (∀ b, Iv lo' hi' b → F b) ∧ (∀ b, Iv lo hi b → ¬ Iv lo' hi' b)
theorem keepsLNE (d : NoteD) : Keeps (LieNE d) :=
  ⟨fun ⟨u, u', lo, hi, lo', hi', e, h1, h2, f1, f2, ha⟩ ht hd => ⟨u, u', lo, hi, lo', hi', e, h1.turn ht (fun b hb => hd b (f1 b hb)), h2.turn ht (fun b hb => hd b (f2 b hb)), f1, f2, ha⟩, fun ⟨u, u', lo, hi, lo', hi', e, h1, h2, f1, f2, ha⟩ hs => ⟨u, u', lo, hi, lo', hi', e, h1, h2, fun b hb => hs b (f1 b hb), fun b hb => hs b (f2 b hb), ha⟩⟩
theorem resE_form {w : World} {lo hi : Nat} {u : Value} {ps : List (Int × Int)} (h : ResE w lo hi u ps) : ∃ A n c, u = .slice A n c := by
  rcases h with ⟨h, -⟩ | ⟨g, cap, _, _, h, _⟩ <;> exact ⟨_, _, _, h⟩
theorem resE_pairs {w : World} {lo hi : Nat} {A : Option Addr} {n c : Nat} {ps : List (Int × Int)} (h : ResE w lo hi (.slice A n c) ps) : n ≤ maxLen ∧ PairsF w (fun _ => True) A n ps := by
  have hs := h.slc
  refine ⟨?_, ?_, fun _ _ _ _ => trivial⟩
  · rcases h with ⟨h, -⟩ | ⟨g, cap, _, _, h, h3, h4, _⟩
    · injection h with _ h _; omega
    · injection h with _ h _; omega
  · rcases hs.1 with ⟨h, hd⟩ | ⟨b, o, n1, c1, h, hp⟩
    · injection h with q1 q2 _
      subst q1 q2
      rw [hd]
      exact ⟨rfl, fun h => absurd h (by omega)⟩
    · injection h with q1 q2 _
      subst q1 q2
      exact hp
/-- The block g holds n notes, D of them; the lists of the one at place i lie in blocks of Fs i, apart from all others'. -/
structure NotesE (w : World) (g n : Nat) (D : Nat → NoteD) (Fs : Nat → Nat → Prop) : Prop where
  lt : g < w.heap.size
  fr : ∀ o, w.frozen? ⟨g, o, none⟩ = false
  row : ∀ i, i < n → ∃ u v, w.rangeAt g (i * 16) (rowN (D i) u v) ∧ LieNE (D i) w (Fs i) (.agg (rowN (D i) u v).toArray)
  apart : ∀ i, i < n → ∀ b, Fs i b → b ≠ g
  two : ∀ i j, i < n → j < n → i ≠ j → ∀ b, Fs i b → ¬ Fs j b
theorem NotesE.turn {w w' : World} {g n : Nat} {D : Nat → NoteD} {Fs : Nat → Nat → Prop} {T : Nat → Prop} (h : NotesE w g n D Fs) (ht : Turns T w w') (hg : ¬ T g) (hT : ∀ i, i < n → ∀ b, Fs i b → ¬ T b) : NotesE w' g n D Fs := by
  refine ⟨Nat.lt_of_lt_of_le h.lt ht.size, fun o => (ht.frozen h.lt hg o).trans (h.fr o), fun i hi => ?_, h.apart, h.two⟩
  obtain ⟨u, v, h1, h2⟩ := h.row i hi
  exact ⟨u, v, fun p x hx => (ht.cell h.lt hg _).trans (h1 p x hx), (keepsLNE _).turn h2 ht (hT i hi)⟩
theorem LieNE.same {d d' : NoteD} {w : World} {F : Nat → Prop} {u v : Value} (h : LieNE d w F (.agg (rowN d u v).toArray)) (hcs : d'.cs = d.cs) (hms : d'.ms = d.ms) : LieNE d' w F (.agg (rowN d' u v).toArray) := by
  obtain ⟨u1, u2, lo, hi, lo', hi', e, h1, h2, h3⟩ := h
  have hu : u = u1 ∧ v = u2 := by simpa [rowN] using e
  exact ⟨u, v, lo, hi, lo', hi', rfl, hcs ▸ hu.1 ▸ h1, hms ▸ hu.2 ▸ h2, h3⟩
theorem rowN_len (d : NoteD) (u v : Value) : (rowN d u v).length = 16 := rfl
/-- One number of one of them is written. -/
theorem NotesE.cell {w : World} {g n : Nat} {D : Nat → NoteD} {Fs : Nat → Nat → Prop} (h : NotesE w g n D Fs) {i : Nat} (hi : i < n) {j : Nat} (hj : j < 16) (x : Value) (d' : NoteD) (hcs : d'.cs = (D i).cs) (hms : d'.ms = (D i).ms) (hc : ∀ u v, rowN d' u v = (rowN (D i) u v).set j x) :
    NotesE (w.setCell ⟨g, i * 16 + j, none⟩ x) g n (upN D i d') Fs := by
  have ht := turns_cell5 w g (i * 16 + j) x
  have hsz : (w.setCell ⟨g, i * 16 + j, none⟩ x).heap.size = w.heap.size := size_set _ _ _
  refine ⟨by rw [hsz]; exact h.lt, fun o => (World.frozen?_setCell _ _ _ _).trans (h.fr o), fun k hk => ?_, h.apart, h.two⟩
  obtain ⟨u, v, h1, h2⟩ := h.row k hk
  by_cases e : k = i
  · subst e
    rw [upN_same]
    refine ⟨u, v, fun p y hy => ?_, ((keepsLNE _).turn h2 ht (h.apart k hk)).same hcs hms⟩
    rw [hc u v] at hy
    by_cases hp : p = j
    · subst hp
      have hl : p < (rowN (D k) u v).length := by rw [rowN_len]; exact hj
      rw [List.getElem?_set_self hl] at hy
      injection hy with hy
      subst hy
      obtain ⟨z, hz⟩ : ∃ z, (rowN (D k) u v)[p]? = some z := ⟨_, List.getElem?_eq_getElem hl⟩
      exact World.cell?_setCell_same' _ _ _ (by rw [h1 p z hz]; rfl)
    · rw [List.getElem?_set_ne (Ne.symm hp)] at hy
      exact (far9 w g x (by omega)).trans (h1 p y hy)
  · have hd : upN D i d' k = D k := by simp [upN, e]
    rw [hd]
    refine ⟨u, v, fun p y hy => ?_, (keepsLNE _).turn h2 ht (h.apart k hk)⟩
    have hp : p < 16 := by
      have := (List.getElem?_eq_some_iff.1 hy).1
      rwa [rowN_len] at this
    exact (far9 w g x (by omega)).trans (h1 p y hy)
/-- The eleven numbers ahead of the lists are written. -/
theorem NotesE.ahead {w : World} {g n : Nat} {D : Nat → NoteD} {Fs : Nat → Nat → Prop} (h : NotesE w g n D Fs) {i : Nat} (hi : i < n) (x0 x1 x2 x3 x4 x5 x6 x7 x8 x9 x10 : Int) :
    NotesE (((((((((((w.setCell ⟨g, i * 16, none⟩ (.int .i64 x0)).setCell ⟨g, i * 16 + 1, none⟩ (.int .i64 x1)).setCell ⟨g, i * 16 + 2, none⟩ (.int .i64 x2)).setCell ⟨g, i * 16 + 3, none⟩ (.int .i64 x3)).setCell ⟨g, i * 16 + 4, none⟩ (.int .i64 x4)).setCell ⟨g, i * 16 + 5, none⟩ (.int .i64 x5)).setCell ⟨g, i * 16 + 6, none⟩ (.int .i64 x6)).setCell ⟨g, i * 16 + 7, none⟩ (.int .i64 x7)).setCell ⟨g, i * 16 + 8, none⟩ (.int .i64 x8)).setCell ⟨g, i * 16 + 9, none⟩ (.int .i64 x9)).setCell ⟨g, i * 16 + 10, none⟩ (.int .i64 x10)) g n (upN D i ⟨x0, x1, x2, x3, x4, x5, x6, x7, x8, x9, x10, (D i).l1, (D i).l2, (D i).v3, (D i).cs, (D i).ms⟩) Fs := by
  have h0 := h.cell hi (j := 0) (by omega) (.int .i64 x0) ⟨x0, (D i).k2, (D i).k3, (D i).k4, (D i).k5, (D i).t1, (D i).t2, (D i).v1, (D i).o1, (D i).o2, (D i).v2, (D i).l1, (D i).l2, (D i).v3, (D i).cs, (D i).ms⟩ rfl rfl (fun _ _ => rfl)
  have h1 := h0.cell hi (j := 1) (by omega) (.int .i64 x1) ⟨x0, x1, (D i).k3, (D i).k4, (D i).k5, (D i).t1, (D i).t2, (D i).v1, (D i).o1, (D i).o2, (D i).v2, (D i).l1, (D i).l2, (D i).v3, (D i).cs, (D i).ms⟩ (by rw [upN_same]) (by rw [upN_same]) (fun _ _ => by rw [upN_same]; rfl)
  rw [upN_twice] at h1
  have h2 := h1.cell hi (j := 2) (by omega) (.int .i64 x2) ⟨x0, x1, x2, (D i).k4, (D i).k5, (D i).t1, (D i).t2, (D i).v1, (D i).o1, (D i).o2, (D i).v2, (D i).l1, (D i).l2, (D i).v3, (D i).cs, (D i).ms⟩ (by rw [upN_same]) (by rw [upN_same]) (fun _ _ => by rw [upN_same]; rfl)
  rw [upN_twice] at h2
  have h3 := h2.cell hi (j := 3) (by omega) (.int .i64 x3) ⟨x0, x1, x2, x3, (D i).k5, (D i).t1, (D i).t2, (D i).v1, (D i).o1, (D i).o2, (D i).v2, (D i).l1, (D i).l2, (D i).v3, (D i).cs, (D i).ms⟩ (by rw [upN_same]) (by rw [upN_same]) (fun _ _ => by rw [upN_same]; rfl)
  rw [upN_twice] at h3
  have h4 := h3.cell hi (j := 4) (by omega) (.int .i64 x4) ⟨x0, x1, x2, x3, x4, (D i).t1, (D i).t2, (D i).v1, (D i).o1, (D i).o2, (D i).v2, (D i).l1, (D i).l2, (D i).v3, (D i).cs, (D i).ms⟩ (by rw [upN_same]) (by rw [upN_same]) (fun _ _ => by rw [upN_same]; rfl)
  rw [upN_twice] at h4
  have h5 := h4.cell hi (j := 5) (by omega) (.int .i64 x5) ⟨x0, x1, x2, x3, x4, x5, (D i).t2, (D i).v1, (D i).o1, (D i).o2, (D i).v2, (D i).l1, (D i).l2, (D i).v3, (D i).cs, (D i).ms⟩ (by rw [upN_same]) (by rw [upN_same]) (fun _ _ => by rw [upN_same]; rfl)
  rw [upN_twice] at h5
  have h6 := h5.cell hi (j := 6) (by omega) (.int .i64 x6) ⟨x0, x1, x2, x3, x4, x5, x6, (D i).v1, (D i).o1, (D i).o2, (D i).v2, (D i).l1, (D i).l2, (D i).v3, (D i).cs, (D i).ms⟩ (by rw [upN_same]) (by rw [upN_same]) (fun _ _ => by rw [upN_same]; rfl)
  rw [upN_twice] at h6
  have h7 := h6.cell hi (j := 7) (by omega) (.int .i64 x7) ⟨x0, x1, x2, x3, x4, x5, x6, x7, (D i).o1, (D i).o2, (D i).v2, (D i).l1, (D i).l2, (D i).v3, (D i).cs, (D i).ms⟩ (by rw [upN_same]) (by rw [upN_same]) (fun _ _ => by rw [upN_same]; rfl)
  rw [upN_twice] at h7
  have h8 := h7.cell hi (j := 8) (by omega) (.int .i64 x8) ⟨x0, x1, x2, x3, x4, x5, x6, x7, x8, (D i).o2, (D i).v2, (D i).l1, (D i).l2, (D i).v3, (D i).cs, (D i).ms⟩ (by rw [upN_same]) (by rw [upN_same]) (fun _ _ => by rw [upN_same]; rfl)
  rw [upN_twice] at h8
  have h9 := h8.cell hi (j := 9) (by omega) (.int .i64 x9) ⟨x0, x1, x2, x3, x4, x5, x6, x7, x8, x9, (D i).v2, (D i).l1, (D i).l2, (D i).v3, (D i).cs, (D i).ms⟩ (by rw [upN_same]) (by rw [upN_same]) (fun _ _ => by rw [upN_same]; rfl)
  rw [upN_twice] at h9
  have h10 := h9.cell hi (j := 10) (by omega) (.int .i64 x10) ⟨x0, x1, x2, x3, x4, x5, x6, x7, x8, x9, x10, (D i).l1, (D i).l2, (D i).v3, (D i).cs, (D i).ms⟩ (by rw [upN_same]) (by rw [upN_same]) (fun _ _ => by rw [upN_same]; rfl)
  rw [upN_twice] at h10
  exact h10
/-- The three behind them. -/
theorem NotesE.behind {w : World} {g n : Nat} {D : Nat → NoteD} {Fs : Nat → Nat → Prop} (h : NotesE w g n D Fs) {i : Nat} (hi : i < n) (x0 x1 x2 : Int) :
    NotesE (((w.setCell ⟨g, i * 16 + 13, none⟩ (.int .i64 x0)).setCell ⟨g, i * 16 + 14, none⟩ (.int .i64 x1)).setCell ⟨g, i * 16 + 15, none⟩ (.int .i64 x2)) g n (upN D i ⟨(D i).k1, (D i).k2, (D i).k3, (D i).k4, (D i).k5, (D i).t1, (D i).t2, (D i).v1, (D i).o1, (D i).o2, (D i).v2, x0, x1, x2, (D i).cs, (D i).ms⟩) Fs := by
  have h0 := h.cell hi (j := 13) (by omega) (.int .i64 x0) ⟨(D i).k1, (D i).k2, (D i).k3, (D i).k4, (D i).k5, (D i).t1, (D i).t2, (D i).v1, (D i).o1, (D i).o2, (D i).v2, x0, (D i).l2, (D i).v3, (D i).cs, (D i).ms⟩ rfl rfl (fun _ _ => rfl)
  have h1 := h0.cell hi (j := 14) (by omega) (.int .i64 x1) ⟨(D i).k1, (D i).k2, (D i).k3, (D i).k4, (D i).k5, (D i).t1, (D i).t2, (D i).v1, (D i).o1, (D i).o2, (D i).v2, x0, x1, (D i).v3, (D i).cs, (D i).ms⟩ (by rw [upN_same]) (by rw [upN_same]) (fun _ _ => by rw [upN_same]; rfl)
  rw [upN_twice] at h1
  have h2 := h1.cell hi (j := 15) (by omega) (.int .i64 x2) ⟨(D i).k1, (D i).k2, (D i).k3, (D i).k4, (D i).k5, (D i).t1, (D i).t2, (D i).v1, (D i).o1, (D i).o2, (D i).v2, x0, x1, x2, (D i).cs, (D i).ms⟩ (by rw [upN_same]) (by rw [upN_same]) (fun _ _ => by rw [upN_same]; rfl)
  rw [upN_twice] at h2
  exact h2
/-- The lists of one of them are written. -/
theorem NotesE.lists {w w' : World} {g n : Nat} {D : Nat → NoteD} {Fs : Nat → Nat → Prop} (h : NotesE w g n D Fs) {i : Nat} (hi : i < n) {T : Nat → Prop} (ht : Turns T w w') (hT : ∀ b, T b → Fs i b) {d' : NoteD} {u v : Value} (hu : w.cell? ⟨g, i * 16 + 11, none⟩ = some u) (hv : w.cell? ⟨g, i * 16 + 12, none⟩ = some v) (h3 : ∀ a b, rowN d' a b = rowN (D i) a b) (hL : LieNE d' w' (Fs i) (.agg (rowN d' u v).toArray)) :
    NotesE w' g n (upN D i d') Fs := by
  have hg : ¬ T g := fun hb => h.apart i hi g (hT g hb) rfl
  refine ⟨Nat.lt_of_lt_of_le h.lt ht.size, fun o => (ht.frozen h.lt hg o).trans (h.fr o), fun k hk => ?_, h.apart, h.two⟩
  obtain ⟨u1, v1, h1, h2⟩ := h.row k hk
  by_cases e : k = i
  · subst e
    rw [upN_same]
    have hc : w.cell? ⟨g, k * 16 + 11, none⟩ = some u1 := h1 11 u1 rfl
    have hc2 : w.cell? ⟨g, k * 16 + 12, none⟩ = some v1 := h1 12 v1 rfl
    rw [hu] at hc
    rw [hv] at hc2
    injection hc with hc
    injection hc2 with hc2
    subst hc hc2
    refine ⟨u, v, fun p x hx => (ht.cell h.lt hg _).trans (h1 p x ?_), hL⟩
    rw [h3] at hx
    exact hx
  · have hd : upN D i d' k = D k := by simp [upN, e]
    rw [hd]
    exact ⟨u1, v1, fun p x hx => (ht.cell h.lt hg _).trans (h1 p x hx), (keepsLNE _).turn h2 ht (fun b hb hb2 => h.two k i hk hi e b hb (hT b hb2))⟩
end Go.Proofs.YtjdepjpjjgkmbaaGreat

/- The laws' mark on a list of notes of one's own (written by notes_kind2.py); conditions: the sizes. -/
namespace Go.Proofs.YtjdepjpjjgkmbaaGreat
open Go Go.RowKit

/-- The first j of them are marked, from k on. -/
def MarkedN (k : Int) (S : Nat → Nat) (D D' : Nat → NoteD) (j : Nat) : Prop :=
  (∀ i, (D' i).cs.length = (D i).cs.length ∧ (D' i).ms.length = (D i).ms.length) ∧ ∀ i, i < j → (D' i).k1 = k + S i ∧ (D' i).k2 = k + S i + 1 ∧ (D' i).k3 = k + S i + 1 + 1 ∧ (D' i).k4 = k + S i + 1 + 1 + 1 ∧ (D' i).k5 = k + S i + 1 + 1 + 1 + 1 ∧ (D' i).t1 = k + S i + 1 + 1 + 1 + 1 + 1 ∧ (D' i).t2 = k + S i + 1 + 1 + 1 + 1 + 1 + 1 ∧ (D' i).v1 = k + S i + 1 + 1 + 1 + 1 + 1 + 1 + 1 ∧ (D' i).o1 = k + S i + 1 + 1 + 1 + 1 + 1 + 1 + 1 + 1 ∧ (D' i).o2 = k + S i + 1 + 1 + 1 + 1 + 1 + 1 + 1 + 1 + 1 ∧ (D' i).v2 = k + S i + 1 + 1 + 1 + 1 + 1 + 1 + 1 + 1 + 1 + 1 ∧ Marked (k + S i + 1 + 1 + 1 + 1 + 1 + 1 + 1 + 1 + 1 + 1 + 1) (D' i).cs ∧ Marked (k + S i + 1 + 1 + 1 + 1 + 1 + 1 + 1 + 1 + 1 + 1 + 1 + 2 * (D i).cs.length) (D' i).ms ∧ (D' i).l1 = k + S i + 1 + 1 + 1 + 1 + 1 + 1 + 1 + 1 + 1 + 1 + 1 + 2 * (D i).cs.length + 2 * (D i).ms.length ∧ (D' i).l2 = k + S i + 1 + 1 + 1 + 1 + 1 + 1 + 1 + 1 + 1 + 1 + 1 + 2 * (D i).cs.length + 2 * (D i).ms.length + 1 ∧ (D' i).v3 = k + S i + 1 + 1 + 1 + 1 + 1 + 1 + 1 + 1 + 1 + 1 + 1 + 2 * (D i).cs.length + 2 * (D i).ms.length + 1 + 1

set_option maxRecDepth 100000 in
set_option maxHeartbeats 16000000 in
theorem mark_NS {w : World} {G n cap : Nat} {D : Nat → NoteD} {Fs : Nat → Nat → Prop} {k : Int} (S : Nat → Nat) (h : NotesE w G n D Fs) (hn : n ≤ 1048576) (hS0 : S 0 = 0) (hS : ∀ j, j < n → S (j + 1) = S j + 14 + 2 * (D j).cs.length + 2 * (D j).ms.length) (hSn : ∀ j, j ≤ n → S j ≤ 20000000) (hlen : ∀ j, j < n → (D j).cs.length ≤ 1048577 ∧ (D j).ms.length ≤ 1048577) (hk0 : 0 ≤ k) (hk1 : k ≤ 25000000) :
    Calls Tryz.prog 123 #[.slice (some ⟨G, 0, none⟩) n cap, .int .i64 k] w fun e w' => e = .returned (.int .i64 (k + S n)) ∧ Turns (fun b => b = G ∨ ∃ i, i < n ∧ Fs i b) w w' ∧ ∃ D', NotesE w' G n D' Fs ∧ MarkedN k S D D' n := by
  have HS := Lib.hid hS
  have HSN := Lib.hid hSn
  have HLN := Lib.hid hlen
  have HS0 := Lib.hid hS0
  clear hS hSn hlen hS0
  go_enter Tryz.func123, Tryz.ntmps123
  go_wp2
  go_loopw [1, 5] (fun kv i wr => ∃ (j : Nat) (D' : Nat → NoteD), j ≤ n ∧ i = .int .i64 j ∧ kv = .int .i64 (k + S j) ∧ NotesE wr G n D' Fs ∧ Hid (MarkedN k S D D' j) ∧ Turns (fun b => b = G ∨ ∃ i, i < n ∧ Fs i b) w wr) (fun _ i _ => n - (intOf i).toNat)
  case atStart => exact ⟨0, D, Nat.zero_le _, rfl, by rw [HS0.out]; simp, h, Lib.hid ⟨fun _ => ⟨rfl, rfl⟩, fun i hi => absurd hi (by omega)⟩, Turns.of_below (Below.refl _ _)⟩
  case round =>
    clear h
    obtain ⟨j, D', hj, rfl, rfl, h, hl, ht⟩ := hrel
    by_cases hlt : j < n
    · obtain ⟨u, v, hr, -⟩ := h.row j hlt
      have c0 : wr.cell? ⟨G, j * 16, none⟩ = some (.int .i64 (D' j).k1) := hr 0 _ rfl
      have c1 : wr.cell? ⟨G, j * 16 + 1, none⟩ = some (.int .i64 (D' j).k2) := hr 1 _ rfl
      have c2 : wr.cell? ⟨G, j * 16 + 2, none⟩ = some (.int .i64 (D' j).k3) := hr 2 _ rfl
      have c3 : wr.cell? ⟨G, j * 16 + 3, none⟩ = some (.int .i64 (D' j).k4) := hr 3 _ rfl
      have c4 : wr.cell? ⟨G, j * 16 + 4, none⟩ = some (.int .i64 (D' j).k5) := hr 4 _ rfl
      have c5 : wr.cell? ⟨G, j * 16 + 5, none⟩ = some (.int .i64 (D' j).t1) := hr 5 _ rfl
      have c6 : wr.cell? ⟨G, j * 16 + 6, none⟩ = some (.int .i64 (D' j).t2) := hr 6 _ rfl
      have c7 : wr.cell? ⟨G, j * 16 + 7, none⟩ = some (.int .i64 (D' j).v1) := hr 7 _ rfl
      have c8 : wr.cell? ⟨G, j * 16 + 8, none⟩ = some (.int .i64 (D' j).o1) := hr 8 _ rfl
      have c9 : wr.cell? ⟨G, j * 16 + 9, none⟩ = some (.int .i64 (D' j).o2) := hr 9 _ rfl
      have c10 : wr.cell? ⟨G, j * 16 + 10, none⟩ = some (.int .i64 (D' j).v2) := hr 10 _ rfl
      have fG := h.fr
      have hSj := HSN.out j hj
      obtain ⟨q, hq⟩ : ∃ q : Int, k + (S j : Int) = q := ⟨_, rfl⟩
      have hq0 : 0 ≤ q := by omega
      have hq1 : q ≤ 45000000 := by omega
      rw [hq]
      have HQ := Lib.hid hq
      clear hq hSj
      have v0 : IntKind.i64.wrap (q + 1) = q + 1 := IntWalk.i64_in _ (by omega)
      have v1 : IntKind.i64.wrap (q + 1 + 1) = q + 1 + 1 := IntWalk.i64_in _ (by omega)
      have v2 : IntKind.i64.wrap (q + 1 + 1 + 1) = q + 1 + 1 + 1 := IntWalk.i64_in _ (by omega)
      have v3 : IntKind.i64.wrap (q + 1 + 1 + 1 + 1) = q + 1 + 1 + 1 + 1 := IntWalk.i64_in _ (by omega)
      have v4 : IntKind.i64.wrap (q + 1 + 1 + 1 + 1 + 1) = q + 1 + 1 + 1 + 1 + 1 := IntWalk.i64_in _ (by omega)
      have v5 : IntKind.i64.wrap (q + 1 + 1 + 1 + 1 + 1 + 1) = q + 1 + 1 + 1 + 1 + 1 + 1 := IntWalk.i64_in _ (by omega)
      have v6 : IntKind.i64.wrap (q + 1 + 1 + 1 + 1 + 1 + 1 + 1) = q + 1 + 1 + 1 + 1 + 1 + 1 + 1 := IntWalk.i64_in _ (by omega)
      have v7 : IntKind.i64.wrap (q + 1 + 1 + 1 + 1 + 1 + 1 + 1 + 1) = q + 1 + 1 + 1 + 1 + 1 + 1 + 1 + 1 := IntWalk.i64_in _ (by omega)
      have v8 : IntKind.i64.wrap (q + 1 + 1 + 1 + 1 + 1 + 1 + 1 + 1 + 1) = q + 1 + 1 + 1 + 1 + 1 + 1 + 1 + 1 + 1 := IntWalk.i64_in _ (by omega)
      have v9 : IntKind.i64.wrap (q + 1 + 1 + 1 + 1 + 1 + 1 + 1 + 1 + 1 + 1) = q + 1 + 1 + 1 + 1 + 1 + 1 + 1 + 1 + 1 + 1 := IntWalk.i64_in _ (by omega)
      have v10 : IntKind.i64.wrap (q + 1 + 1 + 1 + 1 + 1 + 1 + 1 + 1 + 1 + 1 + 1) = q + 1 + 1 + 1 + 1 + 1 + 1 + 1 + 1 + 1 + 1 + 1 := IntWalk.i64_in _ (by omega)
      have hkw : IntKind.i64.wrap ((j : Int) + 1) = (j : Int) + 1 := IntWalk.i64_in _ (by omega)
      have hltI : (j : Int) < (n : Int) := by omega
      have HSJ := Lib.hid (HS.out j hlt)
      have HLJ := Lib.hid (HLN.out j hlt)
      have HLE := Lib.hid (hl.out.1 j)
      go_upto_region 26 with fail
      have K3 := h.ahead hlt (q) (q + 1) (q + 1 + 1) (q + 1 + 1 + 1) (q + 1 + 1 + 1 + 1) (q + 1 + 1 + 1 + 1 + 1) (q + 1 + 1 + 1 + 1 + 1 + 1) (q + 1 + 1 + 1 + 1 + 1 + 1 + 1) (q + 1 + 1 + 1 + 1 + 1 + 1 + 1 + 1) (q + 1 + 1 + 1 + 1 + 1 + 1 + 1 + 1 + 1) (q + 1 + 1 + 1 + 1 + 1 + 1 + 1 + 1 + 1 + 1)
      have t3 : Turns (· = G) wr (((((((((((wr.setCell ⟨G, j * 16, none⟩ (.int .i64 (q))).setCell ⟨G, j * 16 + 1, none⟩ (.int .i64 (q + 1))).setCell ⟨G, j * 16 + 2, none⟩ (.int .i64 (q + 1 + 1))).setCell ⟨G, j * 16 + 3, none⟩ (.int .i64 (q + 1 + 1 + 1))).setCell ⟨G, j * 16 + 4, none⟩ (.int .i64 (q + 1 + 1 + 1 + 1))).setCell ⟨G, j * 16 + 5, none⟩ (.int .i64 (q + 1 + 1 + 1 + 1 + 1))).setCell ⟨G, j * 16 + 6, none⟩ (.int .i64 (q + 1 + 1 + 1 + 1 + 1 + 1))).setCell ⟨G, j * 16 + 7, none⟩ (.int .i64 (q + 1 + 1 + 1 + 1 + 1 + 1 + 1))).setCell ⟨G, j * 16 + 8, none⟩ (.int .i64 (q + 1 + 1 + 1 + 1 + 1 + 1 + 1 + 1))).setCell ⟨G, j * 16 + 9, none⟩ (.int .i64 (q + 1 + 1 + 1 + 1 + 1 + 1 + 1 + 1 + 1))).setCell ⟨G, j * 16 + 10, none⟩ (.int .i64 (q + 1 + 1 + 1 + 1 + 1 + 1 + 1 + 1 + 1 + 1))) := ((((((((((turns_cell5 wr G _ _).trans (turns_cell5 _ G _ _)).trans (turns_cell5 _ G _ _)).trans (turns_cell5 _ G _ _)).trans (turns_cell5 _ G _ _)).trans (turns_cell5 _ G _ _)).trans (turns_cell5 _ G _ _)).trans (turns_cell5 _ G _ _)).trans (turns_cell5 _ G _ _)).trans (turns_cell5 _ G _ _)).trans (turns_cell5 _ G _ _)
      clear c0 c1 c2 c3 c4 c5 c6 c7 c8 c9 c10 fG v0 v1 v2 v3 v4 v5 v6 v7 v8 v9 v10 hr
      generalize (((((((((((wr.setCell ⟨G, j * 16, none⟩ (.int .i64 (q))).setCell ⟨G, j * 16 + 1, none⟩ (.int .i64 (q + 1))).setCell ⟨G, j * 16 + 2, none⟩ (.int .i64 (q + 1 + 1))).setCell ⟨G, j * 16 + 3, none⟩ (.int .i64 (q + 1 + 1 + 1))).setCell ⟨G, j * 16 + 4, none⟩ (.int .i64 (q + 1 + 1 + 1 + 1))).setCell ⟨G, j * 16 + 5, none⟩ (.int .i64 (q + 1 + 1 + 1 + 1 + 1))).setCell ⟨G, j * 16 + 6, none⟩ (.int .i64 (q + 1 + 1 + 1 + 1 + 1 + 1))).setCell ⟨G, j * 16 + 7, none⟩ (.int .i64 (q + 1 + 1 + 1 + 1 + 1 + 1 + 1))).setCell ⟨G, j * 16 + 8, none⟩ (.int .i64 (q + 1 + 1 + 1 + 1 + 1 + 1 + 1 + 1))).setCell ⟨G, j * 16 + 9, none⟩ (.int .i64 (q + 1 + 1 + 1 + 1 + 1 + 1 + 1 + 1 + 1))).setCell ⟨G, j * 16 + 10, none⟩ (.int .i64 (q + 1 + 1 + 1 + 1 + 1 + 1 + 1 + 1 + 1 + 1))) = w7 at K3 t3 ⊢
      obtain ⟨u, v, hr3, hL3⟩ := K3.row j hlt
      rw [upN_same] at hr3 hL3
      obtain ⟨u1, v1, lo, hi, lo', hi', e3, hP, hQ, hF, hF', hap⟩ := hL3
      have huv : u = u1 ∧ v = v1 := by simpa [rowN] using e3
      obtain ⟨rfl, rfl⟩ := huv
      obtain ⟨A, m, mc, rfl⟩ := resE_form hP
      obtain ⟨A', m', mc', rfl⟩ := resE_form hQ
      clear e3
      have c3 : w7.cell? ⟨G, j * 16 + 11, none⟩ = some (.slice A m mc) := hr3 11 _ rfl
      have c4 : w7.cell? ⟨G, j * 16 + 12, none⟩ = some (.slice A' m' mc') := hr3 12 _ rfl
      obtain ⟨q7, hq7⟩ : ∃ q7 : Int, q + 1 + 1 + 1 + 1 + 1 + 1 + 1 + 1 + 1 + 1 + 1 = q7 := ⟨_, rfl⟩
      rw [hq7]
      have HQ7 := Lib.hid hq7
      have hp0 : 0 ≤ q7 := by omega
      have hp1 : q7 ≤ 45000011 := by omega
      clear hq7 hq0 hq1 hr3
      have HP := Lib.hid hP
      have HQQ := Lib.hid hQ
      have HF := Lib.hid hF
      have HF' := Lib.hid hF'
      have HA := Lib.hid hap
      clear hP hQ hF hF' hap
      go_upto_region 27 with (go_at_call 36; refine (markPE_is q7 HP.out (by rw [HLE.out.1]; exact HLJ.out.1) hp0 (by omega)).mono ?_; rintro e w8 ⟨rfl, D2, hd1, hd2, hR2, hB⟩)
      have t8 := Turns.of_band hB
      have hGn : ¬ Iv lo hi G := fun hb => K3.apart j hlt G (HF.out G hb) rfl
      have hQ8 := HQQ.out.turn t8 (fun b h1 h2 => HA.out b h2 h1)
      have c48 := (t8.cell K3.lt hGn (j * 16 + 12)).trans c4
      obtain ⟨q8, hq8⟩ : ∃ q8 : Int, q7 + 2 * ((D' j).cs.length : Int) = q8 := ⟨_, rfl⟩
      have hql := HLJ.out.1
      have hql2 := HLE.out.1
      rw [hq8]
      have HQ8 := Lib.hid hq8
      have hr0 : 0 ≤ q8 := by omega
      have hr1 : q8 ≤ 47200000 := by omega
      have HD1 := Lib.hid hd1
      have HD2 := Lib.hid hd2
      have HR2 := Lib.hid hR2
      have HQR := Lib.hid hQ8
      have C3 := Lib.hid c3
      have C4 := Lib.hid c4
      clear hq8 hql hql2 hd1 hd2 hR2 hQ8 hB c3 c4
      go_upto_region 28 with (go_at_call 36; refine (markPE_is q8 HQR.out (by rw [HLE.out.2]; exact HLJ.out.2) hr0 (by omega)).mono ?_; rintro e w9 ⟨rfl, D3, he1, he2, hR3, hB2⟩)
      have t9 := Turns.of_band hB2
      have tt : Turns (fun b => Iv lo hi b ∨ Iv lo' hi' b) w7 w9 := (t8.sub (fun b _ hb => .inl hb)).trans (t9.sub (fun b _ hb => .inr hb))
      have hL9 : LieNE ⟨q, q + 1, q + 1 + 1, q + 1 + 1 + 1, q + 1 + 1 + 1 + 1, q + 1 + 1 + 1 + 1 + 1, q + 1 + 1 + 1 + 1 + 1 + 1, q + 1 + 1 + 1 + 1 + 1 + 1 + 1, q + 1 + 1 + 1 + 1 + 1 + 1 + 1 + 1, q + 1 + 1 + 1 + 1 + 1 + 1 + 1 + 1 + 1, q + 1 + 1 + 1 + 1 + 1 + 1 + 1 + 1 + 1 + 1, (D' j).l1, (D' j).l2, (D' j).v3, D2, D3⟩ w9 (Fs j) (.agg (rowN ⟨q, q + 1, q + 1 + 1, q + 1 + 1 + 1, q + 1 + 1 + 1 + 1, q + 1 + 1 + 1 + 1 + 1, q + 1 + 1 + 1 + 1 + 1 + 1, q + 1 + 1 + 1 + 1 + 1 + 1 + 1, q + 1 + 1 + 1 + 1 + 1 + 1 + 1 + 1, q + 1 + 1 + 1 + 1 + 1 + 1 + 1 + 1 + 1, q + 1 + 1 + 1 + 1 + 1 + 1 + 1 + 1 + 1 + 1, (D' j).l1, (D' j).l2, (D' j).v3, D2, D3⟩ (.slice A m mc) (.slice A' m' mc')).toArray) :=
        ⟨_, _, lo, hi, lo', hi', rfl, HR2.out.turn t9 (fun b h1 h2 => HA.out b h1 h2), hR3, HF.out, HF'.out, HA.out⟩
      have K9 := K3.lists hlt tt (fun b hb => by rcases hb with hb | hb; exact HF.out b hb; exact HF'.out b hb) C3.out C4.out (fun _ _ => by rw [upN_same]; rfl) hL9
      rw [upN_twice] at K9
      obtain ⟨u9, v9, hr9, -⟩ := K9.row j hlt
      rw [upN_same] at hr9
      have c13 : w9.cell? ⟨G, j * 16 + 13, none⟩ = some (.int .i64 (D' j).l1) := hr9 13 _ rfl
      have c14 : w9.cell? ⟨G, j * 16 + 14, none⟩ = some (.int .i64 (D' j).l2) := hr9 14 _ rfl
      have c15 : w9.cell? ⟨G, j * 16 + 15, none⟩ = some (.int .i64 (D' j).v3) := hr9 15 _ rfl
      have fG := K9.fr
      obtain ⟨q9, hq9⟩ : ∃ q9 : Int, q8 + 2 * ((D' j).ms.length : Int) = q9 := ⟨_, rfl⟩
      have hql := HLJ.out.2
      have hql2 := HLE.out.2
      rw [hq9]
      have HQ9 := Lib.hid hq9
      have v0 : IntKind.i64.wrap (q9 + 1) = q9 + 1 := IntWalk.i64_in _ (by omega)
      have v1 : IntKind.i64.wrap (q9 + 1 + 1) = q9 + 1 + 1 := IntWalk.i64_in _ (by omega)
      have v2 : IntKind.i64.wrap (q9 + 1 + 1 + 1) = q9 + 1 + 1 + 1 := IntWalk.i64_in _ (by omega)
      have K10 := K9.behind hlt q9 (q9 + 1) (q9 + 1 + 1)
      rw [upN_twice, upN_same] at K10
      have t10 : Turns (· = G) w9 (((w9.setCell ⟨G, j * 16 + 13, none⟩ (.int .i64 q9)).setCell ⟨G, j * 16 + 14, none⟩ (.int .i64 (q9 + 1))).setCell ⟨G, j * 16 + 15, none⟩ (.int .i64 (q9 + 1 + 1))) := ((turns_cell5 w9 G _ _).trans (turns_cell5 _ G _ _)).trans (turns_cell5 _ G _ _)
      have K10 := Lib.hid K10
      have T10 := Lib.hid t10
      have E1 := Lib.hid he1
      have E2 := Lib.hid he2
      clear hq9 hql hql2 hL9 K9 t10 hr9 he1 he2 hR3 hB2 K3
      go_wp2
      go_roundw
      case rel =>
        refine ⟨j + 1, _, by omega, by go_num, ?_, K10.out, Lib.hid ⟨fun i => ?_, fun i hi1 => ?_⟩, ?_⟩
        · rw [HSJ.out]
          have h0 := HQ9.out
          have h1 := HQ8.out
          have h2 := HQ7.out
          have h3 := HQ.out
          have h4 := HLE.out
          congr 1
          omega
        · by_cases e : i = j
          · subst e
            rw [upN_same]
            exact ⟨HD1.out.trans HLE.out.1, E1.out.trans HLE.out.2⟩
          · rw [show ∀ d, upN D' j d i = D' i from fun d => by simp [upN, e]]
            exact hl.out.1 i
        · by_cases e : i = j
          · subst e
            rw [upN_same]
            have h0 := HQ9.out
            have h1 := HQ8.out
            have h2 := HQ7.out
            have h3 := HQ.out
            have h4 := HLE.out.1
            have h5 := HLE.out.2
            have h6 := E2.out
            rw [h3, h2, ← h4, h1, ← h5, h0]
            exact ⟨rfl, rfl, rfl, rfl, rfl, rfl, rfl, rfl, rfl, rfl, rfl, HD2.out, h6, rfl, rfl, rfl⟩
          · rw [show ∀ d, upN D' j d i = D' i from fun d => by simp [upN, e]]
            exact hl.out.2 i (by omega)
        · exact ((ht.trans (t3.sub (fun _ _ e => .inl e))).trans (tt.sub (fun b _ hb => .inr ⟨j, hlt, by rcases hb with hb | hb; exact HF.out b hb; exact HF'.out b hb⟩))).trans (T10.out.sub (fun _ _ e => .inl e))
      case measure => simp [intOf]; omega
    · have hjn : j = n := by omega
      subst hjn
      go_wp2
      go_ret
      exact ⟨rfl, ht, D', h, hl.out⟩
end Go.Proofs.YtjdepjpjjgkmbaaGreat

/- The laws' look at the marks on a list of notes of one's own (written by notes_kind2.py); conditions: the sizes. -/
namespace Go.Proofs.YtjdepjpjjgkmbaaGreat
open Go Go.RowKit

set_option maxRecDepth 100000 in
set_option maxHeartbeats 16000000 in
theorem held_NS {w : World} {G n cap : Nat} {D D' : Nat → NoteD} {Fs : Nat → Nat → Prop} {k : Int} (S : Nat → Nat) (h : NotesE w G n D' Fs) (hm : MarkedN k S D D' n) (hn : n ≤ 1048576) (hS0 : S 0 = 0) (hS : ∀ j, j < n → S (j + 1) = S j + 14 + 2 * (D j).cs.length + 2 * (D j).ms.length) (hSn : ∀ j, j ≤ n → S j ≤ 20000000) (hlen : ∀ j, j < n → (D j).cs.length ≤ 1048577 ∧ (D j).ms.length ≤ 1048577) (hk0 : 0 ≤ k) (hk1 : k ≤ 25000000) :
    Calls Tryz.prog 125 #[.slice (some ⟨G, 0, none⟩) n cap, .int .i64 k] w fun e w' => e = .returned (.int .i64 (k + S n)) ∧ w = w' := by
  have HS := Lib.hid hS
  have HSN := Lib.hid hSn
  have HLN := Lib.hid hlen
  have HS0 := Lib.hid hS0
  have HM := Lib.hid hm
  clear hS hSn hlen hS0 hm
  go_enter Tryz.func125, Tryz.ntmps125
  go_wp2
  go_loopw [1, 5] (fun kv i wr => ∃ j : Nat, j ≤ n ∧ i = .int .i64 j ∧ kv = .int .i64 (k + S j) ∧ w = wr) (fun _ i _ => n - (intOf i).toNat)
  case atStart => exact ⟨0, Nat.zero_le _, rfl, by rw [HS0.out]; simp, rfl⟩
  case round =>
    obtain ⟨j, hj, rfl, rfl, rfl⟩ := hrel
    by_cases hlt : j < n
    · obtain ⟨u, v, hr, hL⟩ := h.row j hlt
      obtain ⟨u1, v1, lo, hi, lo', hi', e3, hP, hQ, -⟩ := hL
      have huv : u = u1 ∧ v = v1 := by simpa [rowN] using e3
      obtain ⟨rfl, rfl⟩ := huv
      obtain ⟨A, m, mc, rfl⟩ := resE_form hP
      obtain ⟨A', m', mc', rfl⟩ := resE_form hQ
      clear e3
      obtain ⟨m0, m1, m2, m3, m4, m5, m6, m7, m8, m9, m10, m11, m12, m13, m14, m15⟩ := HM.out.2 j hlt
      have hSj := HSN.out j hj
      obtain ⟨q, hq⟩ : ∃ q : Int, k + (S j : Int) = q := ⟨_, rfl⟩
      rw [hq] at m0 m1 m2 m3 m4 m5 m6 m7 m8 m9 m10 m11 m12 m13 m14 m15 ⊢
      have c0 : w.cell? ⟨G, j * 16, none⟩ = some (.int .i64 (q)) := (hr 0 _ rfl).trans (congrArg (fun x => some (Value.int .i64 x)) m0)
      have c1 : w.cell? ⟨G, j * 16 + 1, none⟩ = some (.int .i64 (q + 1)) := (hr 1 _ rfl).trans (congrArg (fun x => some (Value.int .i64 x)) m1)
      have c2 : w.cell? ⟨G, j * 16 + 2, none⟩ = some (.int .i64 (q + 1 + 1)) := (hr 2 _ rfl).trans (congrArg (fun x => some (Value.int .i64 x)) m2)
      have c3 : w.cell? ⟨G, j * 16 + 3, none⟩ = some (.int .i64 (q + 1 + 1 + 1)) := (hr 3 _ rfl).trans (congrArg (fun x => some (Value.int .i64 x)) m3)
      have c4 : w.cell? ⟨G, j * 16 + 4, none⟩ = some (.int .i64 (q + 1 + 1 + 1 + 1)) := (hr 4 _ rfl).trans (congrArg (fun x => some (Value.int .i64 x)) m4)
      have c5 : w.cell? ⟨G, j * 16 + 5, none⟩ = some (.int .i64 (q + 1 + 1 + 1 + 1 + 1)) := (hr 5 _ rfl).trans (congrArg (fun x => some (Value.int .i64 x)) m5)
      have c6 : w.cell? ⟨G, j * 16 + 6, none⟩ = some (.int .i64 (q + 1 + 1 + 1 + 1 + 1 + 1)) := (hr 6 _ rfl).trans (congrArg (fun x => some (Value.int .i64 x)) m6)
      have c7 : w.cell? ⟨G, j * 16 + 7, none⟩ = some (.int .i64 (q + 1 + 1 + 1 + 1 + 1 + 1 + 1)) := (hr 7 _ rfl).trans (congrArg (fun x => some (Value.int .i64 x)) m7)
      have c8 : w.cell? ⟨G, j * 16 + 8, none⟩ = some (.int .i64 (q + 1 + 1 + 1 + 1 + 1 + 1 + 1 + 1)) := (hr 8 _ rfl).trans (congrArg (fun x => some (Value.int .i64 x)) m8)
      have c9 : w.cell? ⟨G, j * 16 + 9, none⟩ = some (.int .i64 (q + 1 + 1 + 1 + 1 + 1 + 1 + 1 + 1 + 1)) := (hr 9 _ rfl).trans (congrArg (fun x => some (Value.int .i64 x)) m9)
      have c10 : w.cell? ⟨G, j * 16 + 10, none⟩ = some (.int .i64 (q + 1 + 1 + 1 + 1 + 1 + 1 + 1 + 1 + 1 + 1)) := (hr 10 _ rfl).trans (congrArg (fun x => some (Value.int .i64 x)) m10)
      have c11 : w.cell? ⟨G, j * 16 + 11, none⟩ = some (.slice A m mc) := hr 11 _ rfl
      have c12 : w.cell? ⟨G, j * 16 + 12, none⟩ = some (.slice A' m' mc') := hr 12 _ rfl
      have HQ := Lib.hid hq
      have HSJ := Lib.hid (HS.out j hlt)
      have HLJ := Lib.hid (HLN.out j hlt)
      have HLE := Lib.hid (HM.out.1 j)
      rw [← HLE.out.1] at m12 m13 m14 m15
      rw [← HLE.out.2] at m13 m14 m15
      obtain ⟨q7, hq7⟩ : ∃ q7 : Int, q + 1 + 1 + 1 + 1 + 1 + 1 + 1 + 1 + 1 + 1 + 1 = q7 := ⟨_, rfl⟩
      rw [hq7] at m11 m12 m13 m14 m15
      obtain ⟨q8, hq8⟩ : ∃ q8 : Int, q7 + 2 * ((D' j).cs.length : Int) = q8 := ⟨_, rfl⟩
      rw [hq8] at m12 m13 m14 m15
      obtain ⟨q9, hq9⟩ : ∃ q9 : Int, q8 + 2 * ((D' j).ms.length : Int) = q9 := ⟨_, rfl⟩
      rw [hq9] at m13 m14 m15
      have c13 : w.cell? ⟨G, j * 16 + 13, none⟩ = some (.int .i64 q9) := (hr 13 _ rfl).trans (congrArg (fun x => some (Value.int .i64 x)) m13)
      have c14 : w.cell? ⟨G, j * 16 + 14, none⟩ = some (.int .i64 (q9 + 1)) := (hr 14 _ rfl).trans (congrArg (fun x => some (Value.int .i64 x)) m14)
      have c15 : w.cell? ⟨G, j * 16 + 15, none⟩ = some (.int .i64 (q9 + 1 + 1)) := (hr 15 _ rfl).trans (congrArg (fun x => some (Value.int .i64 x)) m15)
      have HP := Lib.hid hP
      have HQQ := Lib.hid hQ
      have M11 := Lib.hid m11
      have M12 := Lib.hid m12
      clear hP hQ hr m0 m1 m2 m3 m4 m5 m6 m7 m8 m9 m10 m11 m12 m13 m14 m15
      have hq0 : 0 ≤ q := by omega
      have hq1 : q ≤ 45000000 := by omega
      have hql := HLJ.out
      have hqe := HLE.out
      have hp0 : 0 ≤ q7 := by omega
      have hp1 : q7 ≤ 45000011 := by omega
      have hr0 : 0 ≤ q8 := by omega
      have hr1 : q8 ≤ 47200000 := by omega
      have hneg8 : ¬ q8 < 0 := by omega
      have hneg9 : ¬ q9 < 0 := by omega
      have hb9 : q9 ≤ 49400000 := by omega
      have H7 := Lib.hid hq7
      have H8 := Lib.hid hq8
      have H9 := Lib.hid hq9
      clear hq hSj hql hqe hq7 hq8 hq9
      have v0 : IntKind.i64.wrap (q + 1) = q + 1 := IntWalk.i64_in _ (by omega)
      have v1 : IntKind.i64.wrap (q + 1 + 1) = q + 1 + 1 := IntWalk.i64_in _ (by omega)
      have v2 : IntKind.i64.wrap (q + 1 + 1 + 1) = q + 1 + 1 + 1 := IntWalk.i64_in _ (by omega)
      have v3 : IntKind.i64.wrap (q + 1 + 1 + 1 + 1) = q + 1 + 1 + 1 + 1 := IntWalk.i64_in _ (by omega)
      have v4 : IntKind.i64.wrap (q + 1 + 1 + 1 + 1 + 1) = q + 1 + 1 + 1 + 1 + 1 := IntWalk.i64_in _ (by omega)
      have v5 : IntKind.i64.wrap (q + 1 + 1 + 1 + 1 + 1 + 1) = q + 1 + 1 + 1 + 1 + 1 + 1 := IntWalk.i64_in _ (by omega)
      have v6 : IntKind.i64.wrap (q + 1 + 1 + 1 + 1 + 1 + 1 + 1) = q + 1 + 1 + 1 + 1 + 1 + 1 + 1 := IntWalk.i64_in _ (by omega)
      have v7 : IntKind.i64.wrap (q + 1 + 1 + 1 + 1 + 1 + 1 + 1 + 1) = q + 1 + 1 + 1 + 1 + 1 + 1 + 1 + 1 := IntWalk.i64_in _ (by omega)
      have v8 : IntKind.i64.wrap (q + 1 + 1 + 1 + 1 + 1 + 1 + 1 + 1 + 1) = q + 1 + 1 + 1 + 1 + 1 + 1 + 1 + 1 + 1 := IntWalk.i64_in _ (by omega)
      have v9 : IntKind.i64.wrap (q + 1 + 1 + 1 + 1 + 1 + 1 + 1 + 1 + 1 + 1) = q + 1 + 1 + 1 + 1 + 1 + 1 + 1 + 1 + 1 + 1 := IntWalk.i64_in _ (by omega)
      have v10 : IntKind.i64.wrap (q + 1 + 1 + 1 + 1 + 1 + 1 + 1 + 1 + 1 + 1 + 1) = q + 1 + 1 + 1 + 1 + 1 + 1 + 1 + 1 + 1 + 1 + 1 := IntWalk.i64_in _ (by omega)
      have w0 : IntKind.i64.wrap (q9 + 1) = q9 + 1 := IntWalk.i64_in _ (by omega)
      have w1 : IntKind.i64.wrap (q9 + 1 + 1) = q9 + 1 + 1 := IntWalk.i64_in _ (by omega)
      have w2 : IntKind.i64.wrap (q9 + 1 + 1 + 1) = q9 + 1 + 1 + 1 := IntWalk.i64_in _ (by omega)
      have hkw : IntKind.i64.wrap ((j : Int) + 1) = (j : Int) + 1 := IntWalk.i64_in _ (by omega)
      have hltI : (j : Int) < (n : Int) := by omega
      go_upto_region 37 with fail
      rw [H7.out]
      clear c0 v0 c1 v1 c2 v2 c3 v3 c4 v4 c5 v5 c6 v6 c7 v7 c8 v8 c9 v9 c10 v10
      go_upto_region 38 with (go_at_call 107; refine (heldPE_is q7 HP.out M11.out (by rw [HLE.out.1]; exact HLJ.out.1) hp0 (by omega)).mono ?_; rintro e w8 ⟨rfl, rfl⟩; rw [H8.out])
      go_upto_region 41 with (go_at_call 107; refine (heldPE_is q8 HQQ.out M12.out (by rw [HLE.out.2]; exact HLJ.out.2) hr0 (by omega)).mono ?_; rintro e w8 ⟨rfl, rfl⟩; rw [H9.out])
      go_wp2
      go_roundw
      case rel =>
        refine ⟨j + 1, by omega, by go_num, ?_, by trivial⟩
        rw [HSJ.out]
        have h0 := H9.out
        have h1 := H8.out
        have h2 := H7.out
        have h3 := HQ.out
        have h4 := HLE.out
        congr 1
        omega
      case measure => simp [intOf]; omega
    · have hjn : j = n := by omega
      subst hjn
      go_wp2
      go_ret
      exact ⟨rfl, rfl⟩
end Go.Proofs.YtjdepjpjjgkmbaaGreat

/- The laws' mark on a list of records of one's own, and the look at it; conditions: the sizes. -/
namespace Go.Proofs.YtjdepjpjjgkmbaaGreat
open Go Go.RowKit

/-- The first j of them are marked, from k on. -/
def MarkedCS (k : Int) (S : Nat → Nat) (D D' : Nat → RecD) (j : Nat) : Prop :=
  (∀ i, (D' i).ps.length = (D i).ps.length) ∧ ∀ i, i < j → (D' i).r1 = k + S i ∧ (D' i).r2 = k + S i + 1 ∧ (D' i).r3 = k + S i + 1 + 1 ∧ (D' i).r4 = k + S i + 1 + 1 + 1 ∧ (D' i).r5 = k + S i + 1 + 1 + 1 + 1 ∧ (D' i).r6 = k + S i + 1 + 1 + 1 + 1 + 1 ∧ (D' i).r7 = k + S i + 1 + 1 + 1 + 1 + 1 + 1 ∧ Marked (k + S i + 1 + 1 + 1 + 1 + 1 + 1 + 1) (D' i).ps ∧ (D' i).r8 = k + S i + 1 + 1 + 1 + 1 + 1 + 1 + 1 + 2 * (D i).ps.length

set_option maxRecDepth 100000 in
set_option maxHeartbeats 8000000 in
theorem markd_CS {w : World} {G n cap : Nat} {D : Nat → RecD} {Fs : Nat → Nat → Prop} {k : Int} (h : RecsAt w G n D Fs) (hn : n ≤ 1048576) (S : Nat → Nat) (hS0 : S 0 = 0) (hS : ∀ j, j < n → S (j + 1) = S j + 8 + 2 * (D j).ps.length) (hSn : ∀ j, j ≤ n → S j ≤ 20000000) (hlen : ∀ j, j < n → (D j).ps.length ≤ 1048577) (hk0 : 0 ≤ k) (hk1 : k ≤ 25000000) :
    Calls Tryz.prog 92 #[.slice (some ⟨G, 0, none⟩) n cap, .int .i64 k] w fun e w' => e = .returned (.int .i64 (k + S n)) ∧ Turns (fun b => b = G ∨ ∃ i, i < n ∧ Fs i b) w w' ∧ ∃ D', RecsAt w' G n D' Fs ∧ MarkedCS k S D D' n := by
  have HS := Lib.hid hS
  have HSN := Lib.hid hSn
  have HLN := Lib.hid hlen
  have HS0 := Lib.hid hS0
  clear hS hSn hlen hS0
  go_enter Tryz.func92, Tryz.ntmps92
  go_wp2
  go_loopw [1, 5] (fun kv i wr => ∃ (j : Nat) (D' : Nat → RecD), j ≤ n ∧ i = .int .i64 j ∧ kv = .int .i64 (k + S j) ∧ RecsAt wr G n D' Fs ∧ MarkedCS k S D D' j ∧ Turns (fun b => b = G ∨ ∃ i, i < n ∧ Fs i b) w wr) (fun _ i _ => n - (intOf i).toNat)
  case atStart => exact ⟨0, D, Nat.zero_le _, rfl, by rw [HS0.out]; simp, h, ⟨fun _ => rfl, fun i hi => absurd hi (by omega)⟩, Turns.of_below (Below.refl _ _)⟩
  case round =>
    clear h
    obtain ⟨j, D', hj, rfl, rfl, h, hl, ht⟩ := hrel
    by_cases hlt : j < n
    · obtain ⟨u, hr, u2, e2, hO⟩ := h.row j hlt
      injection e2 with e2
      have hu : u = u2 := by simpa [RecD.cells] using e2
      subst hu
      clear e2
      have c0 : wr.cell? ⟨G, j * 9, none⟩ = some (.int .i64 (D' j).r1) := hr 0 _ rfl
      have c1 : wr.cell? ⟨G, j * 9 + 1, none⟩ = some (.int .i64 (D' j).r2) := hr 1 _ rfl
      have c2 : wr.cell? ⟨G, j * 9 + 2, none⟩ = some (.int .i64 (D' j).r3) := hr 2 _ rfl
      have c3 : wr.cell? ⟨G, j * 9 + 3, none⟩ = some (.int .i64 (D' j).r4) := hr 3 _ rfl
      have c4 : wr.cell? ⟨G, j * 9 + 4, none⟩ = some (.int .i64 (D' j).r5) := hr 4 _ rfl
      have c5 : wr.cell? ⟨G, j * 9 + 5, none⟩ = some (.int .i64 (D' j).r6) := hr 5 _ rfl
      have c6 : wr.cell? ⟨G, j * 9 + 6, none⟩ = some (.int .i64 (D' j).r7) := hr 6 _ rfl
      have c7 : wr.cell? ⟨G, j * 9 + 7, none⟩ = some u := hr 7 _ rfl
      have c8 : wr.cell? ⟨G, j * 9 + 8, none⟩ = some (.int .i64 (D' j).r8) := hr 8 _ rfl
      have fG := h.fr
      have hSj := HSN.out j hj
      obtain ⟨q, hq⟩ : ∃ q : Int, k + (S j : Int) = q := ⟨_, rfl⟩
      have hq0 : 0 ≤ q := by omega
      have hq1 : q ≤ 45000000 := by omega
      rw [hq]
      have HQ := Lib.hid hq
      clear hq hSj
      have v0 : IntKind.i64.wrap (q + 1) = q + 1 := IntWalk.i64_in _ (by omega)
      have v1 : IntKind.i64.wrap (q + 1 + 1) = q + 1 + 1 := IntWalk.i64_in _ (by omega)
      have v2 : IntKind.i64.wrap (q + 1 + 1 + 1) = q + 1 + 1 + 1 := IntWalk.i64_in _ (by omega)
      have v3 : IntKind.i64.wrap (q + 1 + 1 + 1 + 1) = q + 1 + 1 + 1 + 1 := IntWalk.i64_in _ (by omega)
      have v4 : IntKind.i64.wrap (q + 1 + 1 + 1 + 1 + 1) = q + 1 + 1 + 1 + 1 + 1 := IntWalk.i64_in _ (by omega)
      have v5 : IntKind.i64.wrap (q + 1 + 1 + 1 + 1 + 1 + 1) = q + 1 + 1 + 1 + 1 + 1 + 1 := IntWalk.i64_in _ (by omega)
      have v6 : IntKind.i64.wrap (q + 1 + 1 + 1 + 1 + 1 + 1 + 1) = q + 1 + 1 + 1 + 1 + 1 + 1 + 1 := IntWalk.i64_in _ (by omega)
      have hkw : IntKind.i64.wrap ((j : Int) + 1) = (j : Int) + 1 := IntWalk.i64_in _ (by omega)
      have hltI : (j : Int) < (n : Int) := by omega
      have HSJ := Lib.hid (HS.out j hlt)
      have HLJ := Lib.hid (HLN.out j hlt)
      have HMM := Lib.hid hl
      replace hl := hl.1
      have HLE := Lib.hid (hl j)
      go_upto_region 18 with fail
      have K7 := h.seven hlt (q) (q + 1) (q + 1 + 1) (q + 1 + 1 + 1) (q + 1 + 1 + 1 + 1) (q + 1 + 1 + 1 + 1 + 1) (q + 1 + 1 + 1 + 1 + 1 + 1)
      have t7 : Turns (· = G) wr (((((((wr.setCell ⟨G, j * 9, none⟩ (.int .i64 (q))).setCell ⟨G, j * 9 + 1, none⟩ (.int .i64 (q + 1))).setCell ⟨G, j * 9 + 2, none⟩ (.int .i64 (q + 1 + 1))).setCell ⟨G, j * 9 + 3, none⟩ (.int .i64 (q + 1 + 1 + 1))).setCell ⟨G, j * 9 + 4, none⟩ (.int .i64 (q + 1 + 1 + 1 + 1))).setCell ⟨G, j * 9 + 5, none⟩ (.int .i64 (q + 1 + 1 + 1 + 1 + 1))).setCell ⟨G, j * 9 + 6, none⟩ (.int .i64 (q + 1 + 1 + 1 + 1 + 1 + 1))) := turns_setCells9 G [.int .i64 (q), .int .i64 (q + 1), .int .i64 (q + 1 + 1), .int .i64 (q + 1 + 1 + 1), .int .i64 (q + 1 + 1 + 1 + 1), .int .i64 (q + 1 + 1 + 1 + 1 + 1), .int .i64 (q + 1 + 1 + 1 + 1 + 1 + 1)] (j * 9) wr
      have n7 := (K7.row j hlt)
      rw [upD_same] at n7
      obtain ⟨u3, hr3, u4, e4, hO4⟩ := n7
      injection e4 with e4
      have hu4 : u3 = u4 := by simpa [RecD.cells] using e4
      subst hu4
      clear e4
      clear c0 c1 c2 c3 c4 c5 c6 c7 c8 fG v0 v1 v2 v3 v4 v5 v6 hr hO
      generalize (((((((wr.setCell ⟨G, j * 9, none⟩ (.int .i64 (q))).setCell ⟨G, j * 9 + 1, none⟩ (.int .i64 (q + 1))).setCell ⟨G, j * 9 + 2, none⟩ (.int .i64 (q + 1 + 1))).setCell ⟨G, j * 9 + 3, none⟩ (.int .i64 (q + 1 + 1 + 1))).setCell ⟨G, j * 9 + 4, none⟩ (.int .i64 (q + 1 + 1 + 1 + 1))).setCell ⟨G, j * 9 + 5, none⟩ (.int .i64 (q + 1 + 1 + 1 + 1 + 1))).setCell ⟨G, j * 9 + 6, none⟩ (.int .i64 (q + 1 + 1 + 1 + 1 + 1 + 1))) = w7 at K7 t7 hr3 hO4 ⊢
      have c7 : w7.cell? ⟨G, j * 9 + 7, none⟩ = some u3 := hr3 7 _ rfl
      obtain ⟨q7, hq7⟩ : ∃ q7 : Int, q + 1 + 1 + 1 + 1 + 1 + 1 + 1 = q7 := ⟨_, rfl⟩
      rw [hq7]
      have HQ7 := Lib.hid hq7
      have hp0 : 0 ≤ q7 := by omega
      have hp1 : q7 ≤ 45000007 := by omega
      clear hq7 hq0 hq1
      obtain ⟨lo, hi, hRP, hFs⟩ := ownP_res9 hO4
      have HRP := Lib.hid hRP
      clear hRP hO4 hr3
      go_upto_region 19 with (go_at_call 36; refine (markP_is q7 HRP.out (by rw [HLE.out]; exact HLJ.out) hp0 (by omega)).mono ?_; rintro e w8 ⟨rfl, D2, hd1, hd2, hR2, hB⟩)
      have K8 := K7.list hlt (Turns.of_band hB) hFs c7 (resP_own hR2 hFs)
      rw [upD_twice, upD_same] at K8
      have t8 := Turns.of_band hB
      have n8 := K8.row j hlt
      rw [upD_same] at n8
      obtain ⟨u5, hr5, -⟩ := n8
      have c8 : w8.cell? ⟨G, j * 9 + 8, none⟩ = some (.int .i64 (D' j).r8) := hr5 8 _ rfl
      have fG := K8.fr
      have HL2 := Lib.hid hd1
      have HD2 := Lib.hid hd2
      have HF := Lib.hid hFs
      obtain ⟨q8, hq8⟩ : ∃ q8 : Int, q7 + 2 * ((D j).ps.length : Int) = q8 := ⟨_, rfl⟩
      have hql := HLJ.out
      rw [hq8]
      have HQ8 := Lib.hid hq8
      have v8 : IntKind.i64.wrap (q8 + 1) = q8 + 1 := IntWalk.i64_in _ (by omega)
      have t9 := turns_setCells9 G [.int .i64 q8] (j * 9 + 8) w8
      have K9 := K8.cell hlt (j := 8) (by omega) (.int .i64 q8) ⟨q, q + 1, q + 1 + 1, q + 1 + 1 + 1, q + 1 + 1 + 1 + 1, q + 1 + 1 + 1 + 1 + 1, q + 1 + 1 + 1 + 1 + 1 + 1, D2, q8⟩ (by rw [upD_same]) (fun _ => by rw [upD_same]; rfl)
      rw [upD_twice] at K9
      clear hq8 hql hd1 hd2 hR2 hB hr5 hFs c7
      go_wp2
      go_roundw
      case rel =>
        refine ⟨j + 1, _, by omega, by go_num, ?_, K9, ⟨fun i => ?_, fun i hi => ?_⟩, ?_⟩
        · rw [HSJ.out]
          have h1 := HQ8.out
          have h2 := HQ7.out
          have h3 := HQ.out
          have h4 := HLE.out
          congr 1
          omega
        · by_cases e : i = j
          · subst e
            rw [upD_same]
            show D2.length = _
            rw [HL2.out]
            exact HLE.out
          · rw [show ∀ d, upD D' j d i = D' i from fun d => by simp [upD, e]]
            exact HMM.out.1 i
        · by_cases e : i = j
          · subst e
            rw [upD_same]
            have h1 := HQ.out
            have h2 := HQ7.out
            have h3 := HQ8.out
            have h4 := HD2.out
            rw [h1]
            refine ⟨rfl, rfl, rfl, rfl, rfl, rfl, rfl, by rw [h2]; exact h4, ?_⟩
            show q8 = _
            omega
          · rw [show ∀ d, upD D' j d i = D' i from fun d => by simp [upD, e]]
            exact HMM.out.2 i (by omega)
        · exact ((ht.trans (t7.sub (fun _ _ e => .inl e))).trans (t8.sub (fun b _ hb => .inr ⟨j, hlt, HF.out b hb⟩))).trans (t9.sub (fun _ _ e => .inl e))
      case measure => simp [intOf]; omega
    · have hjn : j = n := by omega
      subst hjn
      go_wp2
      go_ret
      exact ⟨rfl, ht, D', h, hl⟩

set_option maxRecDepth 100000 in
set_option maxHeartbeats 8000000 in
theorem held_CS {w : World} {G n cap : Nat} {D D' : Nat → RecD} {Fs : Nat → Nat → Prop} {k : Int} (S : Nat → Nat) (h : RecsAt w G n D' Fs) (hm : MarkedCS k S D D' n) (hn : n ≤ 1048576) (hS0 : S 0 = 0) (hS : ∀ j, j < n → S (j + 1) = S j + 8 + 2 * (D j).ps.length) (hSn : ∀ j, j ≤ n → S j ≤ 20000000) (hlen : ∀ j, j < n → (D j).ps.length ≤ 1048577) (hk0 : 0 ≤ k) (hk1 : k ≤ 25000000) :
    Calls Tryz.prog 93 #[.slice (some ⟨G, 0, none⟩) n cap, .int .i64 k] w fun e w' => e = .returned (.int .i64 (k + S n)) ∧ w = w' := by
  have HS := Lib.hid hS
  have HSN := Lib.hid hSn
  have HLN := Lib.hid hlen
  have HS0 := Lib.hid hS0
  have HM := Lib.hid hm
  clear hS hSn hlen hS0 hm
  go_enter Tryz.func93, Tryz.ntmps93
  go_wp2
  go_loopw [1, 5] (fun kv i wr => ∃ j : Nat, j ≤ n ∧ i = .int .i64 j ∧ kv = .int .i64 (k + S j) ∧ w = wr) (fun _ i _ => n - (intOf i).toNat)
  case atStart => exact ⟨0, Nat.zero_le _, rfl, by rw [HS0.out]; simp, rfl⟩
  case round =>
    obtain ⟨j, hj, rfl, rfl, rfl⟩ := hrel
    by_cases hlt : j < n
    · obtain ⟨u, hr, u2, e2, hO⟩ := h.row j hlt
      injection e2 with e2
      have hu : u = u2 := by simpa [RecD.cells] using e2
      subst hu
      clear e2
      obtain ⟨lo, hi, hRP, -⟩ := ownP_res9 hO
      obtain ⟨A, mc, eu, -, -, -⟩ := hO.at
      obtain ⟨m0, m1, m2, m3, m4, m5, m6, m7, m8⟩ := HM.out.2 j hlt
      have hSj := HSN.out j hj
      obtain ⟨q, hq⟩ : ∃ q : Int, k + (S j : Int) = q := ⟨_, rfl⟩
      rw [hq] at m0 m1 m2 m3 m4 m5 m6 m7 m8 ⊢
      have c0 : w.cell? ⟨G, j * 9, none⟩ = some (.int .i64 q) := m0 ▸ hr 0 _ rfl
      have c1 : w.cell? ⟨G, j * 9 + 1, none⟩ = some (.int .i64 (q + 1)) := m1 ▸ hr 1 _ rfl
      have c2 : w.cell? ⟨G, j * 9 + 2, none⟩ = some (.int .i64 (q + 1 + 1)) := m2 ▸ hr 2 _ rfl
      have c3 : w.cell? ⟨G, j * 9 + 3, none⟩ = some (.int .i64 (q + 1 + 1 + 1)) := m3 ▸ hr 3 _ rfl
      have c4 : w.cell? ⟨G, j * 9 + 4, none⟩ = some (.int .i64 (q + 1 + 1 + 1 + 1)) := m4 ▸ hr 4 _ rfl
      have c5 : w.cell? ⟨G, j * 9 + 5, none⟩ = some (.int .i64 (q + 1 + 1 + 1 + 1 + 1)) := m5 ▸ hr 5 _ rfl
      have c6 : w.cell? ⟨G, j * 9 + 6, none⟩ = some (.int .i64 (q + 1 + 1 + 1 + 1 + 1 + 1)) := m6 ▸ hr 6 _ rfl
      have c7 : w.cell? ⟨G, j * 9 + 7, none⟩ = some u := hr 7 _ rfl
      have c8 : w.cell? ⟨G, j * 9 + 8, none⟩ = some (.int .i64 (q + 1 + 1 + 1 + 1 + 1 + 1 + 1 + 2 * ((D j).ps.length : Int))) := m8 ▸ hr 8 _ rfl
      have hq0 : 0 ≤ q := by omega
      have hq1 : q ≤ 45000000 := by omega
      have HQ := Lib.hid hq
      have HSJ := Lib.hid (HS.out j hlt)
      have HLJ := Lib.hid (HLN.out j hlt)
      have HLE := Lib.hid (HM.out.1 j)
      rw [← HLE.out] at c8
      clear hq hSj hr hO m0 m1 m2 m3 m4 m5 m6 m8
      have v0 : IntKind.i64.wrap (q + 1) = q + 1 := IntWalk.i64_in _ (by omega)
      have v1 : IntKind.i64.wrap (q + 1 + 1) = q + 1 + 1 := IntWalk.i64_in _ (by omega)
      have v2 : IntKind.i64.wrap (q + 1 + 1 + 1) = q + 1 + 1 + 1 := IntWalk.i64_in _ (by omega)
      have v3 : IntKind.i64.wrap (q + 1 + 1 + 1 + 1) = q + 1 + 1 + 1 + 1 := IntWalk.i64_in _ (by omega)
      have v4 : IntKind.i64.wrap (q + 1 + 1 + 1 + 1 + 1) = q + 1 + 1 + 1 + 1 + 1 := IntWalk.i64_in _ (by omega)
      have v5 : IntKind.i64.wrap (q + 1 + 1 + 1 + 1 + 1 + 1) = q + 1 + 1 + 1 + 1 + 1 + 1 := IntWalk.i64_in _ (by omega)
      have v6 : IntKind.i64.wrap (q + 1 + 1 + 1 + 1 + 1 + 1 + 1) = q + 1 + 1 + 1 + 1 + 1 + 1 + 1 := IntWalk.i64_in _ (by omega)
      have hkw : IntKind.i64.wrap ((j : Int) + 1) = (j : Int) + 1 := IntWalk.i64_in _ (by omega)
      have hltI : (j : Int) < (n : Int) := by omega
      obtain ⟨q7, hq7⟩ : ∃ q7 : Int, q + 1 + 1 + 1 + 1 + 1 + 1 + 1 = q7 := ⟨_, rfl⟩
      rw [hq7] at c8 m7 v6
      have HQ7 := Lib.hid hq7
      have hp0 : 0 ≤ q7 := by omega
      have hp1 : q7 ≤ 45000007 := by omega
      have HM7 := Lib.hid m7
      have HRP := Lib.hid hRP
      have hql := HLJ.out
      have hqe := HLE.out
      subst eu
      obtain ⟨q8, hq8⟩ : ∃ q8 : Int, q7 + 2 * ((D' j).ps.length : Int) = q8 := ⟨_, rfl⟩
      rw [hq8] at c8
      have HQ8 := Lib.hid hq8
      have hneg : ¬ q8 < 0 := by omega
      have v8 : IntKind.i64.wrap (q8 + 1) = q8 + 1 := IntWalk.i64_in _ (by omega)
      have hw7 : IntKind.i64.wrap (q + 1 + 1 + 1 + 1 + 1 + 1 + 1) = q7 := by rw [hq7]; exact v6
      clear hq7 m7 hRP hql hqe hq8 v6
      clear v0 v1 v2 v3 v4 v5
      have v0 : IntKind.i64.wrap (q + 1) = q + 1 := IntWalk.i64_in _ (by omega)
      have v1 : IntKind.i64.wrap (q + 1 + 1) = q + 1 + 1 := IntWalk.i64_in _ (by omega)
      have v2 : IntKind.i64.wrap (q + 1 + 1 + 1) = q + 1 + 1 + 1 := IntWalk.i64_in _ (by omega)
      have v3 : IntKind.i64.wrap (q + 1 + 1 + 1 + 1) = q + 1 + 1 + 1 + 1 := IntWalk.i64_in _ (by omega)
      have v4 : IntKind.i64.wrap (q + 1 + 1 + 1 + 1 + 1) = q + 1 + 1 + 1 + 1 + 1 := IntWalk.i64_in _ (by omega)
      have v5 : IntKind.i64.wrap (q + 1 + 1 + 1 + 1 + 1 + 1) = q + 1 + 1 + 1 + 1 + 1 + 1 := IntWalk.i64_in _ (by omega)
      go_wp2_with (go_at_call 107; refine (heldP_is q7 HRP.out HM7.out (by rw [HLE.out]; exact HLJ.out) hp0 (by omega)).mono ?_; rintro e w8 ⟨rfl, rfl⟩; rw [HQ8.out])
      go_roundw
      case rel =>
        refine ⟨j + 1, by omega, by go_num, ?_, by trivial⟩
        rw [HSJ.out]
        have h1 := HQ8.out
        have h2 := HQ7.out
        have h3 := HQ.out
        have h4 := HLE.out
        congr 1
        omega
      case measure => simp [intOf]; omega
    · have hjn : j = n := by omega
      subst hjn
      go_wp2
      go_ret
      exact ⟨rfl, rfl⟩
end Go.Proofs.YtjdepjpjjgkmbaaGreat

/- The laws' marks of a journal, and the look at them; conditions: the sizes. -/
namespace Go.Proofs.YtjdepjpjjgkmbaaGreat
open Go Go.RowKit

/-- How many marks the first j of these records take. -/
def sumM (D : Nat → RecD) : Nat → Nat
  | 0 => 0
  | j + 1 => sumM D j + 8 + 2 * (D j).ps.length
theorem sumM_le {ds : List RecD} {n : Nat} (hn : ds.length = n) (hz : totC ds ≤ 1048600) : ∀ j, j ≤ n → sumM (recsK ds n) j ≤ 8400000 := by
  have key : ∀ j, j ≤ n → sumM (recsK ds n) j ≤ 8 * totC (ds.take j) := by
    intro j
    induction j with
    | zero => intro _; exact Nat.zero_le _
    | succ j ih =>
      intro hj
      have hjd : j < ds.length := by omega
      have h1 := ih (by omega)
      have h2 := totC_snoc ds hjd
      have hd : recsK ds n j = ds[j] := recsK_at hn hjd
      unfold sumM
      rw [hd, h2]
      omega
  intro j hj
  have h1 := key j hj
  have h2 := totC_take ds j
  omega
def mkC (ds : List RecD) : Nat := sumM (recsK ds ds.length) ds.length
theorem mkC_le {ds : List RecD} (hz : totC ds ≤ 1048600) : mkC ds ≤ 8400000 := sumM_le rfl hz _ (Nat.le_refl _)
theorem lens_le {ds : List RecD} (hz : totC ds ≤ 1048577) : ∀ j, j < ds.length → (recsK ds ds.length j).ps.length ≤ 1048577 := fun j hj => by
  rw [recsK_at rfl hj]
  have := totC_mem ds hj
  omega
/-- The list's records are marked from k on. -/
def MarkedL (k : Int) (ds ds' : List RecD) : Prop := ds'.length = ds.length ∧ MarkedCS k (sumM (recsK ds ds.length)) (recsK ds ds.length) (recsK ds' ds.length) ds.length
theorem RecsAt.congr {w : World} {g n : Nat} {D D' : Nat → RecD} {Fs : Nat → Nat → Prop} (h : RecsAt w g n D Fs) (he : ∀ i, i < n → D i = D' i) : RecsAt w g n D' Fs :=
  ⟨h.lt, h.fr, fun i hi => he i hi ▸ h.row i hi, h.apart, h.two⟩
theorem mark_none (cap : Nat) (A : Option Addr) (k : Int) (w : World) : Calls Tryz.prog 92 #[.slice A 0 cap, .int .i64 k] w fun e w' => e = .returned (.int .i64 k) ∧ w = w' := by
  go_enter Tryz.func92, Tryz.ntmps92
  go_wp2
  go_loopw [1, 5] (fun kv i wr => i = .int .i64 0 ∧ kv = .int .i64 k ∧ w = wr) (fun _ _ _ => 0)
  case atStart => exact ⟨rfl, rfl, rfl⟩
  case round =>
    obtain ⟨rfl, rfl, rfl⟩ := hrel
    go_wp2
    go_ret
    exact ⟨rfl, rfl⟩
theorem held_none (cap : Nat) (A : Option Addr) (k : Int) (w : World) : Calls Tryz.prog 93 #[.slice A 0 cap, .int .i64 k] w fun e w' => e = .returned (.int .i64 k) ∧ w = w' := by
  go_enter Tryz.func93, Tryz.ntmps93
  go_wp2
  go_loopw [1, 5] (fun kv i wr => i = .int .i64 0 ∧ kv = .int .i64 k ∧ w = wr) (fun _ _ _ => 0)
  case atStart => exact ⟨rfl, rfl, rfl⟩
  case round =>
    obtain ⟨rfl, rfl, rfl⟩ := hrel
    go_wp2
    go_ret
    exact ⟨rfl, rfl⟩
theorem markd_L {ds : List RecD} {w : World} {F : Nat → Prop} {v : Value} {k : Int} (h : OwnCS ds w F v) (hn : ds.length ≤ 1048576) (hz : totC ds ≤ 1048577) (hk0 : 0 ≤ k) (hk1 : k ≤ 25000000) :
    Calls Tryz.prog 92 #[v, .int .i64 k] w fun e w' => e = .returned (.int .i64 (k + mkC ds)) ∧ Turns F w w' ∧ ∃ ds', MarkedL k ds ds' ∧ OwnCS ds' w' F v := by
  rcases h with ⟨rfl, rfl⟩ | ⟨G, c, Fs, hG, rfl, h1, h2, hR, hF⟩
  · refine (mark_none 0 none k w).mono ?_
    rintro e w' ⟨rfl, rfl⟩
    exact ⟨by simp [mkC, sumM], Turns.of_below (Below.refl _ _), [], ⟨rfl, fun _ => rfl, fun i hi => absurd hi (by simp)⟩, .inl ⟨rfl, rfl⟩⟩
  · refine (markd_CS (cap := c) hR hn (sumM (recsK ds ds.length)) rfl (fun _ _ => rfl) (fun j hj => Nat.le_trans (sumM_le rfl (by omega) j hj) (by omega)) (lens_le hz) hk0 hk1).mono ?_
    rintro e w' ⟨rfl, ht, D', hR', hm⟩
    have hl : ((List.range ds.length).map D').length = ds.length := by simp
    have he : ∀ i, i < ds.length → D' i = recsK ((List.range ds.length).map D') ds.length i := fun i hi => by
      rw [recsK_at hl (by rw [hl]; exact hi)]
      simp
    refine ⟨rfl, ht.sub (fun b _ hb => ?_), (List.range ds.length).map D', ⟨hl, fun i => ?_, fun i hi => ?_⟩, .inr ⟨G, c, Fs, hG, by rw [hl], by rw [hl]; exact h1, h2, by rw [hl]; exact hR'.congr he, by rw [hl]; exact fun i hi b hb => ⟨(hF i hi b hb).1, Nat.lt_of_lt_of_le (hF i hi b hb).2 ht.size⟩⟩⟩
    · rcases hb with rfl | ⟨i, hi, hb⟩
      · exact hG
      · exact (hF i hi b hb).1
    · rcases Nat.lt_or_ge i ds.length with hi | hi
      · rw [← he i hi]
        exact hm.1 i
      · have e1 : ∀ (es : List RecD), recsK es ds.length i = zeroC := fun es => by unfold recsK; rw [if_neg (by omega)]
        rw [e1, e1]
    · rw [← he i hi]
      exact hm.2 i hi
theorem held_L {ds ds' : List RecD} {w : World} {F : Nat → Prop} {v : Value} {k : Int} (h : OwnCS ds' w F v) (hm : MarkedL k ds ds') (hn : ds.length ≤ 1048576) (hz : totC ds ≤ 1048577) (hk0 : 0 ≤ k) (hk1 : k ≤ 25000000) :
    Calls Tryz.prog 93 #[v, .int .i64 k] w fun e w' => e = .returned (.int .i64 (k + mkC ds)) ∧ w = w' := by
  rcases h with ⟨rfl, rfl⟩ | ⟨G, c, Fs, hG, rfl, h1, h2, hR, hF⟩
  · obtain rfl : ds = [] := List.eq_nil_of_length_eq_zero hm.1.symm
    refine (held_none 0 none k w).mono ?_
    rintro e w' ⟨rfl, rfl⟩
    exact ⟨by simp [mkC, sumM], rfl⟩
  · rw [hm.1] at hR ⊢
    exact held_CS (cap := c) (sumM (recsK ds ds.length)) hR hm.2 hn rfl (fun _ _ => rfl) (fun j hj => Nat.le_trans (sumM_le rfl (by omega) j hj) (by omega)) (lens_le hz) hk0 hk1
def JourD.mk8 (d : JourD) : Int := mkC d.ks + mkC d.ls
def MarkedJ (k : Int) (d d' : JourD) : Prop := MarkedL k d.ks d'.ks ∧ MarkedL (k + mkC d.ks) d.ls d'.ls
/-- A journal short enough for its marks. -/
structure JourD.Fit (d : JourD) : Prop where
  nk : d.ks.length ≤ 1048576
  nl : d.ls.length ≤ 1048576
  tk : totC d.ks ≤ 1048577
  tl : totC d.ls ≤ 1048577
set_option maxHeartbeats 2000000 in
theorem markd_J {d : JourD} {w : World} {F : Nat → Prop} {C : Array Value} {k : Int} (h : LieJ d w F (.agg C)) (hf : d.Fit) (hk0 : 0 ≤ k) (hk1 : k ≤ 10000000) :
    Calls Tryz.prog 35 #[.agg C, .int .i64 k] w fun e w' => e = .returned (.int .i64 (k + d.mk8)) ∧ Turns F w w' ∧ ∃ d', MarkedJ k d d' ∧ LieJ d' w' F (.agg C) := by
  obtain ⟨u, u', F1, F2, e, h1, h2, s1, s2, ha⟩ := h
  injection e with e
  subst e
  have hq1 := mkC_le (ds := d.ks) (by have := hf.tk; omega)
  obtain ⟨A, c, rfl, -⟩ := h1.reads
  obtain ⟨A', c', rfl, -⟩ := h2.reads
  have O1 := Lib.hid h1
  have O2 := Lib.hid h2
  clear h1 h2
  have hm8 : ∀ ds : List RecD, ds = d.ks → (mkC ds : Int) = mkC d.ks := fun _ e => by rw [e]
  generalize hn1 : d.ks.length = n1 at O1
  generalize hn2 : d.ls.length = n2 at O2
  have hb0 := bel_alloc w (.cells #[.slice A n1 c, .slice A' n2 c'] 29)
  have D := Box.new w 29 #[.slice A n1 c, .slice A' n2 c']
  have P1 := Lib.hid (O1.out.lt.later hb0)
  have P2 := Lib.hid (O2.out.lt.later hb0)
  clear O1 O2
  go_enter Tryz.func35, Tryz.ntmps35
  go_upto_region 1 with fail
  generalize hw0 : (w.alloc _ : World) = w0 at hb0 D P1 P2 ⊢
  have ht0 : Turns (fun b => F b ∨ w.heap.size ≤ b) w w0 := Turns.of_below hb0
  clear hw0
  obtain ⟨d0, d1⟩ := D.two
  go_wp2_with fail
  refine (markd_L P1.out hf.nk hf.tk hk0 (by omega)).mono ?_
  rintro e w1 ⟨rfl, t1, ks', m1, K1⟩
  have D1 := D.turn t1 (fun hb => by have := hb.2; omega)
  have P3 := Lib.hid (P2.out.turn t1 (fun b hb hb2 => ha b hb2.1 hb.1))
  have T1 := ht0.trans (t1.sub (T' := fun b => F b ∨ w.heap.size ≤ b) (fun b _ hb => .inl (s1 b hb.1)))
  have M1 := Lib.hid m1
  have KK := Lib.hid K1
  clear t1 D P2 ht0 m1 K1 d0 d1
  obtain ⟨d0, d1⟩ := D1.two
  go_wp2_with fail
  refine (markd_L P3.out hf.nl hf.tl (by omega) (by omega)).mono ?_
  rintro e w2 ⟨rfl, t2, ls', m2, K2⟩
  have T2 := Lib.hid (T1.trans (t2.sub (T' := fun b => F b ∨ w.heap.size ≤ b) (fun b _ hb => .inl (s2 b hb.1))))
  have KK2 := Lib.hid (KK.out.turn t2 (fun b hb hb2 => ha b hb.1 hb2.1))
  have M2 := Lib.hid m2
  have KL := Lib.hid K2
  clear T1 t2 m2 K2 KK D1 d0 d1
  go_wp2
  go_ret
  refine ⟨by unfold JourD.mk8; simp only [Int.add_assoc]; rfl, T2.out.sub (fun b hl hb => hb.resolve_right (by omega)), ⟨ks', ls'⟩, ⟨M1.out, M2.out⟩, _, _, _, _, rfl, KK2.out, KL.out, fun b hb => s1 b hb.1, fun b hb => s2 b hb.1, fun b hb hb2 => ha b hb.1 hb2.1⟩
set_option maxHeartbeats 2000000 in
theorem held_J {d d' : JourD} {w : World} {F : Nat → Prop} {C : Array Value} {k : Int} (h : LieJ d' w F (.agg C)) (hm : MarkedJ k d d') (hf : d.Fit) (hk0 : 0 ≤ k) (hk1 : k ≤ 10000000) :
    Calls Tryz.prog 37 #[.agg C, .int .i64 k] w fun e w' => e = .returned (.int .i64 (k + d.mk8)) ∧ Below w.heap.size w w' := by
  obtain ⟨u, u', F1, F2, e, h1, h2, -⟩ := h
  injection e with e
  subst e
  have hq1 := mkC_le (ds := d.ks) (by have := hf.tk; omega)
  have hq2 := mkC_le (ds := d.ls) (by have := hf.tl; omega)
  obtain ⟨A, c, rfl, -⟩ := h1.reads
  obtain ⟨A', c', rfl, -⟩ := h2.reads
  have O1 := Lib.hid h1
  have O2 := Lib.hid h2
  have M1 := Lib.hid hm.1
  have M2 := Lib.hid hm.2
  clear h1 h2 hm
  generalize hn1 : d'.ks.length = n1 at O1
  generalize hn2 : d'.ls.length = n2 at O2
  have hb0 := bel_alloc w (.cells #[.slice A n1 c, .slice A' n2 c'] 29)
  have D := Box.new w 29 #[.slice A n1 c, .slice A' n2 c']
  have P1 := Lib.hid (O1.out.later hb0)
  have P2 := Lib.hid (O2.out.later hb0)
  clear O1 O2
  go_enter Tryz.func37, Tryz.ntmps37
  go_upto_region 1 with fail
  generalize (w.alloc _ : World) = w0 at hb0 D P1 P2 ⊢
  obtain ⟨d0, d1⟩ := D.two
  go_wp2_with fail
  refine (held_L P1.out M1.out hf.nk hf.tk hk0 (by omega)).mono ?_
  rintro e w1 ⟨rfl, rfl⟩
  have hn1 : ¬ (k + (mkC d.ks : Int) < 0) := by omega
  go_wp2_with fail
  refine (held_L P2.out M2.out hf.nl hf.tl (by omega) (by omega)).mono ?_
  rintro e w2 ⟨rfl, rfl⟩
  obtain ⟨q, hq⟩ : ∃ q : Int, k + (mkC d.ks : Int) + (mkC d.ls : Int) = q := ⟨_, rfl⟩
  have HQ := Lib.hid hq
  have hn2 : ¬ (q < 0) := by omega
  rw [hq]
  clear hq
  go_wp2
  go_ret
  exact ⟨by unfold JourD.mk8; rw [← Int.add_assoc, HQ.out]; rfl, hb0⟩
theorem mkb_J {d : JourD} (hf : d.Fit) : 0 ≤ d.mk8 ∧ d.mk8 ≤ 16800000 := by
  have hq1 := mkC_le (ds := d.ks) (by have := hf.tk; omega)
  have hq2 := mkC_le (ds := d.ls) (by have := hf.tl; omega)
  unfold JourD.mk8
  omega
end Go.Proofs.YtjdepjpjjgkmbaaGreat

/- How many marks a list of records and a list of shelves take; shelves by ranges carried on; conditions: the sizes. -/
namespace Go.Proofs.YtjdepjpjjgkmbaaGreat
open Go Go.RowKit

def sumR (D : Nat → RegD) : Nat → Nat
  | 0 => 0
  | j + 1 => sumR D j + 3 + 2 * (D j).ps.length + 4 * (D j).os.length
theorem RegsE.turn {w w' : World} {g n : Nat} {D : Nat → RegD} {Fs : Nat → Nat → Prop} {T : Nat → Prop} (h : RegsE w g n D Fs) (ht : Turns T w w') (hg : ¬ T g) (hF : ∀ i, i < n → ∀ b, Fs i b → ¬ T b) : RegsE w' g n D Fs :=
  ⟨Nat.lt_of_lt_of_le h.lt ht.size, fun o => (ht.frozen h.lt hg o).trans (h.fr o), fun i hi => by
    obtain ⟨u, v, h1, h2⟩ := h.row i hi
    exact ⟨u, v, fun j x hx => (ht.cell h.lt hg _).trans (h1 j x hx), (keepsLE _).turn h2 ht (hF i hi)⟩, h.apart, h.two⟩
theorem RegsE.later {w w' : World} {g n : Nat} {D : Nat → RegD} {Fs : Nat → Nat → Prop} (h : RegsE w g n D Fs) (hb : Below w.heap.size w w') : RegsE w' g n D Fs :=
  h.turn (T := fun _ => False) (Turns.of_below hb) (fun h => h) (fun _ _ _ _ h => h)
end Go.Proofs.YtjdepjpjjgkmbaaGreat

/- A server of one's own; the laws' marks on it, and the look at them (written by sv_mark.py); conditions: the sizes. -/
namespace Go.Proofs.YtjdepjpjjgkmbaaGreat
open Go Go.RowKit

def zeroN : NoteD := ⟨0, 0, 0, 0, 0, 0, 0, 0, 0, 0, 0, 0, 0, 0, [], []⟩
def notOf (ns : List NoteD) (i : Nat) : NoteD := ns.getD i zeroN
/-- How many marks the first j of these notes take. -/
def sumT (D : Nat → NoteD) : Nat → Nat
  | 0 => 0
  | j + 1 => sumT D j + 14 + 2 * (D j).cs.length + 2 * (D j).ms.length
theorem RegsE.congr {w : World} {g n : Nat} {D D' : Nat → RegD} {Fs : Nat → Nat → Prop} (h : RegsE w g n D Fs) (he : ∀ i, i < n → D i = D' i) : RegsE w g n D' Fs :=
  ⟨h.lt, h.fr, fun i hi => he i hi ▸ h.row i hi, h.apart, h.two⟩
theorem NotesE.congr {w : World} {g n : Nat} {D D' : Nat → NoteD} {Fs : Nat → Nat → Prop} (h : NotesE w g n D Fs) (he : ∀ i, i < n → D i = D' i) : NotesE w g n D' Fs :=
  ⟨h.lt, h.fr, fun i hi => he i hi ▸ h.row i hi, h.apart, h.two⟩
/-- A list of one's own: nil, or a block and what its elements have. -/
def OwnRS (ds : List RegD) (w : World) (F : Nat → Prop) (v : Value) : Prop :=
  (v = .slice none 0 0 ∧ ds = []) ∨ ∃ (G c : Nat) (Fs : Nat → Nat → Prop), F G ∧ v = .slice (some ⟨G, 0, none⟩) ds.length c ∧ ds.length ≤ maxLen ∧ RegsE w G ds.length (regOf ds) Fs ∧ ∀ i, i < ds.length → ∀ b, Fs i b → F b ∧ b < w.heap.size
theorem OwnRS.turn {ds : List RegD} {w w' : World} {F T : Nat → Prop} {v : Value} (h : OwnRS ds w F v) (ht : Turns T w w') (hd : ∀ b, F b → ¬ T b) : OwnRS ds w' F v := by
  rcases h with h | ⟨G, c, Fs, hG, e, h2, hR, hF⟩
  · exact .inl h
  · exact .inr ⟨G, c, Fs, hG, e, h2, hR.turn ht (hd G hG) (fun i hi b hb => hd b (hF i hi b hb).1), fun i hi b hb => ⟨(hF i hi b hb).1, Nat.lt_of_lt_of_le (hF i hi b hb).2 ht.size⟩⟩
theorem OwnRS.later {ds : List RegD} {w w' : World} {F : Nat → Prop} {v : Value} (h : OwnRS ds w F v) (hb : Below w.heap.size w w') : OwnRS ds w' F v := h.turn (T := fun _ => False) (Turns.of_below hb) (fun _ _ h => h)
theorem OwnRS.sub {ds : List RegD} {w : World} {F F' : Nat → Prop} {v : Value} (h : OwnRS ds w F v) (hs : ∀ b, F b → F' b) : OwnRS ds w F' v := by
  rcases h with h | ⟨G, c, Fs, hG, e, h2, hR, hF⟩
  · exact .inl h
  · exact .inr ⟨G, c, Fs, hs G hG, e, h2, hR, fun i hi b hb => ⟨hs b (hF i hi b hb).1, (hF i hi b hb).2⟩⟩
theorem OwnRS.lt {ds : List RegD} {w : World} {F : Nat → Prop} {v : Value} (h : OwnRS ds w F v) : OwnRS ds w (fun b => F b ∧ b < w.heap.size) v := by
  rcases h with h | ⟨G, c, Fs, hG, e, h2, hR, hF⟩
  · exact .inl h
  · exact .inr ⟨G, c, Fs, ⟨hG, hR.lt⟩, e, h2, hR, fun i hi b hb => ⟨hF i hi b hb, (hF i hi b hb).2⟩⟩
theorem OwnRS.form {ds : List RegD} {w : World} {F : Nat → Prop} {v : Value} (h : OwnRS ds w F v) : ∃ A c, v = .slice A ds.length c := by
  rcases h with ⟨rfl, rfl⟩ | ⟨G, c, Fs, hG, e, h2, hR, hF⟩
  · exact ⟨none, 0, rfl⟩
  · exact ⟨_, c, e⟩
def regOf' (ds : List RegD) (D : Nat → RegD) : List RegD := (List.range ds.length).map D
theorem regOf'_len (ds : List RegD) (D : Nat → RegD) : (regOf' ds D).length = ds.length := by simp [regOf']
theorem regOf'_at (ds : List RegD) (D : Nat → RegD) {i : Nat} (hi : i < ds.length) : regOf (regOf' ds D) i = D i := by
  unfold regOf regOf'
  rw [List.getD_eq_getElem?_getD, List.getElem?_eq_getElem (by simp; exact hi)]
  simp
theorem regOf_out {ds : List RegD} {i : Nat} (hi : ds.length ≤ i) : regOf ds i = zeroR := by
  unfold regOf
  rw [List.getD_eq_getElem?_getD, List.getElem?_eq_none hi]
  rfl
def mkR (ds : List RegD) : Nat := sumR (regOf ds) ds.length
/-- Short enough for its marks. -/
structure RegsFit (ds : List RegD) : Prop where
  n : ds.length ≤ 1048576
  s : ∀ j, j ≤ ds.length → sumR (regOf ds) j ≤ 6000000
  l : ∀ j, j < ds.length → (regOf ds j).ps.length ≤ 1048577 ∧ (regOf ds j).os.length ≤ 1048577
/-- The list's elements are marked from k on. -/
def MarkedRL (k : Int) (ds ds' : List RegD) : Prop := ds'.length = ds.length ∧ MarkedS k (sumR (regOf ds)) (regOf ds) (regOf ds') ds.length
theorem markd_RL0 (cap : Nat) (A : Option Addr) (k : Int) (w : World) : Calls Tryz.prog 122 #[.slice A 0 cap, .int .i64 k] w fun e w' => e = .returned (.int .i64 k) ∧ w = w' := by
  go_enter Tryz.func122, Tryz.ntmps122
  go_wp2
  go_loopw [1, 5] (fun kv i wr => i = .int .i64 0 ∧ kv = .int .i64 k ∧ w = wr) (fun _ _ _ => 0)
  case atStart => exact ⟨rfl, rfl, rfl⟩
  case round =>
    obtain ⟨rfl, rfl, rfl⟩ := hrel
    go_wp2
    go_ret
    exact ⟨rfl, rfl⟩
theorem held_RL0 (cap : Nat) (A : Option Addr) (k : Int) (w : World) : Calls Tryz.prog 124 #[.slice A 0 cap, .int .i64 k] w fun e w' => e = .returned (.int .i64 k) ∧ w = w' := by
  go_enter Tryz.func124, Tryz.ntmps124
  go_wp2
  go_loopw [1, 5] (fun kv i wr => i = .int .i64 0 ∧ kv = .int .i64 k ∧ w = wr) (fun _ _ _ => 0)
  case atStart => exact ⟨rfl, rfl, rfl⟩
  case round =>
    obtain ⟨rfl, rfl, rfl⟩ := hrel
    go_wp2
    go_ret
    exact ⟨rfl, rfl⟩
theorem markd_RL {ds : List RegD} {w : World} {F : Nat → Prop} {v : Value} {k : Int} (h : OwnRS ds w F v) (hf : RegsFit ds) (hk0 : 0 ≤ k) (hk1 : k ≤ 10000000) :
    Calls Tryz.prog 122 #[v, .int .i64 k] w fun e w' => e = .returned (.int .i64 (k + mkR ds)) ∧ Turns F w w' ∧ ∃ ds', MarkedRL k ds ds' ∧ OwnRS ds' w' F v := by
  rcases h with ⟨rfl, rfl⟩ | ⟨G, c, Fs, hG, rfl, h2, hR, hF⟩
  · refine (markd_RL0 0 none k w).mono ?_
    rintro e w' ⟨rfl, rfl⟩
    exact ⟨by simp [mkR, sumR], Turns.of_below (Below.refl _ _), [], ⟨rfl, fun _ => ⟨rfl, rfl⟩, fun i hi => absurd hi (by simp)⟩, .inl ⟨rfl, rfl⟩⟩
  · refine (mark_RS (cap := c) (S := sumR (regOf ds)) (h := hR) (hn := hf.n) (hS0 := rfl) (hS := fun _ _ => rfl) (hSn := fun j hj => Nat.le_trans (hf.s j hj) (by omega)) (hlen := hf.l) (hk0 := hk0) (hk1 := hk1)).mono ?_
    rintro e w' ⟨rfl, ht, D', hR', hm⟩
    have hl := regOf'_len ds D'
    have he : ∀ i, i < ds.length → D' i = regOf (regOf' ds D') i := fun i hi => (regOf'_at ds D' hi).symm
    refine ⟨rfl, ht.sub (fun b _ hb => ?_), regOf' ds D', ⟨hl, fun i => ?_, fun i hi => ?_⟩, .inr ⟨G, c, Fs, hG, by rw [hl], by rw [hl]; exact h2, by rw [hl]; exact hR'.congr he, by rw [hl]; exact fun i hi b hb => ⟨(hF i hi b hb).1, Nat.lt_of_lt_of_le (hF i hi b hb).2 ht.size⟩⟩⟩
    · rcases hb with rfl | ⟨i, hi, hb⟩
      · exact hG
      · exact (hF i hi b hb).1
    · rcases Nat.lt_or_ge i ds.length with hi | hi
      · rw [← he i hi]
        exact hm.1 i
      · rw [regOf_out hi, regOf_out (by rw [hl]; exact hi)]
        exact ⟨rfl, rfl⟩
    · rw [← he i hi]
      exact hm.2 i hi
theorem held_RL {ds ds' : List RegD} {w : World} {F : Nat → Prop} {v : Value} {k : Int} (h : OwnRS ds' w F v) (hm : MarkedRL k ds ds') (hf : RegsFit ds) (hk0 : 0 ≤ k) (hk1 : k ≤ 10000000) :
    Calls Tryz.prog 124 #[v, .int .i64 k] w fun e w' => e = .returned (.int .i64 (k + mkR ds)) ∧ w = w' := by
  rcases h with ⟨rfl, rfl⟩ | ⟨G, c, Fs, hG, rfl, h2, hR, hF⟩
  · obtain rfl : ds = [] := List.eq_nil_of_length_eq_zero hm.1.symm
    refine (held_RL0 0 none k w).mono ?_
    rintro e w' ⟨rfl, rfl⟩
    exact ⟨by simp [mkR, sumR], rfl⟩
  · rw [hm.1] at hR ⊢
    exact held_RS (cap := c) (S := sumR (regOf ds)) (h := hR) (hm := hm.2) (hn := hf.n) (hS0 := rfl) (hS := fun _ _ => rfl) (hSn := fun j hj => Nat.le_trans (hf.s j hj) (by omega)) (hlen := hf.l) (hk0 := hk0) (hk1 := hk1)
/-- A list of one's own: nil, or a block and what its elements have. -/
def OwnNS (ds : List NoteD) (w : World) (F : Nat → Prop) (v : Value) : Prop :=
  (v = .slice none 0 0 ∧ ds = []) ∨ ∃ (G c : Nat) (Fs : Nat → Nat → Prop), F G ∧ v = .slice (some ⟨G, 0, none⟩) ds.length c ∧ ds.length ≤ maxLen ∧ NotesE w G ds.length (notOf ds) Fs ∧ ∀ i, i < ds.length → ∀ b, Fs i b → F b ∧ b < w.heap.size
theorem OwnNS.turn {ds : List NoteD} {w w' : World} {F T : Nat → Prop} {v : Value} (h : OwnNS ds w F v) (ht : Turns T w w') (hd : ∀ b, F b → ¬ T b) : OwnNS ds w' F v := by
  rcases h with h | ⟨G, c, Fs, hG, e, h2, hR, hF⟩
  · exact .inl h
  · exact .inr ⟨G, c, Fs, hG, e, h2, hR.turn ht (hd G hG) (fun i hi b hb => hd b (hF i hi b hb).1), fun i hi b hb => ⟨(hF i hi b hb).1, Nat.lt_of_lt_of_le (hF i hi b hb).2 ht.size⟩⟩
theorem OwnNS.later {ds : List NoteD} {w w' : World} {F : Nat → Prop} {v : Value} (h : OwnNS ds w F v) (hb : Below w.heap.size w w') : OwnNS ds w' F v := h.turn (T := fun _ => False) (Turns.of_below hb) (fun _ _ h => h)
theorem OwnNS.sub {ds : List NoteD} {w : World} {F F' : Nat → Prop} {v : Value} (h : OwnNS ds w F v) (hs : ∀ b, F b → F' b) : OwnNS ds w F' v := by
  rcases h with h | ⟨G, c, Fs, hG, e, h2, hR, hF⟩
  · exact .inl h
  · exact .inr ⟨G, c, Fs, hs G hG, e, h2, hR, fun i hi b hb => ⟨hs b (hF i hi b hb).1, (hF i hi b hb).2⟩⟩
theorem OwnNS.lt {ds : List NoteD} {w : World} {F : Nat → Prop} {v : Value} (h : OwnNS ds w F v) : OwnNS ds w (fun b => F b ∧ b < w.heap.size) v := by
  rcases h with h | ⟨G, c, Fs, hG, e, h2, hR, hF⟩
  · exact .inl h
  · exact .inr ⟨G, c, Fs, ⟨hG, hR.lt⟩, e, h2, hR, fun i hi b hb => ⟨hF i hi b hb, (hF i hi b hb).2⟩⟩
theorem OwnNS.form {ds : List NoteD} {w : World} {F : Nat → Prop} {v : Value} (h : OwnNS ds w F v) : ∃ A c, v = .slice A ds.length c := by
  rcases h with ⟨rfl, rfl⟩ | ⟨G, c, Fs, hG, e, h2, hR, hF⟩
  · exact ⟨none, 0, rfl⟩
  · exact ⟨_, c, e⟩
def notOf' (ds : List NoteD) (D : Nat → NoteD) : List NoteD := (List.range ds.length).map D
theorem notOf'_len (ds : List NoteD) (D : Nat → NoteD) : (notOf' ds D).length = ds.length := by simp [notOf']
theorem notOf'_at (ds : List NoteD) (D : Nat → NoteD) {i : Nat} (hi : i < ds.length) : notOf (notOf' ds D) i = D i := by
  unfold notOf notOf'
  rw [List.getD_eq_getElem?_getD, List.getElem?_eq_getElem (by simp; exact hi)]
  simp
theorem notOf_out {ds : List NoteD} {i : Nat} (hi : ds.length ≤ i) : notOf ds i = zeroN := by
  unfold notOf
  rw [List.getD_eq_getElem?_getD, List.getElem?_eq_none hi]
  rfl
def mkN (ds : List NoteD) : Nat := sumT (notOf ds) ds.length
/-- Short enough for its marks. -/
structure NotesFit (ds : List NoteD) : Prop where
  n : ds.length ≤ 1048576
  s : ∀ j, j ≤ ds.length → sumT (notOf ds) j ≤ 20000000
  l : ∀ j, j < ds.length → (notOf ds j).cs.length ≤ 1048577 ∧ (notOf ds j).ms.length ≤ 1048577
/-- The list's elements are marked from k on. -/
def MarkedNL (k : Int) (ds ds' : List NoteD) : Prop := ds'.length = ds.length ∧ MarkedN k (sumT (notOf ds)) (notOf ds) (notOf ds') ds.length
theorem markd_NL0 (cap : Nat) (A : Option Addr) (k : Int) (w : World) : Calls Tryz.prog 123 #[.slice A 0 cap, .int .i64 k] w fun e w' => e = .returned (.int .i64 k) ∧ w = w' := by
  go_enter Tryz.func123, Tryz.ntmps123
  go_wp2
  go_loopw [1, 5] (fun kv i wr => i = .int .i64 0 ∧ kv = .int .i64 k ∧ w = wr) (fun _ _ _ => 0)
  case atStart => exact ⟨rfl, rfl, rfl⟩
  case round =>
    obtain ⟨rfl, rfl, rfl⟩ := hrel
    go_wp2
    go_ret
    exact ⟨rfl, rfl⟩
theorem held_NL0 (cap : Nat) (A : Option Addr) (k : Int) (w : World) : Calls Tryz.prog 125 #[.slice A 0 cap, .int .i64 k] w fun e w' => e = .returned (.int .i64 k) ∧ w = w' := by
  go_enter Tryz.func125, Tryz.ntmps125
  go_wp2
  go_loopw [1, 5] (fun kv i wr => i = .int .i64 0 ∧ kv = .int .i64 k ∧ w = wr) (fun _ _ _ => 0)
  case atStart => exact ⟨rfl, rfl, rfl⟩
  case round =>
    obtain ⟨rfl, rfl, rfl⟩ := hrel
    go_wp2
    go_ret
    exact ⟨rfl, rfl⟩
theorem markd_NL {ds : List NoteD} {w : World} {F : Nat → Prop} {v : Value} {k : Int} (h : OwnNS ds w F v) (hf : NotesFit ds) (hk0 : 0 ≤ k) (hk1 : k ≤ 25000000) :
    Calls Tryz.prog 123 #[v, .int .i64 k] w fun e w' => e = .returned (.int .i64 (k + mkN ds)) ∧ Turns F w w' ∧ ∃ ds', MarkedNL k ds ds' ∧ OwnNS ds' w' F v := by
  rcases h with ⟨rfl, rfl⟩ | ⟨G, c, Fs, hG, rfl, h2, hR, hF⟩
  · refine (markd_NL0 0 none k w).mono ?_
    rintro e w' ⟨rfl, rfl⟩
    exact ⟨by simp [mkN, sumT], Turns.of_below (Below.refl _ _), [], ⟨rfl, fun _ => ⟨rfl, rfl⟩, fun i hi => absurd hi (by simp)⟩, .inl ⟨rfl, rfl⟩⟩
  · refine (mark_NS (cap := c) (S := sumT (notOf ds)) (h := hR) (hn := hf.n) (hS0 := rfl) (hS := fun _ _ => rfl) (hSn := fun j hj => Nat.le_trans (hf.s j hj) (by omega)) (hlen := hf.l) (hk0 := hk0) (hk1 := hk1)).mono ?_
    rintro e w' ⟨rfl, ht, D', hR', hm⟩
    have hl := notOf'_len ds D'
    have he : ∀ i, i < ds.length → D' i = notOf (notOf' ds D') i := fun i hi => (notOf'_at ds D' hi).symm
    refine ⟨rfl, ht.sub (fun b _ hb => ?_), notOf' ds D', ⟨hl, fun i => ?_, fun i hi => ?_⟩, .inr ⟨G, c, Fs, hG, by rw [hl], by rw [hl]; exact h2, by rw [hl]; exact hR'.congr he, by rw [hl]; exact fun i hi b hb => ⟨(hF i hi b hb).1, Nat.lt_of_lt_of_le (hF i hi b hb).2 ht.size⟩⟩⟩
    · rcases hb with rfl | ⟨i, hi, hb⟩
      · exact hG
      · exact (hF i hi b hb).1
    · rcases Nat.lt_or_ge i ds.length with hi | hi
      · rw [← he i hi]
        exact hm.1 i
      · rw [notOf_out hi, notOf_out (by rw [hl]; exact hi)]
        exact ⟨rfl, rfl⟩
    · rw [← he i hi]
      exact hm.2 i hi
theorem held_NL {ds ds' : List NoteD} {w : World} {F : Nat → Prop} {v : Value} {k : Int} (h : OwnNS ds' w F v) (hm : MarkedNL k ds ds') (hf : NotesFit ds) (hk0 : 0 ≤ k) (hk1 : k ≤ 25000000) :
    Calls Tryz.prog 125 #[v, .int .i64 k] w fun e w' => e = .returned (.int .i64 (k + mkN ds)) ∧ w = w' := by
  rcases h with ⟨rfl, rfl⟩ | ⟨G, c, Fs, hG, rfl, h2, hR, hF⟩
  · obtain rfl : ds = [] := List.eq_nil_of_length_eq_zero hm.1.symm
    refine (held_NL0 0 none k w).mono ?_
    rintro e w' ⟨rfl, rfl⟩
    exact ⟨by simp [mkN, sumT], rfl⟩
  · rw [hm.1] at hR ⊢
    exact held_NS (cap := c) (S := sumT (notOf ds)) (h := hR) (hm := hm.2) (hn := hf.n) (hS0 := rfl) (hS := fun _ _ => rfl) (hSn := fun j hj => Nat.le_trans (hf.s j hj) (by omega)) (hlen := hf.l) (hk0 := hk0) (hk1 := hk1)
theorem resE_in {w : World} {lo hi : Nat} {A : Option Addr} {n c : Nat} {ps : List (Int × Int)} (h : ResE w lo hi (.slice A n c) ps) : n ≤ maxLen ∧ PairsF w (Iv lo hi) A n ps := by
  have hs := resE_pairs h
  refine ⟨hs.1, hs.2.1, fun hn b o e => ?_⟩
  rcases h with ⟨h, -⟩ | ⟨g, cap, h0, h1, h, _⟩
  · injection h with _ h _
    omega
  · injection h with h _ _
    rw [h] at e
    injection e with e
    injection e with e
    exact e ▸ ⟨h0, h1⟩
theorem resEQ_in {w : World} {lo hi : Nat} {A : Option Addr} {n c : Nat} {ps : List Opn} (h : ResEQ w lo hi (.slice A n c) ps) : n ≤ maxLen ∧ QuadsF w (Iv lo hi) A n ps := by
  have hs := h.slc
  refine ⟨?_, ?_, fun hn b o e => ?_⟩
  · rcases h with ⟨h, -⟩ | ⟨g, cap, _, _, h, h3, h4, _⟩
    · injection h with _ h _; omega
    · injection h with _ h _; omega
  · rcases hs.1 with ⟨h, hd⟩ | ⟨b, o, n1, c1, h, _, _, hp⟩
    · injection h with q1 q2 _
      subst q1 q2
      rw [hd]
      exact ⟨rfl, fun h => absurd h (by omega)⟩
    · injection h with q1 q2 _
      subst q1 q2
      exact hp
  · rcases h with ⟨h, -⟩ | ⟨g, cap, h0, h1, h, _⟩
    · injection h with _ h _
      omega
    · injection h with h _ _
      rw [h] at e
      injection e with e
      injection e with e
      exact e ▸ ⟨h0, h1⟩
theorem LieE.atF {d : RegD} {w : World} {F : Nat → Prop} {v : Value} (h : LieE d w F v) : AtR d w F v := by
  obtain ⟨A, n, c, A', n', c', lo, B, hi, e, h1, h2, o1, o2, o3, hF⟩ := h
  have p1 := resE_in h1
  have p2 := resEQ_in h2
  exact ⟨A, n, c, A', n', c', e, p1.1, p2.1, ⟨p1.2.1, fun hn b o e => hF b (iv_sub (Nat.le_refl _) o2 b (p1.2.2 hn b o e))⟩, ⟨p2.2.1, fun hn b o e => hF b (iv_sub o1 (Nat.le_refl _) b (p2.2.2 hn b o e))⟩⟩
theorem LieNE.atF {d : NoteD} {w : World} {F : Nat → Prop} {v : Value} (h : LieNE d w F v) : AtN d w F v := by
  obtain ⟨u, u', lo, hi, lo', hi', rfl, h1, h2, f1, f2, -⟩ := h
  obtain ⟨A, n, c, rfl⟩ := resE_form h1
  obtain ⟨A', n', c', rfl⟩ := resE_form h2
  have p1 := resE_in h1
  have p2 := resE_in h2
  exact ⟨A, n, c, A', n', c', rfl, p1.1, p2.1, ⟨p1.2.1, fun hn b o e => f1 b (p1.2.2 hn b o e)⟩, ⟨p2.2.1, fun hn b o e => f2 b (p2.2.2 hn b o e)⟩⟩
theorem regOf_get {ds : List RegD} {i : Nat} (hi : i < ds.length) : regOf ds i = ds[i] := by
  unfold regOf
  rw [List.getD_eq_getElem?_getD, List.getElem?_eq_getElem hi]
  rfl
theorem notOf_get {ds : List NoteD} {i : Nat} (hi : i < ds.length) : notOf ds i = ds[i] := by
  unfold notOf
  rw [List.getD_eq_getElem?_getD, List.getElem?_eq_getElem hi]
  rfl
theorem OwnRS.reads {ds : List RegD} {w : World} {F : Nat → Prop} {A : Option Addr} {n c : Nat} (h : OwnRS ds w F (.slice A n c)) : n ≤ maxLen ∧ RegsF ds w F A n := by
  rcases h with ⟨h, rfl⟩ | ⟨G, c, Fs, hG, e, h2, hR, hF⟩
  · injection h with q1 q2 _
    subst q1 q2
    exact ⟨Nat.zero_le _, rfl, fun h => absurd h (by omega)⟩
  · injection e with q1 q2 _
    subst q1 q2
    refine ⟨h2, rfl, fun _ => ⟨G, 0, rfl, hG, hR.lt, fun i hi => ?_⟩⟩
    obtain ⟨u, v, hr, hL⟩ := hR.row i hi
    rw [regOf_get hi] at hr hL
    simp only [Nat.zero_add]
    exact ⟨u, v, hr 0 _ rfl, hr 1 _ rfl, hr 2 _ rfl, hr 3 _ rfl, hr 4 _ rfl, (keepsR _).sub hL.atF (fun b hb => (hF i hi b hb).1)⟩
theorem OwnNS.reads {ds : List NoteD} {w : World} {F : Nat → Prop} {A : Option Addr} {n c : Nat} (h : OwnNS ds w F (.slice A n c)) : n ≤ maxLen ∧ NotesF ds w F A n := by
  rcases h with ⟨h, rfl⟩ | ⟨G, c, Fs, hG, e, h2, hR, hF⟩
  · injection h with q1 q2 _
    subst q1 q2
    exact ⟨Nat.zero_le _, rfl, fun h => absurd h (by omega)⟩
  · injection e with q1 q2 _
    subst q1 q2
    refine ⟨h2, rfl, fun _ => ⟨G, 0, rfl, hG, hR.lt, fun i hi => ?_⟩⟩
    obtain ⟨u, v, hr, hL⟩ := hR.row i hi
    rw [notOf_get hi] at hr hL
    simp only [Nat.zero_add]
    exact ⟨u, v, hr 0 _ rfl, hr 1 _ rfl, hr 2 _ rfl, hr 3 _ rfl, hr 4 _ rfl, hr 5 _ rfl, hr 6 _ rfl, hr 7 _ rfl, hr 8 _ rfl, hr 9 _ rfl, hr 10 _ rfl, hr 11 _ rfl, hr 12 _ rfl, hr 13 _ rfl, hr 14 _ rfl, hr 15 _ rfl, (keepsN _).sub hL.atF (fun b hb => (hF i hi b hb).1)⟩
theorem LieJ.lt {d : JourD} {w : World} {F : Nat → Prop} {v : Value} (h : LieJ d w F v) : LieJ d w (fun b => F b ∧ b < w.heap.size) v := by
  obtain ⟨u, u', G1, G2, e, o1, o2, t1, t2, ha⟩ := h
  exact ⟨u, u', _, _, e, o1.lt, o2.lt, fun b hb => ⟨t1 b hb.1, hb.2⟩, fun b hb => ⟨t2 b hb.1, hb.2⟩, fun b hb hb2 => ha b hb.1 hb2.1⟩
/-- A server of one's own. -/
def LieSv (d : ServD) (w : World) (F : Nat → Prop) (v : Value) : Prop :=
  ∃ (u u1 u2 u3 : Value) (F1 F2 F3 : Nat → Prop), v = .agg #[.int .i64 d.x, u, u1, u2, u3] ∧ OwnRS d.rs w F1 u ∧ LieJ d.j w F2 (.agg #[u1, u2]) ∧ OwnNS d.ns w F3 u3 ∧ (∀ b, F1 b → F b) ∧ (∀ b, F2 b → F b) ∧ (∀ b, F3 b → F b) ∧ (∀ b, F1 b → ¬ F2 b) ∧ (∀ b, F1 b → ¬ F3 b) ∧ ∀ b, F2 b → ¬ F3 b
theorem keepsLSv (d : ServD) : Keeps (LieSv d) :=
  ⟨fun ⟨u, u1, u2, u3, F1, F2, F3, e, h1, h2, h3, s1, s2, s3, a⟩ ht hd => ⟨u, u1, u2, u3, F1, F2, F3, e, h1.turn ht (fun b hb => hd b (s1 b hb)), (keepsLJ d.j).turn h2 ht (fun b hb => hd b (s2 b hb)), h3.turn ht (fun b hb => hd b (s3 b hb)), s1, s2, s3, a⟩,
   fun ⟨u, u1, u2, u3, F1, F2, F3, e, h1, h2, h3, s1, s2, s3, a⟩ hs => ⟨u, u1, u2, u3, F1, F2, F3, e, h1, h2, h3, fun b hb => hs b (s1 b hb), fun b hb => hs b (s2 b hb), fun b hb => hs b (s3 b hb), a⟩⟩
theorem LieSv.at {d : ServD} {w : World} {F : Nat → Prop} {v : Value} (h : LieSv d w F v) : AtSv d w F v := by
  obtain ⟨u, u1, u2, u3, F1, F2, F3, rfl, h1, h2, h3, s1, s2, s3, -⟩ := h
  obtain ⟨A, c, rfl⟩ := h1.form
  obtain ⟨A3, c3, rfl⟩ := h3.form
  have hj := (keepsJ d.j).sub h2.at s2
  obtain ⟨A1, n1, c1, A2, n2, c2, e, -⟩ := id hj
  injection e with e
  simp only [Array.mk.injEq, List.cons.injEq, and_true] at e
  obtain ⟨rfl, rfl⟩ := e
  exact ⟨A, _, c, A1, n1, c1, A2, n2, c2, A3, _, c3, rfl, h1.reads.1, h3.reads.1, h1.reads.2.sub s1, hj, h3.reads.2.sub s3⟩
structure ServD.Fit (d : ServD) : Prop where
  r : RegsFit d.rs
  j : d.j.Fit
  n : NotesFit d.ns
def ServD.mk8 (d : ServD) : Int := mkR d.rs + d.j.mk8 + mkN d.ns
def MarkedSv (k : Int) (d d' : ServD) : Prop := d'.x = d.x ∧ MarkedRL k d.rs d'.rs ∧ MarkedJ (k + mkR d.rs) d.j d'.j ∧ MarkedNL (k + mkR d.rs + d.j.mk8) d.ns d'.ns
theorem mkb2_Sv {d : ServD} (hf : d.Fit) : 0 ≤ d.mk8 ∧ d.mk8 ≤ 42800000 := by
  have h1 := mkb_J hf.j
  have h2 : mkR d.rs ≤ 6000000 := hf.r.s _ (Nat.le_refl _)
  have h3 : mkN d.ns ≤ 20000000 := hf.n.s _ (Nat.le_refl _)
  unfold ServD.mk8
  omega

set_option maxRecDepth 100000 in
set_option maxHeartbeats 4000000 in
theorem markd_Sv {d : ServD} {w : World} {F : Nat → Prop} {C : Array Value} {k : Int} (h : LieSv d w F (.agg C)) (hf : d.Fit) (hk0 : 0 ≤ k) (hk1 : k ≤ 1048600) :
    Calls Tryz.prog 63 #[.agg C, .int .i64 k] w fun e w' => e = .returned (.int .i64 (k + d.mk8)) ∧ Turns F w w' ∧ ∃ d', MarkedSv k d d' ∧ LieSv d' w' F (.agg C) := by
  obtain ⟨u, u1, u2, u3, F1, F2, F3, e, h1, h2, h3, s1, s2, s3, a1, a2, a3⟩ := h
  injection e with e
  subst e
  have m1 := mkb_J hf.j
  have m2 : mkR d.rs ≤ 6000000 := hf.r.s _ (Nat.le_refl _)
  obtain ⟨A, c, rfl⟩ := h1.form
  obtain ⟨A3, c3, rfl⟩ := h3.form
  obtain ⟨A1, n1, c1, A2, n2, c2, e, -⟩ := id h2.at
  injection e with e
  simp only [Array.mk.injEq, List.cons.injEq, and_true] at e
  obtain ⟨rfl, rfl⟩ := e
  obtain ⟨n, hn⟩ : ∃ x, d.rs.length = x := ⟨_, rfl⟩
  obtain ⟨n3, hn3⟩ : ∃ x, d.ns.length = x := ⟨_, rfl⟩
  rw [hn] at h1 ⊢
  rw [hn3] at h3 ⊢
  have hb0 := bel_alloc w (.cells #[.int .i64 d.x, .slice A n c, .slice A1 n1 c1, .slice A2 n2 c2, .slice A3 n3 c3] 104)
  have D := Box.new w 104 #[.int .i64 d.x, .slice A n c, .slice A1 n1 c1, .slice A2 n2 c2, .slice A3 n3 c3]
  have P1 := Lib.hid (h1.lt.later hb0)
  have P2 := Lib.hid ((keepsLJ d.j).later h2.lt hb0)
  have P3 := Lib.hid (h3.lt.later hb0)
  clear h1 h2 h3 hn hn3
  go_enter Tryz.func63, Tryz.ntmps63
  go_upto_region 1 with fail
  generalize hw0 : (w.alloc _ : World) = w0 at hb0 D P1 P2 P3 ⊢
  have T0 : Turns (fun b => F b ∨ w.heap.size ≤ b) w w0 := Turns.of_below hb0
  clear hw0 hb0
  obtain ⟨d0, d1, d2, d3, d4⟩ := D.five
  go_wp2_with fail
  refine (markd_RL P1.out hf.r hk0 (by omega)).mono ?_
  rintro e w1 ⟨rfl, t1, rs', k1, K1⟩
  replace D := D.turn t1 (fun hb => by have := hb.2; omega)
  replace P2 := Lib.hid ((keepsLJ d.j).turn P2.out t1 (fun b hb hb2 => a1 b hb2.1 hb.1))
  replace P3 := Lib.hid (P3.out.turn t1 (fun b hb hb2 => a2 b hb2.1 hb.1))
  replace T0 := T0.trans (t1.sub (T' := fun b => F b ∨ w.heap.size ≤ b) (fun b _ hb => .inl (s1 b hb.1)))
  have M1 := Lib.hid k1
  replace P1 := Lib.hid K1
  clear t1 k1 K1 d0 d1 d2 d3 d4
  obtain ⟨d0, d1, d2, d3, d4⟩ := D.five
  go_wp2_with fail
  refine (markd_J P2.out hf.j (by omega) (by omega)).mono ?_
  rintro e w2 ⟨rfl, t1, j', k1, K1⟩
  replace D := D.turn t1 (fun hb => by have := hb.2; omega)
  replace P1 := Lib.hid (P1.out.turn t1 (fun b hb hb2 => a1 b hb.1 hb2.1))
  replace P3 := Lib.hid (P3.out.turn t1 (fun b hb hb2 => a3 b hb2.1 hb.1))
  replace T0 := T0.trans (t1.sub (T' := fun b => F b ∨ w.heap.size ≤ b) (fun b _ hb => .inl (s2 b hb.1)))
  have M2 := Lib.hid k1
  replace P2 := Lib.hid K1
  clear t1 k1 K1 d0 d1 d2 d3 d4
  obtain ⟨d0, d1, d2, d3, d4⟩ := D.five
  go_wp2_with fail
  refine (markd_NL P3.out hf.n (by omega) (by omega)).mono ?_
  rintro e w3 ⟨rfl, t1, ns', k1, K1⟩
  replace P1 := Lib.hid (P1.out.turn t1 (fun b hb hb2 => a2 b hb.1 hb2.1))
  replace P2 := Lib.hid ((keepsLJ j').turn P2.out t1 (fun b hb hb2 => a3 b hb.1 hb2.1))
  have T1 := Lib.hid (T0.trans (t1.sub (T' := fun b => F b ∨ w.heap.size ≤ b) (fun b _ hb => .inl (s3 b hb.1))))
  have M3 := Lib.hid k1
  replace P3 := Lib.hid K1
  clear t1 k1 K1 d0 d1 d2 d3 d4 D T0
  go_wp2
  go_ret
  exact ⟨by rw [show k + d.mk8 = k + (mkR d.rs : Int) + d.j.mk8 + (mkN d.ns : Int) from by unfold ServD.mk8; omega]; rfl, T1.out.sub (fun b hl hb => hb.resolve_right (by omega)), ⟨d.x, rs', j', ns'⟩, ⟨rfl, M1.out, M2.out, M3.out⟩, _, _, _, _, _, _, _, rfl, P1.out, P2.out, P3.out, fun b hb => s1 b hb.1, fun b hb => s2 b hb.1, fun b hb => s3 b hb.1, fun b hb hb2 => a1 b hb.1 hb2.1, fun b hb hb2 => a2 b hb.1 hb2.1, fun b hb hb2 => a3 b hb.1 hb2.1⟩
set_option maxRecDepth 100000 in
set_option maxHeartbeats 4000000 in
theorem held_Sv {d d' : ServD} {w : World} {F : Nat → Prop} {C : Array Value} {k : Int} (h : LieSv d' w F (.agg C)) (hm : MarkedSv k d d') (hf : d.Fit) (hk0 : 0 ≤ k) (hk1 : k ≤ 1048600) :
    Calls Tryz.prog 64 #[.agg C, .int .i64 k] w fun e w' => e = .returned (.int .i64 (k + d.mk8)) ∧ Below w.heap.size w w' := by
  obtain ⟨u, u1, u2, u3, F1, F2, F3, e, h1, h2, h3, -⟩ := h
  injection e with e
  subst e
  have m1 := mkb_J hf.j
  have m2 : mkR d.rs ≤ 6000000 := hf.r.s _ (Nat.le_refl _)
  obtain ⟨A, c, rfl⟩ := h1.form
  obtain ⟨A3, c3, rfl⟩ := h3.form
  obtain ⟨A1, n1, c1, A2, n2, c2, e, -⟩ := id h2.at
  injection e with e
  simp only [Array.mk.injEq, List.cons.injEq, and_true] at e
  obtain ⟨rfl, rfl⟩ := e
  obtain ⟨n, hn⟩ : ∃ x, d'.rs.length = x := ⟨_, rfl⟩
  obtain ⟨n3, hn3⟩ : ∃ x, d'.ns.length = x := ⟨_, rfl⟩
  rw [hn] at h1 ⊢
  rw [hn3] at h3 ⊢
  have hb0 := bel_alloc w (.cells #[.int .i64 d'.x, .slice A n c, .slice A1 n1 c1, .slice A2 n2 c2, .slice A3 n3 c3] 104)
  have D := Box.new w 104 #[.int .i64 d'.x, .slice A n c, .slice A1 n1 c1, .slice A2 n2 c2, .slice A3 n3 c3]
  have P1 := Lib.hid (h1.lt.later hb0)
  have P2 := Lib.hid ((keepsLJ d'.j).later h2.lt hb0)
  have P3 := Lib.hid (h3.lt.later hb0)
  have M1 := Lib.hid hm.2.1
  have M2 := Lib.hid hm.2.2.1
  have M3 := Lib.hid hm.2.2.2
  clear h1 h2 h3 hn hn3 hm
  obtain ⟨q1, hq1⟩ : ∃ q : Int, k + mkR d.rs = q := ⟨_, rfl⟩
  obtain ⟨q2, hq2⟩ : ∃ q : Int, q1 + d.j.mk8 = q := ⟨_, rfl⟩
  have hz1 : 0 ≤ q1 := by omega
  have hz2 : 0 ≤ q2 := by omega
  have hl1 : q1 ≤ 10000000 := by omega
  have hl2 : q2 ≤ 25000000 := by omega
  have hp1 : ¬ q1 < 0 := by omega
  have hp2 : ¬ q2 < 0 := by omega
  have hp3 : ¬ q2 + (mkN d.ns : Int) < 0 := by omega
  have hfin : k + d.mk8 = q2 + (mkN d.ns : Int) := by unfold ServD.mk8; omega
  rw [hq1] at M2 M3
  rw [hq2] at M3
  have HQ1 := Lib.hid hq1
  have HQ2 := Lib.hid hq2
  clear m1 m2 hq1 hq2
  go_enter Tryz.func64, Tryz.ntmps64
  go_upto_region 1 with fail
  generalize (w.alloc _ : World) = w0 at hb0 D P1 P2 P3 ⊢
  obtain ⟨d0, d1, d2, d3, d4⟩ := D.five
  go_wp2_with fail
  refine (held_RL P1.out M1.out hf.r hk0 (by omega)).mono ?_
  rintro e w1 ⟨rfl, rfl⟩
  rw [HQ1.out]
  go_wp2_with fail
  refine (held_J P2.out M2.out hf.j hz1 hl1).mono ?_
  rintro e w1 ⟨rfl, hb⟩
  rw [HQ2.out]
  replace hb0 := bel_trans hb0 hb
  replace D := D.later hb D.lt
  replace P3 := Lib.hid (P3.out.later hb)
  clear hb d0 d1 d2 d3 d4
  obtain ⟨d0, d1, d2, d3, d4⟩ := D.five
  go_wp2_with fail
  refine (held_NL P3.out M3.out hf.n hz2 hl2).mono ?_
  rintro e w2 ⟨rfl, rfl⟩
  clear d0 d1 d2 d3 d4 D
  go_wp2
  go_ret
  exact ⟨by rw [hfin]; rfl, hb0⟩
end Go.Proofs.YtjdepjpjjgkmbaaGreat

/- The exact law of NewServer answers true, whatever it is given: its walk (written by laws_newsv.py); conditions: the sizes. -/
namespace Go.Proofs.YtjdepjpjjgkmbaaGreat
open Go Go.RowKit

/-- What NewServer answers, as data. -/
def svD (r : Int × List RegD × Bool) : ServD := ⟨r.1, r.2.1, ⟨[], []⟩, []⟩
theorem newSv_regs {g : GrpD} {x : Int} {r : Int × List RegD × Bool} (h : newSv g x = r) : r.2.1.length ≤ 4 ∧ ∀ i, regOf r.2.1 i = zeroR := by
  subst h
  unfold newSv
  split
  · rename_i hs
    obtain ⟨h1, h4⟩ := okB_sh (srv_ok hs)
    refine ⟨by simp; omega, fun i => ?_⟩
    show regOf (List.replicate g.sh.toNat zeroR) i = zeroR
    unfold regOf
    rw [List.getD_eq_getElem?_getD, List.getElem?_replicate]
    split <;> rfl
  · exact ⟨Nat.zero_le _, fun i => rfl⟩
theorem sum_zero {D : Nat → RegD} (h : ∀ i, D i = zeroR) (j : Nat) : sumR D j = 3 * j := by
  induction j with
  | zero => rfl
  | succ j ih =>
    unfold sumR
    rw [ih, h j]
    simp [zeroR]
    omega
theorem sv_fit {g : GrpD} {x : Int} {r : Int × List RegD × Bool} (h : newSv g x = r) : (svD r).Fit ∧ (svD r).Eqs := by
  obtain ⟨h4, hz⟩ := newSv_regs h
  have hg : ∀ k (hk : k < r.2.1.length), r.2.1[k] = zeroR := fun k hk => by rw [← regOf_get hk]; exact hz k
  refine ⟨⟨⟨Nat.le_trans h4 (by omega), fun j hj => ?_, fun j hj => ?_⟩, ⟨Nat.zero_le _, Nat.zero_le _, Nat.zero_le _, Nat.zero_le _⟩, ⟨Nat.zero_le _, fun j hj => ?_, fun j hj => absurd hj (Nat.not_lt_zero j)⟩⟩, Nat.le_trans h4 (by omega), fun k hk => ?_, Nat.zero_le _, Nat.zero_le _, fun k hk => absurd hk (Nat.not_lt_zero k)⟩
  · show sumR (regOf r.2.1) j ≤ 6000000
    rw [sum_zero hz]
    have : j ≤ r.2.1.length := hj
    omega
  · show (regOf r.2.1 j).ps.length ≤ 1048577 ∧ (regOf r.2.1 j).os.length ≤ 1048577
    rw [hz]
    exact ⟨Nat.zero_le _, Nat.zero_le _⟩
  · obtain rfl : j = 0 := Nat.le_zero.1 hj
    exact Nat.zero_le _
  · show (r.2.1[k]).ps.length ≤ 1048576 ∧ (r.2.1[k]).os.length ≤ 1048577
    rw [hg k hk]
    exact ⟨Nat.zero_le _, Nat.zero_le _⟩
theorem SlR.at {w : World} {lo : Nat} {u : Value} {rs : List RegD} {x : Int} (h : SlR AtW w lo u rs) (hl : rs.length ≤ maxLen) : AtSv ⟨x, rs, ⟨[], []⟩, []⟩ w (Iv lo w.heap.size) (.agg (SvC x u)) := by
  have hnil : ∀ F, RecsF [] w F none 0 := fun F => ⟨rfl, fun h => absurd h (Nat.lt_irrefl 0)⟩
  have hj : AtJ ⟨[], []⟩ w (Iv lo w.heap.size) (.agg #[.slice none 0 0, .slice none 0 0]) := ⟨none, 0, 0, none, 0, 0, rfl, Nat.zero_le _, Nat.zero_le _, hnil _, hnil _⟩
  have hn : NotesF [] w (Iv lo w.heap.size) none 0 := ⟨rfl, fun h => absurd h (Nat.lt_irrefl 0)⟩
  rcases h with ⟨rfl, rfl⟩ | ⟨G, c, rfl, hg, Fs, hR, hF⟩
  · exact ⟨none, 0, 0, none, 0, 0, none, 0, 0, none, 0, 0, rfl, Nat.zero_le _, Nat.zero_le _, ⟨rfl, fun h => absurd h (Nat.lt_irrefl 0)⟩, hj, hn⟩
  · refine ⟨_, _, c, none, 0, 0, none, 0, 0, none, 0, 0, rfl, hl, Nat.zero_le _, ⟨rfl, fun _ => ⟨G, 0, rfl, ⟨hg, hR.lt⟩, hR.lt, fun i hi => ?_⟩⟩, hj, hn⟩
    obtain ⟨a, b, c0, c1, c2, c3, c4, hp⟩ := hR.get hi
    simp only [Nat.zero_add]
    exact ⟨a, b, c0, c1, c2, c3, c4, (keepsR _).sub hp.at (fun b hb => hF i hi b hb)⟩
theorem SlR.lie {w : World} {lo : Nat} {u : Value} {rs : List RegD} {x : Int} (h : SlR LieE w lo u rs) (hl : rs.length ≤ maxLen) : LieSv ⟨x, rs, ⟨[], []⟩, []⟩ w (Iv lo w.heap.size) (.agg (SvC x u)) := by
  have hj : LieJ ⟨[], []⟩ w (fun _ => False) (.agg #[.slice none 0 0, .slice none 0 0]) := ⟨_, _, fun _ => False, fun _ => False, rfl, .inl ⟨rfl, rfl⟩, .inl ⟨rfl, rfl⟩, fun _ h => h, fun _ h => h, fun _ h _ => h⟩
  have hn : OwnNS [] w (fun _ => False) (.slice none 0 0) := .inl ⟨rfl, rfl⟩
  refine ⟨u, _, _, _, Iv lo w.heap.size, fun _ => False, fun _ => False, rfl, ?_, hj, hn, fun _ h => h, fun _ h => h.elim, fun _ h => h.elim, fun _ _ h => h, fun _ _ h => h, fun _ h _ => h⟩
  rcases h with ⟨rfl, rfl⟩ | ⟨G, c, rfl, hO⟩
  · exact .inl ⟨rfl, rfl⟩
  · obtain ⟨Fs, hE, hF⟩ := RegsOwn.rangesE hO
    exact .inr ⟨G, c, Fs, ⟨hO.1, hE.lt⟩, rfl, hl, hE, fun i hi b hb => ⟨hF i hi b hb, (hF i hi b hb).2⟩⟩

/-- The variables of the arguments, as they were given. -/
structure PreNSv (w wr : World) (C0 : Array Value) (d0 : GrpD) : Prop where
  v0 : VarOf (AtG d0) 47 wr (· < w.heap.size) (w.heap.size) C0
  bel : Below w.heap.size w wr
theorem PreNSv.later {w wr w' : World} {C0 : Array Value} {d0 : GrpD} (h : PreNSv w wr C0 d0) (hb : Below wr.heap.size wr w') : PreNSv w w' C0 d0 :=
  ⟨h.v0.later (keepsG d0) hb, bel_trans h.bel hb⟩
theorem PreNSv.turn {w wr w' : World} {C0 : Array Value} {d0 : GrpD} {T : Nat → Prop} (h : PreNSv w wr C0 d0) (ht : Turns T wr w') (hT : ∀ b, T b → w.heap.size < b) : PreNSv w w' C0 d0 :=
  ⟨h.v0.turn (keepsG d0) ht (fun hb => by have := hT _ hb; omega) (fun b hb hb2 => by have := hT b hb2; omega), ht.below h.bel (fun b hb => by have := hT b hb; omega)⟩
theorem PreNSv.start {w : World} {C0 : Array Value} {d0 : GrpD} (h0 : AtG d0 w (· < w.heap.size) (.agg C0)) : PreNSv w (w.alloc (.cells C0 47)) C0 d0 := by
  have e0 := bel_alloc w (.cells C0 47)
  have E0 := e0
  have B0 := Box.new w 47 C0
  try simp only [World.size_alloc] at B0
  exact ⟨⟨B0, by omega, (keepsG d0).later h0 E0⟩, E0⟩
set_option maxRecDepth 100000 in
set_option maxHeartbeats 16000000 in
theorem exactNewServer_any (C0 : Array Value) (d0 : GrpD) (x : Int) (w : World) (h0 : AtG d0 w (· < w.heap.size) (.agg C0)) :
    Calls Tryz.prog 11 #[.agg C0, .int .i64 x] w fun e w' => e = .returned (.bool true) ∧ Below w.heap.size w w' := by
  have I0 := Lib.hid (sizeG h0).1
  have J0 := Lib.hid (sizeG h0).2
  have K0 := PreNSv.start h0
  clear h0
  go_enter Tryz.func11, Tryz.ntmps11
  go_wp2_with (refine wpList_load_box 47 _ rfl (w.heap.size) rfl 47 C0 K0.v0.box _ Tryz.underlying47 rfl I0.out (by first | rfl | simp [Region.wanted, yielded] | (simp [Region.wanted, yielded, Act.put] <;> omega)) ?_)
  generalize (w.alloc _ : World) = w0 at K0 ⊢
  refine (sz_G K0.v0.dat).mono ?_
  rintro e w1 ⟨⟨u, rfl, hle, hgt⟩, hb⟩
  replace K0 := K0.later hb
  clear hb
  rcases Int.lt_or_le (1048576) (d0.sz : Int) with hs0 | hs0
  · have hu := hgt hs0
    clear hle hgt
    have E := K0.bel
    go_wp2
    go_ret
    exact ⟨rfl, E⟩
  have hu := hle hs0
  clear hle hgt
  subst hu
  have hu0 : ¬ (1048576 - (d0.sz : Int) < 0) := by omega
  have hz0 : d0.sz ≤ 1048576 := by omega
  have m0 : 0 ≤ d0.mk8 ∧ d0.mk8 ≤ 1048576 := by unfold GrpD.mk8; have h8 : d0.zs.length ≤ 1048576 := hz0; omega
  obtain ⟨r, hr⟩ : ∃ r, newSv d0 x = r := ⟨_, rfl⟩
  have HZ := Lib.hid hr
  have hl4 := (newSv_regs hr).1
  have hlm : r.2.1.length ≤ maxLen := by unfold maxLen; omega
  have FQ := Lib.hid (sv_fit hr)
  have hzz : (r.2.2 != r.2.2) = false := by simp
  clear hr
  go_upto_region 5 with fail
  clear hs0 hu0
  -- the model, on a copy
  go_wp2_with (refine wpList_load_box 47 _ rfl (w.heap.size) rfl 47 C0 K0.v0.box _ Tryz.underlying47 rfl I0.out (by first | rfl | simp [Region.wanted, yielded] | (simp [Region.wanted, yielded, Act.put] <;> omega)) ?_)
  refine (to_G K0.v0.dat hz0).mono ?_
  rintro e w2 ⟨D, rfl, L0, hb⟩
  replace K0 := K0.later hb
  clear hb
  go_wp2_with fail
  refine (specNewServer_is x L0.at HZ.out).mono ?_
  rintro e w3 ⟨u, rfl, hu, hb⟩
  replace K0 := K0.later hb
  have hle := hb.size
  clear hb L0
  have hV : w.heap.size < w3.heap.size := K0.v0.box.lt
  have hL := hu.at (x := r.1) hlm
  have hn := bel_new_row w3 #[.int .i64 0, .slice none 0 0, .slice none 0 0, .slice none 0 0, .slice none 0 0] 104 (SvC r.1 u)
  obtain ⟨ua, un, uc, rfl⟩ : ∃ a b c, u = .slice a b c := by rcases hu with ⟨rfl, _⟩ | ⟨G, c, rfl, _⟩ <;> exact ⟨_, _, _, rfl⟩
  clear hu
  have ZB := Box.new w3 104 #[.int .i64 0, .slice none 0 0, .slice none 0 0, .slice none 0 0, .slice none 0 0]
  have M : VarOf (AtSv (svD r)) 104 ((w3.alloc (.cells #[.int .i64 0, .slice none 0 0, .slice none 0 0, .slice none 0 0, .slice none 0 0] 104)).setRow w3.heap.size (SvC r.1 (.slice ua un uc))) (Iv w2.heap.size w3.heap.size) w3.heap.size (SvC r.1 (.slice ua un uc)) := ⟨(Box.new w3 104 #[.int .i64 0, .slice none 0 0, .slice none 0 0, .slice none 0 0, .slice none 0 0]).setRow _, fun h => by have := h.2; omega, (keepsSv _).later hL hn⟩
  replace K0 := K0.later hn
  clear hL hn
  go_upto_region 6 with (refine wpList_store_row rfl 104 _ _ rfl w3.heap.size (SvC r.1 (.slice ua un uc)) rfl rfl 104 #[.int .i64 0, .slice none 0 0, .slice none 0 0, .slice none 0 0, .slice none 0 0] ZB (by kernel_rfl) rfl (by simp [SvC, Value.oneCell']) ?_)
  clear ZB
  have hFM : ∀ b, Iv w2.heap.size w3.heap.size b → b < w3.heap.size := fun b hb => hb.2
  generalize ((w3.alloc _).setRow _ _ : World) = w1 at K0 M ⊢
  generalize w3.heap.size = VM at M hFM hle hV ⊢
  generalize Iv w2.heap.size VM = FM at M hFM ⊢
  generalize SvC r.1 (.slice ua un uc) = CM at M ⊢
  have JM := Lib.hid (sizeSvI M.dat)
  clear hle
  -- a copy that is handed in
  go_wp2_with (refine wpList_load_box 47 _ rfl (w.heap.size) rfl 47 C0 K0.v0.box _ Tryz.underlying47 rfl I0.out (by first | rfl | simp [Region.wanted, yielded] | (simp [Region.wanted, yielded, Act.put] <;> omega)) ?_)
  refine (to_G K0.v0.dat hz0).mono ?_
  rintro e w2 ⟨D0, rfl, hL, hb⟩
  have s0 := hb.size
  have q0 := M.box.lt
  have O := Lib.hid (oneG hL.at)
  have JS := Lib.hid (sizeG hL.at).2
  have J0 := JS
  have hn := bel_new_row w2 #[.int .i64 0, .int .i64 0, .int .i64 0, .int .i64 0, .slice none 0 0] 26 D0
  have X0 := var_new_row (keepsLG d0) (Z := #[.int .i64 0, .int .i64 0, .int .i64 0, .int .i64 0, .slice none 0 0]) 26 hL (fun b hb => hb.2)
  replace M := (M.later (keepsSv (svD r)) hb).later (keepsSv (svD r)) hn
  replace K0 := (K0.later hb).later hn
  have ZB := Box.new w2 26 #[.int .i64 0, .int .i64 0, .int .i64 0, .int .i64 0, .slice none 0 0]
  generalize w1.heap.size = S0 at s0 q0 X0 
  clear hb hL hn
  go_upto_region 7 with (refine wpList_store_row rfl 26 _ _ rfl w2.heap.size _ rfl rfl 26 #[.int .i64 0, .int .i64 0, .int .i64 0, .int .i64 0, .slice none 0 0] ZB JS.out O.out.1.symm O.out.2 ?_)
  clear ZB O JS
  generalize ((w2.alloc _).setRow _ _ : World) = w3 at K0 X0 M ⊢
  generalize w2.heap.size = V0 at s0 X0 ⊢
  obtain ⟨w1, rfl⟩ : ∃ x, x = w3 := ⟨_, rfl⟩
  -- the program
  have qG := X0.box.lt
  go_wp2_with (refine wpList_load_box 26 _ rfl (V0) rfl 26 D0 X0.box _ Tryz.underlying26 rfl J0.out (by first | rfl | simp [Region.wanted, yielded] | (simp [Region.wanted, yielded, Act.put] <;> omega)) ?_)
  refine (newServer_is x X0.dat.at HZ.out).mono ?_
  rintro e w3 ⟨u, rfl, hu, hb⟩
  have sG := hb.size
  replace K0 := K0.later hb
  replace X0 := X0.later (keepsLG d0) hb
  replace M := M.later (keepsSv (svD r)) hb
  clear hb
  generalize w1.heap.size = SG at sG qG hu
  have hL := hu.lie (x := r.1) hlm
  have hn := bel_new_row w3 #[.int .i64 0, .slice none 0 0, .slice none 0 0, .slice none 0 0, .slice none 0 0] 104 (SvC r.1 u)
  obtain ⟨ua, un, uc, rfl⟩ : ∃ a b c, u = .slice a b c := by rcases hu with ⟨rfl, _⟩ | ⟨G, c, rfl, _⟩ <;> exact ⟨_, _, _, rfl⟩
  clear hu
  have ZB := Box.new w3 104 #[.int .i64 0, .slice none 0 0, .slice none 0 0, .slice none 0 0, .slice none 0 0]
  have G : VarOf (LieSv (svD r)) 104 ((w3.alloc (.cells #[.int .i64 0, .slice none 0 0, .slice none 0 0, .slice none 0 0, .slice none 0 0] 104)).setRow w3.heap.size (SvC r.1 (.slice ua un uc))) (Iv SG w3.heap.size) w3.heap.size (SvC r.1 (.slice ua un uc)) := ⟨(Box.new w3 104 #[.int .i64 0, .slice none 0 0, .slice none 0 0, .slice none 0 0, .slice none 0 0]).setRow _, fun h => by have := h.2; omega, (keepsLSv _).later hL hn⟩
  replace K0 := K0.later hn
  replace X0 := X0.later (keepsLG d0) hn
  replace M := M.later (keepsSv (svD r)) hn
  clear hL hn
  go_upto_region 8 with (refine wpList_store_row rfl 104 _ _ rfl w3.heap.size (SvC r.1 (.slice ua un uc)) rfl rfl 104 #[.int .i64 0, .slice none 0 0, .slice none 0 0, .slice none 0 0, .slice none 0 0] ZB (by kernel_rfl) rfl (by simp [SvC, Value.oneCell']) ?_)
  clear ZB
  generalize ((w3.alloc _).setRow _ _ : World) = w1 at K0 X0 M G ⊢
  generalize w3.heap.size = VG at sG G ⊢
  generalize SvC r.1 (.slice ua un uc) = CG at G ⊢
  have JG := Lib.hid (sizeSvI G.dat.at)
  -- both answers are alike
  go_wp2_with (first | (refine wpList_load_box 104 _ rfl (VG) rfl 104 CG G.box _ Tryz.underlying104 rfl JG.out (by first | rfl | simp [Region.wanted, yielded] | (simp [Region.wanted, yielded, Act.put] <;> omega)) ?_) | (refine wpList_load_box 104 _ rfl (VM) rfl 104 CM M.box _ Tryz.underlying104 rfl JM.out (by first | rfl | simp [Region.wanted, yielded] | (simp [Region.wanted, yielded, Act.put] <;> omega)) ?_))
  refine (eq_Sv G.dat.at M.dat FQ.out.2).mono ?_
  rintro e w2 ⟨rfl, hb⟩
  replace K0 := K0.later hb
  replace X0 := X0.later (keepsLG d0) hb
  replace M := M.later (keepsSv (svD r)) hb
  replace G := G.later (keepsLSv (svD r)) hb
  clear hb
  obtain ⟨w1, rfl⟩ : ∃ x, x = w2 := ⟨_, rfl⟩
  -- an argument is as it was
  go_upto_region 10 with fail
  refine wp_region_sink 5 (fun w' => Box w' V0 26 D0 ∧ Box w' (w.heap.size) 47 C0) (by kernel_rfl) ⟨X0.box, K0.v0.box⟩ (fun hH => ?_)
  have hb := (Below.refl w1.heap.size w1).drew
  replace K0 := K0.later hb
  replace X0 := X0.later (keepsLG d0) hb
  replace M := M.later (keepsSv (svD r)) hb
  replace G := G.later (keepsLSv (svD r)) hb
  clear hb
  generalize w1.drew = w2 at K0 hH X0 M G ⊢
  refine wpAnyE_takeS (i := 0) (v := .agg D0) (by simp only [List.getElem?_toArray, List.getElem?_cons_zero]; rfl) (by kernel_rfl) (by kernel_rfl) (by kernel_rfl) (by exact fun _ _ _ h => h) (by kernel_rfl) ?yx0 hH ?_
  case yx0 => exact yields_box 26 _ rfl (V0) rfl 26 D0 (fun _ h => h.1) _ Tryz.underlying26 rfl J0.out (by first | rfl | simp [Region.wanted, yielded] | (simp [Region.wanted, yielded, Act.put] <;> omega))
  try simp only [Act.put, List.setIfInBounds_toArray, List.set_cons_zero, List.set_cons_succ]
  refine wpAnyE_takeS (i := 1) (v := .agg C0) (by simp only [List.getElem?_toArray, List.getElem?_cons_succ, List.getElem?_cons_zero]; rfl) (by kernel_rfl) (by kernel_rfl) (by kernel_rfl) (by exact fun _ _ _ h => h) (by kernel_rfl) ?yo0 hH ?_
  case yo0 => exact yields_box 47 _ rfl (w.heap.size) rfl 47 C0 (fun _ h => h.2) _ Tryz.underlying47 rfl I0.out (by first | rfl | simp [Region.wanted, yielded] | (simp [Region.wanted, yielded, Act.put] <;> omega))
  try simp only [Act.put, List.setIfInBounds_toArray, List.set_cons_zero, List.set_cons_succ]
  refine wpAnyE_one (i := 2) (by kernel_rfl) (by simp only [List.getElem?_toArray, List.getElem?_cons_succ, List.getElem?_cons_zero]; rfl) (fun K hK => ?_)
  go_simp
  refine (to_G K0.v0.dat hz0).mono ?_
  rintro e w3 ⟨D, rfl, L, hb⟩
  replace K0 := K0.later hb
  replace X0 := X0.later (keepsLG d0) hb
  replace M := M.later (keepsSv (svD r)) hb
  replace G := G.later (keepsLSv (svD r)) hb
  clear hb
  clear hH
  refine hK.out _ _ ⟨X0.box, K0.v0.box⟩ (fun hH => ?_)
  clear hK K
  try simp only [Act.put, List.setIfInBounds_toArray, List.set_cons_zero, List.set_cons_succ]
  refine wpAnyE_one (i := 3) (by kernel_rfl) (by simp only [List.getElem?_toArray, List.getElem?_cons_succ, List.getElem?_cons_zero]; rfl) (fun K hK => ?_)
  go_simp
  refine (eq_G X0.dat.at L.at hz0).mono ?_
  rintro e w4 ⟨rfl, hb⟩
  replace K0 := K0.later hb
  replace X0 := X0.later (keepsLG d0) hb
  replace M := M.later (keepsSv (svD r)) hb
  replace G := G.later (keepsLSv (svD r)) hb
  clear hb L
  clear hH
  refine hK.out _ _ ⟨X0.box, K0.v0.box⟩ (fun hH => ?_)
  clear hK K
  try simp only [Act.put, List.setIfInBounds_toArray, List.set_cons_zero, List.set_cons_succ]
  refine wpAnyE_end (i := 4) (by kernel_rfl) (by simp only [List.getElem?_toArray, List.getElem?_cons_succ, List.getElem?_cons_zero]; rfl) (by kernel_rfl) (fun K hK => ?_)
  go_simp
  refine hK.out _ _ ⟨X0.box, K0.v0.box⟩ ?_
  clear hK K
  try simp only [Act.put, List.setIfInBounds_toArray, List.set_cons_zero, List.set_cons_succ]
  obtain ⟨w1, rfl⟩ : ∃ x, x = w4 := ⟨_, rfl⟩
  clear hH
  -- the marks
  go_wp2_with (refine wpList_load_box 26 _ rfl (V0) rfl 26 D0 X0.box _ Tryz.underlying26 rfl J0.out (by first | rfl | simp [Region.wanted, yielded] | (simp [Region.wanted, yielded, Act.put] <;> omega)) ?_)
  refine (mark_G (k := 1) X0.dat hz0 (by omega) (by omega)).mono ?_
  rintro e w2 ⟨rfl, ht⟩
  replace K0 := K0.turn ht (fun b hb => by have := hb.1; omega)
  replace M := M.turn (keepsSv (svD r)) ht (iv_not (.inl (by omega))) (fun b hb hi => by have := hFM b hb; have := hi.1; omega)
  replace G := G.turn (keepsLSv (svD r)) ht (iv_not (.inr (by omega))) (iv_far (.inr (by omega)))
  clear ht X0
  obtain ⟨w1, rfl⟩ : ∃ x, x = w2 := ⟨_, rfl⟩
  have hk : ¬ (1 + d0.mk8 < 0) := by omega
  go_wp2_with (first | (refine wpList_load_box 104 _ rfl (VG) rfl 104 CG G.box _ Tryz.underlying104 rfl JG.out (by first | rfl | simp [Region.wanted, yielded] | (simp [Region.wanted, yielded, Act.put] <;> omega)) ?_) | (refine wpList_load_box 104 _ rfl (VM) rfl 104 CM M.box _ Tryz.underlying104 rfl JM.out (by first | rfl | simp [Region.wanted, yielded] | (simp [Region.wanted, yielded, Act.put] <;> omega)) ?_))
  refine (eq_Sv G.dat.at M.dat FQ.out.2).mono ?_
  rintro e w2 ⟨rfl, hb⟩
  replace K0 := K0.later hb
  replace M := M.later (keepsSv (svD r)) hb
  replace G := G.later (keepsLSv (svD r)) hb
  clear hb
  obtain ⟨w1, rfl⟩ : ∃ x, x = w2 := ⟨_, rfl⟩
  go_wp2_with (refine wpList_load_box 104 _ rfl (VG) rfl 104 CG G.box _ Tryz.underlying104 rfl JG.out (by first | rfl | simp [Region.wanted, yielded] | (simp [Region.wanted, yielded, Act.put] <;> omega)) ?_)
  refine (markd_Sv (k := 1) G.dat FQ.out.1 (by omega) (by omega)).mono ?_
  rintro e w2 ⟨rfl, ht, r', hm, LG⟩
  replace K0 := K0.turn ht (fun b hb => by have := hb.1; omega)
  replace M := M.turn (keepsSv (svD r)) ht (iv_not (.inl (by omega))) (fun b hb hi => by have := hFM b hb; have := hi.1; omega)
  have G2 : VarOf (LieSv r') 104 w2 (Iv SG VG) VG CG := ⟨G.box.turn ht (iv_not (.inr (Nat.le_refl _))), G.far, LG⟩
  clear ht LG G hk
  have HM := Lib.hid hm
  clear hm
  obtain ⟨w1, rfl⟩ : ∃ x, x = w2 := ⟨_, rfl⟩
  have mr := mkb2_Sv FQ.out.1
  have hk : ¬ (1 + (svD r).mk8 < 0) := by omega
  have hqq : (1 + (svD r).mk8 != 1 + (svD r).mk8) = false := by simp
  go_wp2_with (refine wpList_load_box 104 _ rfl (VG) rfl 104 CG G2.box _ Tryz.underlying104 rfl JG.out (by first | rfl | simp [Region.wanted, yielded] | (simp [Region.wanted, yielded, Act.put] <;> omega)) ?_)
  refine (held_Sv (k := 1) G2.dat HM.out FQ.out.1 (by omega) (by omega)).mono ?_
  rintro e w2 ⟨rfl, hb⟩
  replace K0 := K0.later hb
  replace M := M.later (keepsSv (svD r)) hb
  replace G2 := G2.later (keepsLSv r') hb
  clear hb
  obtain ⟨w1, rfl⟩ : ∃ x, x = w2 := ⟨_, rfl⟩
  go_upto_region 24 with fail
  -- again
  go_wp2_with (refine wpList_load_box 47 _ rfl (w.heap.size) rfl 47 C0 K0.v0.box _ Tryz.underlying47 rfl I0.out (by first | rfl | simp [Region.wanted, yielded] | (simp [Region.wanted, yielded, Act.put] <;> omega)) ?_)
  refine (to_G K0.v0.dat hz0).mono ?_
  rintro e w2 ⟨D5, rfl, L5, hb⟩
  replace K0 := K0.later hb
  replace M := M.later (keepsSv (svD r)) hb
  replace G2 := G2.later (keepsLSv r') hb
  clear hb
  go_wp2_with fail
  refine (newServer_is x L5.at HZ.out).mono ?_
  rintro e w3 ⟨u, rfl, hu, hb⟩
  replace K0 := K0.later hb
  replace M := M.later (keepsSv (svD r)) hb
  replace G2 := G2.later (keepsLSv r') hb
  clear hb L5
  have hL := (hu.lie (x := r.1) hlm).at
  have hn := bel_new_row w3 #[.int .i64 0, .slice none 0 0, .slice none 0 0, .slice none 0 0, .slice none 0 0] 104 (SvC r.1 u)
  obtain ⟨ua, un, uc, rfl⟩ : ∃ a b c, u = .slice a b c := by rcases hu with ⟨rfl, _⟩ | ⟨G, c, rfl, _⟩ <;> exact ⟨_, _, _, rfl⟩
  clear hu
  have ZB := Box.new w3 104 #[.int .i64 0, .slice none 0 0, .slice none 0 0, .slice none 0 0, .slice none 0 0]
  have H : VarOf (AtSv (svD r)) 104 ((w3.alloc (.cells #[.int .i64 0, .slice none 0 0, .slice none 0 0, .slice none 0 0, .slice none 0 0] 104)).setRow w3.heap.size (SvC r.1 (.slice ua un uc))) (Iv w2.heap.size w3.heap.size) w3.heap.size (SvC r.1 (.slice ua un uc)) := ⟨(Box.new w3 104 #[.int .i64 0, .slice none 0 0, .slice none 0 0, .slice none 0 0, .slice none 0 0]).setRow _, fun h => by have := h.2; omega, (keepsSv _).later hL hn⟩
  replace K0 := K0.later hn
  replace M := M.later (keepsSv (svD r)) hn
  replace G2 := G2.later (keepsLSv r') hn
  clear hL hn
  go_upto_region 25 with (refine wpList_store_row rfl 104 _ _ rfl w3.heap.size (SvC r.1 (.slice ua un uc)) rfl rfl 104 #[.int .i64 0, .slice none 0 0, .slice none 0 0, .slice none 0 0, .slice none 0 0] ZB (by kernel_rfl) rfl (by simp [SvC, Value.oneCell']) ?_)
  clear ZB
  generalize ((w3.alloc _).setRow _ _ : World) = w1 at K0 M G2 H ⊢
  generalize w3.heap.size = VH at H ⊢
  generalize SvC r.1 (.slice ua un uc) = CH at H ⊢
  have JH := Lib.hid (sizeSvI H.dat)
  go_wp2_with (first | (refine wpList_load_box 104 _ rfl (VH) rfl 104 CH H.box _ Tryz.underlying104 rfl JH.out (by first | rfl | simp [Region.wanted, yielded] | (simp [Region.wanted, yielded, Act.put] <;> omega)) ?_) | (refine wpList_load_box 104 _ rfl (VM) rfl 104 CM M.box _ Tryz.underlying104 rfl JM.out (by first | rfl | simp [Region.wanted, yielded] | (simp [Region.wanted, yielded, Act.put] <;> omega)) ?_))
  refine (eq_Sv H.dat M.dat FQ.out.2).mono ?_
  rintro e w2 ⟨rfl, hb⟩
  replace K0 := K0.later hb
  replace M := M.later (keepsSv (svD r)) hb
  replace G2 := G2.later (keepsLSv r') hb
  clear hb H
  obtain ⟨w1, rfl⟩ : ∃ x, x = w2 := ⟨_, rfl⟩
  go_wp2_with (refine wpList_load_box 104 _ rfl (VG) rfl 104 CG G2.box _ Tryz.underlying104 rfl JG.out (by first | rfl | simp [Region.wanted, yielded] | (simp [Region.wanted, yielded, Act.put] <;> omega)) ?_)
  refine (held_Sv (k := 1) G2.dat HM.out FQ.out.1 (by omega) (by omega)).mono ?_
  rintro e w2 ⟨rfl, hb⟩
  have E := (K0.later hb).bel
  clear K0 M G2 hb
  go_wp2
  go_ret
  exact ⟨rfl, E⟩

end Go.Proofs.YtjdepjpjjgkmbaaGreat

/- A struct of one-cell fields that comes in is read field by field; two facts of the program's own; no conditions. -/
namespace Go.Proofs.YtjdepjpjjgkmbaaGreat
open Go.ChangeShapes Go.WideShapes Go.ChangeAt Go.RowKit Go.Deep
set_option linter.unusedVariables false

/-- A struct of one-cell fields, by value: its cells, each with its own reading. -/
theorem one_fields {H : Type} {enc : TypeId × Value → H} {P : Program} {W : World} {r : Reach} {b0 : Nat} {t : TypeId} {fs : Array Field} {v : Value} {d : DataW H} {p : List MemPlace} (hs : P.underlying t = some (.struct fs)) (hone : oneCellFields P fs = true) (hC : P.cellsOf t = fs.size)
    (hv : Value.okWide P W r b0 t v) (h : DataW.Trod enc P W 0 (fun _ => true) true t v d p) :
    ∃ (l : List Value) (m : Nat), v = .agg l.toArray ∧ l.length = fs.size ∧ ∀ (i : Nat) (f : Field) (u : Value), fs[i]? = some f → l[i]? = some u → ∃ y, DataW.trod enc P W 0 (fun _ => true) true m f.type [u] = some y := by
  obtain ⟨cs, rfl, hsz⟩ := okWide_struct hs hv
  obtain ⟨fuel, hf⟩ := h
  obtain ⟨xs, m, _, _, _, hxl, hg⟩ := DataW.trod_struct hs hf
  obtain ⟨l⟩ := cs
  refine ⟨l, m, rfl, by simpa using hsz.trans hC, fun i f u hi hu => ?_⟩
  have h1 := hg i f hi
  obtain ⟨ho, hk⟩ := hone_of hone i f hi
  rw [ho, hk] at h1
  have e : ((Value.agg (List.toArray l)).cells.toList.drop i).take 1 = [u] := by
    show (l.drop i).take 1 = [u]
    rw [List.take_one, List.head?_drop, hu]
    rfl
  rw [e] at h1
  have hlt : i < xs.length := by rw [hxl]; exact (Array.getElem?_eq_some_iff.1 hi).1
  exact ⟨_, h1.trans (List.getElem?_eq_getElem hlt)⟩

theorem own : ownKnob Tryz.prog.godebug = none := by kernel_rfl
theorem laidOut : laidOutB Tryz.prog = true := by kernel_rfl

end Go.Proofs.YtjdepjpjjgkmbaaGreat

/- A group that comes in is read as four numbers and a row of keys. -/
namespace Go.Proofs.YtjdepjpjjgkmbaaGreat
set_option maxRecDepth 100000
open Go.ChangeShapes Go.WideShapes Go.ChangeAt Go.RowKit Go.Deep
set_option linter.unusedVariables false

/-- What the reading of a group that came in tells: its four numbers, and its keys as a row. -/
theorem group_read {H : Type} {enc : TypeId × Value → H} {W : World} {r : Reach} {b0 : Nat} {v : Value} {d : DataW H} {p : List MemPlace} (hv : Value.okWide Tryz.prog W r b0 47 v) (h : DataW.Trod enc Tryz.prog W 0 (fun _ => true) true 47 v d p) :
    ∃ (s l c sh : Int) (A : Option Addr) (n cap : Nat) (zs : List Int), v = .agg #[.int .i64 s, .int .i64 l, .int .i64 c, .int .i64 sh, .slice A n cap] ∧ Row W W.heap.size A n zs ∧ n ≤ maxLen := by
  obtain ⟨l0, m, rfl, h5, get⟩ := one_fields Tryz.underlying47 (by kernel_rfl) (by kernel_rfl) hv h
  have h5 : l0.length = 5 := h5
  obtain ⟨c0, l1, rfl⟩ : ∃ c0 l1, l0 = c0 :: l1 := List.exists_cons_of_length_pos (by omega)
  obtain ⟨c1, l2, rfl⟩ : ∃ c0 l2, l1 = c0 :: l2 := List.exists_cons_of_length_pos (by simp only [List.length_cons] at h5; omega)
  obtain ⟨c2, l3, rfl⟩ : ∃ c0 l3, l2 = c0 :: l3 := List.exists_cons_of_length_pos (by simp only [List.length_cons] at h5; omega)
  obtain ⟨c3, l4, rfl⟩ : ∃ c0 l4, l3 = c0 :: l4 := List.exists_cons_of_length_pos (by simp only [List.length_cons] at h5; omega)
  obtain ⟨c4, l5, rfl⟩ : ∃ c0 l5, l4 = c0 :: l5 := List.exists_cons_of_length_pos (by simp only [List.length_cons] at h5; omega)
  obtain rfl : l5 = [] := List.eq_nil_of_length_eq_zero (by simp only [List.length_cons] at h5; omega)
  obtain ⟨y0, g0⟩ := get 0 _ _ rfl rfl
  obtain ⟨y1, g1⟩ := get 1 _ _ rfl rfl
  obtain ⟨y2, g2⟩ := get 2 _ _ rfl rfl
  obtain ⟨y3, g3⟩ := get 3 _ _ rfl rfl
  obtain ⟨y4, g4⟩ := get 4 _ _ rfl rfl
  obtain ⟨s, e0, _, _⟩ := DataW.trod_int Tryz.underlying2 g0
  obtain ⟨l, e1, _, _⟩ := DataW.trod_int Tryz.underlying2 g1
  obtain ⟨c, e2, _, _⟩ := DataW.trod_int Tryz.underlying2 g2
  obtain ⟨sh, e3, _, _⟩ := DataW.trod_int Tryz.underlying2 g3
  simp only [List.cons.injEq, and_true] at e0 e1 e2 e3
  subst e0 e1 e2 e3
  rcases open_ints Tryz.underlying24 Tryz.underlying2 (by kernel_rfl) g4 with ⟨e4, _⟩ | ⟨a, len, cap, zs, e4, _, hl, hm, hz, _, hcell, _⟩
  · simp only [List.cons.injEq, and_true] at e4
    subst e4
    exact ⟨s, l, c, sh, none, 0, 0, [], rfl, ⟨rfl, fun h => absurd h (by omega)⟩, by unfold maxLen; omega⟩
  · simp only [List.cons.injEq, and_true] at e4
    subst e4
    have hzc : zs.length = cap := by simpa using hz
    refine ⟨s, l, c, sh, some a, len, cap, zs.take len, rfl, ⟨by rw [List.length_take]; omega, fun hn => ?_⟩, by omega⟩
    obtain ⟨b, o, spot⟩ := a
    have hc0 := hcell 0 (by omega)
    have hs : spot = none := by simpa [Addr.add] using World.cell?_spot hc0
    subst hs
    refine ⟨b, o, rfl, ?_, fun i hi => ?_⟩
    · have := block_lt_of_cell hc0
      simpa [Addr.add] using this
    · have hci := hcell i (by omega)
      have ea : (⟨b, o, none⟩ : Addr).add i = ⟨b, o + i, none⟩ := by
        unfold Addr.add
        split
        · simp_all
        · rfl
      rw [ea] at hci
      rw [hci]
      have : nth (zs.take len) i = zs.getD i 0 := by simp [nth, hi]
      rw [this]

end Go.Proofs.YtjdepjpjjgkmbaaGreat

namespace Go.Proofs.YtjdepjpjjgkmbaaGreat
open Go.ChangeShapes Go.WideShapes Go.ChangeAt Go.RowKit Go.Deep
set_option linter.unusedVariables false

namespace fnExactNewServerF
set_option maxRecDepth 100000 in
theorem lifted (os : Os) (started : os.Started) (H : Type) (enc : TypeId × Value → H) :
    ReturnsInHanded {} Tryz.checked os 11 .any (Rows.fnExactNewServerSpec.pre6 enc Tryz.prog Tryz.f11 Rows.fnExactNewServerRow.domain false) (Rows.fnExactNewServerSpec.post enc Tryz.prog Tryz.f11 false true false false) := by
  refine returnsInHanded_of_change (C := Tryz.checked) own started (by kernel_rfl) Tryz.func11
    (ChangeSpec.witness6 (enc := enc) (C := Tryz.checked) false ⟨#[], #[.agg #[.int .i64 0, .int .i64 0, .int .i64 0, .int .i64 0, .slice none 0 0], .int .i64 0], []⟩ 8 (by kernel_rfl) (by kernel_rfl) (by kernel_rfl) (by kernel_rfl)) ?_
  intro W base args ds gs before hval0 hW hcnd _
  have hval : ∀ (j : Nat) t v, Tryz.f11.params[j]? = some t → args[j]? = some v → Value.okWide Tryz.prog W .any base t v := hval0
  have hW' := hW
  obtain ⟨p, q, hA0, hV, rfl, hfz, hnd⟩ := hW
  have hA : DataW.TrodAll enc Tryz.prog W 0 (fun _ => true) true Tryz.f11.params.toList args.toList ds p := hA0
  rw [Tryz.params11] at hA hval
  obtain ⟨v0, vs0, d0, ds0, p0, q0, hargs, rfl, rfl, h0, r0⟩ := trodAll_cons hA
  obtain ⟨v1, vs1, d1, ds1, p1, q1, rfl, rfl, rfl, h1, r1⟩ := trodAll_cons r0
  obtain ⟨rfl, rfl, rfl⟩ := trodAll_nil r1
  obtain rfl : args = #[v0, v1] := by cases args; simp_all
  obtain ⟨rfl, rfl⟩ := trodVars_none hV
  have t0 := h0
  have lt0 : ∀ x ∈ p0, x.block < W.heap.size := by obtain ⟨m, hm⟩ := t0; exact DataW.trod_lt m _ _ _ hm
  obtain ⟨s0, l0, c0, sh0, A0, n0, cap0, zs0, rfl, hp0, hm0⟩ := group_read (hval 0 47 v0 rfl rfl) h0
  obtain ⟨x1, rfl, rfl, rfl, wi1⟩ := open_int Tryz.underlying2 (hval 1 2 v1 rfl rfl) h1
  clear hA0 hval0
  have walk : Calls Tryz.prog 11 #[.agg #[.int .i64 s0, .int .i64 l0, .int .i64 c0, .int .i64 sh0, .slice A0 n0 cap0], .int .i64 x1] W fun e w' => e = .returned (.bool true) ∧ Below W.heap.size W w' := by
    exact exactNewServer_any _ ⟨s0, l0, c0, sh0, zs0⟩ x1 W ⟨A0, n0, cap0, rfl, hm0, hp0.all⟩
  refine walk.mono fun e W' ⟨he, bel⟩ => ?_
  subst he
  exact ⟨_, rfl, _, _, _, [], _, [], hW', trodAll_mk1 (shut_bool Tryz.underlying4 _), (trodAll_cons_mk (Below.trod laidOut (by kernel_rfl) (of_decide_eq_true (by kernel_rfl)) t0 bel lt0) (trodAll_cons_mk (shut_int Tryz.underlying2 wi1) trodAll_mk0)), rfl, bel.frame _, fun h => by cases h⟩

theorem proved : Rows.FnExactNewServerSaid :=
  OpenClaim.holds_of_wide 11 Tryz.f11 rfl rfl rfl rfl rfl rfl rfl ⟨rfl, rfl, rfl, rfl, rfl⟩ rfl rfl rfl rfl rfl (by kernel_rfl) Tryz.func11 (by kernel_rfl)
    (of_decide_eq_true (by kernel_rfl)) (by unfold Func.isWrapper; first | (rw [if_pos (by decide +kernel)]; kernel_rfl) | (rw [if_neg (by decide +kernel)]; exact ⟨rfl, rfl⟩))
    (fun os started H enc _ => lifted os started H enc)
end fnExactNewServerF

theorem fnExactNewServer_holds : Rows.FnExactNewServerSaid := fnExactNewServerF.proved
end Go.Proofs.YtjdepjpjjgkmbaaGreat
