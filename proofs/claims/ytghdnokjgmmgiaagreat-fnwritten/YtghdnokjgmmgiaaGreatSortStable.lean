/- The library's stable sort over a slice of pairs: what was there is in order then, alike ones in the order that they had. -/
import Derived.Test.YtghdnokjgmmgiaaGreatSortMerge
import Derived.Test.YtghdnokjgmmgiaaGreatSortRuns
namespace Go.Proofs.YtghdnokjgmmgiaaGreat
open Go.RowKit

/-- What a stable sort of all leaves. -/
def Stable (w : World) (g : Nat) (L : List (Int × Int)) (e : Ending) (w' : World) : Prop :=
  ∃ S : List (Int × Int), S.length = L.length ∧ Srt S ∧ Same S L ∧ Does w g S e w'

set_option maxRecDepth 100000 in
set_option maxHeartbeats 2000000 in
theorem stable_is (g n cap : Nat) (L : List (Int × Int)) (w : World) (hn : n ≤ 4194304) (hl : L.length = n) (H : Held w g L) :
    Calls Tryz.prog 131 #[.slice (some ⟨g, 0, none⟩) n cap, .int .i64 n, (.func (Fn.func 115) #[] #[])] w (Stable w g L) := by
  have HH := Lib.hid H
  have hl := Lib.hid hl
  rename_i q
  clear H q
  go_enter Tryz.func131, Tryz.ntmps131
  go_wp2_with fail
  go_loopw [7, 8] (fun av bv wr => ∃ (a b : Nat) (D R : List (Int × Int)), av = .int .i64 a ∧ bv = .int .i64 b ∧ a + 20 = b ∧ a ≤ n ∧ D.length = a ∧ a + R.length = n ∧ Full 20 D ∧ Same (D ++ R) L ∧ Held wr g (D ++ R) ∧ w.grownBy wr (some g)) (fun a _ _ => n - (intOf a).toNat)
  case atStart => exact ⟨0, 20, [], L, rfl, rfl, rfl, Nat.zero_le _, rfl, by rw [hl.out]; omega, .nil, Same.refl _, HH.out, grown_refl _ _⟩
  case round =>
    obtain ⟨a, b, D, R, rfl, rfl, hab, han, hD, hR, hF, hS, hh, hg⟩ := hrel
    by_cases hbn : b ≤ n
    · have hbn' : (b : Int) ≤ (n : Int) := by omega
      obtain ⟨c, hc, hc'⟩ : ∃ c : Nat, (b : Int) + 20 = (c : Int) ∧ b + 20 = c := ⟨b + 20, by omega, rfl⟩
      have hc' := Lib.hid hc'
      have hab := Lib.hid hab
      have hD := Lib.hid hD
      have hR := Lib.hid hR
      rename_i q1 q2 q3 q4
      clear q1 q2 q3 q4
      go_wp2_with fail
      refine (insSort_is g n cap _ _ D (R.take 20) (R.drop 20) _ hn (by have := hab.out; have := hD.out; have := hR.out; simp; omega) (by have := hD.out; omega) (by have := hab.out; have := hD.out; have := hR.out; simp; omega) (by rw [List.take_append_drop]; exact hh)).mono ?_
      rintro e w1 ⟨Z, hz1, hz2, hz3, rfl, hh1, hg1⟩
      have hz1 := Lib.hid hz1
      rename_i q1
      clear q1
      go_wp2
      go_roundw
      case rel =>
        have e1 := hab.out
        have e2 := hD.out
        have e3 := hR.out
        have e4 := hz1.out
        have e5 := hc'.out
        rw [List.length_take] at e4
        refine ⟨b, c, D ++ Z, R.drop 20, rfl, rfl, e5, hbn, by simp; omega, by simp; omega, .snoc hF (by omega) hz2, ?_, by simpa using hh1, grown_trans hg hg1⟩
        refine Same.trans ?_ hS
        rw [List.append_assoc]
        refine (Same.refl D).app ?_
        have := hz3.app (Same.refl (R.drop 20))
        rwa [List.take_append_drop] at this
      case measure => have := hab.out; simp [intOf]; omega
    · have hbn' : ¬ (b : Int) ≤ (n : Int) := by omega
      have hD := Lib.hid hD
      have hR := Lib.hid hR
      have hab := Lib.hid hab
      rename_i q1 q2 q3
      clear q1 q2 q3
      go_wp2_with fail
      refine (insSort_is g n cap _ _ D R [] _ hn (by have := hD.out; have := hR.out; simp; omega) (by have := hD.out; omega) (by have := hD.out; have := hR.out; omega) (by simpa using hh)).mono ?_
      rintro e w1 ⟨Z, hz1, hz2, hz3, rfl, hh1, hg1⟩
      have hstart : ∃ E : List (Int × Int), E.length = n ∧ Runs 20 E ∧ Same E L ∧ Held w1 g E := by
        have e1 := hab.out
        have e2 := hD.out
        have e3 := hR.out
        exact ⟨D ++ Z, by simp; omega, hF.runs (.last (by omega) hz2), ((Same.refl D).app hz3).trans hS, by simpa using hh1⟩
      have hgs := grown_trans hg hg1
      have hstart := Lib.hid hstart
      rename_i q1
      clear q1 hz1 hz2 hz3 hh1 hg1 hg hh hS hF hR hD hab
      go_wp2_with fail
      go_loopw [6] (fun kv wr => ∃ (k : Nat) (E : List (Int × Int)), kv = .int .i64 k ∧ 0 < k ∧ k ≤ 8388608 ∧ E.length = n ∧ Runs k E ∧ Same E L ∧ Held wr g E ∧ w.grownBy wr (some g)) (fun k _ => n - (intOf k).toNat)
      case atStart =>
        obtain ⟨E, h1, h2, h3, h4⟩ := hstart.out
        exact ⟨20, E, rfl, by omega, by omega, h1, h2, h3, h4, hgs⟩
      case round =>
        obtain ⟨k, E, rfl, hk0, hk1, hE, hruns, hS, hh, hg⟩ := hrel
        have hE := Lib.hid hE
        rename_i q1
        clear q1
        by_cases hkn : k < n
        · have hkn' : (k : Int) < (n : Int) := by omega
          obtain ⟨k2, hk2, hk2'⟩ : ∃ k2 : Nat, 2 * (k : Int) = (k2 : Int) ∧ k * 2 = k2 := ⟨k * 2, by omega, rfl⟩
          have hk3 : (k : Int) * 2 = (k2 : Int) := by omega
          have hk2' := Lib.hid hk2'
          rename_i q1
          clear q1
          have hk4 : k2 ≤ 8388608 := by have := hk2'.out; omega
          go_wp2_with fail
          go_loopw [7, 8] (fun av bv wr => ∃ (a b : Nat) (D R : List (Int × Int)), av = .int .i64 a ∧ bv = .int .i64 b ∧ a + k2 = b ∧ a ≤ n ∧ D.length = a ∧ a + R.length = n ∧ Full k2 D ∧ Runs k R ∧ Same (D ++ R) L ∧ Held wr g (D ++ R) ∧ w.grownBy wr (some g)) (fun a _ _ => n - (intOf a).toNat)
          case atStart => exact ⟨0, k2, [], E, rfl, rfl, by omega, Nat.zero_le _, rfl, by rw [hE.out]; omega, .nil, hruns, hS, hh, hg⟩
          case round =>
            obtain ⟨a, b, D, R, rfl, rfl, hab, han, hD, hR, hF, hruns, hS, hh, hg⟩ := hrel
            have hab := Lib.hid hab
            have hD := Lib.hid hD
            have hR := Lib.hid hR
            rename_i q1 q2 q3
            clear q1 q2 q3
            by_cases hbn : b ≤ n
            · have hbn' : (b : Int) ≤ (n : Int) := by omega
              obtain ⟨c, hc, hc'⟩ : ∃ c : Nat, (b : Int) + (k2 : Int) = (c : Int) ∧ b + k2 = c := ⟨b + k2, by omega, rfl⟩
              have hc' := Lib.hid hc'
              rename_i q1
              clear q1
              obtain ⟨x, y, r, hxy, hx, hy, hsx, hsy, hrr⟩ := hruns.two hk0 (by have := hab.out; have := hR.out; have := hk2'.out; omega)
              subst hxy
              have hR' := hR.out
              simp only [List.length_append] at hR'
              have hR' := Lib.hid hR'
              have hx := Lib.hid hx
              have hy := Lib.hid hy
              rename_i q1 q2 q3
              clear q1 q2 q3
              go_wp2_with fail
              refine (symMerge_is g n cap hn (x.length + y.length + 1) _ _ _ D x y r _ (by omega) (by have := hD.out; have := hR'.out; omega) (by have := hD.out; omega) (by have := hD.out; have := hx.out; omega) (by have := hab.out; have := hD.out; have := hx.out; have := hy.out; have := hk2'.out; omega) (by have := hx.out; omega) (by have := hy.out; omega) hsx hsy hh).mono ?_
              rintro e w1 ⟨Z, hz1, hz2, hz3, rfl, hh1, hg1⟩
              have hz1 := Lib.hid hz1
              rename_i q1
              clear q1
              go_wp2
              go_roundw
              case rel =>
                have e1 := hab.out
                have e2 := hD.out
                have e3 := hR'.out
                have e4 := hz1.out
                have e5 := hc'.out
                have e6 := hx.out
                have e7 := hy.out
                have e8 := hk2'.out
                rw [List.length_append] at e4
                refine ⟨b, c, D ++ Z, r, rfl, rfl, e5, hbn, by simp; omega, by omega, .snoc hF (by omega) hz2, hrr, ?_, by simpa using hh1, grown_trans hg hg1⟩
                refine Same.trans ?_ hS
                rw [List.append_assoc]
                refine (Same.refl D).app ?_
                have := hz3.app (Same.refl r)
                rwa [List.append_assoc x] at this
              case measure => have := hab.out; simp [intOf]; omega
            · have hbn' : ¬ (b : Int) ≤ (n : Int) := by omega
              obtain ⟨m, hm, hm'⟩ : ∃ m : Nat, (a : Int) + (k : Int) = (m : Int) ∧ a + k = m := ⟨a + k, by omega, rfl⟩
              have hm' := Lib.hid hm'
              rename_i q1
              clear q1
              by_cases hmn : m < n
              · have hmn' : (m : Int) < (n : Int) := by omega
                obtain ⟨x, y, hxy, hx, hsx, hry⟩ := hruns.split (by have := hR.out; have := hm'.out; omega)
                subst hxy
                have hR' := hR.out
                simp only [List.length_append] at hR'
                have hsy := hry.small (by have := hab.out; have := hk2'.out; omega)
                have hR' := Lib.hid hR'
                have hx := Lib.hid hx
                rename_i q1 q2
                clear q1 q2
                go_wp2_with fail
                refine (symMerge_is g n cap hn (x.length + y.length + 1) _ _ _ D x y [] _ (by omega) (by have := hD.out; have := hR'.out; simp; omega) (by have := hD.out; omega) (by have := hD.out; have := hx.out; have := hm'.out; omega) (by have := hD.out; have := hR'.out; omega) (by have := hx.out; omega) (by have := hR'.out; have := hx.out; have := hm'.out; omega) hsx hsy (by simpa using hh)).mono ?_
                rintro e w1 ⟨Z, hz1, hz2, hz3, rfl, hh1, hg1⟩
                have hz1 := Lib.hid hz1
                rename_i q1
                clear q1
                go_wp2
                go_roundw
                case rel =>
                  have e1 := hab.out
                  have e2 := hD.out
                  have e3 := hR'.out
                  have e4 := hz1.out
                  have e6 := hx.out
                  have e8 := hk2'.out
                  rw [List.length_append] at e4
                  exact ⟨k2, D ++ Z, rfl, by omega, hk4, by simp; omega, hF.runs (.last (by omega) hz2), ((Same.refl D).app hz3).trans hS, by simpa using hh1, grown_trans hg hg1⟩
                case measure => have := hk2'.out; simp [intOf]; omega
              · have hmn' : ¬ (m : Int) < (n : Int) := by omega
                have hsr := hruns.small (by have := hR.out; have := hm'.out; omega)
                go_wp2
                go_roundw
                case rel =>
                  have e2 := hD.out
                  have e3 := hR.out
                  have e5 := hm'.out
                  have e8 := hk2'.out
                  exact ⟨k2, D ++ R, rfl, by omega, hk4, by simp; omega, hF.runs (.last (by omega) hsr), hS, hh, hg⟩
                case measure => have := hk2'.out; simp [intOf]; omega
        · have hkn' : ¬ (k : Int) < (n : Int) := by omega
          go_wp2
          go_end0
          exact ⟨E, by rw [hE.out, hl.out], hruns.small (by rw [hE.out]; omega), hS, rfl, hh, hg⟩

end Go.Proofs.YtghdnokjgmmgiaaGreat
