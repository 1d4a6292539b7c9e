/- What the model's draw of two lists of seals out of the code leaves; the bytes can be read. -/
import Derived.Test.YtdabmnhbmdaodaaDrawSeals
import Derived.Test.YtdabmnhbmdaodaaDrawClaim
import Derived.Deep.CutBlock
namespace Go.Proofs.Ytdabmnhbmdaodaa
open Go.RowKit

/-- A list of seals somewhere, of at most k. -/
structure ListAt (w0 wr : World) (k p pc : Nat) (ps : List (Int × Int)) : Prop where
  own : wr.ownsRow w0.heap.size 30 2 (.slice (some ⟨p, 0, none⟩) ps.length pc) ps.length (flatP ps)
  len : ps.length ≤ k
theorem ListAt.kept {w0 wr w' : World} {k p pc : Nat} {ps : List (Int × Int)} {r : Option Nat} (h : ListAt w0 wr k p pc ps) (hg : wr.grownBy w' r) (hr : ∀ x, r = some x → x ≠ p) : ListAt w0 w' k p pc ps :=
  ⟨h.own.kept hg (by rcases r with _ | r <;> simp [Value.ownBlock]; have := hr r rfl; omega), h.len⟩
theorem ListAt.later {w0 wr w' : World} {k p pc : Nat} {ps : List (Int × Int)} (h : ListAt w0 wr k p pc ps) (hb : Below wr.heap.size wr w') : ListAt w0 w' k p pc ps := h.kept (grown_bel hb none) (fun _ h => by cases h)
theorem ListAt.pairs {w0 wr : World} {k p pc : Nat} {ps : List (Int × Int)} (h : ListAt w0 wr k p pc ps) : Pairs wr wr.heap.size (some ⟨p, 0, none⟩) ps.length ps := own_pairs h.own

/-- Two lists of seals. -/
def MadeLists (w : World) (e : Ending) (w' : World) : Prop :=
  ∃ (p pc : Nat) (ps : List (Int × Int)) (p' pc' : Nat) (ps' : List (Int × Int)), e = .returned (.tuple #[.slice (some ⟨p, 0, none⟩) ps.length pc, .slice (some ⟨p', 0, none⟩) ps'.length pc']) ∧ ListAt w w' 20 p pc ps ∧ ListAt w w' 20 p' pc' ps' ∧ Below w.heap.size w w'

set_option maxRecDepth 100000 in
set_option maxHeartbeats 2000000 in
theorem drawJoin_any (A : Option Addr) (n cap : Nat) (w : World) (hn : n ≤ 4096) (hB : Bytes w w.heap.size A n) :
    Calls Try.prog 11 #[.slice A n cap] w (MadeLists w) := by
  go_enter Try.func11, Try.ntmps11
  go_wp2_with fail
  refine (l1New_any A n cap w hn hB).mono ?_
  rintro e w1 ⟨g, hg, rfl, hc1, E1⟩
  have hgl := hc1.lt
  go_wp2_with fail
  refine (l1DrawGroup_any g A n cap w1 hc1).mono ?_
  rintro e w2 ⟨s, l, c, sh, q, cap', zs, rfl, hown, hok, hs6, hc3, hc2, hg2⟩
  have hq := hown.lt q rfl
  have hrow2 := own_row hown
  have E2 := bel_grown E1 hg2 hg
  have hgq : g ≠ q := by omega
  have hmx : zs.length ≤ 100 := by
    have h := hok
    simp only [okB, Bool.and_eq_true, decide_eq_true_eq] at h
    have := h.1.2
    have := okB_parts hok
    omega
  have HML : Hid (zs.length ≤ maxLen) := by show zs.length ≤ maxLen; unfold maxLen; omega
  generalize zs.length = m at hrow2 HML
  clear hown hc1 hg2 E1 hok hs6 hc3 hmx
  have U := Box.new w2 33 #[.int .i64 s, .int .i64 l, .int .i64 c, .int .i64 sh, .slice (some ⟨q, 0, none⟩) m cap']
  have hb3 := bel_alloc w2 (.cells #[.int .i64 s, .int .i64 l, .int .i64 c, .int .i64 sh, .slice (some ⟨q, 0, none⟩) m cap'] 33)
  go_wp2_with fail
  have hc3 := hc2.kept (grown_bel hb3 none) (fun q hq => by cases hq)
  have E3 := bel_trans E2 hb3
  have hrow3 := hrow2.below hb3 (Nat.le_refl _)
  have hg2l := hc2.lt
  generalize (w2.alloc _ : World) = w3 at U hb3 hc3 E3 hrow3 ⊢
  obtain ⟨P, hP⟩ : ∃ P, P = w2.heap.size := ⟨_, rfl⟩
  rw [← hP] at U hrow3 hg2l hq ⊢
  clear hc2 E2 hrow2 hb3 hP
  refine (l3Draw_any g A n cap w3 hc3).mono ?_
  rintro e w4 ⟨ck, ch, ct, cq, cv, rfl, hc4, hg4⟩
  have U4 := U.kept hg4 (by intro e; injection e with e; omega)
  have hrow4 := hrow3.keptB (by have := U.lt; omega) hg4 (fun k hk => by injection hk with hk; exact .inr (by omega))
  have E4 := bel_grown E3 hg4 hg
  clear U hrow3 E3 hc3 hg4
  have V := Box.new w4 37 #[.int .i64 ck, .int .i64 ch, .int .i64 ct, .int .i64 cq, .int .i64 cv]
  have hb5 := bel_alloc w4 (.cells #[.int .i64 ck, .int .i64 ch, .int .i64 ct, .int .i64 cq, .int .i64 cv] 37)
  go_upto_region 4 with fail
  have hc5 := hc4.kept (grown_bel hb5 none) (fun q hq => by cases hq)
  have E5 := bel_trans E4 hb5
  have U5 := U4.later hb5 U4.lt
  have hPl := U4.lt
  have hrow5 := hrow4.below hb5 (by omega)
  generalize (w4.alloc _ : World) = w5 at V hb5 hc5 E5 U5 hrow5 ⊢
  obtain ⟨Q, hQ⟩ : ∃ Q, Q = w4.heap.size := ⟨_, rfl⟩
  rw [← hQ] at V hPl ⊢
  clear hc4 E4 hrow4 hb5 hQ U4
  obtain ⟨d0, d1, d2, d3, d4, x0, x1, x2, x3, x4⟩ := ten U5 V
  have hPs : P ≤ w5.heap.size := Nat.le_of_lt U5.lt
  go_wp2_with fail
  refine (l4Draw_any g A n cap s l c sh q 0 m cap' zs ck ch ct cq cv w5 HML.out hc5 (hrow5.more hPs) hgq).mono ?_
  rintro e w6 ⟨p, pc, ps, rfl, hown6, hl6, hc6, hg6⟩
  have U6 := U5.kept hg6 (by intro e; injection e with e; omega)
  have V6 := V.kept hg6 (by intro e; injection e with e; omega)
  have hrow6 := hrow5.keptB hPs hg6 (fun k hk => by injection hk with hk; exact .inr (by omega))
  have hpw := (hown6.lt p rfl).1
  have hw5 := E5.size
  have L6 : ListAt w w6 20 p pc ps := ⟨own_base hown6 (by omega), hl6⟩
  have E6 := bel_grown E5 hg6 hg
  have hgp : g ≠ p := by have := hc5.lt; omega
  have hVl := V.lt
  have hQp : Q ≠ p := by omega
  have hPp : P ≠ p := by omega
  clear U5 V hrow5 E5 hc5 hg6 hown6 d0 d1 d2 d3 d4 x0 x1 x2 x3 x4
  go_wp2_with fail
  refine (l1Once_any g A n cap 3 w6 (by omega) hc6).mono ?_
  rintro e w7 ⟨b, rfl, hc7, hg7⟩
  have U7 := U6.kept hg7 (by intro e; injection e with e; omega)
  have V7 := V6.kept hg7 (by intro e; injection e with e; omega)
  have hrow7 := hrow6.keptB (by have := U6.lt; omega) hg7 (fun k hk => by injection hk with hk; exact .inr (by omega))
  have L7 := L6.kept hg7 (fun x hx => by injection hx with hx; omega)
  have E7 := bel_grown E6 hg7 hg
  clear U6 V6 hrow6 L6 E6 hc6 hg7
  obtain ⟨d0, d1, d2, d3, d4, x0, x1, x2, x3, x4⟩ := ten U7 V7
  have hPs7 : P ≤ w7.heap.size := Nat.le_of_lt U7.lt
  rcases b with _ | _
  · go_wp2_with fail
    refine (l4Draw_any g A n cap s l c sh q 0 m cap' zs ck ch ct cq cv w7 HML.out hc7 (hrow7.more hPs7) hgq).mono ?_
    rintro e w8 ⟨p', pc', ps', rfl, hown8, hl8, hc8, hg8⟩
    have L8 := L7.kept hg8 (fun x hx => by injection hx with hx; omega)
    have hw7 := E7.size
    have M8 : ListAt w w8 20 p' pc' ps' := ⟨own_base hown8 (by omega), hl8⟩
    have E8 := bel_grown E7 hg8 hg
    go_wp2
    exact bodyPost_ret (v := .tuple #[.slice (some ⟨p, 0, none⟩) ps.length pc, .slice (some ⟨p', 0, none⟩) ps'.length pc']) (by simp [results, Try.results11, go_sem]) rfl ⟨p, pc, ps, p', pc', ps', rfl, L8, M8, E8⟩
  · have fz := V7.frozen
    have hPQ : P ≠ Q := by omega
    have hQP : Q ≠ P := by omega
    have HV := Lib.hid (fun v => V7.set 4 (.int .i64 v))
    have HU := Lib.hid (fun v => U7.far (p := ⟨Q, 4, none⟩) (show Q ≠ P from hQP) (.int .i64 v))
    have HG : Hid (∀ v : Int, w7.grownBy (w7.setCell ⟨Q, 4, none⟩ (.int .i64 v)) (some Q)) := fun v => grown_set (grown_refl w7 _) 4 _
    have hcQ : g < Q := by omega
    have HC := Lib.hid (fun v : Int => hc7.kept (grown_set (grown_refl w7 (some Q)) 4 (.int .i64 v)) (fun r hr => by injection hr with hr; omega))
    have hPs8 := hPs7
    clear HG
    go_upto_region 7 with fail
    generalize wrap64 (cv + 1) = nv
    have V8 := HV.out nv
    have U8 := HU.out nv
    have hc8 := HC.out nv
    have hg78 : w7.grownBy (w7.setCell ⟨Q, 4, none⟩ (.int .i64 nv)) (some Q) := grown_set (grown_refl w7 _) 4 _
    have hrow8 := hrow7.keptB hPs7 hg78 (fun k hk => by injection hk with hk; exact .inl (by omega))
    have L8 := L7.kept hg78 (fun x hx => by injection hx with hx; omega)
    have E8 := bel_grown E7 hg78 (by have := E7.size; omega)
    generalize (w7.setCell _ _ : World) = w8 at V8 U8 hc8 hrow8 L8 E8 hg78 ⊢
    clear d0 d1 d2 d3 d4 x0 x1 x2 x3 x4 HV HU HC hg78 U7 V7 hc7 hrow7 L7 E7 fz
    have V8' : Box w8 Q 37 #[.int .i64 ck, .int .i64 ch, .int .i64 ct, .int .i64 cq, .int .i64 nv] := V8
    clear V8
    obtain ⟨d0, d1, d2, d3, d4, x0, x1, x2, x3, x4⟩ := ten U8 V8'
    have hPs9 : P ≤ w8.heap.size := Nat.le_of_lt U8.lt
    go_wp2_with fail
    refine (l4Draw_any g A n cap s l c sh q 0 m cap' zs ck ch ct cq nv w8 HML.out hc8 (hrow8.more hPs9) hgq).mono ?_
    rintro e w9 ⟨p', pc', ps', rfl, hown9, hl9, hc9, hg9⟩
    have L9 := L8.kept hg9 (fun x hx => by injection hx with hx; omega)
    have hw8 := E8.size
    have M9 : ListAt w w9 20 p' pc' ps' := ⟨own_base hown9 (by omega), hl9⟩
    have E9 := bel_grown E8 hg9 hg
    go_wp2
    exact bodyPost_ret (v := .tuple #[.slice (some ⟨p, 0, none⟩) ps.length pc, .slice (some ⟨p', 0, none⟩) ps'.length pc']) (by simp [results, Try.results11, go_sem]) rfl ⟨p, pc, ps, p', pc', ps', rfl, L9, M9, E9⟩

end Go.Proofs.Ytdabmnhbmdaodaa
